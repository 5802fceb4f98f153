/- tile: Hash. -/
import Derived.Test.YtjkhcplnedcmeaaGreatDoorJgx
import Derived.Test.YtjkhcplnedcmeaaGreatDoorSg
import Derived.Deep.RegionHeld
namespace Go.Proofs.YtjkhcplnedcmeaaGreatDoor
open Go.RowKit
set_option linter.unusedVariables false
set_option linter.unusedSimpArgs false
section
variable {w : World} {ops : Array Oper} {rest : List Oper} {o : Oper} {a : Act} {Q : Exit → Act → World → Prop}
theorem wplt_cut (hgd : o.guard = none) (x y z : Operand) (ho : o.op = .slice 45 x (some y) (some z) none) (X Y Z V : Value) (hx : a.eval x = X) (hy : a.eval y = Y) (hz : a.eval z = Z) (hr : (Instr.sliceAt 45 X (some Y) (some Z) none).run Tryz.prog w = .ok V w)
    (h : wpList Tryz.prog ops Q rest (a.put o.dst V) w) : wpList Tryz.prog ops Q (o :: rest) a w := by
  refine wpList_plain hgd fun K hK => ?_
  unfold Oper.wp execOp
  simp only [ho, Option.map_some, Option.map_none, hx, hy, hz, hr, Sem.run_bind, Sem.run_pure, Result.andThen_ok]
  exact hK _ _ h
end
theorem and_all : ∀ C : Fin 257, 1 ≤ C.val → ((bits BinOp.and IntKind.i64 (C.val : Int) ((C.val : Int) - 1) == 0) = (List.range 9).any fun k => 2 ^ k == C.val) := by decide +kernel
theorem and_pow {C : Nat} (h1 : 1 ≤ C) (h2 : C ≤ 256) : (∃ k, k ≤ 8 ∧ C = 2 ^ k) ↔ bits BinOp.and IntKind.i64 (C : Int) ((C : Int) - 1) = 0 := by
  have h := and_all ⟨C, by omega⟩ h1
  simp only at h
  constructor
  · rintro ⟨k, hk, rfl⟩
    have h3 : ((List.range 9).any fun j => 2 ^ j == 2 ^ k) = true := List.any_eq_true.2 ⟨k, by simp; omega, by simp⟩
    rw [h3] at h
    simpa using h
  · intro h4
    rw [h4] at h
    obtain ⟨k, hk, e⟩ := List.any_eq_true.1 h.symm
    exact ⟨k, by simp at hk; omega, (by simpa using e : 2 ^ k = C).symm⟩
set_option maxRecDepth 100000 in
set_option maxHeartbeats 1000000 in
theorem thash_yes (l : List (List UInt8)) (h32 : ∀ x ∈ l, x.length = 32) (hn : l.length ≤ 256) (k A : Nat) (hk : k ≤ 8) (hA : A + 2 ^ k ≤ l.length) (hd : A % 2 ^ k = 0) (g o c : Nat) (w : World) (hr : Rw w (some ⟨g, o, none⟩) c l) (hLd : Laid w) :
    Calls Tryz.prog 209 #[.slice (some ⟨g, o, none⟩) l.length c, .int .i64 (A : Int), .int .i64 ((2 ^ k : Nat) : Int)] w fun e w' => e = .returned (.tuple #[.agg (hbs (ovr k ((l.drop A).take (2 ^ k)))), .nilIface]) ∧ Nw w w' := by
  have h0 : 0 < 2 ^ k := Nat.pow_pos (by decide)
  have hlen : ((l.drop A).take (2 ^ k)).length = 2 ^ k := by simp; omega
  have h32' : ∀ x ∈ (l.drop A).take (2 ^ k), x.length = 32 := fun x hx => h32 x (List.mem_of_mem_drop (List.mem_of_mem_take hx))
  have hR : (hbs (ovr k ((l.drop A).take (2 ^ k)))).size = 32 := by rw [hbs_size, ovr_32 k _ h32']
  have QO : Hid (∀ W, Nw w W → Calls Tryz.prog 225 #[.slice (some ⟨g, o + A * 32, none⟩) (2 ^ k) (c - A)] W fun e w' => e = .returned (.agg (hbs (ovr k ((l.drop A).take (2 ^ k))))) ∧ Nw W w') := fun W nW => by
    have := over_any k _ g (o + A * 32) (c - A) W hk hlen h32' ((hr.nw h32 nW).cut A (2 ^ k) hA) (hLd.nw nW)
    rwa [hlen] at this
  have hc := hr.1
  have hba := (and_pow (C := 2 ^ k) (by omega) (by omega)).1 ⟨k, hk, rfl⟩
  have HS := show Hid _ from cut_hlh g o l.length c A (A + 2 ^ k) (by omega) (by omega)
  rw [Nat.add_sub_cancel_left] at HS
  obtain ⟨R, hRe⟩ : ∃ R, R = hbs (ovr k ((l.drop A).take (2 ^ k))) := ⟨_, rfl⟩
  rw [← hRe] at QO hR ⊢
  have h1 : ∀ u ∈ R.toList, u.oneCell' = true := by rw [hRe]; exact hbs_one _
  clear hRe hlen h32' h32 hr hLd hk
  generalize 2 ^ k = C at *
  generalize l.length = n at *
  have hdi : ((A : Int) % (C : Int) != 0) = false := by
    have : (A : Int) % (C : Int) = 0 := by omega
    simp [this]
  go_enter Tryz.func209, Tryz.ntmps209
  go_upto_region 1 with fail
  rw [z32_h]
  obtain ⟨w1, hw0⟩ : ∃ q, w.alloc (.cells z32 69) = q := ⟨_, rfl⟩
  have n0 : Nw w w1 := by rw [← hw0]; exact nwa w _
  have b0 : w1.heap[w.heap.size]? = some (.cells z32 69) := by rw [← hw0]; exact heap_new _ _
  rw [hw0]
  clear hw0
  obtain ⟨hb, hhb⟩ : ∃ q, q = w.heap.size := ⟨_, rfl⟩
  rw [← hhb] at b0 ⊢
  have HHB : Hid (hb = w.heap.size) := hhb
  clear hhb
  have NE : Hid (Nw w w1) := n0
  have BE : Hid (w1.heap[hb]? = some (.cells z32 69)) := b0
  clear n0 b0
  go_wp2_with (first
    | (refine wplt_cut rfl (.tmp 42) (.tmp 43) (.tmp 46) rfl (.slice (some ⟨g, o, none⟩) n c) (.int .i64 (A : Int)) (.int .i64 ((A : Int) + (C : Int))) (.slice (some ⟨g, o + A * 32, none⟩) C (c - A)) rfl rfl rfl (HS.out _ (by omega) _) ?_)
    | fail)
  refine (QO.out _ NE.out).mono ?_
  rintro e w2 ⟨rfl, n2⟩
  have b2 := (n2.block _ (heap_lt BE.out) (fun f => f)).trans BE.out
  have N2 : Hid (Nw w w2) := NE.out.tr n2
  clear n2
  go_wp2_with (refine wp_store_agg rfl (.tmp 6) (.tmp 48) 69 32 rfl Tryz.sizeOf69 hb 0 rfl z32 69 b2 R rfl hR h1 (by decide) R (by rw [z32_drop]; simp) ?_; intro w3 j3 f3 z3)
  exact bodyPost_ret (results_cell_slot Tryz.results209 Tryz.isAgg69 Tryz.sizeOf69 rfl _ rfl j3 hR) rfl ⟨rfl, N2.out.trans f3 (fun k hk q => by have := HHB.out; omega)⟩
end Go.Proofs.YtjkhcplnedcmeaaGreatDoor
