/- emit: a builder in memory; New, Size, Hashes, Root. -/
import Derived.Test.YtkjonddlmiedcaaDoorY1
import Derived.Test.YtkjonddlmiedcaaDoorEg
import Derived.Test.YtkjonddlmiedcaaDoorLg1
import Derived.WalkMore
import Derived.Deep.RegionHeld
import Derived.Deep.DeepCutAuto
namespace Go.Proofs.YtkjonddlmiedcaaDoor
open Go.RowKit Go.Shelf
set_option linter.unusedVariables false
set_option linter.unusedSimpArgs false
/-- The node over two hashes. -/
def ndh (A B : List UInt8) : List UInt8 := Sh (1 :: (A ++ B))
theorem ndh_len (A B : List UInt8) : (ndh A B).length = 32 := Sh_len _
theorem dropA {A : Array Value} {n : Nat} (h : A.size = n) : A.toList.drop (0 + n) = [] := List.drop_eq_nil_of_le (by simp [h])
theorem wple_load_at {P : Program} {w : World} {ops : Array Oper} {rest : List Oper} {o : Oper} {a : Act} {Q : Exit → Act → World → Prop} (hgd : o.guard = none) (x : Operand) (t : TypeId) (n : Nat) (ho : o.op = .load t x)
    (hagg : ∀ W : World, (isAgg t).run P W = .ok true W) (hsz : ∀ W : World, (sizeOf t).run P W = .ok n W) (g off : Nat) (hx : a.eval x = .pointer (some ⟨g, off, none⟩)) (V : Array Value) (hV : V.size = n) (hc : ∀ j, j < n → w.cell? ⟨g, off + j, none⟩ = V[j]?)
    (h : wpList P ops Q rest (a.put o.dst (.agg V)) w) : wpList P ops Q (o :: rest) a w := by
  refine wpList_plain hgd fun K hK => ?_
  have hl : (loadCells ⟨g, off, none⟩ n).run P w = .ok V w := by
    have := run_loadCells_list (P := P) w ⟨g, off, none⟩ V.toList (fun j v hv => by
      have hj : j < n := by
        have := (List.getElem?_eq_some_iff.1 hv).1
        simpa [hV] using this
      rw [addO, hc j hj]
      simpa using hv)
    simpa [hV] using this
  unfold Oper.wp execOp
  simp only [ho, hx, Instr.loadAt, sure, loadVar, Sem.run_bind, Sem.run_pure, hagg, hsz, hl, Result.andThen_ok, if_true]
  exact hK _ _ h
/-- A builder in memory. -/
structure Bd (w : World) (b base : Nat) (v : Value) (n : Nat) (L : List (List UInt8)) : Prop where
  blk : w.heap[b]? = some (.cells #[.bool true, .int .u64 (n : Int), v] 57)
  own : w.ownsRow base 32 32 v L.length (hsc L)
  lt : b < w.heap.size ∧ base ≤ w.heap.size
  ok : ∀ x ∈ L, x.length = 32
  nb : 20 ≤ b ∧ 20 ≤ base
  ne : ∀ g, v.ownBlock = some g → g ≠ b
theorem Bd.fr {S : Nat → Prop} {w w' : World} {b base : Nat} {v : Value} {n : Nat} {L : List (List UInt8)} (h : Bd w b base v n L) (f : Fr S w w') (h1 : ¬ S b) (h2 : ∀ g, v.ownBlock = some g → ¬ S g) : Bd w' b base v n L :=
  ⟨(f.block _ (heap_lt h.blk) h1).trans h.blk, ownsRow_keep h.own (fun g hg => f.block g (h.own.lt g hg).2 (h2 g hg)), by have := h.lt; have := f.size; omega, h.ok, h.nb, h.ne⟩
theorem Bd.nw {w w' : World} {b base : Nat} {v : Value} {n : Nat} {L : List (List UInt8)} (h : Bd w b base v n L) (f : Nw w w') : Bd w' b base v n L := h.fr f (fun q => q) (fun _ _ q => q)
theorem Bd.cs {w : World} {b base : Nat} {v : Value} {n : Nat} {L : List (List UInt8)} (h : Bd w b base v n L) : w.cell? ⟨b, 0, none⟩ = some (.bool true) ∧ w.cell? ⟨b, 1, none⟩ = some (.int .u64 (n : Int)) ∧ w.cell? ⟨b, 2, none⟩ = some v :=
  ⟨(cell_of h.blk 0).trans rfl, (cell_of h.blk 1).trans rfl, (cell_of h.blk 2).trans rfl⟩
/-- A hash's cells in the row. -/
theorem Bd.at {w : World} {b base cap n m : Nat} {o : Option Addr} {L : List (List UInt8)} (h : Bd w b base (.slice o m cap) n L) {k : Nat} {x : List UInt8} (hk : L[k]? = some x) : ∃ g, o = some ⟨g, 0, none⟩ ∧ base ≤ g ∧ ∀ j, j < 32 → w.cell? ⟨g, k * 32 + j, none⟩ = (hbs x)[j]? := by
  have hl := (List.getElem?_eq_some_iff.1 hk).1
  obtain ⟨ad, c, e, hc⟩ := Hss.of h.ok h.own
  obtain ⟨g, off, e2, hc2⟩ := hc k x hk
  rcases h.own.2 with ⟨hv, hn⟩ | ⟨g', cap', cur, hv, hb, _⟩
  · omega
  · simp only [Value.slice.injEq] at hv e
    have e3 : some (⟨g', 0, none⟩ : Addr) = some ⟨g, off, none⟩ := by rw [← hv.1, e.1, e2]
    cases e3
    exact ⟨g, hv.1, hb, fun j hj => by have := hc2 j hj; rwa [Nat.zero_add] at this⟩
theorem enew_any (w : World) (hL : Laid w) :
    Calls Tryd.prog 5 #[] w fun e w' => e = .returned (.pointer (some ⟨w.heap.size, 0, none⟩)) ∧ Bd w' w.heap.size (w.heap.size + 1) (.slice none 0 0) 0 [] ∧ w'.heap.size = w.heap.size + 1 ∧ Nw w w' := by
  have HL := hL.lt
  clear hL
  go_enter Tryd.func5, Tryd.ntmps5
  go_wp2
  go_ret
  exact ⟨rfl, ⟨heap_new _ _, World.ownsRow_nil _ _ _ _, by simp, by simp, ⟨HL, by omega⟩, by simp [Value.ownBlock]⟩, by simp, nwa w _⟩
theorem ethere_any (b : Nat) (m : Bool) (n v : Value) (w : World) (h : w.heap[b]? = some (.cells #[.bool m, n, v] 57)) :
    Calls Tryd.prog 20 #[.pointer (some ⟨b, 0, none⟩)] w fun e w' => e = .returned (.bool m) ∧ w' = w := by
  have c0 : w.cell? ⟨b, 0, none⟩ = some (.bool m) := (cell_of h 0).trans rfl
  have lb := heap_lt h
  clear h
  go_enter Tryd.func20, Tryd.ntmps20
  go_wp2
  go_ret
  exact ⟨rfl, rfl⟩
theorem ethere_nil (w : World) : Calls Tryd.prog 20 #[.pointer none] w fun e w' => e = .returned (.bool false) ∧ w' = w := by
  go_enter Tryd.func20, Tryd.ntmps20
  go_wp2
  go_ret
  exact ⟨rfl, rfl⟩
/-- A builder that is not there, or that no call made. -/
def NoB (w : World) (p : Value) : Prop := p = .pointer none ∨ ∃ b n v, p = .pointer (some ⟨b, 0, none⟩) ∧ w.heap[b]? = some (.cells #[.bool false, n, v] 57)
theorem NoB.nw {w w' : World} {p : Value} (h : NoB w p) (n : Nw w w') : NoB w' p := by
  rcases h with h | ⟨b, m, v, h, hb⟩
  · exact .inl h
  · exact .inr ⟨b, m, v, h, (n.block _ (heap_lt hb) (fun f => f)).trans hb⟩
theorem ethere_no {w : World} {p : Value} (h : NoB w p) : Calls Tryd.prog 20 #[p] w fun e w' => e = .returned (.bool false) ∧ w' = w := by
  rcases h with rfl | ⟨b, n, v, rfl, hb⟩
  · exact ethere_nil w
  · exact ethere_any b false n v w hb
theorem esize_any {w : World} {b base : Nat} {v : Value} {n : Nat} {L : List (List UInt8)} (h : Bd w b base v n L) :
    Calls Tryd.prog 13 #[.pointer (some ⟨b, 0, none⟩)] w fun e w' => e = .returned (.int .u64 (n : Int)) ∧ w' = w := by
  have q := ethere_any b true _ _ w h.blk
  obtain ⟨_, c1, _⟩ := h.cs
  have lb := heap_lt h.blk
  clear h
  go_enter Tryd.func13, Tryd.ntmps13
  go_wp2_with fail
  refine q.mono ?_
  rintro e w1 ⟨rfl, rfl⟩
  go_wp2
  go_ret
  exact ⟨rfl, rfl⟩
theorem esize_no {w : World} {p : Value} (h : NoB w p) :
    Calls Tryd.prog 13 #[p] w fun e w' => e = .returned (.int .u64 0) ∧ w' = w := by
  have q := ethere_no h
  clear h
  go_enter Tryd.func13, Tryd.ntmps13
  go_wp2_with fail
  refine q.mono ?_
  rintro e w1 ⟨rfl, rfl⟩
  go_wp2
  go_ret
  exact ⟨rfl, rfl⟩
set_option maxRecDepth 100000 in
set_option maxHeartbeats 1000000 in
theorem eadd_no {w : World} {p : Value} (h : NoB w p) (x : List UInt8) {B : Nat} {a : Nat → Addr} (hS : Sent B w a) :
    Calls Tryd.prog 6 #[p, .agg (hbs x)] w fun e w' => e = .returned (.tuple #[.slice none 0 0, sen (a 0)]) ∧ Nw w w' := by
  have n0 : Nw w (w.alloc (.cells (hbs x) 32)) := nwa w _
  have q := ethere_no (h.nw n0)
  have e1 := n0.cellOf hS.c0
  clear h hS
  go_enter Tryd.func6, Tryd.ntmps6
  go_wp2_with fail
  refine q.mono ?_
  rintro e w1 ⟨rfl, h1⟩
  have N1 : Hid (Nw w w1) := by show Nw _ _; rw [h1]; exact n0
  rw [← h1] at e1
  clear h1 n0 q
  go_wp2_with fail
  go_quiet (fail)
  go_wp2
  refine bodyPost_ret (v := .tuple #[.slice none 0 0, sen (a 0)]) (by simp [results, Tryd.results6]) rfl ⟨rfl, N1.out.drewN nq⟩
set_option maxRecDepth 100000 in
set_option maxHeartbeats 1000000 in
theorem eroot_no {w : World} {p : Value} (h : NoB w p) :
    Calls Tryd.prog 14 #[p] w fun e w' => e = .returned (.agg (hbs zh)) ∧ Nw w w' := by
  have q := ethere_no (h.nw (nwa w (.cells z32 32)))
  have hZ : (hbs zh).size = 32 := by rw [hbs_size]; simp
  obtain ⟨Z, hZe⟩ : ∃ Z, Z = zh := ⟨_, rfl⟩
  have HZ : Hid (Z = zh) := hZe
  rw [← hZe] at hZ ⊢
  clear h hZe
  go_enter Tryd.func14, Tryd.ntmps14
  go_upto_region 1 with fail
  rw [z32_h]
  go_wp2_with fail
  refine q.mono ?_
  rintro e w1 ⟨rfl, h1⟩
  have N1 : Hid (Nw w w1) := by show Nw _ _; rw [h1]; exact nwa w _
  have b0 : w1.heap[w.heap.size]? = some (.cells z32 32) := by rw [h1]; exact heap_new _ _
  clear h1 q
  go_wp2_with first
    | (refine wpl_zero rfl rfl ?_; rw [← HZ.out])
    | (refine wp_store_agg rfl (.tmp 2) (.tmp 10) 32 32 rfl Tryd.sizeOf32 w.heap.size 0 rfl z32 32 b0 (hbs Z) rfl hZ (hbs_one _) (by decide) (hbs Z) (by rw [dropA z32_size]; simp) ?_; intro w3 j3 f3 z3; clear z3)
  exact bodyPost_ret (results_cell Tryd.results14 Tryd.isAgg32 Tryd.sizeOf32 rfl j3 hZ) rfl ⟨rfl, N1.out.trans f3 (fun k hk q => by omega)⟩
set_option maxRecDepth 100000 in
theorem hclone_nil (w : World) : Calls Tryd.prog 27 #[.slice none 0 0] w fun e w' => e = .returned (.slice none 0 0) ∧ w' = w := by
  have eq0 : ∀ W : World, (binOp .eql 22 (.slice none 0 0) (.slice none 0 0)).run Tryd.prog W = .ok (.bool true) W := fun W => by kernel_rfl
  go_enter Tryd.func27, Tryd.ntmps27
  go_wp2
  go_ret
  exact ⟨rfl, rfl⟩
theorem own_emptyc (w : World) : (w.alloc (.cells #[] 32)).ownsRow w.heap.size 32 32 (.slice (some ⟨w.heap.size, 0, none⟩) 0 0) 0 [] :=
  ⟨rfl, .inr ⟨w.heap.size, 0, #[], rfl, Nat.le_refl _, heap_new _ _, Nat.le_refl _, Nat.zero_le _, rfl, rfl⟩⟩
set_option maxRecDepth 100000 in
set_option maxHeartbeats 1000000 in
theorem hclone_some {w : World} {base : Nat} {g n c : Nat} {T : List (List UInt8)} (h : w.ownsRow base 32 32 (.slice (some ⟨g, 0, none⟩) n c) n (hsc T)) (hn : T.length = n) (hok : ∀ t ∈ T, t.length = 32) (hl : n ≤ 1000000) :
    Calls Tryd.prog 27 #[.slice (some ⟨g, 0, none⟩) n c] w fun e w' => ∃ v', e = .returned v' ∧ w'.ownsRow w.heap.size 32 32 v' n (hsc T) ∧ Nw w w' := by
  obtain ⟨i0, hi, hz0, hz1, hz2⟩ := info_parts infoHs
  have HC : Hid (∀ j u, (hsc T)[j]? = some u → (w.alloc (.cells #[] 32)).cell? ((⟨g, 0, none⟩ : Addr).add j) = some u) := fun j u hu => (nwa w _).cellOf (h.cells (g := g) rfl j u hu)
  have HLn : Hid ((hsc T).length = n * 32) := h.1
  have H1 : Hid (∀ u ∈ hsc T, u.oneCell' = true) := fun u hu => by
    simp only [hsc, List.mem_flatMap] at hu
    obtain ⟨t, _, hu⟩ := hu
    exact hbs_one t u hu
  clear h hok
  have eq0 : ∀ W : World, (binOp .eql 22 (.slice (some ⟨g, 0, none⟩) n c) (.slice none 0 0)).run Tryd.prog W = .ok (.bool false) W := fun W => by kernel_rfl
  go_enter Tryd.func27, Tryd.ntmps27
  go_wp2_with (at_builtin; refine wpList_two _ rfl (.tmp 5) (.tmp 6) 22 rfl w.heap.size 32 i0 (.agg z32) 32 32 Tryd.underlying22 hi hz0 hz1 hz2 z32_size (by decide) (.slice (some ⟨w.heap.size, 0, none⟩) 0 0) 0 [] rfl (own_emptyc w) ⟨g, 0, none⟩ n c (hsc T) rfl HLn.out HC.out H1.out (by unfold maxLen; omega) (by omega) (by simp) ?_; intro v' w5 o5 t5; rw [Nat.zero_add, List.nil_append] at o5; have N5 : Nw w w5 := (nwa w _).trans t5.fr (fun j hj q => by simp [Value.ownBlock] at q; omega); clear t5)
  go_ret
  exact ⟨_, rfl, o5, N5⟩
end Go.Proofs.YtkjonddlmiedcaaDoor
