/- reader: Tile, out of what fetch gives; Forget. -/
import Derived.Test.YtbkhdnceblgljaaGreatDoorOgx
import Derived.Test.YtbkhdnceblgljaaGreatDoorUi
namespace Go.Proofs.YtbkhdnceblgljaaGreatDoor
open Go.RowKit
set_option linter.unusedVariables false
set_option linter.unusedSimpArgs false
set_option maxRecDepth 100000 in
theorem rtile_none {w : World} {q : Value} (L I : Nat) (W : Int) (ev : Value) (PW : World → Prop)
    (hq : Calls Tryz.prog 38 #[q, .agg #[.int .u8 (L : Int), .int .u64 (I : Int), .int .i64 W]] (w.alloc (.cells #[.int .u8 (L : Int), .int .u64 (I : Int), .int .i64 W] 60)) fun e w' => e = .returned (.tuple #[.slice none 0 0, ev]) ∧ PW w') :
    Calls Tryz.prog 18 #[q, .agg #[.int .u8 (L : Int), .int .u64 (I : Int), .int .i64 W]] w fun e w' => e = .returned (.tuple #[.slice none 0 0, ev]) ∧ PW w' := by
  have qc := hclone_nil
  go_enter Tryz.func18, Tryz.ntmps18
  go_wp2_with fail
  refine hq.mono ?_
  rintro e w1 ⟨rfl, p1⟩
  have H1 : Hid (PW w1) := p1
  clear p1 hq
  go_wp2_with fail
  refine (qc _).mono ?_
  rintro e w2 ⟨rfl, rfl⟩
  go_wp2
  go_ret2
  exact ⟨rfl, H1.out⟩
set_option maxRecDepth 100000 in
theorem rtile_some {w : World} {q : Value} (L I : Nat) (W : Int) (T : List (List UInt8)) (h32 : ∀ u ∈ T, u.length = 32) (hl : T.length ≤ 256) (PW : Nat → World → Prop) (hP : ∀ g w1 w2, PW g w1 → Nw w1 w2 → PW g w2) (hs : ∀ g w1, PW g w1 → w.heap.size < w1.heap.size)
    (hq : Calls Tryz.prog 38 #[q, .agg #[.int .u8 (L : Int), .int .u64 (I : Int), .int .i64 W]] (w.alloc (.cells #[.int .u8 (L : Int), .int .u64 (I : Int), .int .i64 W] 60)) fun e w' => ∃ g, e = .returned (.tuple #[.slice (some ⟨g, 0, none⟩) T.length T.length, .nilIface]) ∧ w'.ownsRow 0 42 32 (.slice (some ⟨g, 0, none⟩) T.length T.length) T.length (hsc T) ∧ PW g w') :
    Calls Tryz.prog 18 #[q, .agg #[.int .u8 (L : Int), .int .u64 (I : Int), .int .i64 W]] w fun e w' => ∃ v g b, e = .returned (.tuple #[v, .nilIface]) ∧ w.heap.size < b ∧ w'.ownsRow b 42 32 v T.length (hsc T) ∧ PW g w' := by
  have HP : Hid (∀ g w1 w2, PW g w1 → Nw w1 w2 → PW g w2) := hP
  have HS : Hid (∀ g w1, PW g w1 → w.heap.size < w1.heap.size) := hs
  have H32 : Hid (∀ u ∈ T, u.length = 32) := h32
  obtain ⟨m, hm⟩ : ∃ m, m = T.length := ⟨_, rfl⟩
  have HM : Hid (m = T.length) := hm
  rw [← hm] at hq hl
  clear hm h32 hP hs
  go_enter Tryz.func18, Tryz.ntmps18
  go_wp2_with fail
  refine hq.mono ?_
  rintro e w1 ⟨g, rfl, o1, p1⟩
  have qc := hclone_some o1 HM.out.symm H32.out (by omega)
  have H1 : Hid (PW g w1) := p1
  clear o1 p1 hq
  go_wp2_with fail
  refine qc.mono ?_
  rintro e w2 ⟨v, rfl, o2, n2⟩
  have H2 : Hid (w.heap.size < w1.heap.size ∧ w2.ownsRow w1.heap.size 42 32 v T.length (hsc T) ∧ PW g w2) := ⟨HS.out g w1 H1.out, by rw [← HM.out]; exact o2, HP.out g _ _ H1.out n2⟩
  obtain ⟨va, vc, rfl⟩ := ownsRow_form o2
  clear o2 n2 qc
  go_wp2
  go_ret2
  exact ⟨_, g, _, rfl, H2.out⟩
end Go.Proofs.YtbkhdnceblgljaaGreatDoor
namespace Go.Proofs.YtbkhdnceblgljaaGreatDoor
open Go.RowKit
set_option linter.unusedVariables false
set_option linter.unusedSimpArgs false
/-- Tags of what was there, 9 behind it. -/
def tgC (tg : Nat → Nat) (s : Nat) : Nat → Nat := fun k => if k < s then tg k else 9
theorem Rm.cut {w : World} {tg : Nat → Nat} {rb sb cb bm n : Nat} {M : Tx} {p : Option Addr} {c : Nat} {zs : List Int} {cr rn wn : Int} {dd : Bool} {N cap : Nat} {L : CT.LT} {H : CT.KT → List (List UInt8)} {x y : Int} (h : Rm w tg rb sb cb bm n M p c zs cr rn wn dd N cap L H x y) : Rm w (tgC tg w.heap.size) rb sb cb bm n M p c zs cr rn wn dd N cap L H x y := by
  have tb : ∀ k, k < w.heap.size → tgC tg w.heap.size k = tg k := fun k hk => by simp [tgC, hk]
  refine ⟨h.blk, h.st, h.ca.mono (fun k hk e => by rw [tb k hk]; exact e) (Nat.le_refl _), fun z hz => ?_, by rw [tb _ (heap_lt h.blk)]; exact h.tr, ⟨by rw [tb _ (heap_lt h.st.blk)]; exact h.ts.1, by rw [tb _ h.st.mp.lt]; exact h.ts.2.1, fun g o e => by rw [tb _ (h.lp g o e)]; exact h.ts.2.2 g o e⟩, h.lp⟩
  obtain ⟨⟨g, hg, ht⟩, hh, hr⟩ := h.row z hz
  exact ⟨⟨g, hg, by rw [tb _ (hr.lt g (by rw [hg]; rfl)).2]; exact ht⟩, hh, hr⟩
set_option maxRecDepth 100000 in
set_option maxHeartbeats 2000000 in
theorem rnode_some {w : World} {q : Value} (L I S W : Nat) (hm : may L I) (hW : wid (L / 8) (ofA L I / 256) S = W) (hin : ofA L I % 256 + 2 ^ (L % 8) ≤ W) (T : List (List UInt8)) (h32 : ∀ u ∈ T, u.length = 32) (hl : T.length = W) (hW2 : W ≤ 256)
    (qt : ∀ V, Nw w V → Calls Tryz.prog 35 #[q] V fun e w' => e = .returned (.bool true) ∧ w' = V)
    (PW : Nat → World → Prop) (hP : ∀ g w1 w2, PW g w1 → Fr (fun k => w.heap.size ≤ k ∧ k ≤ w.heap.size + 1) w1 w2 → PW g w2)
    (qf : ∀ V, Nw w V → w.heap.size + 2 ≤ V.heap.size → Calls Tryz.prog 38 #[q, tl (L / 8) (ofA L I / 256) W] V fun e w' => ∃ g, e = .returned (.tuple #[.slice (some ⟨g, 0, none⟩) T.length T.length, .nilIface]) ∧ Hss w' (.slice (some ⟨g, 0, none⟩) T.length T.length) T ∧ Laid w' ∧ w'.heap[w.heap.size + 1]? = V.heap[w.heap.size + 1]? ∧ PW g w') :
    Calls Tryz.prog 14 #[q, cd L I, .int .u64 (S : Int)] w fun e w' => ∃ g, e = .returned (.tuple #[.agg (hbs (ovr (L % 8) ((T.drop (ofA L I % 256)).take (2 ^ (L % 8))))), .nilIface]) ∧ PW g w' := by
  have hL := hm.1
  have q1 := tof_yes L I hm
  have hk8 : L % 8 ≤ 8 := by omega
  have h0 : 0 < 2 ^ (L % 8) := Nat.pow_pos (by decide)
  have hAI : ofA L I / 256 < 18446744073709551616 := by
    have h1 := ofA_lt hm
    have h2 : 2 ^ (63 - 8 * (L / 8)) ≤ 2 ^ 63 := Nat.pow_le_pow_right (by decide) (by omega)
    have h3 : (2 : Nat) ^ 63 = 9223372036854775808 := by decide
    omega
  have hmod : (ofA L I % 256) % 2 ^ (L % 8) = 0 := by
    have hd : 2 ^ (L % 8) ∣ 256 := by
      have : L % 8 < 8 := Nat.mod_lt _ (by decide)
      exact ⟨2 ^ (8 - L % 8), by rw [← Nat.pow_add, show L % 8 + (8 - L % 8) = 8 by omega]⟩
    rw [Nat.mod_mod_of_dvd _ hd]
    unfold ofA
    exact Nat.mul_mod_left _ _
  have q2 := in_yes (L / 8) (ofA L I / 256) S W hAI hW (by omega)
  have hpw : 2 ^ (L % 8) ≤ 256 := by omega
  obtain ⟨A, hA⟩ : ∃ A, A = ofA L I % 256 := ⟨_, rfl⟩
  obtain ⟨D, hD⟩ : ∃ D, D = 2 ^ (L % 8) := ⟨_, rfl⟩
  obtain ⟨X, hX⟩ : ∃ X, X = ofA L I / 256 := ⟨_, rfl⟩
  obtain ⟨Y, hY⟩ : ∃ Y, Y = L / 8 := ⟨_, rfl⟩
  have QH : Hid (∀ (V : World) g, Hss V (.slice (some ⟨g, 0, none⟩) T.length T.length) T → Laid V → Calls Tryz.prog 39 #[.slice (some ⟨g, 0, none⟩) T.length T.length, .int .i64 (A : Int), .int .i64 (D : Int)] V fun e w' => e = .returned (.tuple #[.agg (hbs (ovr (L % 8) ((T.drop A).take D))), .nilIface]) ∧ Nw V w') := fun V g hs hLd => by
    have := thash_yes T h32 (by omega) (L % 8) A hk8 (by rw [hA]; omega) (by rw [hA]; exact hmod) g 0 T.length V ⟨Nat.le_refl _, hs⟩ hLd
    rw [← hD] at this
    exact this
  rw [← hA, ← hD] at hin
  rw [← hA, ← hD, ← hX, ← hY] at q1
  rw [← hX, ← hY] at q2
  rw [← hX, ← hY] at qf
  rw [← hA, ← hD]
  obtain ⟨R, hR⟩ : ∃ R, R = ovr (L % 8) ((T.drop A).take D) := ⟨_, rfl⟩
  have R32 : Hid (R.length = 32) := by show _ = _; rw [hR]; exact ovr_32 _ _ (fun u hu => h32 u (List.mem_of_mem_drop (List.mem_of_mem_take hu)))
  rw [← hR] at QH ⊢
  have hRs : (hbs R).size = 32 := by rw [hbs_size, R32.out]
  have hii : ¬ (W : Int) < (A : Int) + (D : Int) := by omega
  have hDb : D ≤ 256 := by omega
  have hAb : A ≤ 256 := by omega
  have QF : Hid (∀ V, Nw w V → w.heap.size + 2 ≤ V.heap.size → Calls Tryz.prog 38 #[q, tl Y X W] V fun e w' => ∃ g, e = .returned (.tuple #[.slice (some ⟨g, 0, none⟩) T.length T.length, .nilIface]) ∧ Hss w' (.slice (some ⟨g, 0, none⟩) T.length T.length) T ∧ Laid w' ∧ w'.heap[w.heap.size + 1]? = V.heap[w.heap.size + 1]? ∧ PW g w') := qf
  have QT : Hid (∀ V, Nw w V → Calls Tryz.prog 35 #[q] V fun e w' => e = .returned (.bool true) ∧ w' = V) := qt
  have HP : Hid (∀ g w1 w2, PW g w1 → Fr (fun k => w.heap.size ≤ k ∧ k ≤ w.heap.size + 1) w1 w2 → PW g w2) := hP
  have Q1 : Hid (∀ V, Calls Tryz.prog 36 #[cd L I] V fun e w' => e = .returned (.tuple #[tl Y X (ofW L), .int .i64 (A : Int), .int .i64 (D : Int), .bool true]) ∧ Nw V w') := q1
  have Q2 : Hid (∀ V, Calls Tryz.prog 37 #[.int .u8 (Y : Int), .int .u64 (X : Int), .int .u64 (S : Int)] V fun e w' => e = .returned (.tuple #[tl Y X W, .bool true]) ∧ Nw V w') := q2
  obtain ⟨tw, htw⟩ : ∃ tw, tw = ofW L := ⟨_, rfl⟩
  rw [← htw] at Q1
  obtain ⟨tn, htn⟩ : ∃ tn, tn = T.length := ⟨_, rfl⟩
  rw [← htn] at QF QH
  have htnb : tn ≤ 256 := by omega
  clear q1 q2 qf qt hP hm hW hmod hA hD hX hY hR htw htn hAI hpw h0 hL hk8 h32 hl
  go_enter Tryz.func14, Tryz.ntmps14
  go_wp2_with fail
  refine (QT.out _ (by repeat first | with_reducible exact nwa w _ | with_reducible refine Fr.alloc ?_ _ | with_reducible refine Fr.drew ?_ | (with_reducible refine Fr.setCell ?_ _ _ (fun h => ?_); rotate_left; focus (simp only at h; omega)))).mono ?_
  rintro e w1 ⟨rfl, rfl⟩
  go_wp2_with fail
  refine (Q1.out _).mono ?_
  rintro e w2 ⟨rfl, n2⟩
  obtain ⟨⟨l0, l1⟩, b0, b1, n2'⟩ := two_made n2
  have HB1 : Hid (w2.heap[w.heap.size + 1]? = some (.cells z32 42)) := b1
  have HN2 : Hid (Nw w w2) := n2'
  clear n2 b0 b1 n2'
  go_wp2_with fail
  refine (Q2.out _).mono ?_
  rintro e w3 ⟨rfl, n3⟩
  obtain ⟨l3, b3, n3'⟩ := one_made n3
  have HB3 : Hid (w3.heap[w2.heap.size]? = some (.cells #[.int .u8 (Y : Int), .int .u64 (X : Int), .int .i64 (tw : Int)] 60)) := b3
  have HN3 : Hid (Nw w2 w3) := n3'
  obtain ⟨x0, x1, x2⟩ := cell3 b3
  have fz : ∀ o, w3.frozen? ⟨w2.heap.size, o, none⟩ = false := fun o => frozen_of HB3.out o
  clear n3 b3 n3'
  go_wp2_with fail
  have F4 : Fr (fun k => k = w2.heap.size) w3 (((w3.setCell ⟨w2.heap.size, 0, none⟩ (.int .u8 (Y : Int))).setCell ⟨w2.heap.size, 1, none⟩ (.int .u64 (X : Int))).setCell ⟨w2.heap.size, 2, none⟩ (.int .i64 (W : Int))) := CT.fr3 _ _ _
  have hs2 := HN2.out.size
  have hl1 : w.heap.size + 2 ≤ w2.heap.size := heap_lt HB1.out
  have hs3 := F4.size
  have N4 : Nw w (((w3.setCell ⟨w2.heap.size, 0, none⟩ (.int .u8 (Y : Int))).setCell ⟨w2.heap.size, 1, none⟩ (.int .u64 (X : Int))).setCell ⟨w2.heap.size, 2, none⟩ (.int .i64 (W : Int))) := (HN2.out.tr HN3.out).trans F4 (fun j hj e => by omega)
  have B4 := (F4.block (w.heap.size + 1) (by omega) (by omega)).trans ((HN3.out.block _ (heap_lt HB1.out) (fun f => f)).trans HB1.out)
  refine (QF.out _ N4 (by omega)).mono ?_
  rintro e w4 ⟨g, rfl, hs4, ld4, b4, p4⟩
  have HB4 : Hid (w4.heap[w.heap.size + 1]? = some (.cells z32 42)) := b4.trans B4
  have HP4 : Hid (PW g w4) := p4
  have q5 := QH.out w4 g hs4 ld4
  clear hs4 ld4 b4 p4 B4 N4 F4 x0 x1 x2 fz l3 hs3
  go_wp2_with fail
  refine q5.mono ?_
  rintro e w5 ⟨rfl, n5⟩
  have HB5 : Hid (w5.heap[w.heap.size + 1]? = some (.cells z32 42)) := (n5.block _ (heap_lt HB4.out) (fun f => f)).trans HB4.out
  have HP5 : Hid (PW g w5) := HP.out g _ _ HP4.out (n5.mono (fun _ _ f => f.elim))
  clear n5 q5
  go_wp2_with (refine wp_store_agg rfl (.tmp 6) (.tmp 65) 42 32 rfl Tryz.sizeOf42 (w.heap.size + 1) 0 rfl _ 42 HB5.out (hbs R) rfl hRs (hbs_one _) (by decide) (hbs R) (by simp [z32_size]) ?_; intro w6 j6 f6 zz; clear zz)
  have HP6 : Hid (PW g w6) := HP.out g _ _ HP5.out (f6.mono (fun k _ e => by omega))
  refine bodyPost_ret (results_cell_slot (V := hbs R) (ty := 42) (f := (0, 0)) Tryz.results14 Tryz.isAgg42 Tryz.sizeOf42 rfl _ rfl j6 hRs) rfl ⟨g, rfl, HP6.out⟩
end Go.Proofs.YtbkhdnceblgljaaGreatDoor
namespace Go.Proofs.YtbkhdnceblgljaaGreatDoor
open Go.RowKit
set_option linter.unusedVariables false
set_option linter.unusedSimpArgs false
set_option maxRecDepth 100000 in
set_option maxHeartbeats 1000000 in
theorem rnode_may {w : World} {q : Value} (L I S : Nat) (hm : ¬ may L I) (hL : L ≤ 255) (hI : I < 18446744073709551616)
    (qt : ∀ V, Nw w V → Calls Tryz.prog 35 #[q] V fun e w' => e = .returned (.bool true) ∧ w' = V) {B : Nat} {a : Nat → Addr} (hS : Sent B w a) :
    Calls Tryz.prog 14 #[q, cd L I, .int .u64 (S : Int)] w fun e w' => e = .returned (.tuple #[.agg (hbs zh), sen (a 4)]) ∧ Nw w w' := by
  have CW : Hid (w.cell? ⟨2, 0, none⟩ = some (sen (a 4))) := hS.c4
  have QT : Hid (∀ V, Nw w V → Calls Tryz.prog 35 #[q] V fun e w' => e = .returned (.bool true) ∧ w' = V) := qt
  have Q1 : Hid (∀ V, Calls Tryz.prog 36 #[cd L I] V fun e w' => e = .returned (.tuple #[tl 0 0 0, .int .i64 0, .int .i64 0, .bool false]) ∧ Nw V w') := fun V => tof_no L I hm hL hI V
  clear hS qt hm
  go_enter Tryz.func14, Tryz.ntmps14
  go_wp2_with fail
  refine (QT.out _ (by repeat first | with_reducible exact nwa w _ | with_reducible refine Fr.alloc ?_ _ | with_reducible refine Fr.drew ?_ | (with_reducible refine Fr.setCell ?_ _ _ (fun h => ?_); rotate_left; focus (simp only at h; omega)))).mono ?_
  rintro e w1 ⟨rfl, rfl⟩
  go_wp2_with fail
  refine (Q1.out _).mono ?_
  rintro e w2 ⟨rfl, n2⟩
  obtain ⟨⟨l0, l1⟩, b0, b1, n2'⟩ := two_made n2
  have HB1 : Hid (w2.heap[w.heap.size + 1]? = some (.cells z32 42)) := b1
  have HN2 : Hid (Nw w w2) := n2'
  clear n2 b0 b1 n2' l0 l1
  go_upto_region 5 with fail
  refine gen_w (fun V => Nw w V ∧ V.heap[w.heap.size + 1]? = some (.cells z32 42)) ?_ ?_
  · exact ⟨HN2.out.alloc _, hp_al (heap_lt HB1.out) HB1.out⟩
  · rintro w3 ⟨n3, b3⟩
    have HN3 : Hid (Nw w w3) := n3
    have HB3 : Hid (w3.heap[w.heap.size + 1]? = some (.cells z32 42)) := b3
    clear n3 b3 HN2 HB1
    have nb : Nw w3 w3.drew := (Fr.refl _ _).drew
    refine wp_region_held_drew (S := fun V => V.cell? ⟨2, 0, none⟩ = some (sen (a 4))) (by kernel_rfl) ((HN3.out.tr nb).cellOf CW.out) ?_
    intro hS0
    refine wpAnyH_take (i := 0) (v := .agg (hbs zh)) rfl (by kernel_rfl) (by kernel_rfl) (by kernel_rfl) (fun _ _ _ h => h) (yields_buildT rfl 42 #[] rfl #[] (by kernel_rfl) (hbs zh) build_zero) hS0 ?_
    try simp only [Act.put, List.setIfInBounds_toArray, List.set_cons_zero, List.set_cons_succ]
    refine wpAnyH_take (i := 1) (v := sen (a 4)) rfl (by kernel_rfl) (by kernel_rfl) (by kernel_rfl) (fun _ _ _ h => h) (Or.inl ⟨by kernel_rfl, by intro w hw; have hc := hw; go_simp⟩) hS0 ?_
    try simp only [Act.put, List.setIfInBounds_toArray, List.set_cons_zero, List.set_cons_succ]
    refine wpAnyH_ready (rs := [2]) (by kernel_rfl) (by simp) ?_
    refine ready_storeT rfl rfl (.tmp 6) (.tmp 28) 42 32 rfl Tryz.sizeOf42 (w.heap.size + 1) (by kernel_rfl) z32 42 (hp_dr HB3.out) (hbs zh) (by kernel_rfl) (by rw [hbs_size]; simp) (hbs_one _) z32_size ?_ AllReadyH.nil
    intro w9 j9 f9
    have n9 : Nw w w9 := (HN3.out.tr nb).trans f9 (fun k hk e => by omega)
    have c9 : w9.cell? ⟨2, 0, none⟩ = some (sen (a 4)) := n9.cellOf CW.out
    refine ⟨c9, fun hS0 => ?_⟩
    try simp only [Act.put, List.setIfInBounds_toArray, List.set_cons_zero, List.set_cons_succ]
    refine wpAnyH_ready (rs := [3]) (by kernel_rfl) (by simp) ?_
    refine AllReadyH.cons rfl (fun K' hK => ?_) AllReadyH.nil
    go_simp
    refine hK.out _ _ c9 (fun hS0 => ?_)
    try simp only [Act.put, List.setIfInBounds_toArray, List.set_cons_zero, List.set_cons_succ]
    refine wpAnyH_done (by kernel_rfl) ?_ _
    try go_wp2_with fail
    exact bodyPost_ret (results_cell_slot Tryz.results14 Tryz.isAgg42 Tryz.sizeOf42 rfl _ rfl j9 (by rw [hbs_size]; simp)) rfl ⟨rfl, n9⟩
end Go.Proofs.YtbkhdnceblgljaaGreatDoor
namespace Go.Proofs.YtbkhdnceblgljaaGreatDoor
open Go.RowKit
set_option linter.unusedVariables false
set_option linter.unusedSimpArgs false
set_option maxRecDepth 100000 in
set_option maxHeartbeats 1000000 in
theorem rnode_gone {w : World} {q : Value} (L I S : Nat) (hm : may L I) (hS0 : S < 18446744073709551616) (hW : wid (L / 8) (ofA L I / 256) S = 0)
    (qt : ∀ V, Nw w V → Calls Tryz.prog 35 #[q] V fun e w' => e = .returned (.bool true) ∧ w' = V) {B : Nat} {a : Nat → Addr} (hS : Sent B w a) :
    Calls Tryz.prog 14 #[q, cd L I, .int .u64 (S : Int)] w fun e w' => e = .returned (.tuple #[.agg (hbs zh), sen (a 4)]) ∧ Nw w w' := by
  have CW : Hid (w.cell? ⟨2, 0, none⟩ = some (sen (a 4))) := hS.c4
  have QT : Hid (∀ V, Nw w V → Calls Tryz.prog 35 #[q] V fun e w' => e = .returned (.bool true) ∧ w' = V) := qt
  have hL := hm.1
  have h0p : 0 < 2 ^ (L % 8) := Nat.pow_pos (by decide)
  have hAI : ofA L I / 256 < 18446744073709551616 := by
    have h1 := ofA_lt hm
    have h2 : 2 ^ (63 - 8 * (L / 8)) ≤ 2 ^ 63 := Nat.pow_le_pow_right (by decide) (by omega)
    have h3 : (2 : Nat) ^ 63 = 9223372036854775808 := by decide
    omega
  have hpw : 2 ^ (L % 8) ≤ 256 := by
    have : 2 ^ (L % 8) ≤ 2 ^ 8 := Nat.pow_le_pow_right (by decide) (by omega)
    simpa using this
  have q1 := tof_yes L I hm
  have q2 := in_no (L / 8) (ofA L I / 256) S (by omega) hAI hS0 hW
  obtain ⟨A, hA⟩ : ∃ A, A = ofA L I % 256 := ⟨_, rfl⟩
  have hAb : A < 256 := by rw [hA]; exact Nat.mod_lt _ (by decide)
  obtain ⟨D, hD⟩ : ∃ D, D = 2 ^ (L % 8) := ⟨_, rfl⟩
  obtain ⟨X, hX⟩ : ∃ X, X = ofA L I / 256 := ⟨_, rfl⟩
  obtain ⟨Y, hY⟩ : ∃ Y, Y = L / 8 := ⟨_, rfl⟩
  obtain ⟨tw, htw⟩ : ∃ tw, tw = ofW L := ⟨_, rfl⟩
  rw [← hD] at hpw
  rw [← hA, ← hD, ← hX, ← hY, ← htw] at q1
  rw [← hX, ← hY] at q2
  have Q1 : Hid (∀ V, Calls Tryz.prog 36 #[cd L I] V fun e w' => e = .returned (.tuple #[tl Y X tw, .int .i64 (A : Int), .int .i64 (D : Int), .bool true]) ∧ Nw V w') := q1
  have Q2 : Hid (∀ V, Calls Tryz.prog 37 #[.int .u8 (Y : Int), .int .u64 (X : Int), .int .u64 (S : Int)] V fun e w' => _ ∧ Nw V w') := q2
  clear hW
  clear hS qt hm q1 q2 hA hD hX hY htw hAI hL h0p
  go_enter Tryz.func14, Tryz.ntmps14
  go_wp2_with fail
  refine (QT.out _ (by repeat first | with_reducible exact nwa w _ | with_reducible refine Fr.alloc ?_ _ | with_reducible refine Fr.drew ?_ | (with_reducible refine Fr.setCell ?_ _ _ (fun h => ?_); rotate_left; focus (simp only at h; omega)))).mono ?_
  rintro e w1 ⟨rfl, rfl⟩
  go_wp2_with fail
  refine (Q1.out _).mono ?_
  rintro e w2 ⟨rfl, n2⟩
  obtain ⟨⟨l0, l1⟩, b0, b1, n2'⟩ := two_made n2
  have HB1 : Hid (w2.heap[w.heap.size + 1]? = some (.cells z32 42)) := b1
  have HN2 : Hid (Nw w w2) := n2'
  clear n2 b0 b1 n2' l0 l1
  go_wp2_with fail
  refine (Q2.out _).mono ?_
  rintro e w3 ⟨rfl, n3⟩
  obtain ⟨l3, b3, n3'⟩ := one_made n3
  have HB3 : Hid (w3.heap[w2.heap.size]? = some (.cells #[.int .u8 (Y : Int), .int .u64 (X : Int), .int .i64 (tw : Int)] 60)) := b3
  have HN3 : Hid (Nw w2 w3) := n3'
  obtain ⟨x0, x1, x2⟩ := cell3 b3
  have fz : ∀ o, w3.frozen? ⟨w2.heap.size, o, none⟩ = false := fun o => frozen_of HB3.out o
  have hs2 := HN2.out.size
  have hl1 : w.heap.size + 2 ≤ w2.heap.size := heap_lt HB1.out
  clear n3 b3 n3'
  go_upto_region 8 with fail
  refine gen_w (fun V => Nw w V ∧ V.heap[w.heap.size + 1]? = some (.cells z32 42)) ?_ ?_
  · have F4 := fun a b c => CT.fr3 (w := w3) (g := w2.heap.size) a b c
    exact ⟨(HN2.out.tr HN3.out).trans (F4 _ _ _) (fun j hj e => by omega), ((F4 _ _ _).block (w.heap.size + 1) (by have := HN3.out.size; omega) (by omega)).trans ((HN3.out.block _ (heap_lt HB1.out) (fun f => f)).trans HB1.out)⟩
  · rintro w6 ⟨n6, b6⟩
    have HN6 : Hid (Nw w w6) := n6
    have HB6 : Hid (w6.heap[w.heap.size + 1]? = some (.cells z32 42)) := b6
    clear n6 b6 HN2 HB1 HN3 HB3 x0 x1 x2 fz l3
    have nb : Nw w6 w6.drew := (Fr.refl _ _).drew
    refine wp_region_held_drew (S := fun V => V.cell? ⟨2, 0, none⟩ = some (sen (a 4))) (by kernel_rfl) ((HN6.out.tr nb).cellOf CW.out) ?_
    intro hS0
    refine wpAnyH_take (i := 0) (v := .agg (hbs zh)) rfl (by kernel_rfl) (by kernel_rfl) (by kernel_rfl) (fun _ _ _ h => h) (yields_buildT rfl 42 #[] rfl #[] (by kernel_rfl) (hbs zh) build_zero) hS0 ?_
    try simp only [Act.put, List.setIfInBounds_toArray, List.set_cons_zero, List.set_cons_succ]
    refine wpAnyH_take (i := 1) (v := sen (a 4)) rfl (by kernel_rfl) (by kernel_rfl) (by kernel_rfl) (fun _ _ _ h => h) (Or.inl ⟨by kernel_rfl, by intro w hw; have hc := hw; go_simp⟩) hS0 ?_
    try simp only [Act.put, List.setIfInBounds_toArray, List.set_cons_zero, List.set_cons_succ]
    refine wpAnyH_ready (rs := [2]) (by kernel_rfl) (by simp) ?_
    refine ready_storeT rfl rfl (.tmp 6) (.tmp 49) 42 32 rfl Tryz.sizeOf42 (w.heap.size + 1) (by kernel_rfl) z32 42 (hp_dr HB6.out) (hbs zh) (by kernel_rfl) (by rw [hbs_size]; simp) (hbs_one _) z32_size ?_ AllReadyH.nil
    intro w9 j9 f9
    have n9 : Nw w w9 := (HN6.out.tr nb).trans f9 (fun k hk e => by omega)
    have c9 : w9.cell? ⟨2, 0, none⟩ = some (sen (a 4)) := n9.cellOf CW.out
    refine ⟨c9, fun hS0 => ?_⟩
    try simp only [Act.put, List.setIfInBounds_toArray, List.set_cons_zero, List.set_cons_succ]
    refine wpAnyH_ready (rs := [3]) (by kernel_rfl) (by simp) ?_
    refine AllReadyH.cons rfl (fun K' hK => ?_) AllReadyH.nil
    go_simp
    refine hK.out _ _ c9 (fun hS0 => ?_)
    try simp only [Act.put, List.setIfInBounds_toArray, List.set_cons_zero, List.set_cons_succ]
    refine wpAnyH_done (by kernel_rfl) ?_ _
    try go_wp2_with fail
    exact bodyPost_ret (results_cell_slot Tryz.results14 Tryz.isAgg42 Tryz.sizeOf42 rfl _ rfl j9 (by rw [hbs_size]; simp)) rfl ⟨rfl, n9⟩
set_option maxRecDepth 100000 in
set_option maxHeartbeats 1000000 in
theorem rnode_out {w : World} {q : Value} (L I S : Nat) (hm : may L I) (W : Nat) (hW : wid (L / 8) (ofA L I / 256) S = W) (h0 : 0 < W) (hWb : W ≤ 256) (hout : W < ofA L I % 256 + 2 ^ (L % 8))
    (qt : ∀ V, Nw w V → Calls Tryz.prog 35 #[q] V fun e w' => e = .returned (.bool true) ∧ w' = V) {B : Nat} {a : Nat → Addr} (hS : Sent B w a) :
    Calls Tryz.prog 14 #[q, cd L I, .int .u64 (S : Int)] w fun e w' => e = .returned (.tuple #[.agg (hbs zh), sen (a 4)]) ∧ Nw w w' := by
  have CW : Hid (w.cell? ⟨2, 0, none⟩ = some (sen (a 4))) := hS.c4
  have QT : Hid (∀ V, Nw w V → Calls Tryz.prog 35 #[q] V fun e w' => e = .returned (.bool true) ∧ w' = V) := qt
  have hL := hm.1
  have h0p : 0 < 2 ^ (L % 8) := Nat.pow_pos (by decide)
  have hAI : ofA L I / 256 < 18446744073709551616 := by
    have h1 := ofA_lt hm
    have h2 : 2 ^ (63 - 8 * (L / 8)) ≤ 2 ^ 63 := Nat.pow_le_pow_right (by decide) (by omega)
    have h3 : (2 : Nat) ^ 63 = 9223372036854775808 := by decide
    omega
  have hpw : 2 ^ (L % 8) ≤ 256 := by
    have : 2 ^ (L % 8) ≤ 2 ^ 8 := Nat.pow_le_pow_right (by decide) (by omega)
    simpa using this
  have q1 := tof_yes L I hm
  have q2 := in_yes (L / 8) (ofA L I / 256) S W hAI hW h0
  obtain ⟨A, hA⟩ : ∃ A, A = ofA L I % 256 := ⟨_, rfl⟩
  have hAb : A < 256 := by rw [hA]; exact Nat.mod_lt _ (by decide)
  obtain ⟨D, hD⟩ : ∃ D, D = 2 ^ (L % 8) := ⟨_, rfl⟩
  obtain ⟨X, hX⟩ : ∃ X, X = ofA L I / 256 := ⟨_, rfl⟩
  obtain ⟨Y, hY⟩ : ∃ Y, Y = L / 8 := ⟨_, rfl⟩
  obtain ⟨tw, htw⟩ : ∃ tw, tw = ofW L := ⟨_, rfl⟩
  rw [← hD] at hpw
  rw [← hA, ← hD, ← hX, ← hY, ← htw] at q1
  rw [← hX, ← hY] at q2
  have Q1 : Hid (∀ V, Calls Tryz.prog 36 #[cd L I] V fun e w' => e = .returned (.tuple #[tl Y X tw, .int .i64 (A : Int), .int .i64 (D : Int), .bool true]) ∧ Nw V w') := q1
  have Q2 : Hid (∀ V, Calls Tryz.prog 37 #[.int .u8 (Y : Int), .int .u64 (X : Int), .int .u64 (S : Int)] V fun e w' => _ ∧ Nw V w') := q2
  rw [← hA, ← hD] at hout
  have hii : (W : Int) < (A : Int) + (D : Int) := by omega
  clear hW
  clear hS qt hm q1 q2 hA hD hX hY htw hAI hL h0p
  go_enter Tryz.func14, Tryz.ntmps14
  go_wp2_with fail
  refine (QT.out _ (by repeat first | with_reducible exact nwa w _ | with_reducible refine Fr.alloc ?_ _ | with_reducible refine Fr.drew ?_ | (with_reducible refine Fr.setCell ?_ _ _ (fun h => ?_); rotate_left; focus (simp only at h; omega)))).mono ?_
  rintro e w1 ⟨rfl, rfl⟩
  go_wp2_with fail
  refine (Q1.out _).mono ?_
  rintro e w2 ⟨rfl, n2⟩
  obtain ⟨⟨l0, l1⟩, b0, b1, n2'⟩ := two_made n2
  have HB1 : Hid (w2.heap[w.heap.size + 1]? = some (.cells z32 42)) := b1
  have HN2 : Hid (Nw w w2) := n2'
  clear n2 b0 b1 n2' l0 l1
  go_wp2_with fail
  refine (Q2.out _).mono ?_
  rintro e w3 ⟨rfl, n3⟩
  obtain ⟨l3, b3, n3'⟩ := one_made n3
  have HB3 : Hid (w3.heap[w2.heap.size]? = some (.cells #[.int .u8 (Y : Int), .int .u64 (X : Int), .int .i64 (tw : Int)] 60)) := b3
  have HN3 : Hid (Nw w2 w3) := n3'
  obtain ⟨x0, x1, x2⟩ := cell3 b3
  have fz : ∀ o, w3.frozen? ⟨w2.heap.size, o, none⟩ = false := fun o => frozen_of HB3.out o
  have hs2 := HN2.out.size
  have hl1 : w.heap.size + 2 ≤ w2.heap.size := heap_lt HB1.out
  clear n3 b3 n3'
  go_upto_region 8 with fail
  refine gen_w (fun V => Nw w V ∧ V.heap[w.heap.size + 1]? = some (.cells z32 42)) ?_ ?_
  · have F4 := fun a b c => CT.fr3 (w := w3) (g := w2.heap.size) a b c
    exact ⟨(HN2.out.tr HN3.out).trans (F4 _ _ _) (fun j hj e => by omega), ((F4 _ _ _).block (w.heap.size + 1) (by have := HN3.out.size; omega) (by omega)).trans ((HN3.out.block _ (heap_lt HB1.out) (fun f => f)).trans HB1.out)⟩
  · rintro w6 ⟨n6, b6⟩
    have HN6 : Hid (Nw w w6) := n6
    have HB6 : Hid (w6.heap[w.heap.size + 1]? = some (.cells z32 42)) := b6
    clear n6 b6 HN2 HB1 HN3 HB3 x0 x1 x2 fz l3
    have nb : Nw w6 w6.drew := (Fr.refl _ _).drew
    refine wp_region_held_drew (S := fun V => V.cell? ⟨2, 0, none⟩ = some (sen (a 4))) (by kernel_rfl) ((HN6.out.tr nb).cellOf CW.out) ?_
    intro hS0
    refine wpAnyH_take (i := 0) (v := .agg (hbs zh)) rfl (by kernel_rfl) (by kernel_rfl) (by kernel_rfl) (fun _ _ _ h => h) (yields_buildT rfl 42 #[] rfl #[] (by kernel_rfl) (hbs zh) build_zero) hS0 ?_
    try simp only [Act.put, List.setIfInBounds_toArray, List.set_cons_zero, List.set_cons_succ]
    refine wpAnyH_take (i := 1) (v := sen (a 4)) rfl (by kernel_rfl) (by kernel_rfl) (by kernel_rfl) (fun _ _ _ h => h) (Or.inl ⟨by kernel_rfl, by intro w hw; have hc := hw; go_simp⟩) hS0 ?_
    try simp only [Act.put, List.setIfInBounds_toArray, List.set_cons_zero, List.set_cons_succ]
    refine wpAnyH_ready (rs := [2]) (by kernel_rfl) (by simp) ?_
    refine ready_storeT rfl rfl (.tmp 6) (.tmp 49) 42 32 rfl Tryz.sizeOf42 (w.heap.size + 1) (by kernel_rfl) z32 42 (hp_dr HB6.out) (hbs zh) (by kernel_rfl) (by rw [hbs_size]; simp) (hbs_one _) z32_size ?_ AllReadyH.nil
    intro w9 j9 f9
    have n9 : Nw w w9 := (HN6.out.tr nb).trans f9 (fun k hk e => by omega)
    have c9 : w9.cell? ⟨2, 0, none⟩ = some (sen (a 4)) := n9.cellOf CW.out
    refine ⟨c9, fun hS0 => ?_⟩
    try simp only [Act.put, List.setIfInBounds_toArray, List.set_cons_zero, List.set_cons_succ]
    refine wpAnyH_ready (rs := [3]) (by kernel_rfl) (by simp) ?_
    refine AllReadyH.cons rfl (fun K' hK => ?_) AllReadyH.nil
    go_simp
    refine hK.out _ _ c9 (fun hS0 => ?_)
    try simp only [Act.put, List.setIfInBounds_toArray, List.set_cons_zero, List.set_cons_succ]
    refine wpAnyH_done (by kernel_rfl) ?_ _
    try go_wp2_with fail
    exact bodyPost_ret (results_cell_slot Tryz.results14 Tryz.isAgg42 Tryz.sizeOf42 rfl _ rfl j9 (by rw [hbs_size]; simp)) rfl ⟨rfl, n9⟩
end Go.Proofs.YtbkhdnceblgljaaGreatDoor
namespace Go.Proofs.YtbkhdnceblgljaaGreatDoor
open Go.RowKit
set_option linter.unusedVariables false
set_option linter.unusedSimpArgs false
set_option maxRecDepth 100000 in
set_option maxHeartbeats 2000000 in
theorem rnode_err {w : World} {q : Value} (L I S W : Nat) (hm : may L I) (hW : wid (L / 8) (ofA L I / 256) S = W) (hin : ofA L I % 256 + 2 ^ (L % 8) ≤ W) (hW2 : W ≤ 256) (x : Addr)
    (qt : ∀ V, Nw w V → Calls Tryz.prog 35 #[q] V fun e w' => e = .returned (.bool true) ∧ w' = V)
    (PW : World → Prop) (hP : ∀ w1 w2, PW w1 → Fr (fun k => w.heap.size ≤ k ∧ k ≤ w.heap.size + 1) w1 w2 → PW w2)
    (qf : ∀ V, Nw w V → w.heap.size + 2 ≤ V.heap.size → Calls Tryz.prog 38 #[q, tl (L / 8) (ofA L I / 256) W] V fun e w' => e = .returned (.tuple #[.slice none 0 0, sen x]) ∧ w'.heap[w.heap.size + 1]? = V.heap[w.heap.size + 1]? ∧ PW w') :
    Calls Tryz.prog 14 #[q, cd L I, .int .u64 (S : Int)] w fun e w' => e = .returned (.tuple #[.agg (hbs zh), sen x]) ∧ PW w' := by
  have hL := hm.1
  have q1 := tof_yes L I hm
  have hk8 : L % 8 ≤ 8 := by omega
  have h0 : 0 < 2 ^ (L % 8) := Nat.pow_pos (by decide)
  have hAI : ofA L I / 256 < 18446744073709551616 := by
    have h1 := ofA_lt hm
    have h2 : 2 ^ (63 - 8 * (L / 8)) ≤ 2 ^ 63 := Nat.pow_le_pow_right (by decide) (by omega)
    have h3 : (2 : Nat) ^ 63 = 9223372036854775808 := by decide
    omega
  have q2 := in_yes (L / 8) (ofA L I / 256) S W hAI hW (by omega)
  have hpw : 2 ^ (L % 8) ≤ 256 := by omega
  obtain ⟨A, hA⟩ : ∃ A, A = ofA L I % 256 := ⟨_, rfl⟩
  obtain ⟨D, hD⟩ : ∃ D, D = 2 ^ (L % 8) := ⟨_, rfl⟩
  obtain ⟨X, hX⟩ : ∃ X, X = ofA L I / 256 := ⟨_, rfl⟩
  obtain ⟨Y, hY⟩ : ∃ Y, Y = L / 8 := ⟨_, rfl⟩
  rw [← hA, ← hD] at hin
  rw [← hA, ← hD, ← hX, ← hY] at q1
  rw [← hX, ← hY] at q2
  rw [← hX, ← hY] at qf
  have hRs : (hbs zh).size = 32 := by rw [hbs_size]; simp
  have hii : ¬ (W : Int) < (A : Int) + (D : Int) := by omega
  have hDb : D ≤ 256 := by omega
  have hAb : A ≤ 256 := by omega
  have QF : Hid (∀ V, Nw w V → w.heap.size + 2 ≤ V.heap.size → Calls Tryz.prog 38 #[q, tl Y X W] V fun e w' => e = .returned (.tuple #[.slice none 0 0, sen x]) ∧ w'.heap[w.heap.size + 1]? = V.heap[w.heap.size + 1]? ∧ PW w') := qf
  have QT : Hid (∀ V, Nw w V → Calls Tryz.prog 35 #[q] V fun e w' => e = .returned (.bool true) ∧ w' = V) := qt
  have HP : Hid (∀ w1 w2, PW w1 → Fr (fun k => w.heap.size ≤ k ∧ k ≤ w.heap.size + 1) w1 w2 → PW w2) := hP
  have Q1 : Hid (∀ V, Calls Tryz.prog 36 #[cd L I] V fun e w' => e = .returned (.tuple #[tl Y X (ofW L), .int .i64 (A : Int), .int .i64 (D : Int), .bool true]) ∧ Nw V w') := q1
  have Q2 : Hid (∀ V, Calls Tryz.prog 37 #[.int .u8 (Y : Int), .int .u64 (X : Int), .int .u64 (S : Int)] V fun e w' => e = .returned (.tuple #[tl Y X W, .bool true]) ∧ Nw V w') := q2
  obtain ⟨tw, htw⟩ : ∃ tw, tw = ofW L := ⟨_, rfl⟩
  rw [← htw] at Q1
  clear q1 q2 qf qt hP hm hW hA hD hX hY htw hAI hpw h0 hL hk8
  go_enter Tryz.func14, Tryz.ntmps14
  go_wp2_with fail
  refine (QT.out _ (by repeat first | with_reducible exact nwa w _ | with_reducible refine Fr.alloc ?_ _ | with_reducible refine Fr.drew ?_ | (with_reducible refine Fr.setCell ?_ _ _ (fun h => ?_); rotate_left; focus (simp only at h; omega)))).mono ?_
  rintro e w1 ⟨rfl, rfl⟩
  go_wp2_with fail
  refine (Q1.out _).mono ?_
  rintro e w2 ⟨rfl, n2⟩
  obtain ⟨⟨l0, l1⟩, b0, b1, n2'⟩ := two_made n2
  have HB1 : Hid (w2.heap[w.heap.size + 1]? = some (.cells z32 42)) := b1
  have HN2 : Hid (Nw w w2) := n2'
  clear n2 b0 b1 n2'
  go_wp2_with fail
  refine (Q2.out _).mono ?_
  rintro e w3 ⟨rfl, n3⟩
  obtain ⟨l3, b3, n3'⟩ := one_made n3
  have HB3 : Hid (w3.heap[w2.heap.size]? = some (.cells #[.int .u8 (Y : Int), .int .u64 (X : Int), .int .i64 (tw : Int)] 60)) := b3
  have HN3 : Hid (Nw w2 w3) := n3'
  obtain ⟨x0, x1, x2⟩ := cell3 b3
  have fz : ∀ o, w3.frozen? ⟨w2.heap.size, o, none⟩ = false := fun o => frozen_of HB3.out o
  clear n3 b3 n3'
  go_wp2_with fail
  have F4 : Fr (fun k => k = w2.heap.size) w3 (((w3.setCell ⟨w2.heap.size, 0, none⟩ (.int .u8 (Y : Int))).setCell ⟨w2.heap.size, 1, none⟩ (.int .u64 (X : Int))).setCell ⟨w2.heap.size, 2, none⟩ (.int .i64 (W : Int))) := CT.fr3 _ _ _
  have hs2 := HN2.out.size
  have hl1 : w.heap.size + 2 ≤ w2.heap.size := heap_lt HB1.out
  have hs3 := F4.size
  have N4 : Nw w (((w3.setCell ⟨w2.heap.size, 0, none⟩ (.int .u8 (Y : Int))).setCell ⟨w2.heap.size, 1, none⟩ (.int .u64 (X : Int))).setCell ⟨w2.heap.size, 2, none⟩ (.int .i64 (W : Int))) := (HN2.out.tr HN3.out).trans F4 (fun j hj e => by omega)
  have B4 := (F4.block (w.heap.size + 1) (by omega) (by omega)).trans ((HN3.out.block _ (heap_lt HB1.out) (fun f => f)).trans HB1.out)
  refine (QF.out _ N4 (by omega)).mono ?_
  rintro e w4 ⟨rfl, b4, p4⟩
  have HB4 : Hid (w4.heap[w.heap.size + 1]? = some (.cells z32 42)) := b4.trans B4
  have HP4 : Hid (PW w4) := p4
  clear b4 p4 B4 N4 F4 x0 x1 x2 fz l3 hs3
  go_wp2_with (first
    | (refine wpl_zero rfl rfl ?_)
    | (refine wp_store_agg rfl (.tmp 6) (.tmp 59) 42 32 rfl Tryz.sizeOf42 (w.heap.size + 1) 0 rfl _ 42 HB4.out (hbs zh) rfl hRs (hbs_one _) (by decide) (hbs zh) (by simp [z32_size]) ?_; intro w6 j6 f6 zz; clear zz)
    | fail)
  have HP6 : Hid (PW w6) := HP.out _ _ HP4.out (f6.mono (fun k _ e => by omega))
  refine bodyPost_ret (results_cell_slot (V := hbs zh) (ty := 42) (f := (0, 0)) Tryz.results14 Tryz.isAgg42 Tryz.sizeOf42 rfl _ rfl j6 hRs) rfl ⟨rfl, HP6.out⟩
end Go.Proofs.YtbkhdnceblgljaaGreatDoor
