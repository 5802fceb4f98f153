/- The document's path, proof, batch proof. -/
import Derived.Test.YtdhlmpjoggnkkaaGreatDoorD1
import Derived.Test.YtdhlmpjoggnkkaaGreatDoorHq
namespace Go.Proofs.YtdhlmpjoggnkkaaGreatDoor
open Go.RowKit
set_option linter.unusedVariables false
set_option linter.unusedSimpArgs false

/-- A slice literal of one hash, in a statement whose order is drawn. -/
theorem step_build1 {w : World} {ops : Array Oper} {o : Oper} {a : Act} {K : Act → World → Prop} {Q : Exit → Act → World → Prop} {E : Prop} (hgd : o.guard = none) (x : Operand) (ho : o.op = .buildSlice 57 1 #[(0, x)]) (V : Array Value) (hx : a.eval x = .agg V) (hV : V.size = 32)
    (h : K (a.put o.dst (.slice (some ⟨w.heap.size, 0, none⟩) 1 1)) (w.alloc (.cells V 56))) : if Region.wanted o (yielded ops a.tmps) = true then Oper.wp Tryz.prog o a w K Q else E := by
  have hw : Region.wanted o (yielded ops a.tmps) = true := by simp [Region.wanted, hgd]
  rw [if_pos hw]
  unfold Oper.wp execOp
  simp only [ho, Sem.run_bind, Sem.run_pure, Result.andThen_ok, List.map_toArray, List.map_cons, List.map_nil, hx, build1 V hV]
  exact h
/-- What a row of hashes is given back as. -/
def Rwd (w w' : World) (l : List (List UInt8)) (r : Ending) : Prop := ∃ v, r = .returned v ∧ w'.ownsRow w.heap.size 56 32 v l.length (hsc l) ∧ Nw w w'

set_option maxRecDepth 100000 in
set_option maxHeartbeats 2000000 in
theorem rpl (g o n cap k m : Nat)  (w : World) (l : List (List UInt8)) (A : List UInt8) (hA : A.length = 32) (hll : l.length ≤ 100) (hn : 2 ≤ n) (hn2 : n ≤ 1048576) (hk : k = spl n) (hcap : n ≤ cap) (hm : m ≤ n)  (hlt : m < k)
    (QA : ∀ W, Nw w W → Calls Tryz.prog 117 #[.int .i64 (m : Int), .slice (some ⟨g, o, none⟩) k cap] W fun r w' => Rwd W w' l r)
    (QB : ∀ W, Nw w W → Calls Tryz.prog 17 #[.slice (some ⟨g, o + k, none⟩) (n - k) (cap - k)] W fun e w' => e = .returned (.agg (hbs A)) ∧ Nw W w') :
    Calls Tryz.prog 117 #[.int .i64 (m : Int), .slice (some ⟨g, o, none⟩) n cap] w fun r w' => Rwd w w' (l ++ [A]) r := by
  obtain ⟨i0, hi, hz0, hz1, hz2⟩ := info_parts infoHs
  have QA' := show Hid (∀ W, Nw w W → Calls Tryz.prog 117 #[.int .i64 (m : Int), .slice (some ⟨g, o, none⟩) k cap] W fun r w' => Rwd W w' l r) from QA
  have QB' := show Hid (∀ W, Nw w W → Calls Tryz.prog 17 #[.slice (some ⟨g, o + k, none⟩) (n - k) (cap - k)] W fun e w' => e = .returned (.agg (hbs A)) ∧ Nw W w') from QB
  have QS := show Hid _ from below_any n hn hn2
  have hkn := spl_lt hn
  rw [← hk] at QS hkn
  clear QA QB hk
  have hc1 := cut_h g o n cap k .i64 (by omega)
  have hc2 := cut_l g o n cap k .i64 (by omega) (by omega)
  have HKN : Hid (k < n) := hkn
  have HCN : Hid (n ≤ cap) := hcap
  have hRl : (hbs A).size = 32 := by rw [hbs_size, hA]
  have hn1 : ((n : Int) == 1) = false := by simp; omega
  have hlt1 : (m : Int) < (k : Int) := by omega
  have HLL : Hid (l.length ≤ 100) := hll
  clear hkn hcap hll hA
  go_enter Tryz.func117, Tryz.ntmps117
  go_wp2_with fail
  refine (QS.out _).mono ?_
  rintro e w1 ⟨rfl, h1⟩
  have NW1 : Hid (Nw w w1) := by rw [h1]; exact nwr w
  clear h1
  go_wp2_with fail
  have nb : Nw w1 w1.drew := (Fr.refl _ _).drew
  refine wp_region_held_drew (S := fun _ => True) (by kernel_rfl) trivial ?_
  intro hS0
  refine wpAnyH_take (i := 0) (v := .int .i64 (m : Int)) rfl (by kernel_rfl) (by kernel_rfl) (by kernel_rfl) (fun _ _ _ h => h) (Or.inl ⟨by rfl, by intro w hw; go_simp⟩) hS0 ?_
  try simp only [Act.put, List.setIfInBounds_toArray, List.set_cons_zero, List.set_cons_succ]
  refine wpAnyH_take (i := 1) (v := .slice (some ⟨g, o, none⟩) n cap) rfl (by kernel_rfl) (by kernel_rfl) (by kernel_rfl) (fun _ _ _ h => h) (Or.inl ⟨by rfl, by intro w hw; go_simp⟩) hS0 ?_
  try simp only [Act.put, List.setIfInBounds_toArray, List.set_cons_zero, List.set_cons_succ]
  refine wpAnyH_take (i := 2) (v := .int .i64 (k : Int)) rfl (by kernel_rfl) (by kernel_rfl) (by kernel_rfl) (fun _ _ _ h => h) (Or.inl ⟨by rfl, by intro w hw; go_simp⟩) hS0 ?_
  try simp only [Act.put, List.setIfInBounds_toArray, List.set_cons_zero, List.set_cons_succ]
  refine wpAnyH_take (i := 3) (v := .slice (some ⟨g, o, none⟩) k cap) rfl (by kernel_rfl) (by kernel_rfl) (by kernel_rfl) (fun _ _ _ h => h) (Or.inl ⟨by rfl, by intro w hw; have := hc1 w; go_simp⟩) hS0 ?_
  try simp only [Act.put, List.setIfInBounds_toArray, List.set_cons_zero, List.set_cons_succ]
  refine wpAnyH_take (i := 5) (v := .slice (some ⟨g, o, none⟩) n cap) rfl (by kernel_rfl) (by kernel_rfl) (by kernel_rfl) (fun _ _ _ h => h) (Or.inl ⟨by rfl, by intro w hw; go_simp⟩) hS0 ?_
  try simp only [Act.put, List.setIfInBounds_toArray, List.set_cons_zero, List.set_cons_succ]
  refine wpAnyH_take (i := 6) (v := .int .i64 (k : Int)) rfl (by kernel_rfl) (by kernel_rfl) (by kernel_rfl) (fun _ _ _ h => h) (Or.inl ⟨by rfl, by intro w hw; go_simp⟩) hS0 ?_
  try simp only [Act.put, List.setIfInBounds_toArray, List.set_cons_zero, List.set_cons_succ]
  refine wpAnyH_take (i := 7) (v := .slice (some ⟨g, o + k, none⟩) (n - k) (cap - k)) rfl (by kernel_rfl) (by kernel_rfl) (by kernel_rfl) (fun _ _ _ h => h) (Or.inl ⟨by rfl, by intro w hw; have := hc2 w; go_simp⟩) hS0 ?_
  try simp only [Act.put, List.setIfInBounds_toArray, List.set_cons_zero, List.set_cons_succ]
  refine wpAnyH_ready (rs := [4]) (by kernel_rfl) (by simp) ?_
  refine AllReadyH.cons rfl (fun K' hK => ?_) AllReadyH.nil
  go_simp
  go_wp2_with (go_at_call 117; refine (QA'.out _ (NW1.out.tr nb)).mono ?_; rintro e2 w2 ⟨v2, rfl, o2, n2⟩)
  have m2 : Nw w1 w2 := Nw.tr nb n2
  have O2 : Hid (w2.ownsRow w.heap.size 56 32 v2 l.length (hsc l)) := ownsRow_base o2 (Nat.le_trans NW1.out.size nb.size)
  obtain ⟨va, vc, rfl⟩ := ownsRow_form o2
  refine hK.out _ _ trivial (fun hS0 => ?_)
  try simp only [Act.put, List.setIfInBounds_toArray, List.set_cons_zero, List.set_cons_succ]
  refine wpAnyH_ready (rs := [8]) (by kernel_rfl) (by simp) ?_
  refine AllReadyH.cons rfl (fun K' hK => ?_) AllReadyH.nil
  go_simp
  go_wp2_with (go_at_call 17; refine (QB'.out _ (NW1.out.tr m2)).mono ?_; rintro e3 w3 ⟨rfl, n3⟩)
  have m3 : Nw w1 w3 := Nw.tr m2 n3
  have O3 : Hid (w3.ownsRow w.heap.size 56 32 (.slice va l.length vc) l.length (hsc l)) := ownsRow_keep O2.out (fun g hg => n3.block g (O2.out.lt g hg).2 (fun f => f))
  refine hK.out _ _ trivial (fun hS0 => ?_)
  try simp only [Act.put, List.setIfInBounds_toArray, List.set_cons_zero, List.set_cons_succ]
  refine wpAnyH_ready (rs := [9]) (by kernel_rfl) (by simp) ?_
  refine AllReadyH.cons rfl (fun K' hK => ?_) AllReadyH.nil
  refine step_build1 rfl (.tmp 23) rfl (hbs A) rfl hRl ?_
  refine hK.out _ _ trivial (fun hS0 => ?_)
  try simp only [Act.put, List.setIfInBounds_toArray, List.set_cons_zero, List.set_cons_succ]
  refine wpAnyH_ready (rs := [10]) (by kernel_rfl) (by simp) ?_
  refine AllReadyH.cons rfl (fun K' hK => ?_) AllReadyH.nil
  refine step_two rfl (.tmp 19) (.tmp 24) 57 rfl w.heap.size 56 i0 (.agg z32) 32 32 Tryz.underlying57 hi hz0 hz1 hz2 z32_size (by decide) (.slice va l.length vc) l.length (hsc l) rfl (O3.out.alloc _) ⟨w3.heap.size, 0, none⟩ 1 1 (hbs A).toList rfl (by simp [hRl]) (hash_new _ _ _) (hbs_one _) (by have := HLL.out; unfold maxLen; omega) (by have := HLL.out; omega) (by have := NW1.out.size; have := m3.size; simp; omega) ?_
  intro v' w5 o5 t5
  have n5 : Nw w w5 := ((NW1.out.tr m3).alloc _).trans t5.fr (fun j hj q => by have := (O3.out.lt j q).1; omega)
  obtain ⟨xa, xc, rfl⟩ := ownsRow_form o5
  refine hK.out _ _ trivial (fun hS0 => ?_)
  try simp only [Act.put, List.setIfInBounds_toArray, List.set_cons_zero, List.set_cons_succ]
  refine wpAnyH_ready (rs := [11]) (by kernel_rfl) (by simp) ?_
  refine AllReadyH.cons rfl (fun K' hK => ?_) AllReadyH.nil
  go_simp
  refine hK.out _ _ trivial (fun hS0 => ?_)
  try simp only [Act.put, List.setIfInBounds_toArray, List.set_cons_zero, List.set_cons_succ]
  refine wpAnyH_done (by kernel_rfl) ?_ _
  go_wp2_with fail
  refine bodyPost_ret (v := .slice xa (l.length + 1) xc) (by simp [results, Tryz.results117]) rfl ⟨_, rfl, ?_, n5⟩
  rw [List.length_append, hsc_app, hsc_one]
  exact o5

set_option maxRecDepth 100000 in
set_option maxHeartbeats 2000000 in
theorem rpr (g o n cap k m mk : Nat)  (w : World) (l : List (List UInt8)) (A : List UInt8) (hA : A.length = 32) (hll : l.length ≤ 100) (hn : 2 ≤ n) (hn2 : n ≤ 1048576) (hk : k = spl n) (hcap : n ≤ cap) (hm : m ≤ n) (hmk : m = k + mk) 
    (QA : ∀ W, Nw w W → Calls Tryz.prog 117 #[.int .i64 (mk : Int), .slice (some ⟨g, o + k, none⟩) (n - k) (cap - k)] W fun r w' => Rwd W w' l r)
    (QB : ∀ W, Nw w W → Calls Tryz.prog 17 #[.slice (some ⟨g, o, none⟩) k cap] W fun e w' => e = .returned (.agg (hbs A)) ∧ Nw W w') :
    Calls Tryz.prog 117 #[.int .i64 (m : Int), .slice (some ⟨g, o, none⟩) n cap] w fun r w' => Rwd w w' (l ++ [A]) r := by
  obtain ⟨i0, hi, hz0, hz1, hz2⟩ := info_parts infoHs
  have QA' := show Hid (∀ W, Nw w W → Calls Tryz.prog 117 #[.int .i64 (mk : Int), .slice (some ⟨g, o + k, none⟩) (n - k) (cap - k)] W fun r w' => Rwd W w' l r) from QA
  have QB' := show Hid (∀ W, Nw w W → Calls Tryz.prog 17 #[.slice (some ⟨g, o, none⟩) k cap] W fun e w' => e = .returned (.agg (hbs A)) ∧ Nw W w') from QB
  have QS := show Hid _ from below_any n hn hn2
  have hkn := spl_lt hn
  rw [← hk] at QS hkn
  clear QA QB hk
  have hc1 := cut_h g o n cap k .i64 (by omega)
  have hc2 := cut_l g o n cap k .i64 (by omega) (by omega)
  have HKN : Hid (k < n) := hkn
  have HCN : Hid (n ≤ cap) := hcap
  have hRl : (hbs A).size = 32 := by rw [hbs_size, hA]
  have hn1 : ((n : Int) == 1) = false := by simp; omega
  have hlt1 : ¬ (m : Int) < (k : Int) := by omega
  have hsub : (m : Int) - (k : Int) = (mk : Int) := by omega
  have hwr : IntKind.i64.wrap (mk : Int) = (mk : Int) := by rw [IntKind.wrap_i64]; omega
  have HMK : Hid (m = k + mk) := hmk
  clear hmk
  have HLL : Hid (l.length ≤ 100) := hll
  clear hkn hcap hll hA
  go_enter Tryz.func117, Tryz.ntmps117
  go_wp2_with fail
  refine (QS.out _).mono ?_
  rintro e w1 ⟨rfl, h1⟩
  have NW1 : Hid (Nw w w1) := by rw [h1]; exact nwr w
  clear h1
  go_wp2_with fail
  have nb : Nw w1 w1.drew := (Fr.refl _ _).drew
  refine wp_region_held_drew (S := fun _ => True) (by kernel_rfl) trivial ?_
  intro hS0
  refine wpAnyH_take (i := 0) (v := .int .i64 (m : Int)) rfl (by kernel_rfl) (by kernel_rfl) (by kernel_rfl) (fun _ _ _ h => h) (Or.inl ⟨by rfl, by intro w hw; go_simp⟩) hS0 ?_
  try simp only [Act.put, List.setIfInBounds_toArray, List.set_cons_zero, List.set_cons_succ]
  refine wpAnyH_take (i := 1) (v := .int .i64 (k : Int)) rfl (by kernel_rfl) (by kernel_rfl) (by kernel_rfl) (fun _ _ _ h => h) (Or.inl ⟨by rfl, by intro w hw; go_simp⟩) hS0 ?_
  try simp only [Act.put, List.setIfInBounds_toArray, List.set_cons_zero, List.set_cons_succ]
  refine wpAnyH_take (i := 2) (v := .int .i64 (mk : Int)) rfl (by kernel_rfl) (by kernel_rfl) (by kernel_rfl) (fun _ _ _ h => h) (Or.inl ⟨by rfl, by intro w hw; go_simp⟩) hS0 ?_
  try simp only [Act.put, List.setIfInBounds_toArray, List.set_cons_zero, List.set_cons_succ]
  refine wpAnyH_take (i := 3) (v := .slice (some ⟨g, o, none⟩) n cap) rfl (by kernel_rfl) (by kernel_rfl) (by kernel_rfl) (fun _ _ _ h => h) (Or.inl ⟨by rfl, by intro w hw; go_simp⟩) hS0 ?_
  try simp only [Act.put, List.setIfInBounds_toArray, List.set_cons_zero, List.set_cons_succ]
  refine wpAnyH_take (i := 4) (v := .int .i64 (k : Int)) rfl (by kernel_rfl) (by kernel_rfl) (by kernel_rfl) (fun _ _ _ h => h) (Or.inl ⟨by rfl, by intro w hw; go_simp⟩) hS0 ?_
  try simp only [Act.put, List.setIfInBounds_toArray, List.set_cons_zero, List.set_cons_succ]
  refine wpAnyH_take (i := 5) (v := .slice (some ⟨g, o + k, none⟩) (n - k) (cap - k)) rfl (by kernel_rfl) (by kernel_rfl) (by kernel_rfl) (fun _ _ _ h => h) (Or.inl ⟨by rfl, by intro w hw; have := hc2 w; go_simp⟩) hS0 ?_
  try simp only [Act.put, List.setIfInBounds_toArray, List.set_cons_zero, List.set_cons_succ]
  refine wpAnyH_take (i := 7) (v := .slice (some ⟨g, o, none⟩) n cap) rfl (by kernel_rfl) (by kernel_rfl) (by kernel_rfl) (fun _ _ _ h => h) (Or.inl ⟨by rfl, by intro w hw; go_simp⟩) hS0 ?_
  try simp only [Act.put, List.setIfInBounds_toArray, List.set_cons_zero, List.set_cons_succ]
  refine wpAnyH_take (i := 8) (v := .int .i64 (k : Int)) rfl (by kernel_rfl) (by kernel_rfl) (by kernel_rfl) (fun _ _ _ h => h) (Or.inl ⟨by rfl, by intro w hw; go_simp⟩) hS0 ?_
  try simp only [Act.put, List.setIfInBounds_toArray, List.set_cons_zero, List.set_cons_succ]
  refine wpAnyH_take (i := 9) (v := .slice (some ⟨g, o, none⟩) k cap) rfl (by kernel_rfl) (by kernel_rfl) (by kernel_rfl) (fun _ _ _ h => h) (Or.inl ⟨by rfl, by intro w hw; have := hc1 w; go_simp⟩) hS0 ?_
  try simp only [Act.put, List.setIfInBounds_toArray, List.set_cons_zero, List.set_cons_succ]
  refine wpAnyH_ready (rs := [6]) (by kernel_rfl) (by simp) ?_
  refine AllReadyH.cons rfl (fun K' hK => ?_) AllReadyH.nil
  go_simp
  go_wp2_with (go_at_call 117; refine (QA'.out _ (NW1.out.tr nb)).mono ?_; rintro e2 w2 ⟨v2, rfl, o2, n2⟩)
  have m2 : Nw w1 w2 := Nw.tr nb n2
  have O2 : Hid (w2.ownsRow w.heap.size 56 32 v2 l.length (hsc l)) := ownsRow_base o2 (Nat.le_trans NW1.out.size nb.size)
  obtain ⟨va, vc, rfl⟩ := ownsRow_form o2
  refine hK.out _ _ trivial (fun hS0 => ?_)
  try simp only [Act.put, List.setIfInBounds_toArray, List.set_cons_zero, List.set_cons_succ]
  refine wpAnyH_ready (rs := [10]) (by kernel_rfl) (by simp) ?_
  refine AllReadyH.cons rfl (fun K' hK => ?_) AllReadyH.nil
  go_simp
  go_wp2_with (go_at_call 17; refine (QB'.out _ (NW1.out.tr m2)).mono ?_; rintro e3 w3 ⟨rfl, n3⟩)
  have m3 : Nw w1 w3 := Nw.tr m2 n3
  have O3 : Hid (w3.ownsRow w.heap.size 56 32 (.slice va l.length vc) l.length (hsc l)) := ownsRow_keep O2.out (fun g hg => n3.block g (O2.out.lt g hg).2 (fun f => f))
  refine hK.out _ _ trivial (fun hS0 => ?_)
  try simp only [Act.put, List.setIfInBounds_toArray, List.set_cons_zero, List.set_cons_succ]
  refine wpAnyH_ready (rs := [11]) (by kernel_rfl) (by simp) ?_
  refine AllReadyH.cons rfl (fun K' hK => ?_) AllReadyH.nil
  refine step_build1 rfl (.tmp 36) rfl (hbs A) rfl hRl ?_
  refine hK.out _ _ trivial (fun hS0 => ?_)
  try simp only [Act.put, List.setIfInBounds_toArray, List.set_cons_zero, List.set_cons_succ]
  refine wpAnyH_ready (rs := [12]) (by kernel_rfl) (by simp) ?_
  refine AllReadyH.cons rfl (fun K' hK => ?_) AllReadyH.nil
  refine step_two rfl (.tmp 32) (.tmp 37) 57 rfl w.heap.size 56 i0 (.agg z32) 32 32 Tryz.underlying57 hi hz0 hz1 hz2 z32_size (by decide) (.slice va l.length vc) l.length (hsc l) rfl (O3.out.alloc _) ⟨w3.heap.size, 0, none⟩ 1 1 (hbs A).toList rfl (by simp [hRl]) (hash_new _ _ _) (hbs_one _) (by have := HLL.out; unfold maxLen; omega) (by have := HLL.out; omega) (by have := NW1.out.size; have := m3.size; simp; omega) ?_
  intro v' w5 o5 t5
  have n5 : Nw w w5 := ((NW1.out.tr m3).alloc _).trans t5.fr (fun j hj q => by have := (O3.out.lt j q).1; omega)
  obtain ⟨xa, xc, rfl⟩ := ownsRow_form o5
  refine hK.out _ _ trivial (fun hS0 => ?_)
  try simp only [Act.put, List.setIfInBounds_toArray, List.set_cons_zero, List.set_cons_succ]
  refine wpAnyH_ready (rs := [13]) (by kernel_rfl) (by simp) ?_
  refine AllReadyH.cons rfl (fun K' hK => ?_) AllReadyH.nil
  go_simp
  refine hK.out _ _ trivial (fun hS0 => ?_)
  try simp only [Act.put, List.setIfInBounds_toArray, List.set_cons_zero, List.set_cons_succ]
  refine wpAnyH_done (by kernel_rfl) ?_ _
  go_wp2_with fail
  refine bodyPost_ret (v := .slice xa (l.length + 1) xc) (by simp [results, Tryz.results117]) rfl ⟨_, rfl, ?_, n5⟩
  rw [List.length_append, hsc_app, hsc_one]
  exact o5

set_option maxRecDepth 100000 in
set_option maxHeartbeats 2000000 in
theorem rsl (g o n cap k m : Nat) (kn : Bool) (w : World) (l : List (List UInt8)) (A : List UInt8) (hA : A.length = 32) (hll : l.length ≤ 100) (hn : 2 ≤ n) (hn2 : n ≤ 1048576) (hk : k = spl n) (hcap : n ≤ cap) (hm : m ≤ n)  (hmn : m ≠ n) (hlt : m ≤ k)
    (QA : ∀ W, Nw w W → Calls Tryz.prog 173 #[.int .i64 (m : Int), .slice (some ⟨g, o, none⟩) k cap, .bool kn] W fun r w' => Rwd W w' l r)
    (QB : ∀ W, Nw w W → Calls Tryz.prog 17 #[.slice (some ⟨g, o + k, none⟩) (n - k) (cap - k)] W fun e w' => e = .returned (.agg (hbs A)) ∧ Nw W w') :
    Calls Tryz.prog 173 #[.int .i64 (m : Int), .slice (some ⟨g, o, none⟩) n cap, .bool kn] w fun r w' => Rwd w w' (l ++ [A]) r := by
  obtain ⟨i0, hi, hz0, hz1, hz2⟩ := info_parts infoHs
  have QA' := show Hid (∀ W, Nw w W → Calls Tryz.prog 173 #[.int .i64 (m : Int), .slice (some ⟨g, o, none⟩) k cap, .bool kn] W fun r w' => Rwd W w' l r) from QA
  have QB' := show Hid (∀ W, Nw w W → Calls Tryz.prog 17 #[.slice (some ⟨g, o + k, none⟩) (n - k) (cap - k)] W fun e w' => e = .returned (.agg (hbs A)) ∧ Nw W w') from QB
  have QS := show Hid _ from below_any n hn hn2
  have hkn := spl_lt hn
  rw [← hk] at QS hkn
  clear QA QB hk
  have hc1 := cut_h g o n cap k .i64 (by omega)
  have hc2 := cut_l g o n cap k .i64 (by omega) (by omega)
  have HKN : Hid (k < n) := hkn
  have HCN : Hid (n ≤ cap) := hcap
  have hRl : (hbs A).size = 32 := by rw [hbs_size, hA]
  have hne : ((m : Int) == (n : Int)) = false := by simp; omega
  have hlt1 : (m : Int) ≤ (k : Int) := by omega
  have HLL : Hid (l.length ≤ 100) := hll
  clear hkn hcap hll hA
  go_enter Tryz.func173, Tryz.ntmps173
  go_wp2_with fail
  refine (QS.out _).mono ?_
  rintro e w1 ⟨rfl, h1⟩
  have NW1 : Hid (Nw w w1) := by rw [h1]; exact nwr w
  clear h1
  go_wp2_with fail
  have nb : Nw w1 w1.drew := (Fr.refl _ _).drew
  refine wp_region_held_drew (S := fun _ => True) (by kernel_rfl) trivial ?_
  intro hS0
  refine wpAnyH_take (i := 0) (v := .int .i64 (m : Int)) rfl (by kernel_rfl) (by kernel_rfl) (by kernel_rfl) (fun _ _ _ h => h) (Or.inl ⟨by rfl, by intro w hw; go_simp⟩) hS0 ?_
  try simp only [Act.put, List.setIfInBounds_toArray, List.set_cons_zero, List.set_cons_succ]
  refine wpAnyH_take (i := 1) (v := .slice (some ⟨g, o, none⟩) n cap) rfl (by kernel_rfl) (by kernel_rfl) (by kernel_rfl) (fun _ _ _ h => h) (Or.inl ⟨by rfl, by intro w hw; go_simp⟩) hS0 ?_
  try simp only [Act.put, List.setIfInBounds_toArray, List.set_cons_zero, List.set_cons_succ]
  refine wpAnyH_take (i := 2) (v := .int .i64 (k : Int)) rfl (by kernel_rfl) (by kernel_rfl) (by kernel_rfl) (fun _ _ _ h => h) (Or.inl ⟨by rfl, by intro w hw; go_simp⟩) hS0 ?_
  try simp only [Act.put, List.setIfInBounds_toArray, List.set_cons_zero, List.set_cons_succ]
  refine wpAnyH_take (i := 3) (v := .slice (some ⟨g, o, none⟩) k cap) rfl (by kernel_rfl) (by kernel_rfl) (by kernel_rfl) (fun _ _ _ h => h) (Or.inl ⟨by rfl, by intro w hw; have := hc1 w; go_simp⟩) hS0 ?_
  try simp only [Act.put, List.setIfInBounds_toArray, List.set_cons_zero, List.set_cons_succ]
  refine wpAnyH_take (i := 4) (v := .bool kn) rfl (by kernel_rfl) (by kernel_rfl) (by kernel_rfl) (fun _ _ _ h => h) (Or.inl ⟨by rfl, by intro w hw; go_simp⟩) hS0 ?_
  try simp only [Act.put, List.setIfInBounds_toArray, List.set_cons_zero, List.set_cons_succ]
  refine wpAnyH_take (i := 6) (v := .slice (some ⟨g, o, none⟩) n cap) rfl (by kernel_rfl) (by kernel_rfl) (by kernel_rfl) (fun _ _ _ h => h) (Or.inl ⟨by rfl, by intro w hw; go_simp⟩) hS0 ?_
  try simp only [Act.put, List.setIfInBounds_toArray, List.set_cons_zero, List.set_cons_succ]
  refine wpAnyH_take (i := 7) (v := .int .i64 (k : Int)) rfl (by kernel_rfl) (by kernel_rfl) (by kernel_rfl) (fun _ _ _ h => h) (Or.inl ⟨by rfl, by intro w hw; go_simp⟩) hS0 ?_
  try simp only [Act.put, List.setIfInBounds_toArray, List.set_cons_zero, List.set_cons_succ]
  refine wpAnyH_take (i := 8) (v := .slice (some ⟨g, o + k, none⟩) (n - k) (cap - k)) rfl (by kernel_rfl) (by kernel_rfl) (by kernel_rfl) (fun _ _ _ h => h) (Or.inl ⟨by rfl, by intro w hw; have := hc2 w; go_simp⟩) hS0 ?_
  try simp only [Act.put, List.setIfInBounds_toArray, List.set_cons_zero, List.set_cons_succ]
  refine wpAnyH_ready (rs := [5]) (by kernel_rfl) (by simp) ?_
  refine AllReadyH.cons rfl (fun K' hK => ?_) AllReadyH.nil
  go_simp
  go_wp2_with (go_at_call 173; refine (QA'.out _ (NW1.out.tr nb)).mono ?_; rintro e2 w2 ⟨v2, rfl, o2, n2⟩)
  have m2 : Nw w1 w2 := Nw.tr nb n2
  have O2 : Hid (w2.ownsRow w.heap.size 56 32 v2 l.length (hsc l)) := ownsRow_base o2 (Nat.le_trans NW1.out.size nb.size)
  obtain ⟨va, vc, rfl⟩ := ownsRow_form o2
  refine hK.out _ _ trivial (fun hS0 => ?_)
  try simp only [Act.put, List.setIfInBounds_toArray, List.set_cons_zero, List.set_cons_succ]
  refine wpAnyH_ready (rs := [9]) (by kernel_rfl) (by simp) ?_
  refine AllReadyH.cons rfl (fun K' hK => ?_) AllReadyH.nil
  go_simp
  go_wp2_with (go_at_call 17; refine (QB'.out _ (NW1.out.tr m2)).mono ?_; rintro e3 w3 ⟨rfl, n3⟩)
  have m3 : Nw w1 w3 := Nw.tr m2 n3
  have O3 : Hid (w3.ownsRow w.heap.size 56 32 (.slice va l.length vc) l.length (hsc l)) := ownsRow_keep O2.out (fun g hg => n3.block g (O2.out.lt g hg).2 (fun f => f))
  refine hK.out _ _ trivial (fun hS0 => ?_)
  try simp only [Act.put, List.setIfInBounds_toArray, List.set_cons_zero, List.set_cons_succ]
  refine wpAnyH_ready (rs := [10]) (by kernel_rfl) (by simp) ?_
  refine AllReadyH.cons rfl (fun K' hK => ?_) AllReadyH.nil
  refine step_build1 rfl (.tmp 31) rfl (hbs A) rfl hRl ?_
  refine hK.out _ _ trivial (fun hS0 => ?_)
  try simp only [Act.put, List.setIfInBounds_toArray, List.set_cons_zero, List.set_cons_succ]
  refine wpAnyH_ready (rs := [11]) (by kernel_rfl) (by simp) ?_
  refine AllReadyH.cons rfl (fun K' hK => ?_) AllReadyH.nil
  refine step_two rfl (.tmp 27) (.tmp 32) 57 rfl w.heap.size 56 i0 (.agg z32) 32 32 Tryz.underlying57 hi hz0 hz1 hz2 z32_size (by decide) (.slice va l.length vc) l.length (hsc l) rfl (O3.out.alloc _) ⟨w3.heap.size, 0, none⟩ 1 1 (hbs A).toList rfl (by simp [hRl]) (hash_new _ _ _) (hbs_one _) (by have := HLL.out; unfold maxLen; omega) (by have := HLL.out; omega) (by have := NW1.out.size; have := m3.size; simp; omega) ?_
  intro v' w5 o5 t5
  have n5 : Nw w w5 := ((NW1.out.tr m3).alloc _).trans t5.fr (fun j hj q => by have := (O3.out.lt j q).1; omega)
  obtain ⟨xa, xc, rfl⟩ := ownsRow_form o5
  refine hK.out _ _ trivial (fun hS0 => ?_)
  try simp only [Act.put, List.setIfInBounds_toArray, List.set_cons_zero, List.set_cons_succ]
  refine wpAnyH_ready (rs := [12]) (by kernel_rfl) (by simp) ?_
  refine AllReadyH.cons rfl (fun K' hK => ?_) AllReadyH.nil
  go_simp
  refine hK.out _ _ trivial (fun hS0 => ?_)
  try simp only [Act.put, List.setIfInBounds_toArray, List.set_cons_zero, List.set_cons_succ]
  refine wpAnyH_done (by kernel_rfl) ?_ _
  go_wp2_with fail
  refine bodyPost_ret (v := .slice xa (l.length + 1) xc) (by simp [results, Tryz.results173]) rfl ⟨_, rfl, ?_, n5⟩
  rw [List.length_append, hsc_app, hsc_one]
  exact o5

set_option maxRecDepth 100000 in
set_option maxHeartbeats 2000000 in
theorem rsr (g o n cap k m mk : Nat) (kn : Bool) (w : World) (l : List (List UInt8)) (A : List UInt8) (hA : A.length = 32) (hll : l.length ≤ 100) (hn : 2 ≤ n) (hn2 : n ≤ 1048576) (hk : k = spl n) (hcap : n ≤ cap) (hm : m ≤ n) (hmk : m = k + mk) (hmn : m ≠ n) (hgt : k < m)
    (QA : ∀ W, Nw w W → Calls Tryz.prog 173 #[.int .i64 (mk : Int), .slice (some ⟨g, o + k, none⟩) (n - k) (cap - k), .bool false] W fun r w' => Rwd W w' l r)
    (QB : ∀ W, Nw w W → Calls Tryz.prog 17 #[.slice (some ⟨g, o, none⟩) k cap] W fun e w' => e = .returned (.agg (hbs A)) ∧ Nw W w') :
    Calls Tryz.prog 173 #[.int .i64 (m : Int), .slice (some ⟨g, o, none⟩) n cap, .bool kn] w fun r w' => Rwd w w' (l ++ [A]) r := by
  obtain ⟨i0, hi, hz0, hz1, hz2⟩ := info_parts infoHs
  have QA' := show Hid (∀ W, Nw w W → Calls Tryz.prog 173 #[.int .i64 (mk : Int), .slice (some ⟨g, o + k, none⟩) (n - k) (cap - k), .bool false] W fun r w' => Rwd W w' l r) from QA
  have QB' := show Hid (∀ W, Nw w W → Calls Tryz.prog 17 #[.slice (some ⟨g, o, none⟩) k cap] W fun e w' => e = .returned (.agg (hbs A)) ∧ Nw W w') from QB
  have QS := show Hid _ from below_any n hn hn2
  have hkn := spl_lt hn
  rw [← hk] at QS hkn
  clear QA QB hk
  have hc1 := cut_h g o n cap k .i64 (by omega)
  have hc2 := cut_l g o n cap k .i64 (by omega) (by omega)
  have HKN : Hid (k < n) := hkn
  have HCN : Hid (n ≤ cap) := hcap
  have hRl : (hbs A).size = 32 := by rw [hbs_size, hA]
  have hne : ((m : Int) == (n : Int)) = false := by simp; omega
  have hlt1 : ¬ (m : Int) ≤ (k : Int) := by omega
  have hsub : (m : Int) - (k : Int) = (mk : Int) := by omega
  have hwr : IntKind.i64.wrap (mk : Int) = (mk : Int) := by rw [IntKind.wrap_i64]; omega
  have HMK : Hid (m = k + mk) := hmk
  clear hmk
  have HLL : Hid (l.length ≤ 100) := hll
  clear hkn hcap hll hA
  go_enter Tryz.func173, Tryz.ntmps173
  go_wp2_with fail
  refine (QS.out _).mono ?_
  rintro e w1 ⟨rfl, h1⟩
  have NW1 : Hid (Nw w w1) := by rw [h1]; exact nwr w
  clear h1
  go_wp2_with fail
  have nb : Nw w1 w1.drew := (Fr.refl _ _).drew
  refine wp_region_held_drew (S := fun _ => True) (by kernel_rfl) trivial ?_
  intro hS0
  refine wpAnyH_take (i := 0) (v := .int .i64 (m : Int)) rfl (by kernel_rfl) (by kernel_rfl) (by kernel_rfl) (fun _ _ _ h => h) (Or.inl ⟨by rfl, by intro w hw; go_simp⟩) hS0 ?_
  try simp only [Act.put, List.setIfInBounds_toArray, List.set_cons_zero, List.set_cons_succ]
  refine wpAnyH_take (i := 1) (v := .int .i64 (k : Int)) rfl (by kernel_rfl) (by kernel_rfl) (by kernel_rfl) (fun _ _ _ h => h) (Or.inl ⟨by rfl, by intro w hw; go_simp⟩) hS0 ?_
  try simp only [Act.put, List.setIfInBounds_toArray, List.set_cons_zero, List.set_cons_succ]
  refine wpAnyH_take (i := 2) (v := .int .i64 (mk : Int)) rfl (by kernel_rfl) (by kernel_rfl) (by kernel_rfl) (fun _ _ _ h => h) (Or.inl ⟨by rfl, by intro w hw; go_simp⟩) hS0 ?_
  try simp only [Act.put, List.setIfInBounds_toArray, List.set_cons_zero, List.set_cons_succ]
  refine wpAnyH_take (i := 3) (v := .slice (some ⟨g, o, none⟩) n cap) rfl (by kernel_rfl) (by kernel_rfl) (by kernel_rfl) (fun _ _ _ h => h) (Or.inl ⟨by rfl, by intro w hw; go_simp⟩) hS0 ?_
  try simp only [Act.put, List.setIfInBounds_toArray, List.set_cons_zero, List.set_cons_succ]
  refine wpAnyH_take (i := 4) (v := .int .i64 (k : Int)) rfl (by kernel_rfl) (by kernel_rfl) (by kernel_rfl) (fun _ _ _ h => h) (Or.inl ⟨by rfl, by intro w hw; go_simp⟩) hS0 ?_
  try simp only [Act.put, List.setIfInBounds_toArray, List.set_cons_zero, List.set_cons_succ]
  refine wpAnyH_take (i := 5) (v := .slice (some ⟨g, o + k, none⟩) (n - k) (cap - k)) rfl (by kernel_rfl) (by kernel_rfl) (by kernel_rfl) (fun _ _ _ h => h) (Or.inl ⟨by rfl, by intro w hw; have := hc2 w; go_simp⟩) hS0 ?_
  try simp only [Act.put, List.setIfInBounds_toArray, List.set_cons_zero, List.set_cons_succ]
  refine wpAnyH_take (i := 7) (v := .slice (some ⟨g, o, none⟩) n cap) rfl (by kernel_rfl) (by kernel_rfl) (by kernel_rfl) (fun _ _ _ h => h) (Or.inl ⟨by rfl, by intro w hw; go_simp⟩) hS0 ?_
  try simp only [Act.put, List.setIfInBounds_toArray, List.set_cons_zero, List.set_cons_succ]
  refine wpAnyH_take (i := 8) (v := .int .i64 (k : Int)) rfl (by kernel_rfl) (by kernel_rfl) (by kernel_rfl) (fun _ _ _ h => h) (Or.inl ⟨by rfl, by intro w hw; go_simp⟩) hS0 ?_
  try simp only [Act.put, List.setIfInBounds_toArray, List.set_cons_zero, List.set_cons_succ]
  refine wpAnyH_take (i := 9) (v := .slice (some ⟨g, o, none⟩) k cap) rfl (by kernel_rfl) (by kernel_rfl) (by kernel_rfl) (fun _ _ _ h => h) (Or.inl ⟨by rfl, by intro w hw; have := hc1 w; go_simp⟩) hS0 ?_
  try simp only [Act.put, List.setIfInBounds_toArray, List.set_cons_zero, List.set_cons_succ]
  refine wpAnyH_ready (rs := [6]) (by kernel_rfl) (by simp) ?_
  refine AllReadyH.cons rfl (fun K' hK => ?_) AllReadyH.nil
  go_simp
  go_wp2_with (go_at_call 173; refine (QA'.out _ (NW1.out.tr nb)).mono ?_; rintro e2 w2 ⟨v2, rfl, o2, n2⟩)
  have m2 : Nw w1 w2 := Nw.tr nb n2
  have O2 : Hid (w2.ownsRow w.heap.size 56 32 v2 l.length (hsc l)) := ownsRow_base o2 (Nat.le_trans NW1.out.size nb.size)
  obtain ⟨va, vc, rfl⟩ := ownsRow_form o2
  refine hK.out _ _ trivial (fun hS0 => ?_)
  try simp only [Act.put, List.setIfInBounds_toArray, List.set_cons_zero, List.set_cons_succ]
  refine wpAnyH_ready (rs := [10]) (by kernel_rfl) (by simp) ?_
  refine AllReadyH.cons rfl (fun K' hK => ?_) AllReadyH.nil
  go_simp
  go_wp2_with (go_at_call 17; refine (QB'.out _ (NW1.out.tr m2)).mono ?_; rintro e3 w3 ⟨rfl, n3⟩)
  have m3 : Nw w1 w3 := Nw.tr m2 n3
  have O3 : Hid (w3.ownsRow w.heap.size 56 32 (.slice va l.length vc) l.length (hsc l)) := ownsRow_keep O2.out (fun g hg => n3.block g (O2.out.lt g hg).2 (fun f => f))
  refine hK.out _ _ trivial (fun hS0 => ?_)
  try simp only [Act.put, List.setIfInBounds_toArray, List.set_cons_zero, List.set_cons_succ]
  refine wpAnyH_ready (rs := [11]) (by kernel_rfl) (by simp) ?_
  refine AllReadyH.cons rfl (fun K' hK => ?_) AllReadyH.nil
  refine step_build1 rfl (.tmp 44) rfl (hbs A) rfl hRl ?_
  refine hK.out _ _ trivial (fun hS0 => ?_)
  try simp only [Act.put, List.setIfInBounds_toArray, List.set_cons_zero, List.set_cons_succ]
  refine wpAnyH_ready (rs := [12]) (by kernel_rfl) (by simp) ?_
  refine AllReadyH.cons rfl (fun K' hK => ?_) AllReadyH.nil
  refine step_two rfl (.tmp 40) (.tmp 45) 57 rfl w.heap.size 56 i0 (.agg z32) 32 32 Tryz.underlying57 hi hz0 hz1 hz2 z32_size (by decide) (.slice va l.length vc) l.length (hsc l) rfl (O3.out.alloc _) ⟨w3.heap.size, 0, none⟩ 1 1 (hbs A).toList rfl (by simp [hRl]) (hash_new _ _ _) (hbs_one _) (by have := HLL.out; unfold maxLen; omega) (by have := HLL.out; omega) (by have := NW1.out.size; have := m3.size; simp; omega) ?_
  intro v' w5 o5 t5
  have n5 : Nw w w5 := ((NW1.out.tr m3).alloc _).trans t5.fr (fun j hj q => by have := (O3.out.lt j q).1; omega)
  obtain ⟨xa, xc, rfl⟩ := ownsRow_form o5
  refine hK.out _ _ trivial (fun hS0 => ?_)
  try simp only [Act.put, List.setIfInBounds_toArray, List.set_cons_zero, List.set_cons_succ]
  refine wpAnyH_ready (rs := [13]) (by kernel_rfl) (by simp) ?_
  refine AllReadyH.cons rfl (fun K' hK => ?_) AllReadyH.nil
  go_simp
  refine hK.out _ _ trivial (fun hS0 => ?_)
  try simp only [Act.put, List.setIfInBounds_toArray, List.set_cons_zero, List.set_cons_succ]
  refine wpAnyH_done (by kernel_rfl) ?_ _
  go_wp2_with fail
  refine bodyPost_ret (v := .slice xa (l.length + 1) xc) (by simp [results, Tryz.results173]) rfl ⟨_, rfl, ?_, n5⟩
  rw [List.length_append, hsc_app, hsc_one]
  exact o5

theorem rpath_nil (m n cap : Nat) (p : Option Addr) (w : World) (h : n = 1) : Calls Tryz.prog 117 #[.int .i64 (m : Int), .slice p n cap] w fun r w' => Rwd w w' [] r := by
  subst h
  go_enter Tryz.func117, Tryz.ntmps117
  go_wp2
  exact bodyPost_ret (v := .slice none 0 0) (by simp [results, Tryz.results117]) rfl ⟨_, rfl, World.ownsRow_nil _ _ _ _, nwr w⟩
theorem rsub_nil (m cap : Nat) (p : Option Addr) (w : World) : Calls Tryz.prog 173 #[.int .i64 (m : Int), .slice p m cap, .bool true] w fun r w' => Rwd w w' [] r := by
  have he : ((m : Int) == (m : Int)) = true := by simp
  go_enter Tryz.func173, Tryz.ntmps173
  go_wp2
  exact bodyPost_ret (v := .slice none 0 0) (by simp [results, Tryz.results173]) rfl ⟨_, rfl, World.ownsRow_nil _ _ _ _, nwr w⟩
/-- A row of one hash that was made as a literal. -/
theorem lit_row {w : World} {B : Nat} (A : List UInt8) (hA : A.length = 32) (hB : B ≤ w.heap.size) : (w.alloc (.cells (hbs A) 56)).ownsRow B 56 32 (.slice (some ⟨w.heap.size, 0, none⟩) 1 1) [A].length (hsc [A]) := by
  refine ⟨by simp [hsc, bc_len, hA], .inr ⟨w.heap.size, 1, hbs A, rfl, hB, heap_new _ _, by simp, by decide, by simp [hbs_size, hA], ?_⟩⟩
  simp only [hsc, hbs, List.flatMap_cons, List.flatMap_nil, List.append_nil]
  rw [List.take_of_length_le (by simp [bc_len, hA])]
set_option maxHeartbeats 1000000 in
theorem rsub_one (m cap : Nat) (p : Option Addr) (w : World) (A : List UInt8) (hA : A.length = 32) (QB : ∀ W, Nw w W → Calls Tryz.prog 17 #[.slice p m cap] W fun e w' => e = .returned (.agg (hbs A)) ∧ Nw W w') :
    Calls Tryz.prog 173 #[.int .i64 (m : Int), .slice p m cap, .bool false] w fun r w' => Rwd w w' [A] r := by
  have he : ((m : Int) == (m : Int)) = true := by simp
  have QB' := show Hid (∀ W, Nw w W → Calls Tryz.prog 17 #[.slice p m cap] W fun e w' => e = .returned (.agg (hbs A)) ∧ Nw W w') from QB
  have hRl : (hbs A).size = 32 := by rw [hbs_size, hA]
  have HA : Hid (A.length = 32) := hA
  clear QB hA
  go_enter Tryz.func173, Tryz.ntmps173
  go_wp2_with fail
  refine (QB'.out _ (nwr w)).mono ?_
  rintro e w1 ⟨rfl, n1⟩
  go_wp2_with (refine wp_build1 rfl (.tmp 14) rfl (hbs A) rfl hRl ?_)
  exact bodyPost_ret (v := .slice (some ⟨w1.heap.size, 0, none⟩) 1 1) (by simp [results, Tryz.results173]) rfl ⟨_, rfl, lit_row A HA.out n1.size, n1.alloc _⟩
end Go.Proofs.YtdhlmpjoggnkkaaGreatDoor
