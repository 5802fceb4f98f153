/- law15: path, sub, batch. -/
import Derived.Test.YtlaiomgebkeldaaDoorYv
import Derived.Laws.AppendOwn
namespace Go.Proofs.YtlaiomgebkeldaaDoor
open Go.RowKit
set_option linter.unusedVariables false
set_option linter.unusedSimpArgs false
theorem elemHu : Tryd.prog.elem 22 = 26 := by kernel_rfl
theorem undHu : Tryd.prog.underlying 22 = some (.slice (Tryd.prog.elem 22)) := by rw [elemHu]; exact Tryd.underlying22
theorem cut_hh (ad : Option Addr) (n cap k : Nat) (hk : k ≤ cap) (w : World) : (Instr.sliceAt 22 (.slice ad n cap) none (some (.int .i64 (k : Int))) none).run Tryd.prog w = .ok (.slice ad k cap) w := by
  rw [run_sliceAt_slice w _ _ _ _ _ undHu, run_slice_h w _ ad n cap undHu .i64 k (by omega) (by omega), elemHu, Tryd.sizeOf26 w]
  cases ad <;> simp [sliced, Addr.add]
theorem cut_hl (g o n cap k : Nat) (hk : k < n) (hn : n ≤ cap) (w : World) : (Instr.sliceAt 22 (.slice (some ⟨g, o, none⟩) n cap) (some (.int .i64 (k : Int))) none none).run Tryd.prog w = .ok (.slice (some ⟨g, o + k * 32, none⟩) (n - k) (cap - k)) w := by
  rw [run_sliceAt_slice w _ _ _ _ _ undHu, run_slice_l w _ (some ⟨g, o, none⟩) n cap undHu .i64 k (by omega) (by omega), elemHu, Tryd.sizeOf26 w]
  have : ¬ cap = k := by omega
  simp [sliced, this, Addr.add]
def sbh (L : List (List UInt8)) (b e : Nat) : List (List UInt8) := (L.take e).drop b
theorem sbh_len (L : List (List UInt8)) (b e : Nat) : (sbh L b e).length = min e L.length - b := by simp [sbh]
theorem sbh_take {L : List (List UInt8)} {b e k : Nat} (h : b + k ≤ e) : (sbh L b e).take k = sbh L b (b + k) := by
  unfold sbh
  rw [List.take_drop, List.take_take, Nat.min_eq_left h]
theorem sbh_drop (L : List (List UInt8)) (b e k : Nat) : (sbh L b e).drop k = sbh L (b + k) e := by
  unfold sbh
  rw [List.drop_drop]
theorem sbh_all (L : List (List UInt8)) : sbh L 0 L.length = L := by unfold sbh; rw [List.drop_zero, List.take_length]
theorem sbh_mem {L : List (List UInt8)} {b e : Nat} {x : List UInt8} (h : x ∈ sbh L b e) : x ∈ L := List.mem_of_mem_take (List.mem_of_mem_drop h)
def hshp (L : List (List UInt8)) (t : Nat × Nat) : List UInt8 := mhh (sbh L t.1 t.2)
theorem hshp_len (L : List (List UInt8)) (h : ∀ x ∈ L, x.length = 32) (t : Nat × Nat) : (hshp L t).length = 32 := mhh_len _ (fun x hx => h x (sbh_mem hx))
theorem step_build1 {w : World} {ops : Array Oper} {o : Oper} {a : Act} {K : Act → World → Prop} {Q : Exit → Act → World → Prop} {E : Prop} (hgd : o.guard = none) (x : Operand) (ho : o.op = .buildSlice 22 1 #[(0, x)]) (V : Array Value) (hx : a.eval x = .agg V) (hV : V.size = 32)
    (h : K (a.put o.dst (.slice (some ⟨w.heap.size, 0, none⟩) 1 1)) (w.alloc (.cells V 26))) : if Region.wanted o (yielded ops a.tmps) = true then Oper.wp Tryd.prog o a w K Q else E := by
  have hw : Region.wanted o (yielded ops a.tmps) = true := by simp [Region.wanted, hgd]
  rw [if_pos hw]
  unfold Oper.wp execOp
  simp only [ho, Sem.run_bind, Sem.run_pure, Result.andThen_ok, List.map_toArray, List.map_cons, List.map_nil, hx, build1 V hV]
  exact h
/-- What a row of hashes is given back as. -/
def Rwd (w w' : World) (l : List (List UInt8)) (r : Ending) : Prop := ∃ v, r = .returned v ∧ w'.ownsRow w.heap.size 26 32 v l.length (hsc l) ∧ Nw w w'

set_option maxRecDepth 100000 in
set_option maxHeartbeats 2000000 in
theorem rpl (g o n cap k m : Nat)  (w : World) (l : List (List UInt8)) (A : List UInt8) (hA : A.length = 32) (hll : l.length ≤ 100) (hn : 2 ≤ n) (hn2 : n ≤ 1048576) (hk : k = spl n) (hcap : n ≤ cap) (hm : m ≤ n)  (hlt : m < k)
    (QA : ∀ W, Nw w W → Calls Tryd.prog 19 #[.int .i64 (m : Int), .slice (some ⟨g, o, none⟩) k cap] W fun r w' => Rwd W w' l r)
    (QB : ∀ W, Nw w W → Calls Tryd.prog 16 #[.slice (some ⟨g, o + k * 32, none⟩) (n - k) (cap - k)] W fun e w' => e = .returned (.agg (hbs A)) ∧ Nw W w') :
    Calls Tryd.prog 19 #[.int .i64 (m : Int), .slice (some ⟨g, o, none⟩) n cap] w fun r w' => Rwd w w' (l ++ [A]) r := by
  obtain ⟨i0, hi, hz0, hz1, hz2⟩ := info_parts infoHs
  have QA' := show Hid (∀ W, Nw w W → Calls Tryd.prog 19 #[.int .i64 (m : Int), .slice (some ⟨g, o, none⟩) k cap] W fun r w' => Rwd W w' l r) from QA
  have QB' := show Hid (∀ W, Nw w W → Calls Tryd.prog 16 #[.slice (some ⟨g, o + k * 32, none⟩) (n - k) (cap - k)] W fun e w' => e = .returned (.agg (hbs A)) ∧ Nw W w') from QB
  have QS := show Hid _ from half15_any n hn hn2
  have hkn := spl_lt hn
  rw [← hk] at QS hkn
  clear QA QB hk
  have hc1 := (fun W => cut_hh (some ⟨g, o, none⟩) n cap k (by omega) W)
  have hc2 := (fun W => cut_hl g o n cap k (by omega) (by omega) W)
  have HKN : Hid (k < n) := hkn
  have HCN : Hid (n ≤ cap) := hcap
  have hRl : (hbs A).size = 32 := by rw [hbs_size, hA]
  have hn1 : ((n : Int) == 1) = false := by simp; omega
  have hlt1 : (m : Int) < (k : Int) := by omega
  have HLL : Hid (l.length ≤ 100) := hll
  clear hkn hcap hll hA
  go_enter Tryd.func19, Tryd.ntmps19
  go_wp2_with fail
  refine (QS.out _).mono ?_
  rintro e w1 ⟨rfl, h1⟩
  have NW1 : Hid (Nw w w1) := by rw [h1]; exact nwr w
  clear h1
  go_wp2_with fail
  have nb : Nw w1 w1.drew := (Fr.refl _ _).drew
  refine wp_region_held_drew (S := fun _ => True) (by kernel_rfl) trivial ?_
  intro hS0
  refine wpAnyH_take (i := 0) (v := .int .i64 (m : Int)) rfl (by kernel_rfl) (by kernel_rfl) (by kernel_rfl) (fun _ _ _ h => h) (Or.inl ⟨by rfl, by intro w hw; go_simp⟩) hS0 ?_
  try simp only [Act.put, List.setIfInBounds_toArray, List.set_cons_zero, List.set_cons_succ]
  refine wpAnyH_take (i := 1) (v := .slice (some ⟨g, o, none⟩) n cap) rfl (by kernel_rfl) (by kernel_rfl) (by kernel_rfl) (fun _ _ _ h => h) (Or.inl ⟨by rfl, by intro w hw; go_simp⟩) hS0 ?_
  try simp only [Act.put, List.setIfInBounds_toArray, List.set_cons_zero, List.set_cons_succ]
  refine wpAnyH_take (i := 2) (v := .int .i64 (k : Int)) rfl (by kernel_rfl) (by kernel_rfl) (by kernel_rfl) (fun _ _ _ h => h) (Or.inl ⟨by rfl, by intro w hw; go_simp⟩) hS0 ?_
  try simp only [Act.put, List.setIfInBounds_toArray, List.set_cons_zero, List.set_cons_succ]
  refine wpAnyH_take (i := 3) (v := .slice (some ⟨g, o, none⟩) k cap) rfl (by kernel_rfl) (by kernel_rfl) (by kernel_rfl) (fun _ _ _ h => h) (Or.inl ⟨by rfl, by intro w hw; have := hc1 w; go_simp⟩) hS0 ?_
  try simp only [Act.put, List.setIfInBounds_toArray, List.set_cons_zero, List.set_cons_succ]
  refine wpAnyH_take (i := 5) (v := .slice (some ⟨g, o, none⟩) n cap) rfl (by kernel_rfl) (by kernel_rfl) (by kernel_rfl) (fun _ _ _ h => h) (Or.inl ⟨by rfl, by intro w hw; go_simp⟩) hS0 ?_
  try simp only [Act.put, List.setIfInBounds_toArray, List.set_cons_zero, List.set_cons_succ]
  refine wpAnyH_take (i := 6) (v := .int .i64 (k : Int)) rfl (by kernel_rfl) (by kernel_rfl) (by kernel_rfl) (fun _ _ _ h => h) (Or.inl ⟨by rfl, by intro w hw; go_simp⟩) hS0 ?_
  try simp only [Act.put, List.setIfInBounds_toArray, List.set_cons_zero, List.set_cons_succ]
  refine wpAnyH_take (i := 7) (v := .slice (some ⟨g, o + k * 32, none⟩) (n - k) (cap - k)) rfl (by kernel_rfl) (by kernel_rfl) (by kernel_rfl) (fun _ _ _ h => h) (Or.inl ⟨by rfl, by intro w hw; have := hc2 w; go_simp⟩) hS0 ?_
  try simp only [Act.put, List.setIfInBounds_toArray, List.set_cons_zero, List.set_cons_succ]
  refine wpAnyH_ready (rs := [4]) (by kernel_rfl) (by simp) ?_
  refine AllReadyH.cons rfl (fun K' hK => ?_) AllReadyH.nil
  go_simp
  go_wp2_with (go_at_call 19; refine (QA'.out _ (NW1.out.tr nb)).mono ?_; rintro e2 w2 ⟨v2, rfl, o2, n2⟩)
  have m2 : Nw w1 w2 := Nw.tr nb n2
  have O2 : Hid (w2.ownsRow w.heap.size 26 32 v2 l.length (hsc l)) := ownsRow_base o2 (Nat.le_trans NW1.out.size nb.size)
  obtain ⟨va, vc, rfl⟩ := ownsRow_form o2
  refine hK.out _ _ trivial (fun hS0 => ?_)
  try simp only [Act.put, List.setIfInBounds_toArray, List.set_cons_zero, List.set_cons_succ]
  refine wpAnyH_ready (rs := [8]) (by kernel_rfl) (by simp) ?_
  refine AllReadyH.cons rfl (fun K' hK => ?_) AllReadyH.nil
  go_simp
  go_wp2_with (go_at_call 16; refine (QB'.out _ (NW1.out.tr m2)).mono ?_; rintro e3 w3 ⟨rfl, n3⟩)
  have m3 : Nw w1 w3 := Nw.tr m2 n3
  have O3 : Hid (w3.ownsRow w.heap.size 26 32 (.slice va l.length vc) l.length (hsc l)) := ownsRow_keep O2.out (fun g hg => n3.block g (O2.out.lt g hg).2 (fun f => f))
  refine hK.out _ _ trivial (fun hS0 => ?_)
  try simp only [Act.put, List.setIfInBounds_toArray, List.set_cons_zero, List.set_cons_succ]
  refine wpAnyH_ready (rs := [9]) (by kernel_rfl) (by simp) ?_
  refine AllReadyH.cons rfl (fun K' hK => ?_) AllReadyH.nil
  refine step_build1 rfl (.tmp 23) rfl (hbs A) rfl hRl ?_
  refine hK.out _ _ trivial (fun hS0 => ?_)
  try simp only [Act.put, List.setIfInBounds_toArray, List.set_cons_zero, List.set_cons_succ]
  refine wpAnyH_ready (rs := [10]) (by kernel_rfl) (by simp) ?_
  refine AllReadyH.cons rfl (fun K' hK => ?_) AllReadyH.nil
  refine step_two rfl (.tmp 19) (.tmp 24) 22 rfl w.heap.size 26 i0 (.agg z32) 32 32 Tryd.underlying22 hi hz0 hz1 hz2 z32_size (by decide) (.slice va l.length vc) l.length (hsc l) rfl (O3.out.alloc _) ⟨w3.heap.size, 0, none⟩ 1 1 (hbs A).toList rfl (by simp [hRl]) (hash_new _ _ _) (hbs_one _) (by have := HLL.out; unfold maxLen; omega) (by have := HLL.out; omega) (by have := NW1.out.size; have := m3.size; simp; omega) ?_
  intro v' w5 o5 t5
  have n5 : Nw w w5 := ((NW1.out.tr m3).alloc _).trans t5.fr (fun j hj q => by have := (O3.out.lt j q).1; omega)
  obtain ⟨xa, xc, rfl⟩ := ownsRow_form o5
  refine hK.out _ _ trivial (fun hS0 => ?_)
  try simp only [Act.put, List.setIfInBounds_toArray, List.set_cons_zero, List.set_cons_succ]
  refine wpAnyH_ready (rs := [11]) (by kernel_rfl) (by simp) ?_
  refine AllReadyH.cons rfl (fun K' hK => ?_) AllReadyH.nil
  go_simp
  refine hK.out _ _ trivial (fun hS0 => ?_)
  try simp only [Act.put, List.setIfInBounds_toArray, List.set_cons_zero, List.set_cons_succ]
  refine wpAnyH_done (by kernel_rfl) ?_ _
  go_wp2_with fail
  refine bodyPost_ret (v := .slice xa (l.length + 1) xc) (by simp [results, Tryd.results19]) rfl ⟨_, rfl, ?_, n5⟩
  rw [List.length_append, hsc_app, hsc_one]
  exact o5

set_option maxRecDepth 100000 in
set_option maxHeartbeats 2000000 in
theorem rpr (g o n cap k m mk : Nat)  (w : World) (l : List (List UInt8)) (A : List UInt8) (hA : A.length = 32) (hll : l.length ≤ 100) (hn : 2 ≤ n) (hn2 : n ≤ 1048576) (hk : k = spl n) (hcap : n ≤ cap) (hm : m ≤ n) (hmk : m = k + mk) 
    (QA : ∀ W, Nw w W → Calls Tryd.prog 19 #[.int .i64 (mk : Int), .slice (some ⟨g, o + k * 32, none⟩) (n - k) (cap - k)] W fun r w' => Rwd W w' l r)
    (QB : ∀ W, Nw w W → Calls Tryd.prog 16 #[.slice (some ⟨g, o, none⟩) k cap] W fun e w' => e = .returned (.agg (hbs A)) ∧ Nw W w') :
    Calls Tryd.prog 19 #[.int .i64 (m : Int), .slice (some ⟨g, o, none⟩) n cap] w fun r w' => Rwd w w' (l ++ [A]) r := by
  obtain ⟨i0, hi, hz0, hz1, hz2⟩ := info_parts infoHs
  have QA' := show Hid (∀ W, Nw w W → Calls Tryd.prog 19 #[.int .i64 (mk : Int), .slice (some ⟨g, o + k * 32, none⟩) (n - k) (cap - k)] W fun r w' => Rwd W w' l r) from QA
  have QB' := show Hid (∀ W, Nw w W → Calls Tryd.prog 16 #[.slice (some ⟨g, o, none⟩) k cap] W fun e w' => e = .returned (.agg (hbs A)) ∧ Nw W w') from QB
  have QS := show Hid _ from half15_any n hn hn2
  have hkn := spl_lt hn
  rw [← hk] at QS hkn
  clear QA QB hk
  have hc1 := (fun W => cut_hh (some ⟨g, o, none⟩) n cap k (by omega) W)
  have hc2 := (fun W => cut_hl g o n cap k (by omega) (by omega) W)
  have HKN : Hid (k < n) := hkn
  have HCN : Hid (n ≤ cap) := hcap
  have hRl : (hbs A).size = 32 := by rw [hbs_size, hA]
  have hn1 : ((n : Int) == 1) = false := by simp; omega
  have hlt1 : ¬ (m : Int) < (k : Int) := by omega
  have hsub : (m : Int) - (k : Int) = (mk : Int) := by omega
  have hwr : IntKind.i64.wrap (mk : Int) = (mk : Int) := by rw [IntKind.wrap_i64]; omega
  have HMK : Hid (m = k + mk) := hmk
  clear hmk
  have HLL : Hid (l.length ≤ 100) := hll
  clear hkn hcap hll hA
  go_enter Tryd.func19, Tryd.ntmps19
  go_wp2_with fail
  refine (QS.out _).mono ?_
  rintro e w1 ⟨rfl, h1⟩
  have NW1 : Hid (Nw w w1) := by rw [h1]; exact nwr w
  clear h1
  go_wp2_with fail
  have nb : Nw w1 w1.drew := (Fr.refl _ _).drew
  refine wp_region_held_drew (S := fun _ => True) (by kernel_rfl) trivial ?_
  intro hS0
  refine wpAnyH_take (i := 0) (v := .int .i64 (m : Int)) rfl (by kernel_rfl) (by kernel_rfl) (by kernel_rfl) (fun _ _ _ h => h) (Or.inl ⟨by rfl, by intro w hw; go_simp⟩) hS0 ?_
  try simp only [Act.put, List.setIfInBounds_toArray, List.set_cons_zero, List.set_cons_succ]
  refine wpAnyH_take (i := 1) (v := .int .i64 (k : Int)) rfl (by kernel_rfl) (by kernel_rfl) (by kernel_rfl) (fun _ _ _ h => h) (Or.inl ⟨by rfl, by intro w hw; go_simp⟩) hS0 ?_
  try simp only [Act.put, List.setIfInBounds_toArray, List.set_cons_zero, List.set_cons_succ]
  refine wpAnyH_take (i := 2) (v := .int .i64 (mk : Int)) rfl (by kernel_rfl) (by kernel_rfl) (by kernel_rfl) (fun _ _ _ h => h) (Or.inl ⟨by rfl, by intro w hw; go_simp⟩) hS0 ?_
  try simp only [Act.put, List.setIfInBounds_toArray, List.set_cons_zero, List.set_cons_succ]
  refine wpAnyH_take (i := 3) (v := .slice (some ⟨g, o, none⟩) n cap) rfl (by kernel_rfl) (by kernel_rfl) (by kernel_rfl) (fun _ _ _ h => h) (Or.inl ⟨by rfl, by intro w hw; go_simp⟩) hS0 ?_
  try simp only [Act.put, List.setIfInBounds_toArray, List.set_cons_zero, List.set_cons_succ]
  refine wpAnyH_take (i := 4) (v := .int .i64 (k : Int)) rfl (by kernel_rfl) (by kernel_rfl) (by kernel_rfl) (fun _ _ _ h => h) (Or.inl ⟨by rfl, by intro w hw; go_simp⟩) hS0 ?_
  try simp only [Act.put, List.setIfInBounds_toArray, List.set_cons_zero, List.set_cons_succ]
  refine wpAnyH_take (i := 5) (v := .slice (some ⟨g, o + k * 32, none⟩) (n - k) (cap - k)) rfl (by kernel_rfl) (by kernel_rfl) (by kernel_rfl) (fun _ _ _ h => h) (Or.inl ⟨by rfl, by intro w hw; have := hc2 w; go_simp⟩) hS0 ?_
  try simp only [Act.put, List.setIfInBounds_toArray, List.set_cons_zero, List.set_cons_succ]
  refine wpAnyH_take (i := 7) (v := .slice (some ⟨g, o, none⟩) n cap) rfl (by kernel_rfl) (by kernel_rfl) (by kernel_rfl) (fun _ _ _ h => h) (Or.inl ⟨by rfl, by intro w hw; go_simp⟩) hS0 ?_
  try simp only [Act.put, List.setIfInBounds_toArray, List.set_cons_zero, List.set_cons_succ]
  refine wpAnyH_take (i := 8) (v := .int .i64 (k : Int)) rfl (by kernel_rfl) (by kernel_rfl) (by kernel_rfl) (fun _ _ _ h => h) (Or.inl ⟨by rfl, by intro w hw; go_simp⟩) hS0 ?_
  try simp only [Act.put, List.setIfInBounds_toArray, List.set_cons_zero, List.set_cons_succ]
  refine wpAnyH_take (i := 9) (v := .slice (some ⟨g, o, none⟩) k cap) rfl (by kernel_rfl) (by kernel_rfl) (by kernel_rfl) (fun _ _ _ h => h) (Or.inl ⟨by rfl, by intro w hw; have := hc1 w; go_simp⟩) hS0 ?_
  try simp only [Act.put, List.setIfInBounds_toArray, List.set_cons_zero, List.set_cons_succ]
  refine wpAnyH_ready (rs := [6]) (by kernel_rfl) (by simp) ?_
  refine AllReadyH.cons rfl (fun K' hK => ?_) AllReadyH.nil
  go_simp
  go_wp2_with (go_at_call 19; refine (QA'.out _ (NW1.out.tr nb)).mono ?_; rintro e2 w2 ⟨v2, rfl, o2, n2⟩)
  have m2 : Nw w1 w2 := Nw.tr nb n2
  have O2 : Hid (w2.ownsRow w.heap.size 26 32 v2 l.length (hsc l)) := ownsRow_base o2 (Nat.le_trans NW1.out.size nb.size)
  obtain ⟨va, vc, rfl⟩ := ownsRow_form o2
  refine hK.out _ _ trivial (fun hS0 => ?_)
  try simp only [Act.put, List.setIfInBounds_toArray, List.set_cons_zero, List.set_cons_succ]
  refine wpAnyH_ready (rs := [10]) (by kernel_rfl) (by simp) ?_
  refine AllReadyH.cons rfl (fun K' hK => ?_) AllReadyH.nil
  go_simp
  go_wp2_with (go_at_call 16; refine (QB'.out _ (NW1.out.tr m2)).mono ?_; rintro e3 w3 ⟨rfl, n3⟩)
  have m3 : Nw w1 w3 := Nw.tr m2 n3
  have O3 : Hid (w3.ownsRow w.heap.size 26 32 (.slice va l.length vc) l.length (hsc l)) := ownsRow_keep O2.out (fun g hg => n3.block g (O2.out.lt g hg).2 (fun f => f))
  refine hK.out _ _ trivial (fun hS0 => ?_)
  try simp only [Act.put, List.setIfInBounds_toArray, List.set_cons_zero, List.set_cons_succ]
  refine wpAnyH_ready (rs := [11]) (by kernel_rfl) (by simp) ?_
  refine AllReadyH.cons rfl (fun K' hK => ?_) AllReadyH.nil
  refine step_build1 rfl (.tmp 36) rfl (hbs A) rfl hRl ?_
  refine hK.out _ _ trivial (fun hS0 => ?_)
  try simp only [Act.put, List.setIfInBounds_toArray, List.set_cons_zero, List.set_cons_succ]
  refine wpAnyH_ready (rs := [12]) (by kernel_rfl) (by simp) ?_
  refine AllReadyH.cons rfl (fun K' hK => ?_) AllReadyH.nil
  refine step_two rfl (.tmp 32) (.tmp 37) 22 rfl w.heap.size 26 i0 (.agg z32) 32 32 Tryd.underlying22 hi hz0 hz1 hz2 z32_size (by decide) (.slice va l.length vc) l.length (hsc l) rfl (O3.out.alloc _) ⟨w3.heap.size, 0, none⟩ 1 1 (hbs A).toList rfl (by simp [hRl]) (hash_new _ _ _) (hbs_one _) (by have := HLL.out; unfold maxLen; omega) (by have := HLL.out; omega) (by have := NW1.out.size; have := m3.size; simp; omega) ?_
  intro v' w5 o5 t5
  have n5 : Nw w w5 := ((NW1.out.tr m3).alloc _).trans t5.fr (fun j hj q => by have := (O3.out.lt j q).1; omega)
  obtain ⟨xa, xc, rfl⟩ := ownsRow_form o5
  refine hK.out _ _ trivial (fun hS0 => ?_)
  try simp only [Act.put, List.setIfInBounds_toArray, List.set_cons_zero, List.set_cons_succ]
  refine wpAnyH_ready (rs := [13]) (by kernel_rfl) (by simp) ?_
  refine AllReadyH.cons rfl (fun K' hK => ?_) AllReadyH.nil
  go_simp
  refine hK.out _ _ trivial (fun hS0 => ?_)
  try simp only [Act.put, List.setIfInBounds_toArray, List.set_cons_zero, List.set_cons_succ]
  refine wpAnyH_done (by kernel_rfl) ?_ _
  go_wp2_with fail
  refine bodyPost_ret (v := .slice xa (l.length + 1) xc) (by simp [results, Tryd.results19]) rfl ⟨_, rfl, ?_, n5⟩
  rw [List.length_append, hsc_app, hsc_one]
  exact o5

set_option maxRecDepth 100000 in
set_option maxHeartbeats 2000000 in
theorem rsl (g o n cap k m : Nat) (kn : Bool) (w : World) (l : List (List UInt8)) (A : List UInt8) (hA : A.length = 32) (hll : l.length ≤ 100) (hn : 2 ≤ n) (hn2 : n ≤ 1048576) (hk : k = spl n) (hcap : n ≤ cap) (hm : m ≤ n)  (hmn : m ≠ n) (hlt : m ≤ k)
    (QA : ∀ W, Nw w W → Calls Tryd.prog 21 #[.int .i64 (m : Int), .slice (some ⟨g, o, none⟩) k cap, .bool kn] W fun r w' => Rwd W w' l r)
    (QB : ∀ W, Nw w W → Calls Tryd.prog 16 #[.slice (some ⟨g, o + k * 32, none⟩) (n - k) (cap - k)] W fun e w' => e = .returned (.agg (hbs A)) ∧ Nw W w') :
    Calls Tryd.prog 21 #[.int .i64 (m : Int), .slice (some ⟨g, o, none⟩) n cap, .bool kn] w fun r w' => Rwd w w' (l ++ [A]) r := by
  obtain ⟨i0, hi, hz0, hz1, hz2⟩ := info_parts infoHs
  have QA' := show Hid (∀ W, Nw w W → Calls Tryd.prog 21 #[.int .i64 (m : Int), .slice (some ⟨g, o, none⟩) k cap, .bool kn] W fun r w' => Rwd W w' l r) from QA
  have QB' := show Hid (∀ W, Nw w W → Calls Tryd.prog 16 #[.slice (some ⟨g, o + k * 32, none⟩) (n - k) (cap - k)] W fun e w' => e = .returned (.agg (hbs A)) ∧ Nw W w') from QB
  have QS := show Hid _ from half15_any n hn hn2
  have hkn := spl_lt hn
  rw [← hk] at QS hkn
  clear QA QB hk
  have hc1 := (fun W => cut_hh (some ⟨g, o, none⟩) n cap k (by omega) W)
  have hc2 := (fun W => cut_hl g o n cap k (by omega) (by omega) W)
  have HKN : Hid (k < n) := hkn
  have HCN : Hid (n ≤ cap) := hcap
  have hRl : (hbs A).size = 32 := by rw [hbs_size, hA]
  have hne : ((m : Int) == (n : Int)) = false := by simp; omega
  have hlt1 : (m : Int) ≤ (k : Int) := by omega
  have HLL : Hid (l.length ≤ 100) := hll
  clear hkn hcap hll hA
  go_enter Tryd.func21, Tryd.ntmps21
  go_wp2_with fail
  refine (QS.out _).mono ?_
  rintro e w1 ⟨rfl, h1⟩
  have NW1 : Hid (Nw w w1) := by rw [h1]; exact nwr w
  clear h1
  go_wp2_with fail
  have nb : Nw w1 w1.drew := (Fr.refl _ _).drew
  refine wp_region_held_drew (S := fun _ => True) (by kernel_rfl) trivial ?_
  intro hS0
  refine wpAnyH_take (i := 0) (v := .int .i64 (m : Int)) rfl (by kernel_rfl) (by kernel_rfl) (by kernel_rfl) (fun _ _ _ h => h) (Or.inl ⟨by rfl, by intro w hw; go_simp⟩) hS0 ?_
  try simp only [Act.put, List.setIfInBounds_toArray, List.set_cons_zero, List.set_cons_succ]
  refine wpAnyH_take (i := 1) (v := .slice (some ⟨g, o, none⟩) n cap) rfl (by kernel_rfl) (by kernel_rfl) (by kernel_rfl) (fun _ _ _ h => h) (Or.inl ⟨by rfl, by intro w hw; go_simp⟩) hS0 ?_
  try simp only [Act.put, List.setIfInBounds_toArray, List.set_cons_zero, List.set_cons_succ]
  refine wpAnyH_take (i := 2) (v := .int .i64 (k : Int)) rfl (by kernel_rfl) (by kernel_rfl) (by kernel_rfl) (fun _ _ _ h => h) (Or.inl ⟨by rfl, by intro w hw; go_simp⟩) hS0 ?_
  try simp only [Act.put, List.setIfInBounds_toArray, List.set_cons_zero, List.set_cons_succ]
  refine wpAnyH_take (i := 3) (v := .slice (some ⟨g, o, none⟩) k cap) rfl (by kernel_rfl) (by kernel_rfl) (by kernel_rfl) (fun _ _ _ h => h) (Or.inl ⟨by rfl, by intro w hw; have := hc1 w; go_simp⟩) hS0 ?_
  try simp only [Act.put, List.setIfInBounds_toArray, List.set_cons_zero, List.set_cons_succ]
  refine wpAnyH_take (i := 4) (v := .bool kn) rfl (by kernel_rfl) (by kernel_rfl) (by kernel_rfl) (fun _ _ _ h => h) (Or.inl ⟨by rfl, by intro w hw; go_simp⟩) hS0 ?_
  try simp only [Act.put, List.setIfInBounds_toArray, List.set_cons_zero, List.set_cons_succ]
  refine wpAnyH_take (i := 6) (v := .slice (some ⟨g, o, none⟩) n cap) rfl (by kernel_rfl) (by kernel_rfl) (by kernel_rfl) (fun _ _ _ h => h) (Or.inl ⟨by rfl, by intro w hw; go_simp⟩) hS0 ?_
  try simp only [Act.put, List.setIfInBounds_toArray, List.set_cons_zero, List.set_cons_succ]
  refine wpAnyH_take (i := 7) (v := .int .i64 (k : Int)) rfl (by kernel_rfl) (by kernel_rfl) (by kernel_rfl) (fun _ _ _ h => h) (Or.inl ⟨by rfl, by intro w hw; go_simp⟩) hS0 ?_
  try simp only [Act.put, List.setIfInBounds_toArray, List.set_cons_zero, List.set_cons_succ]
  refine wpAnyH_take (i := 8) (v := .slice (some ⟨g, o + k * 32, none⟩) (n - k) (cap - k)) rfl (by kernel_rfl) (by kernel_rfl) (by kernel_rfl) (fun _ _ _ h => h) (Or.inl ⟨by rfl, by intro w hw; have := hc2 w; go_simp⟩) hS0 ?_
  try simp only [Act.put, List.setIfInBounds_toArray, List.set_cons_zero, List.set_cons_succ]
  refine wpAnyH_ready (rs := [5]) (by kernel_rfl) (by simp) ?_
  refine AllReadyH.cons rfl (fun K' hK => ?_) AllReadyH.nil
  go_simp
  go_wp2_with (go_at_call 21; refine (QA'.out _ (NW1.out.tr nb)).mono ?_; rintro e2 w2 ⟨v2, rfl, o2, n2⟩)
  have m2 : Nw w1 w2 := Nw.tr nb n2
  have O2 : Hid (w2.ownsRow w.heap.size 26 32 v2 l.length (hsc l)) := ownsRow_base o2 (Nat.le_trans NW1.out.size nb.size)
  obtain ⟨va, vc, rfl⟩ := ownsRow_form o2
  refine hK.out _ _ trivial (fun hS0 => ?_)
  try simp only [Act.put, List.setIfInBounds_toArray, List.set_cons_zero, List.set_cons_succ]
  refine wpAnyH_ready (rs := [9]) (by kernel_rfl) (by simp) ?_
  refine AllReadyH.cons rfl (fun K' hK => ?_) AllReadyH.nil
  go_simp
  go_wp2_with (go_at_call 16; refine (QB'.out _ (NW1.out.tr m2)).mono ?_; rintro e3 w3 ⟨rfl, n3⟩)
  have m3 : Nw w1 w3 := Nw.tr m2 n3
  have O3 : Hid (w3.ownsRow w.heap.size 26 32 (.slice va l.length vc) l.length (hsc l)) := ownsRow_keep O2.out (fun g hg => n3.block g (O2.out.lt g hg).2 (fun f => f))
  refine hK.out _ _ trivial (fun hS0 => ?_)
  try simp only [Act.put, List.setIfInBounds_toArray, List.set_cons_zero, List.set_cons_succ]
  refine wpAnyH_ready (rs := [10]) (by kernel_rfl) (by simp) ?_
  refine AllReadyH.cons rfl (fun K' hK => ?_) AllReadyH.nil
  refine step_build1 rfl (.tmp 31) rfl (hbs A) rfl hRl ?_
  refine hK.out _ _ trivial (fun hS0 => ?_)
  try simp only [Act.put, List.setIfInBounds_toArray, List.set_cons_zero, List.set_cons_succ]
  refine wpAnyH_ready (rs := [11]) (by kernel_rfl) (by simp) ?_
  refine AllReadyH.cons rfl (fun K' hK => ?_) AllReadyH.nil
  refine step_two rfl (.tmp 27) (.tmp 32) 22 rfl w.heap.size 26 i0 (.agg z32) 32 32 Tryd.underlying22 hi hz0 hz1 hz2 z32_size (by decide) (.slice va l.length vc) l.length (hsc l) rfl (O3.out.alloc _) ⟨w3.heap.size, 0, none⟩ 1 1 (hbs A).toList rfl (by simp [hRl]) (hash_new _ _ _) (hbs_one _) (by have := HLL.out; unfold maxLen; omega) (by have := HLL.out; omega) (by have := NW1.out.size; have := m3.size; simp; omega) ?_
  intro v' w5 o5 t5
  have n5 : Nw w w5 := ((NW1.out.tr m3).alloc _).trans t5.fr (fun j hj q => by have := (O3.out.lt j q).1; omega)
  obtain ⟨xa, xc, rfl⟩ := ownsRow_form o5
  refine hK.out _ _ trivial (fun hS0 => ?_)
  try simp only [Act.put, List.setIfInBounds_toArray, List.set_cons_zero, List.set_cons_succ]
  refine wpAnyH_ready (rs := [12]) (by kernel_rfl) (by simp) ?_
  refine AllReadyH.cons rfl (fun K' hK => ?_) AllReadyH.nil
  go_simp
  refine hK.out _ _ trivial (fun hS0 => ?_)
  try simp only [Act.put, List.setIfInBounds_toArray, List.set_cons_zero, List.set_cons_succ]
  refine wpAnyH_done (by kernel_rfl) ?_ _
  go_wp2_with fail
  refine bodyPost_ret (v := .slice xa (l.length + 1) xc) (by simp [results, Tryd.results21]) rfl ⟨_, rfl, ?_, n5⟩
  rw [List.length_append, hsc_app, hsc_one]
  exact o5

set_option maxRecDepth 100000 in
set_option maxHeartbeats 2000000 in
theorem rsr (g o n cap k m mk : Nat) (kn : Bool) (w : World) (l : List (List UInt8)) (A : List UInt8) (hA : A.length = 32) (hll : l.length ≤ 100) (hn : 2 ≤ n) (hn2 : n ≤ 1048576) (hk : k = spl n) (hcap : n ≤ cap) (hm : m ≤ n) (hmk : m = k + mk) (hmn : m ≠ n) (hgt : k < m)
    (QA : ∀ W, Nw w W → Calls Tryd.prog 21 #[.int .i64 (mk : Int), .slice (some ⟨g, o + k * 32, none⟩) (n - k) (cap - k), .bool false] W fun r w' => Rwd W w' l r)
    (QB : ∀ W, Nw w W → Calls Tryd.prog 16 #[.slice (some ⟨g, o, none⟩) k cap] W fun e w' => e = .returned (.agg (hbs A)) ∧ Nw W w') :
    Calls Tryd.prog 21 #[.int .i64 (m : Int), .slice (some ⟨g, o, none⟩) n cap, .bool kn] w fun r w' => Rwd w w' (l ++ [A]) r := by
  obtain ⟨i0, hi, hz0, hz1, hz2⟩ := info_parts infoHs
  have QA' := show Hid (∀ W, Nw w W → Calls Tryd.prog 21 #[.int .i64 (mk : Int), .slice (some ⟨g, o + k * 32, none⟩) (n - k) (cap - k), .bool false] W fun r w' => Rwd W w' l r) from QA
  have QB' := show Hid (∀ W, Nw w W → Calls Tryd.prog 16 #[.slice (some ⟨g, o, none⟩) k cap] W fun e w' => e = .returned (.agg (hbs A)) ∧ Nw W w') from QB
  have QS := show Hid _ from half15_any n hn hn2
  have hkn := spl_lt hn
  rw [← hk] at QS hkn
  clear QA QB hk
  have hc1 := (fun W => cut_hh (some ⟨g, o, none⟩) n cap k (by omega) W)
  have hc2 := (fun W => cut_hl g o n cap k (by omega) (by omega) W)
  have HKN : Hid (k < n) := hkn
  have HCN : Hid (n ≤ cap) := hcap
  have hRl : (hbs A).size = 32 := by rw [hbs_size, hA]
  have hne : ((m : Int) == (n : Int)) = false := by simp; omega
  have hlt1 : ¬ (m : Int) ≤ (k : Int) := by omega
  have hsub : (m : Int) - (k : Int) = (mk : Int) := by omega
  have hwr : IntKind.i64.wrap (mk : Int) = (mk : Int) := by rw [IntKind.wrap_i64]; omega
  have HMK : Hid (m = k + mk) := hmk
  clear hmk
  have HLL : Hid (l.length ≤ 100) := hll
  clear hkn hcap hll hA
  go_enter Tryd.func21, Tryd.ntmps21
  go_wp2_with fail
  refine (QS.out _).mono ?_
  rintro e w1 ⟨rfl, h1⟩
  have NW1 : Hid (Nw w w1) := by rw [h1]; exact nwr w
  clear h1
  go_wp2_with fail
  have nb : Nw w1 w1.drew := (Fr.refl _ _).drew
  refine wp_region_held_drew (S := fun _ => True) (by kernel_rfl) trivial ?_
  intro hS0
  refine wpAnyH_take (i := 0) (v := .int .i64 (m : Int)) rfl (by kernel_rfl) (by kernel_rfl) (by kernel_rfl) (fun _ _ _ h => h) (Or.inl ⟨by rfl, by intro w hw; go_simp⟩) hS0 ?_
  try simp only [Act.put, List.setIfInBounds_toArray, List.set_cons_zero, List.set_cons_succ]
  refine wpAnyH_take (i := 1) (v := .int .i64 (k : Int)) rfl (by kernel_rfl) (by kernel_rfl) (by kernel_rfl) (fun _ _ _ h => h) (Or.inl ⟨by rfl, by intro w hw; go_simp⟩) hS0 ?_
  try simp only [Act.put, List.setIfInBounds_toArray, List.set_cons_zero, List.set_cons_succ]
  refine wpAnyH_take (i := 2) (v := .int .i64 (mk : Int)) rfl (by kernel_rfl) (by kernel_rfl) (by kernel_rfl) (fun _ _ _ h => h) (Or.inl ⟨by rfl, by intro w hw; go_simp⟩) hS0 ?_
  try simp only [Act.put, List.setIfInBounds_toArray, List.set_cons_zero, List.set_cons_succ]
  refine wpAnyH_take (i := 3) (v := .slice (some ⟨g, o, none⟩) n cap) rfl (by kernel_rfl) (by kernel_rfl) (by kernel_rfl) (fun _ _ _ h => h) (Or.inl ⟨by rfl, by intro w hw; go_simp⟩) hS0 ?_
  try simp only [Act.put, List.setIfInBounds_toArray, List.set_cons_zero, List.set_cons_succ]
  refine wpAnyH_take (i := 4) (v := .int .i64 (k : Int)) rfl (by kernel_rfl) (by kernel_rfl) (by kernel_rfl) (fun _ _ _ h => h) (Or.inl ⟨by rfl, by intro w hw; go_simp⟩) hS0 ?_
  try simp only [Act.put, List.setIfInBounds_toArray, List.set_cons_zero, List.set_cons_succ]
  refine wpAnyH_take (i := 5) (v := .slice (some ⟨g, o + k * 32, none⟩) (n - k) (cap - k)) rfl (by kernel_rfl) (by kernel_rfl) (by kernel_rfl) (fun _ _ _ h => h) (Or.inl ⟨by rfl, by intro w hw; have := hc2 w; go_simp⟩) hS0 ?_
  try simp only [Act.put, List.setIfInBounds_toArray, List.set_cons_zero, List.set_cons_succ]
  refine wpAnyH_take (i := 7) (v := .slice (some ⟨g, o, none⟩) n cap) rfl (by kernel_rfl) (by kernel_rfl) (by kernel_rfl) (fun _ _ _ h => h) (Or.inl ⟨by rfl, by intro w hw; go_simp⟩) hS0 ?_
  try simp only [Act.put, List.setIfInBounds_toArray, List.set_cons_zero, List.set_cons_succ]
  refine wpAnyH_take (i := 8) (v := .int .i64 (k : Int)) rfl (by kernel_rfl) (by kernel_rfl) (by kernel_rfl) (fun _ _ _ h => h) (Or.inl ⟨by rfl, by intro w hw; go_simp⟩) hS0 ?_
  try simp only [Act.put, List.setIfInBounds_toArray, List.set_cons_zero, List.set_cons_succ]
  refine wpAnyH_take (i := 9) (v := .slice (some ⟨g, o, none⟩) k cap) rfl (by kernel_rfl) (by kernel_rfl) (by kernel_rfl) (fun _ _ _ h => h) (Or.inl ⟨by rfl, by intro w hw; have := hc1 w; go_simp⟩) hS0 ?_
  try simp only [Act.put, List.setIfInBounds_toArray, List.set_cons_zero, List.set_cons_succ]
  refine wpAnyH_ready (rs := [6]) (by kernel_rfl) (by simp) ?_
  refine AllReadyH.cons rfl (fun K' hK => ?_) AllReadyH.nil
  go_simp
  go_wp2_with (go_at_call 21; refine (QA'.out _ (NW1.out.tr nb)).mono ?_; rintro e2 w2 ⟨v2, rfl, o2, n2⟩)
  have m2 : Nw w1 w2 := Nw.tr nb n2
  have O2 : Hid (w2.ownsRow w.heap.size 26 32 v2 l.length (hsc l)) := ownsRow_base o2 (Nat.le_trans NW1.out.size nb.size)
  obtain ⟨va, vc, rfl⟩ := ownsRow_form o2
  refine hK.out _ _ trivial (fun hS0 => ?_)
  try simp only [Act.put, List.setIfInBounds_toArray, List.set_cons_zero, List.set_cons_succ]
  refine wpAnyH_ready (rs := [10]) (by kernel_rfl) (by simp) ?_
  refine AllReadyH.cons rfl (fun K' hK => ?_) AllReadyH.nil
  go_simp
  go_wp2_with (go_at_call 16; refine (QB'.out _ (NW1.out.tr m2)).mono ?_; rintro e3 w3 ⟨rfl, n3⟩)
  have m3 : Nw w1 w3 := Nw.tr m2 n3
  have O3 : Hid (w3.ownsRow w.heap.size 26 32 (.slice va l.length vc) l.length (hsc l)) := ownsRow_keep O2.out (fun g hg => n3.block g (O2.out.lt g hg).2 (fun f => f))
  refine hK.out _ _ trivial (fun hS0 => ?_)
  try simp only [Act.put, List.setIfInBounds_toArray, List.set_cons_zero, List.set_cons_succ]
  refine wpAnyH_ready (rs := [11]) (by kernel_rfl) (by simp) ?_
  refine AllReadyH.cons rfl (fun K' hK => ?_) AllReadyH.nil
  refine step_build1 rfl (.tmp 44) rfl (hbs A) rfl hRl ?_
  refine hK.out _ _ trivial (fun hS0 => ?_)
  try simp only [Act.put, List.setIfInBounds_toArray, List.set_cons_zero, List.set_cons_succ]
  refine wpAnyH_ready (rs := [12]) (by kernel_rfl) (by simp) ?_
  refine AllReadyH.cons rfl (fun K' hK => ?_) AllReadyH.nil
  refine step_two rfl (.tmp 40) (.tmp 45) 22 rfl w.heap.size 26 i0 (.agg z32) 32 32 Tryd.underlying22 hi hz0 hz1 hz2 z32_size (by decide) (.slice va l.length vc) l.length (hsc l) rfl (O3.out.alloc _) ⟨w3.heap.size, 0, none⟩ 1 1 (hbs A).toList rfl (by simp [hRl]) (hash_new _ _ _) (hbs_one _) (by have := HLL.out; unfold maxLen; omega) (by have := HLL.out; omega) (by have := NW1.out.size; have := m3.size; simp; omega) ?_
  intro v' w5 o5 t5
  have n5 : Nw w w5 := ((NW1.out.tr m3).alloc _).trans t5.fr (fun j hj q => by have := (O3.out.lt j q).1; omega)
  obtain ⟨xa, xc, rfl⟩ := ownsRow_form o5
  refine hK.out _ _ trivial (fun hS0 => ?_)
  try simp only [Act.put, List.setIfInBounds_toArray, List.set_cons_zero, List.set_cons_succ]
  refine wpAnyH_ready (rs := [13]) (by kernel_rfl) (by simp) ?_
  refine AllReadyH.cons rfl (fun K' hK => ?_) AllReadyH.nil
  go_simp
  refine hK.out _ _ trivial (fun hS0 => ?_)
  try simp only [Act.put, List.setIfInBounds_toArray, List.set_cons_zero, List.set_cons_succ]
  refine wpAnyH_done (by kernel_rfl) ?_ _
  go_wp2_with fail
  refine bodyPost_ret (v := .slice xa (l.length + 1) xc) (by simp [results, Tryd.results21]) rfl ⟨_, rfl, ?_, n5⟩
  rw [List.length_append, hsc_app, hsc_one]
  exact o5

theorem rpath_nil (m n cap : Nat) (p : Option Addr) (w : World) (h : n = 1) : Calls Tryd.prog 19 #[.int .i64 (m : Int), .slice p n cap] w fun r w' => Rwd w w' [] r := by
  subst h
  go_enter Tryd.func19, Tryd.ntmps19
  go_wp2
  exact bodyPost_ret (v := .slice none 0 0) (by simp [results, Tryd.results19]) rfl ⟨_, rfl, World.ownsRow_nil _ _ _ _, nwr w⟩
theorem rsub_nil (m cap : Nat) (p : Option Addr) (w : World) : Calls Tryd.prog 21 #[.int .i64 (m : Int), .slice p m cap, .bool true] w fun r w' => Rwd w w' [] r := by
  have he : ((m : Int) == (m : Int)) = true := by simp
  go_enter Tryd.func21, Tryd.ntmps21
  go_wp2
  exact bodyPost_ret (v := .slice none 0 0) (by simp [results, Tryd.results21]) rfl ⟨_, rfl, World.ownsRow_nil _ _ _ _, nwr w⟩
/-- A row of one hash that was made as a literal. -/
theorem lit_row {w : World} {B : Nat} (A : List UInt8) (hA : A.length = 32) (hB : B ≤ w.heap.size) : (w.alloc (.cells (hbs A) 26)).ownsRow B 26 32 (.slice (some ⟨w.heap.size, 0, none⟩) 1 1) [A].length (hsc [A]) := by
  refine ⟨by simp [hsc, bc_len, hA], .inr ⟨w.heap.size, 1, hbs A, rfl, hB, heap_new _ _, by simp, by decide, by simp [hbs_size, hA], ?_⟩⟩
  simp only [hsc, hbs, List.flatMap_cons, List.flatMap_nil, List.append_nil]
  rw [List.take_of_length_le (by simp [bc_len, hA])]
set_option maxHeartbeats 1000000 in
theorem rsub_one (m cap : Nat) (p : Option Addr) (w : World) (A : List UInt8) (hA : A.length = 32) (QB : ∀ W, Nw w W → Calls Tryd.prog 16 #[.slice p m cap] W fun e w' => e = .returned (.agg (hbs A)) ∧ Nw W w') :
    Calls Tryd.prog 21 #[.int .i64 (m : Int), .slice p m cap, .bool false] w fun r w' => Rwd w w' [A] r := by
  have he : ((m : Int) == (m : Int)) = true := by simp
  have QB' := show Hid (∀ W, Nw w W → Calls Tryd.prog 16 #[.slice p m cap] W fun e w' => e = .returned (.agg (hbs A)) ∧ Nw W w') from QB
  have hRl : (hbs A).size = 32 := by rw [hbs_size, hA]
  have HA : Hid (A.length = 32) := hA
  clear QB hA
  go_enter Tryd.func21, Tryd.ntmps21
  go_wp2_with fail
  refine (QB'.out _ (nwr w)).mono ?_
  rintro e w1 ⟨rfl, n1⟩
  go_wp2_with (refine wp_build1 rfl (.tmp 14) rfl (hbs A) rfl hRl ?_)
  exact bodyPost_ret (v := .slice (some ⟨w1.heap.size, 0, none⟩) 1 1) (by simp [results, Tryd.results21]) rfl ⟨_, rfl, lit_row A HA.out n1.size, n1.alloc _⟩
theorem run_append_none {P : Program} (w : World) (t ty e : TypeId) (i : TypeInfo) (ht : P.underlying t = some (.slice e)) (hi : P.info? e = some i) {base size : Nat} {v : Value} {n : Nat} {xs : List Value} (hown : w.ownsRow base e size v n xs) :
    (Builtin.append_ #[t, t] ty #[v, .slice none 0 0]).run P w = .ok v w := by
  have hsrc : Src P i.size t (.slice none 0 0) 0 [] w := Src.ofNil w ht 0
  rcases hown.2 with ⟨rfl, rfl⟩ | ⟨g, cap, cur, rfl, _, _, hnc, _⟩
  · rcases hsrc.kind with ⟨e', hk⟩ | hk <;> simp [Builtin.append_, run_underlying ht, run_underlying hk, sizeOf, typeInfo, hi, hsrc.len, hsrc.cells, storeCells]
  · have hr := run_append_room_src (P := P) w t t ty e i ht hi g 0 n cap (.slice none 0 0) 0 [] hsrc (by omega) (fun j hj => by simp at hj) (fun j hj => by simp at hj)
    simpa [World.setCells] using hr
theorem step_app_none {P : Program} {w : World} {ops : Array Oper} {o : Oper} {a : Act} {K : Act → World → Prop} {Q : Exit → Act → World → Prop} {E : Prop} (hg : o.guard = none) (s x : Operand) (t : TypeId)
    (ho : o.op = .call { callee := .builtin .append, args := #[s, x], argTypes := #[t, t] }) (e : TypeId) (i : TypeInfo) (ht : P.underlying t = some (.slice e)) (hi : P.info? e = some i)
    {base size : Nat} (v : Value) {n : Nat} {xs : List Value} (hs : a.eval s = v) (hown : w.ownsRow base e size v n xs) (hx : a.eval x = .slice none 0 0)
    (h : K (a.put o.dst v) w) : if Region.wanted o (yielded ops a.tmps) = true then Oper.wp P o a w K Q else E := by
  have hw : Region.wanted o (yielded ops a.tmps) = true := by simp [Region.wanted, hg]
  rw [if_pos hw]
  have hr := run_append_none (P := P) w t o.type e i ht hi hown
  unfold Oper.wp execOp
  simp only [ho, resolve, invoke, builtin, Sem.run_bind, Sem.run_pure, Result.andThen_ok, List.map_toArray, List.map_cons, List.map_nil, hs, hx, hr]
  exact h
theorem Rwd.cast {w w' : World} {l m : List (List UInt8)} {r : Ending} (h : Rwd w w' l r) (e : l = m) : Rwd w w' m r := e ▸ h
/-- The two parts of a stretch's leaves in memory. -/
theorem parts_at (L : List (List UInt8)) {b e : Nat} (h2 : 2 ≤ e - b) (he : e ≤ L.length) {p : Option Addr} {cap : Nat} {w : World} (hc : e - b ≤ cap) (hp : Hrs w p (sbh L b e)) : ∃ g o, p = some ⟨g, o, none⟩ ∧ Hrs w (some ⟨g, o, none⟩) (sbh L b (b + spl (e - b))) ∧ Hrs w (some ⟨g, o + spl (e - b) * 32, none⟩) (sbh L (b + spl (e - b)) e) := by
  have hl : (sbh L b e).length = e - b := by rw [sbh_len]; omega
  have hk := spl_lt h2
  have hk0 := spl_pos (e - b)
  obtain ⟨x, hx⟩ : ∃ x, (sbh L b e)[0]? = some x := ⟨_, List.getElem?_eq_getElem (by omega)⟩
  obtain ⟨g, o, rfl, _⟩ := hp 0 x hx
  obtain ⟨s1, s2⟩ := hp.halves (spl (e - b))
  rw [sbh_take (by omega)] at s1
  rw [sbh_drop] at s2
  exact ⟨g, o, rfl, s1, s2⟩
section
variable (L : List (List UInt8)) (hLl : L.length ≤ 1048576) (hLs : ∀ x ∈ L, x.length = 32)
include hLl hLs
theorem mth_at {b e : Nat} (he : e ≤ L.length) {p : Option Addr} {cap : Nat} {w : World} (hLd : Laid w) (hc : e - b ≤ cap) (hp : Hrs w p (sbh L b e)) : ∀ W, Nw w W → Calls Tryd.prog 16 #[.slice p (e - b) cap] W fun r w' => r = .returned (.agg (hbs (hshp L (b, e)))) ∧ Nw W w' := fun W hW => by
  have hl : (sbh L b e).length = e - b := by rw [sbh_len]; omega
  have q := mth15_any (sbh L b e).length (sbh L b e) p cap W (Nat.le_refl _) (by omega) (fun z hz => hLs z (sbh_mem hz)) (by omega) (hp.nw (fun z hz => hLs z (sbh_mem hz)) hW) (hLd.nw hW)
  rw [hl] at q
  exact q
theorem rpath_any : ∀ (N i b e : Nat) (p : Option Addr) (cap : Nat) (w : World), e - b ≤ N → b ≤ i → i < e → e ≤ L.length → e - b ≤ cap → Hrs w p (sbh L b e) → Laid w →
    Calls Tryd.prog 19 #[.int .i64 ((i - b : Nat) : Int), .slice p (e - b) cap] w fun r w' => Rwd w w' ((pth i b e).map (hshp L)) r := by
  intro N
  induction N with
  | zero => intro i b e p cap w h1 h2 h3; omega
  | succ N ih =>
    intro i b e p cap w hN hb he hel hc hp hLd
    by_cases h2 : 2 ≤ e - b
    · have hk := spl_lt h2
      have hk0 := spl_pos (e - b)
      obtain ⟨g, o, rfl, s1, s2⟩ := parts_at L h2 hel hc hp
      by_cases hi : i < b + spl (e - b)
      · rw [pth_left h2 hi, List.map_append]
        refine rpl g o (e - b) cap (spl (e - b)) (i - b) w _ _ (hshp_len L hLs _) (by rw [List.length_map]; have := pth_len 63 i b (b + spl (e - b)) (by rw [p63]; omega); omega) h2 (by omega) rfl hc (by omega) (by omega) (fun W hW => ?_) (fun W hW => ?_)
        · have q := ih i b (b + spl (e - b)) (some ⟨g, o, none⟩) cap W (by omega) hb hi (by omega) (by omega) (s1.nw (fun z hz => hLs z (sbh_mem hz)) hW) (hLd.nw hW)
          rw [Nat.add_sub_cancel_left] at q
          exact q
        · have q := mth_at L hLl hLs (b := b + spl (e - b)) hel hLd (cap := cap - spl (e - b)) (by omega) s2 W hW
          rw [← Nat.sub_sub] at q
          exact q
      · rw [pth_right h2 hi, List.map_append]
        refine rpr g o (e - b) cap (spl (e - b)) (i - b) (i - (b + spl (e - b))) w _ _ (hshp_len L hLs _) (by rw [List.length_map]; have := pth_len 63 i (b + spl (e - b)) e (by rw [p63]; omega); omega) h2 (by omega) rfl hc (by omega) (by omega) (fun W hW => ?_) (fun W hW => ?_)
        · have q := ih i (b + spl (e - b)) e (some ⟨g, o + spl (e - b) * 32, none⟩) (cap - spl (e - b)) W (by omega) (by omega) he hel (by omega) (s2.nw (fun z hz => hLs z (sbh_mem hz)) hW) (hLd.nw hW)
          rw [show e - (b + spl (e - b)) = e - b - spl (e - b) by omega] at q
          exact q
        · have q := mth_at L hLl hLs (b := b) (e := b + spl (e - b)) (by omega) hLd (cap := cap) (by omega) s1 W hW
          rw [Nat.add_sub_cancel_left] at q
          exact q
    · rw [pth_one h2]
      exact rpath_nil (i - b) (e - b) cap p w (by omega)
theorem rsub_any : ∀ (N o b e : Nat) (kn : Bool) (p : Option Addr) (cap : Nat) (w : World), e - b ≤ N → b < o → o ≤ e → e ≤ L.length → e - b ≤ cap → Hrs w p (sbh L b e) → Laid w →
    Calls Tryd.prog 21 #[.int .i64 ((o - b : Nat) : Int), .slice p (e - b) cap, .bool kn] w fun r w' => Rwd w w' ((prf o b e kn).map (hshp L)) r := by
  intro N
  induction N with
  | zero => intro o b e kn p cap w h1 h2 h3; omega
  | succ N ih =>
    intro o b e kn p cap w hN hb he hel hc hp hLd
    by_cases hq : o = e
    · subst hq
      cases kn with
      | true => rw [prf_known]; exact rsub_nil _ _ _ _
      | false => rw [prf_whole]; exact rsub_one _ _ _ _ _ (hshp_len L hLs _) (mth_at L hLl hLs hel hLd hc hp)
    · have h2 : 2 ≤ e - b := by omega
      have hk := spl_lt h2
      have hk0 := spl_pos (e - b)
      obtain ⟨g, of, rfl, s1, s2⟩ := parts_at L h2 hel hc hp
      by_cases hi : o ≤ b + spl (e - b)
      · rw [prf_left h2 hq hi, List.map_append]
        refine rsl g of (e - b) cap (spl (e - b)) (o - b) kn w _ _ (hshp_len L hLs _) (by rw [List.length_map]; have := prf_len 63 o b (b + spl (e - b)) kn (by rw [p63]; omega) hb hi; omega) h2 (by omega) rfl hc (by omega) (by omega) (by omega) (fun W hW => ?_) (fun W hW => ?_)
        · have q := ih o b (b + spl (e - b)) kn (some ⟨g, of, none⟩) cap W (by omega) hb hi (by omega) (by omega) (s1.nw (fun z hz => hLs z (sbh_mem hz)) hW) (hLd.nw hW)
          rw [Nat.add_sub_cancel_left] at q
          exact q
        · have q := mth_at L hLl hLs (b := b + spl (e - b)) hel hLd (cap := cap - spl (e - b)) (by omega) s2 W hW
          rw [← Nat.sub_sub] at q
          exact q
      · rw [prf_right h2 hq hi, List.map_append]
        refine rsr g of (e - b) cap (spl (e - b)) (o - b) (o - (b + spl (e - b))) kn w _ _ (hshp_len L hLs _) (by rw [List.length_map]; have := prf_len 63 o (b + spl (e - b)) e false (by rw [p63]; omega) (by omega) he; omega) h2 (by omega) rfl hc (by omega) (by omega) (by omega) (by omega) (fun W hW => ?_) (fun W hW => ?_)
        · have q := ih o (b + spl (e - b)) e false (some ⟨g, of + spl (e - b) * 32, none⟩) (cap - spl (e - b)) W (by omega) (by omega) he hel (by omega) (s2.nw (fun z hz => hLs z (sbh_mem hz)) hW) (hLd.nw hW)
          rw [show e - (b + spl (e - b)) = e - b - spl (e - b) by omega] at q
          exact q
        · have q := mth_at L hLl hLs (b := b) (e := b + spl (e - b)) (by omega) hLd (cap := cap) (by omega) s1 W hW
          rw [Nat.add_sub_cancel_left] at q
          exact q
end
set_option maxHeartbeats 1000000 in
theorem rbat_in (x y f n cap : Nat) (p : Option Addr) (w : World) (h1 : x ≤ f) (h2 : f + n ≤ y) (hn : f + n ≤ 1048576) (hy : y ≤ 1048576) : Calls Tryd.prog 23 #[.int .i64 (x : Int), .int .i64 (y : Int), .int .i64 (f : Int), .slice p n cap] w fun r w' => Rwd w w' [] r := by
  have a1 : (x : Int) ≤ (f : Int) := by omega
  have a2 : (f : Int) + (n : Int) ≤ (y : Int) := by omega
  go_enter Tryd.func23, Tryd.ntmps23
  go_wp2
  exact bodyPost_ret (v := .slice none 0 0) (by simp [results, Tryd.results23]) rfl ⟨_, rfl, World.ownsRow_nil _ _ _ _, nwr w⟩
set_option maxHeartbeats 1000000 in
theorem rbat_out (x y f n cap : Nat) (p : Option Addr) (w : World) (A : List UInt8) (hA : A.length = 32) (h0 : ¬ (x ≤ f ∧ f + n ≤ y)) (h1 : y ≤ f ∨ f + n ≤ x) (hn : f + n ≤ 1048576) (hy : y ≤ 1048576) (hx : x ≤ 1048576) (QB : ∀ W, Nw w W → Calls Tryd.prog 16 #[.slice p n cap] W fun e w' => e = .returned (.agg (hbs A)) ∧ Nw W w') :
    Calls Tryd.prog 23 #[.int .i64 (x : Int), .int .i64 (y : Int), .int .i64 (f : Int), .slice p n cap] w fun r w' => Rwd w w' [A] r := by
  have QB' := show Hid (∀ W, Nw w W → Calls Tryd.prog 16 #[.slice p n cap] W fun e w' => e = .returned (.agg (hbs A)) ∧ Nw W w') from QB
  have hRl : (hbs A).size = 32 := by rw [hbs_size, hA]
  have HA : Hid (A.length = 32) := hA
  have hw : (¬ (x : Int) ≤ (f : Int) ∧ (y : Int) ≤ (f : Int)) ∨ (¬ (x : Int) ≤ (f : Int) ∧ ¬ (y : Int) ≤ (f : Int) ∧ (f : Int) + (n : Int) ≤ (x : Int)) ∨ ((x : Int) ≤ (f : Int) ∧ ¬ (f : Int) + (n : Int) ≤ (y : Int) ∧ (y : Int) ≤ (f : Int)) ∨ ((x : Int) ≤ (f : Int) ∧ ¬ (f : Int) + (n : Int) ≤ (y : Int) ∧ ¬ (y : Int) ≤ (f : Int) ∧ (f : Int) + (n : Int) ≤ (x : Int)) := by omega
  clear QB hA h0 h1
  rcases hw with ⟨a1, a2⟩ | ⟨a1, a2, a3⟩ | ⟨a1, a2, a3⟩ | ⟨a1, a2, a3, a4⟩
  all_goals
    go_enter Tryd.func23, Tryd.ntmps23
    go_wp2_with fail
    refine (QB'.out _ (nwr w)).mono ?_
    rintro e w1 ⟨rfl, n1⟩
    go_wp2_with (refine wp_build1 rfl (.tmp 33) rfl (hbs A) rfl hRl ?_)
    exact bodyPost_ret (v := .slice (some ⟨w1.heap.size, 0, none⟩) 1 1) (by simp [results, Tryd.results23]) rfl ⟨_, rfl, lit_row A HA.out n1.size, n1.alloc _⟩
set_option maxRecDepth 100000 in
set_option maxHeartbeats 4000000 in
theorem rbat_cut (g o n cap k x y f : Nat) (w : World) (l m : List (List UInt8)) (hl32 : ∀ z ∈ m, z.length = 32) (hll : l.length ≤ 200) (hml : m.length ≤ 200) (hn : 2 ≤ n) (hn2 : f + n ≤ 1048576) (hy : y ≤ 1048576) (hx : x ≤ 1048576) (hk : k = spl n) (hcap : n ≤ cap) (h0 : ¬ (x ≤ f ∧ f + n ≤ y)) (h1 : ¬ (y ≤ f ∨ f + n ≤ x))
    (QA : ∀ W, Nw w W → Calls Tryd.prog 23 #[.int .i64 (x : Int), .int .i64 (y : Int), .int .i64 (f : Int), .slice (some ⟨g, o, none⟩) k cap] W fun r w' => Rwd W w' l r)
    (QB : ∀ W, Nw w W → Calls Tryd.prog 23 #[.int .i64 (x : Int), .int .i64 (y : Int), .int .i64 ((f + k : Nat) : Int), .slice (some ⟨g, o + k * 32, none⟩) (n - k) (cap - k)] W fun r w' => Rwd W w' m r) :
    Calls Tryd.prog 23 #[.int .i64 (x : Int), .int .i64 (y : Int), .int .i64 (f : Int), .slice (some ⟨g, o, none⟩) n cap] w fun r w' => Rwd w w' (l ++ m) r := by
  obtain ⟨i0, hi, hz0, hz1, hz2⟩ := info_parts infoHs
  obtain ⟨fk, hfk⟩ : ∃ fk, fk = f + k := ⟨_, rfl⟩
  rw [← hfk] at QB
  have QA' := show Hid (∀ W, Nw w W → Calls Tryd.prog 23 #[.int .i64 (x : Int), .int .i64 (y : Int), .int .i64 (f : Int), .slice (some ⟨g, o, none⟩) k cap] W fun r w' => Rwd W w' l r) from QA
  have QB' := show Hid (∀ W, Nw w W → Calls Tryd.prog 23 #[.int .i64 (x : Int), .int .i64 (y : Int), .int .i64 (fk : Int), .slice (some ⟨g, o + k * 32, none⟩) (n - k) (cap - k)] W fun r w' => Rwd W w' m r) from QB
  have QS := show Hid _ from half15_any n hn (by omega)
  have hkn := spl_lt hn
  rw [← hk] at QS hkn
  clear QA QB hk
  have hc1 := (fun W => cut_hh (some ⟨g, o, none⟩) n cap k (by omega) W)
  have hc2 := (fun W => cut_hl g o n cap k (by omega) (by omega) W)
  have HKN : Hid (k < n) := hkn
  have HCN : Hid (n ≤ cap) := hcap
  have hadd : (f : Int) + (k : Int) = (fk : Int) := by omega
  have hwr : IntKind.i64.wrap (fk : Int) = (fk : Int) := by rw [IntKind.wrap_i64]; omega
  have hml2 : (hsc m).length = m.length * 32 := hsc_len m hl32
  have HM1 : Hid (∀ u ∈ hsc m, u.oneCell' = true) := by
    intro u hu
    simp only [hsc, List.mem_flatMap] at hu
    obtain ⟨z, _, hz⟩ := hu
    simp only [bc, List.mem_map] at hz
    obtain ⟨c, _, rfl⟩ := hz
    rfl
  have HML2 : Hid ((hsc m).length = m.length * 32) := hml2
  have HLL : Hid (l.length ≤ 200 ∧ m.length ≤ 200) := ⟨hll, hml⟩
  have hw : (¬ (x : Int) ≤ (f : Int) ∧ ¬ (y : Int) ≤ (f : Int) ∧ ¬ (f : Int) + (n : Int) ≤ (x : Int)) ∨ ((x : Int) ≤ (f : Int) ∧ ¬ (f : Int) + (n : Int) ≤ (y : Int) ∧ ¬ (y : Int) ≤ (f : Int) ∧ ¬ (f : Int) + (n : Int) ≤ (x : Int)) := by omega
  have HFK : Hid (fk = f + k) := hfk
  clear hkn hcap hll hml hfk hml2 h0 h1 hl32
  rcases hw with ⟨a1, a2, a3⟩ | ⟨a1, a2, a3, a4⟩
  all_goals
    go_enter Tryd.func23, Tryd.ntmps23
    go_wp2_with fail
    refine (QS.out _).mono ?_
    rintro e w1 ⟨rfl, h1⟩
    have NW1 : Hid (Nw w w1) := by rw [h1]; exact nwr w
    clear h1
    go_wp2_with fail
    have nb : Nw w1 w1.drew := (Fr.refl _ _).drew
    refine wp_region_held_drew (S := fun _ => True) (by kernel_rfl) trivial ?_
    intro hS0
    refine wpAnyH_take (i := 0) (v := .int .i64 (x : Int)) rfl (by kernel_rfl) (by kernel_rfl) (by kernel_rfl) (fun _ _ _ h => h) (Or.inl ⟨by rfl, by intro w hw; go_simp⟩) hS0 ?_
    try simp only [Act.put, List.setIfInBounds_toArray, List.set_cons_zero, List.set_cons_succ]
    refine wpAnyH_take (i := 1) (v := .int .i64 (y : Int)) rfl (by kernel_rfl) (by kernel_rfl) (by kernel_rfl) (fun _ _ _ h => h) (Or.inl ⟨by rfl, by intro w hw; go_simp⟩) hS0 ?_
    try simp only [Act.put, List.setIfInBounds_toArray, List.set_cons_zero, List.set_cons_succ]
    refine wpAnyH_take (i := 2) (v := .int .i64 (f : Int)) rfl (by kernel_rfl) (by kernel_rfl) (by kernel_rfl) (fun _ _ _ h => h) (Or.inl ⟨by rfl, by intro w hw; go_simp⟩) hS0 ?_
    try simp only [Act.put, List.setIfInBounds_toArray, List.set_cons_zero, List.set_cons_succ]
    refine wpAnyH_take (i := 3) (v := .slice (some ⟨g, o, none⟩) n cap) rfl (by kernel_rfl) (by kernel_rfl) (by kernel_rfl) (fun _ _ _ h => h) (Or.inl ⟨by rfl, by intro w hw; go_simp⟩) hS0 ?_
    try simp only [Act.put, List.setIfInBounds_toArray, List.set_cons_zero, List.set_cons_succ]
    refine wpAnyH_take (i := 4) (v := .int .i64 (k : Int)) rfl (by kernel_rfl) (by kernel_rfl) (by kernel_rfl) (fun _ _ _ h => h) (Or.inl ⟨by rfl, by intro w hw; go_simp⟩) hS0 ?_
    try simp only [Act.put, List.setIfInBounds_toArray, List.set_cons_zero, List.set_cons_succ]
    refine wpAnyH_take (i := 5) (v := .slice (some ⟨g, o, none⟩) k cap) rfl (by kernel_rfl) (by kernel_rfl) (by kernel_rfl) (fun _ _ _ h => h) (Or.inl ⟨by rfl, by intro w hw; have := hc1 w; go_simp⟩) hS0 ?_
    try simp only [Act.put, List.setIfInBounds_toArray, List.set_cons_zero, List.set_cons_succ]
    refine wpAnyH_take (i := 7) (v := .int .i64 (x : Int)) rfl (by kernel_rfl) (by kernel_rfl) (by kernel_rfl) (fun _ _ _ h => h) (Or.inl ⟨by rfl, by intro w hw; go_simp⟩) hS0 ?_
    try simp only [Act.put, List.setIfInBounds_toArray, List.set_cons_zero, List.set_cons_succ]
    refine wpAnyH_take (i := 8) (v := .int .i64 (y : Int)) rfl (by kernel_rfl) (by kernel_rfl) (by kernel_rfl) (fun _ _ _ h => h) (Or.inl ⟨by rfl, by intro w hw; go_simp⟩) hS0 ?_
    try simp only [Act.put, List.setIfInBounds_toArray, List.set_cons_zero, List.set_cons_succ]
    refine wpAnyH_take (i := 9) (v := .int .i64 (f : Int)) rfl (by kernel_rfl) (by kernel_rfl) (by kernel_rfl) (fun _ _ _ h => h) (Or.inl ⟨by rfl, by intro w hw; go_simp⟩) hS0 ?_
    try simp only [Act.put, List.setIfInBounds_toArray, List.set_cons_zero, List.set_cons_succ]
    refine wpAnyH_take (i := 10) (v := .int .i64 (k : Int)) rfl (by kernel_rfl) (by kernel_rfl) (by kernel_rfl) (fun _ _ _ h => h) (Or.inl ⟨by rfl, by intro w hw; go_simp⟩) hS0 ?_
    try simp only [Act.put, List.setIfInBounds_toArray, List.set_cons_zero, List.set_cons_succ]
    refine wpAnyH_take (i := 11) (v := .int .i64 (fk : Int)) rfl (by kernel_rfl) (by kernel_rfl) (by kernel_rfl) (fun _ _ _ h => h) (Or.inl ⟨by rfl, by intro w hw; go_simp⟩) hS0 ?_
    try simp only [Act.put, List.setIfInBounds_toArray, List.set_cons_zero, List.set_cons_succ]
    refine wpAnyH_take (i := 12) (v := .slice (some ⟨g, o, none⟩) n cap) rfl (by kernel_rfl) (by kernel_rfl) (by kernel_rfl) (fun _ _ _ h => h) (Or.inl ⟨by rfl, by intro w hw; go_simp⟩) hS0 ?_
    try simp only [Act.put, List.setIfInBounds_toArray, List.set_cons_zero, List.set_cons_succ]
    refine wpAnyH_take (i := 13) (v := .int .i64 (k : Int)) rfl (by kernel_rfl) (by kernel_rfl) (by kernel_rfl) (fun _ _ _ h => h) (Or.inl ⟨by rfl, by intro w hw; go_simp⟩) hS0 ?_
    try simp only [Act.put, List.setIfInBounds_toArray, List.set_cons_zero, List.set_cons_succ]
    refine wpAnyH_take (i := 14) (v := .slice (some ⟨g, o + k * 32, none⟩) (n - k) (cap - k)) rfl (by kernel_rfl) (by kernel_rfl) (by kernel_rfl) (fun _ _ _ h => h) (Or.inl ⟨by rfl, by intro w hw; have := hc2 w; go_simp⟩) hS0 ?_
    try simp only [Act.put, List.setIfInBounds_toArray, List.set_cons_zero, List.set_cons_succ]
    refine wpAnyH_ready (rs := [6]) (by kernel_rfl) (by simp) ?_
    refine AllReadyH.cons rfl (fun K' hK => ?_) AllReadyH.nil
    go_simp
    go_wp2_with (go_at_call 23; refine (QA'.out _ (NW1.out.tr nb)).mono ?_; rintro e2 w2 ⟨v2, rfl, o2, n2⟩)
    have m2 : Nw w1 w2 := Nw.tr nb n2
    have O2 : Hid (w2.ownsRow w.heap.size 26 32 v2 l.length (hsc l)) := ownsRow_base o2 (Nat.le_trans NW1.out.size nb.size)
    obtain ⟨va, vc, rfl⟩ := ownsRow_form o2
    refine hK.out _ _ trivial (fun hS0 => ?_)
    try simp only [Act.put, List.setIfInBounds_toArray, List.set_cons_zero, List.set_cons_succ]
    refine wpAnyH_ready (rs := [15]) (by kernel_rfl) (by simp) ?_
    refine AllReadyH.cons rfl (fun K' hK => ?_) AllReadyH.nil
    go_simp
    go_wp2_with (go_at_call 23; refine (QB'.out _ (NW1.out.tr m2)).mono ?_; rintro e3 w3 ⟨v3, rfl, o3, n3⟩)
    have m3 : Nw w1 w3 := Nw.tr m2 n3
    have O3 : Hid (w3.ownsRow w.heap.size 26 32 (.slice va l.length vc) l.length (hsc l)) := ownsRow_keep O2.out (fun g hg => n3.block g (O2.out.lt g hg).2 (fun f => f))
    have o3c := o3
    refine hK.out _ _ trivial (fun hS0 => ?_)
    try simp only [Act.put, List.setIfInBounds_toArray, List.set_cons_zero, List.set_cons_succ]
    rcases o3.2 with ⟨hv, hn0⟩ | ⟨g3, cap3, cur3, hv, _⟩
    · subst hv
      have hm0 : m = [] := List.length_eq_zero_iff.1 hn0
      refine wpAnyH_ready (rs := [16]) (by kernel_rfl) (by simp) ?_
      refine AllReadyH.cons rfl (fun K' hK => ?_) AllReadyH.nil
      refine step_app_none rfl (.tmp 44) (.tmp 53) 22 rfl 26 i0 Tryd.underlying22 hi (.slice va l.length vc) rfl O3.out rfl ?_
      refine hK.out _ _ trivial (fun hS0 => ?_)
      try simp only [Act.put, List.setIfInBounds_toArray, List.set_cons_zero, List.set_cons_succ]
      refine wpAnyH_ready (rs := [17]) (by kernel_rfl) (by simp) ?_
      refine AllReadyH.cons rfl (fun K' hK => ?_) AllReadyH.nil
      go_simp
      refine hK.out _ _ trivial (fun hS0 => ?_)
      try simp only [Act.put, List.setIfInBounds_toArray, List.set_cons_zero, List.set_cons_succ]
      refine wpAnyH_done (by kernel_rfl) ?_ _
      go_wp2_with fail
      refine bodyPost_ret (v := .slice va l.length vc) (by simp [results, Tryd.results23]) rfl ⟨_, rfl, ?_, NW1.out.tr m3⟩
      rw [hm0, List.append_nil]
      exact O3.out
    · subst hv
      refine wpAnyH_ready (rs := [16]) (by kernel_rfl) (by simp) ?_
      refine AllReadyH.cons rfl (fun K' hK => ?_) AllReadyH.nil
      refine step_two rfl (.tmp 44) (.tmp 53) 22 rfl w.heap.size 26 i0 (.agg z32) 32 32 Tryd.underlying22 hi hz0 hz1 hz2 z32_size (by decide) (.slice va l.length vc) l.length (hsc l) rfl O3.out ⟨g3, 0, none⟩ m.length cap3 (hsc m) rfl HML2.out (fun j u hj => o3c.cells (g := g3) rfl j u hj) HM1.out (by have := HLL.out; unfold maxLen; omega) (by have := HLL.out; omega) (by have := NW1.out.size; have := m3.size; omega) ?_
      intro v' w5 o5 t5
      have n5 : Nw w w5 := (NW1.out.tr m3).trans t5.fr (fun j hj q => by have := (O3.out.lt j q).1; omega)
      obtain ⟨xa, xc, rfl⟩ := ownsRow_form o5
      refine hK.out _ _ trivial (fun hS0 => ?_)
      try simp only [Act.put, List.setIfInBounds_toArray, List.set_cons_zero, List.set_cons_succ]
      refine wpAnyH_ready (rs := [17]) (by kernel_rfl) (by simp) ?_
      refine AllReadyH.cons rfl (fun K' hK => ?_) AllReadyH.nil
      go_simp
      refine hK.out _ _ trivial (fun hS0 => ?_)
      try simp only [Act.put, List.setIfInBounds_toArray, List.set_cons_zero, List.set_cons_succ]
      refine wpAnyH_done (by kernel_rfl) ?_ _
      go_wp2_with fail
      refine bodyPost_ret (v := .slice xa (l.length + m.length) xc) (by simp [results, Tryd.results23]) rfl ⟨_, rfl, ?_, n5⟩
      rw [List.length_append, hsc_app]
      exact o5
theorem rbat_any (L : List (List UInt8)) (hLl : L.length ≤ 1048576) (hLs : ∀ x ∈ L, x.length = 32) (x y : Nat) (hxy : x < y) (hy : y ≤ 1048576) : ∀ (N b e : Nat) (p : Option Addr) (cap : Nat) (w : World), e - b ≤ N → b < e → e ≤ L.length → e - b ≤ cap → Hrs w p (sbh L b e) → Laid w →
    Calls Tryd.prog 23 #[.int .i64 (x : Int), .int .i64 (y : Int), .int .i64 (b : Int), .slice p (e - b) cap] w fun r w' => Rwd w w' ((bat x y b e).map (hshp L)) r := by
  intro N
  induction N with
  | zero => intro b e p cap w h1 h2; omega
  | succ N ih =>
    intro b e p cap w hN hb hel hc hp hLd
    have hs : b + (e - b) = e := by omega
    by_cases h0 : y ≤ b ∨ e ≤ x
    · rw [bat_out h0]
      exact rbat_out x y b (e - b) cap p w _ (hshp_len L hLs _) (by omega) (by omega) (by omega) hy (by omega) (mth_at L hLl hLs hel hLd hc hp)
    · by_cases hi : x ≤ b ∧ e ≤ y
      · rw [bat_in h0 hi]
        exact rbat_in x y b (e - b) cap p w hi.1 (by omega) (by omega) hy
      · have h2 : 2 ≤ e - b := by omega
        have hk := spl_lt h2
        have hk0 := spl_pos (e - b)
        obtain ⟨g, o, rfl, s1, s2⟩ := parts_at L h2 hel hc hp
        rw [bat_cut h0 hi, List.map_append]
        refine rbat_cut g o (e - b) cap (spl (e - b)) x y b w _ _ (by intro z hz; obtain ⟨t, _, rfl⟩ := List.mem_map.1 hz; exact hshp_len L hLs t) (by rw [List.length_map]; have := bat_len 63 x y b (b + spl (e - b)) (by rw [p63]; omega); omega) (by rw [List.length_map]; have := bat_len 63 x y (b + spl (e - b)) e (by rw [p63]; omega); omega) h2 (by omega) hy (by omega) rfl hc (by omega) (by omega) (fun W hW => ?_) (fun W hW => ?_)
        · have q := ih b (b + spl (e - b)) (some ⟨g, o, none⟩) cap W (by omega) (by omega) (by omega) (by omega) (s1.nw (fun z hz => hLs z (sbh_mem hz)) hW) (hLd.nw hW)
          rw [Nat.add_sub_cancel_left] at q
          exact q
        · have q := ih (b + spl (e - b)) e (some ⟨g, o + spl (e - b) * 32, none⟩) (cap - spl (e - b)) W (by omega) (by omega) hel (by omega) (s2.nw (fun z hz => hLs z (sbh_mem hz)) hW) (hLd.nw hW)
          rw [show e - (b + spl (e - b)) = e - b - spl (e - b) by omega] at q
          exact q
end Go.Proofs.YtlaiomgebkeldaaDoor
