/- What gather collects of what Powers hands back: the first so many of the powers, in new memory. -/
import Derived.RangeFuncBox
import Derived.RangeFuncWrites
import Derived.Maps.AppendAt
import Derived.Test.YtiammdgcljjdmaaIter
import Derived.RangeFuncLeaves
import Derived.Shelf.Abstract
import Derived.WalkKit
import Derived.OwnWalkIn
import Derived.TacticsInMore
import Derived.LoopNIn
import Derived.LoopIn
namespace Go.Proofs.Ytiammdgcljjdmaa
open Go.RowKit Go.Shelf
set_option linter.unusedVariables false
attribute [local go_sem] Oper.semAt_some

theorem info22 : (Try.prog.info? 22).map (fun i => (i.zero, i.size, i.bytes)) = some (some (.int .u64 0), 1, 8) := by kernel_rfl
def encE (k : E) : Value := .int .u64 (2 ^ k.1)

set_option maxRecDepth 100000 in
set_option maxHeartbeats 2000000 in
theorem gather_in (x : Nat) (hx : x < 18446744073709551616) (xs : List E) (hp : Pows xs x) (m : Nat) (hm : 1 ≤ m) (hm2 : m ≤ 65) (Bn : Nat) (w : World) (hBn : Bn < w.heap.size) (hc : w.cell? ⟨Bn, 0, none⟩ = some (.int .u64 x)) :
    CallsIn Fence.wide 5 Try.prog 15 #[.func (.func 54) #[] #[.pointer (some ⟨Bn, 0, none⟩)], .int .i64 m] w fun e W' => ∃ v, e = .returned v ∧ W'.ownsRow w.heap.size 22 1 v (xs.take m).length ((xs.take m).map encE) ∧ Below w.heap.size w W' := by
  obtain ⟨i0, hi, hz0, hz1, hz2⟩ := info_parts info22
  have hlen := pows_len xs x hp
  have h64 := popAux_le 64 x
  have hl64 : xs.length ≤ 64 := by omega
  clear hlen h64
  refine callsIn_of_wp_marks Try.func15 rfl trivial ?_ rfl
  simp only [Try.ntmps15, List.size_toArray, List.length_cons, List.length_nil, Nat.reduceAdd, Nat.reduceSub, Array.replicate_succ, Array.replicate_zero, List.push_toArray, List.append_toArray, List.nil_append, List.cons_append]
  gi_wp2
  have bM := Boxed.new w 3 (.int .i64 m)
  have bL := Boxed.new (w.alloc (.cells #[.int .i64 m] 3)) 28 (.slice none 0 0)
  rw [World.size_alloc] at bL
  have hB0 : Below w.heap.size w ((w.alloc (.cells #[.int .i64 m] 3)).alloc (.cells #[.slice none 0 0] 28)) := ((Below.refl _ w).alloc (Nat.le_refl _) _).alloc (by simp) _
  refine wpIn_rangeFunc_ownG rfl (by omega) (gf := 54) (lb := #[.pointer (some ⟨Bn, 0, none⟩)]) rfl trivial (enters_of Try.func54 (by kernel_rfl) rfl)
    (iter_stops 4 (by omega) Bn w.heap.size x hx xs hp _ (by simp; omega) ((hB0.cell (p := ⟨Bn, 0, none⟩) hBn).trans hc)) belowK_t (belowK_b (by simp; omega)) (Below.refl _ _) (fun _ => rfl)
    (fun pre W => ((pre.length < m ∧ Boxed W w.heap.size 3 (.int .i64 m)) ∧ (∃ v, Boxed W (w.heap.size + 1) 28 v ∧ W.ownsRow w.heap.size 22 1 v pre.length (pre.map encE) ∧ True)) ∧ Below w.heap.size w W)
    (fun c pre W => ((pre.length = m ∧ c = .exit 0) ∧ (∃ v, Boxed W (w.heap.size + 1) 28 v ∧ W.ownsRow w.heap.size 22 1 v pre.length (pre.map encE) ∧ True)) ∧ Below w.heap.size w W)
    (OwnFrom.and (OwnFrom.and (Own.from (fun s A B row hs hg hr => ⟨hs.1, boxed_own _ _ (fun _ : List E => Value.int .i64 m) s A B row hs.2 hg hr⟩) _) (Own.from (holdsRow_own w.heap.size (w.heap.size + 1) 28 22 1 (fun pre : List E => pre.length) (fun pre => pre.map encE) (fun _ _ => True)) _)) (ownFrom_below (Nat.le_refl _) (by simp; omega)))
    (fun c => OwnFrom.and (OwnFrom.and (ownFrom_pure _ _) (Own.from (holdsRow_own w.heap.size (w.heap.size + 1) 28 22 1 (fun pre : List E => pre.length) (fun pre => pre.map encE) (fun _ _ => True)) _)) (ownFrom_below (Nat.le_refl _) (by simp; omega)))
    ⟨⟨⟨hm, bM.alloc _⟩, _, bL, World.ownsRow_nil _ _ _ _, trivial⟩, hB0⟩
    (fun k => { tmps := #[.func (.func 54) #[] #[.pointer (some ⟨Bn, 0, none⟩)], .int .i64 m, undef, .pointer (some ⟨w.heap.size, 0, none⟩), .slice none 0 0, .pointer (some ⟨w.heap.size + 1, 0, none⟩), .int .u64 (2 ^ k.1), .func (.func 54) #[] #[.pointer (some ⟨Bn, 0, none⟩)], .int .u64 (2 ^ k.1), undef, undef, undef, undef, undef, undef, undef, undef, undef], defers := [] }) ?assign ?body ?done ?stop
  case assign =>
    intro l k W K hK
    gi_wp2
    exact hK
  case body =>
    rintro l pre k W ⟨⟨⟨hpm, hbm⟩, v, hv, hrow, _⟩, hB⟩ hlt
    have hcv := hv.cell
    have hp64 : pre.length < 64 := by omega
    by_cases hend : pre.length + 1 = m
    · have hd : ((m : Int) ≤ (pre.length : Int) + 1) := by omega
      gi_wp2_with (gi_at_builtin; refine wpListIn_append_own _ rfl _ _ 28 rfl w.heap.size 22 i0 (.int .u64 0) 1 8 Try.underlying28 hi hz0 hz1 hz2 rfl (by decide) _ _ _ rfl (hrow.alloc _) ⟨W.heap.size, 0, none⟩ 1 1 [encE k] rfl rfl (cell_one_new _ _ _) (by simp [Value.oneCell', encE]) (by unfold maxLen; omega) (by omega) (by have := hB.size; simp; omega) ?_; intro v' w1 hown' hgrow _; obtain ⟨g', cap', rfl⟩ := ownsRow_succ hown'; have hm1 := (hbm.alloc (.cells #[.int .u64 (2 ^ k.1)] 22)).kept hgrow (hbm.not_row (by decide) hrow); obtain ⟨hv1, hv2, hr2, hk2, hb2⟩ := hv.appended (by decide) hrow hB.size (by omega) hown' hgrow; have hc1 := hv1.cell; have hf1 := hv1.frozen; have hcm := hm1.cell)
      subst hend
      have hr3 : (w1.setCell ⟨w.heap.size + 1, 0, none⟩ (.slice (some ⟨g', 0, none⟩) (pre.length + 1) cap')).ownsRow w.heap.size 22 1 (.slice (some ⟨g', 0, none⟩) (pre.length + 1) cap') (pre ++ [k]).length ((pre ++ [k]).map encE) := by simpa using hr2
      exact ⟨hk2.from _, ⟨⟨by simp, rfl⟩, _, hv2, hr3, trivial⟩, hB.trans hb2⟩
    · have hd : ¬ ((m : Int) ≤ (pre.length : Int) + 1) := by omega
      have hlt2 : pre.length + 1 < m := by omega
      clear hend
      gi_wp2_with (gi_at_builtin; refine wpListIn_append_own _ rfl _ _ 28 rfl w.heap.size 22 i0 (.int .u64 0) 1 8 Try.underlying28 hi hz0 hz1 hz2 rfl (by decide) _ _ _ rfl (hrow.alloc _) ⟨W.heap.size, 0, none⟩ 1 1 [encE k] rfl rfl (cell_one_new _ _ _) (by simp [Value.oneCell', encE]) (by unfold maxLen; omega) (by omega) (by have := hB.size; simp; omega) ?_; intro v' w1 hown' hgrow _; obtain ⟨g', cap', rfl⟩ := ownsRow_succ hown'; have hm1 := (hbm.alloc (.cells #[.int .u64 (2 ^ k.1)] 22)).kept hgrow (hbm.not_row (by decide) hrow); obtain ⟨hv1, hv2, hr2, hk2, hb2⟩ := hv.appended (by decide) hrow hB.size (by omega) hown' hgrow; have hc1 := hv1.cell; have hf1 := hv1.frozen; have hcm := hm1.cell)
      have hr3 : (w1.setCell ⟨w.heap.size + 1, 0, none⟩ (.slice (some ⟨g', 0, none⟩) (pre.length + 1) cap')).ownsRow w.heap.size 22 1 (.slice (some ⟨g', 0, none⟩) (pre.length + 1) cap') (pre ++ [k]).length ((pre ++ [k]).map encE) := by simpa using hr2
      have hl3 : (pre ++ [k]).length < m := by simpa using hlt2
      exact ⟨hk2.from _, hb2, ⟨⟨hl3, hm1.other (by omega) _⟩, _, hv2, hr3⟩, hB.trans hb2⟩
  case done =>
    rintro D ys W hD rfl ⟨⟨⟨hpm, hbm⟩, v, hv, hrow, _⟩, hB⟩ hK
    have hcv := hv.cell
    gi_wp2
    refine ⟨by simp, .inl ⟨_, _, rfl, run_takeDeferred hK, ?_⟩⟩
    have ht : ys.take m = ys := List.take_of_length_le (by omega)
    rw [ht]
    exact ⟨_, results_tmp rfl _ _ _, v, rfl, ownsRow_putObj hrow _ hK rfl, hB.trans (belowK_b (w := w) (Nat.le_refl _) W D _ _ (by simp at hD; omega) hK rfl rfl)⟩
  case stop =>
    rintro D c pre W hD hpre ⟨⟨⟨hpl, rfl⟩, v, hv, hrow, _⟩, hB⟩ hK
    have hcv := hv.cell
    gi_wp2
    refine ⟨by simp, .inl ⟨_, _, rfl, run_takeDeferred hK, ?_⟩⟩
    have ht : xs.take m = pre := by
      obtain ⟨t, ht⟩ := hpre
      rw [← ht, ← hpl]; simp
    rw [ht]
    exact ⟨_, results_tmp rfl _ _ _, v, rfl, ownsRow_putObj hrow _ hK rfl, hB.trans (belowK_b (w := w) (Nat.le_refl _) W D _ _ (by simp at hD; omega) hK rfl rfl)⟩
end Go.Proofs.Ytiammdgcljjdmaa
