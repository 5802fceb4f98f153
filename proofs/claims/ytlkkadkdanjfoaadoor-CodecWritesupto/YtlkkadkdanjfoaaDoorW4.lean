/- What Fixed says when it puts nothing; a hash is put. -/
import Derived.Test.YtlkkadkdanjfoaaDoorW3
import Derived.Test.YtlkkadkdanjfoaaDoorE4
namespace Go.Proofs.YtlkkadkdanjfoaaDoor
open Go.RowKit Go.Lib
set_option linter.unusedVariables false
set_option linter.unusedSimpArgs false

set_option maxHeartbeats 1000000 in
theorem wfixed_big (b : Nat) (x : Addr) (n width : Nat) (w : World) (h0 : w.cell? ⟨b, 0, none⟩ = some (.bool true)) (hn : n < 18446744073709551616) (h1 : 1 ≤ width) (h8 : width ≤ 8) (hf : ¬ n < 256 ^ width) (hg : w.cell? ⟨2, 0, none⟩ = some (sen x)) :
    Calls Tryd.prog 33 #[.pointer (some ⟨b, 0, none⟩), .int .u64 n, .int .i64 width] w fun e w' => e = .returned (sen x) ∧ w' = w := by
  have hfd : decide (n < 256 ^ width) = false := decide_eq_false hf
  have hfits := fits_any n width w hn h1 h8
  rw [hfd] at hfits
  clear hfd hf
  go_enter Tryd.func33, Tryd.ntmps33
  go_wp2_with (first
    | (go_at_call 39; refine (there_yes b _ h0).mono ?_; rintro e w' ⟨rfl, rfl⟩)
    | (go_at_call 52; refine (mayBe_yes width _ (by omega) (by omega)).mono ?_; rintro e w' ⟨rfl, rfl⟩)
    | (go_at_call 57; refine hfits.mono ?_; rintro e w' ⟨rfl, rfl⟩))
  go_ret
  exact ⟨rfl, rfl⟩
set_option maxHeartbeats 1000000 in
theorem wfixed_width (b : Nat) (x : Addr) (n width : Int) (w : World) (h0 : w.cell? ⟨b, 0, none⟩ = some (.bool true)) (h1 : width < 1 ∨ 8 < width) (hg : w.cell? ⟨2, 0, none⟩ = some (sen x)) :
    Calls Tryd.prog 33 #[.pointer (some ⟨b, 0, none⟩), .int .u64 n, .int .i64 width] w fun e w' => e = .returned (sen x) ∧ w' = w := by
  go_enter Tryd.func33, Tryd.ntmps33
  go_wp2_with (first
    | (go_at_call 39; refine (there_yes b _ h0).mono ?_; rintro e w' ⟨rfl, rfl⟩)
    | (go_at_call 52; refine (mayBe_no width _ h1).mono ?_; rintro e w' ⟨rfl, rfl⟩))
  go_ret
  exact ⟨rfl, rfl⟩
theorem wfixed_nil (x : Addr) (n width : Int) (w : World) (hg : w.cell? ⟨0, 0, none⟩ = some (sen x)) :
    Calls Tryd.prog 33 #[.pointer none, .int .u64 n, .int .i64 width] w fun e w' => e = .returned (sen x) ∧ w' = w := by
  go_enter Tryd.func33, Tryd.ntmps33
  go_wp2_with (go_at_call 39; refine (there_nil _).mono ?_; rintro e w' ⟨rfl, rfl⟩)
  go_ret
  exact ⟨rfl, rfl⟩

theorem add_zero (g j : Nat) : (⟨g, 0, none⟩ : Addr).add j = ⟨g, j, none⟩ := by unfold Addr.add; split <;> simp_all
theorem bc_one (l : List UInt8) : ∀ u ∈ bc l, u.oneCell' = true := by
  intro u hu
  obtain ⟨_, _, rfl⟩ := List.mem_map.1 hu
  rfl
set_option maxRecDepth 100000 in
set_option maxHeartbeats 1000000 in
theorem whash (b : Nat) (v : Value) (l lh : List UInt8) (w : World) (h : Wr w b v l) (hh : lh.length = 32) (hl : l.length ≤ 1000000000000) :
    Calls Tryd.prog 36 #[.pointer (some ⟨b, 0, none⟩), .agg (bc lh).toArray] w fun e w' => e = .returned (.tuple #[]) ∧ ∃ v', Wr w' b v' (l ++ lh) ∧ Fr (WS b) w w' := by
  obtain ⟨i0, hi, hz0, hz1, hz2⟩ := info_parts8
  obtain ⟨A, hA⟩ : ∃ A, A = (bc lh).toArray := ⟨_, rfl⟩
  have hAs : A.size = 32 := by rw [hA]; simp [bc_len, hh]
  have hfr : Fr (fun _ => False) w (w.alloc (.cells A 32)) := (Fr.refl _ _).alloc _
  have hw1 : Wr (w.alloc (.cells A 32)) b v l := h.fr hfr (fun f => f) (fun _ _ f => f)
  have h0 := (cell_of hw1.blk 0).trans (show _ = some (Value.bool true) from rfl)
  have c1 := (cell_of hw1.blk 1).trans (show _ = some v from rfl)
  have hbl : (bc lh).length = 32 := by rw [bc_len, hh]
  have hcells : ∀ j u, (bc lh)[j]? = some u → (w.alloc (.cells A 32)).cell? ((⟨w.heap.size, 0, none⟩ : Addr).add j) = some u := by
    intro j u hj
    rw [show (⟨w.heap.size, 0, none⟩ : Addr).add j = ⟨w.heap.size, j, none⟩ from add_zero _ j, cell_of (heap_alloc_new w _), hA]
    simpa using hj
  have hsz := heap_lt h.blk
  rw [← hA]
  have HA : Hid (A = (bc lh).toArray) := hA
  clear hA
  go_enter Tryd.func36, Tryd.ntmps36
  go_wp2_with (go_at_call 39; refine (there_yes b _ h0).mono ?_; rintro e w' ⟨rfl, rfl⟩)
  go_region_law (refine step_append_own rfl _ _ 25 rfl (b + 1) 5 i0 (.int .u8 0) 1 1 Tryd.underlying25 hi hz0 hz1 hz2 rfl (by decide) _ _ _ rfl hw1.own ⟨w.heap.size, 0, none⟩ 32 32 (bc lh) rfl hbl hcells (bc_one lh) (by unfold maxLen; omega) (by omega) (by simp; omega) ?_; intro v' w2 hown' hgrow; obtain ⟨ga, gk, gc, rfl⟩ := ownsRow_form hown'; obtain ⟨hq1, hq2⟩ := hw1.at1 (Fr.refl _ _).drew hgrow)
  all_goals try go_wp2
  all_goals
    obtain ⟨hw2, hf2⟩ := hw1.put (xs := lh) (Fr.refl _ _).drew hown' (by rw [hh]) hgrow
    go_end0
    exact ⟨rfl, _, hw2, (hfr.mono (fun _ _ f => f.elim)).trans hf2 (fun _ _ q => q)⟩
end Go.Proofs.YtlkkadkdanjfoaaDoor
