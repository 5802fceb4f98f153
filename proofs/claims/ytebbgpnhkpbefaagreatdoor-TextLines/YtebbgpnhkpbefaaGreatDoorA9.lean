/- Controls, blanks, names, plain texts: what the program answers. -/
import Derived.Test.YtebbgpnhkpbefaaGreatDoorA8
import Derived.Test.YtebbgpnhkpbefaaGreatDoorWv
import Derived.Test.YtebbgpnhkpbefaaGreatDoorAg
import Derived.Test.YtebbgpnhkpbefaaGreatDoorM7
import Derived.Lib.OthersKept
namespace Go.Proofs.YtebbgpnhkpbefaaGreatDoor
open Go.RowKit
set_option linter.unusedVariables false
set_option linter.unusedSimpArgs false

theorem ctl_any (n : Nat) (w : World) (h : n ≤ 1114111) : Calls Tryz.prog 121 #[.int .i32 (n : Int)] w fun e w' => e = .returned (.bool (ctl n)) ∧ w' = w := by
  have e1 : decide ((n : Int) ≤ 31) = decide (n ≤ 31) := decide_eq_decide.2 (by omega)
  have e2 : decide ((127 : Int) ≤ n) = decide (127 ≤ n) := decide_eq_decide.2 (by omega)
  have e3 : decide ((n : Int) ≤ 159) = decide (n ≤ 159) := decide_eq_decide.2 (by omega)
  have hc : Hid (ctl n = (decide ((n : Int) ≤ 31) || (decide ((127 : Int) ≤ n) && decide ((n : Int) ≤ 159)))) := by unfold Hid ctl; rw [e1, e2, e3]
  clear e1 e2 e3
  by_cases c1 : (n : Int) ≤ 31
  all_goals
    by_cases c2 : (127 : Int) ≤ n
    all_goals
      by_cases c3 : (n : Int) ≤ 159
      all_goals
        first
        | (exfalso; omega; done)
        | (go_enter Tryz.func121, Tryz.ntmps121
           go_wp2
           go_ret
           refine ⟨?_, rfl⟩
           rw [hc.out]
           simp [c1, c2, c3])
/-- The blanks. -/
def blkL : List Nat := [32, 133, 160, 5760, 8192, 8193, 8194, 8195, 8196, 8197, 8198, 8199, 8200, 8201, 8202, 8232, 8233, 8239, 8287, 12288]
theorem blk_eq (n : Nat) : blk n = blkL.contains n := rfl
/-- What the program's tables hold. -/
structure Tabs (w : World) : Prop where
  u8 : Lib.Utf8Tabs 17 18 w
  bl : ∀ j, j < 20 → w.cell? ⟨19, j, none⟩ = some (.int .i32 ((blkL.getD j 0 : Nat) : Int))
theorem Tabs.fr {w w' : World} (h : Tabs w) (hf : Nw w w') : Tabs w' :=
  ⟨⟨fun c hc => hf.cellOf (h.u8.1 c hc), fun i hi => ⟨hf.cellOf (h.u8.2 i hi).1, hf.cellOf (h.u8.2 i hi).2⟩⟩, fun j hj => hf.cellOf (h.bl j hj)⟩
/-- The blanks as the program loads them. -/
abbrev blkV : Array Value := #[.int .i32 32, .int .i32 133, .int .i32 160, .int .i32 5760, .int .i32 8192, .int .i32 8193, .int .i32 8194, .int .i32 8195, .int .i32 8196, .int .i32 8197, .int .i32 8198, .int .i32 8199, .int .i32 8200, .int .i32 8201, .int .i32 8202, .int .i32 8232, .int .i32 8233, .int .i32 8239, .int .i32 8287, .int .i32 12288]
theorem blkV_get : ∀ j, j < 20 → blkV[j]? = some (.int .i32 ((blkL.getD j 0 : Nat) : Int)) := by
  intro j hj
  have : j ∈ List.range 20 := List.mem_range.2 hj
  have hall : ∀ j ∈ List.range 20, blkV[j]? = some (.int .i32 ((blkL.getD j 0 : Nat) : Int)) := by
    intro j hj
    simp only [show List.range 20 = [0, 1, 2, 3, 4, 5, 6, 7, 8, 9, 10, 11, 12, 13, 14, 15, 16, 17, 18, 19] from rfl, List.mem_cons, List.not_mem_nil, or_false] at hj
    rcases hj with rfl | rfl | rfl | rfl | rfl | rfl | rfl | rfl | rfl | rfl | rfl | rfl | rfl | rfl | rfl | rfl | rfl | rfl | rfl | rfl <;> rfl
  exact hall j this
theorem index_blk (V : Array Value) (hV : V.size = 20) (k : Nat) (hk : k < 20) (x : Int) (hg : V[k]? = some (.int .i32 x)) (w : World) : (Instr.index 204 (.agg V) (.int .i64 (k : Int))).run Tryz.prog w = .ok (.int .i32 x) w := by
  have hn : (0 : Int) ≤ (k : Int) ∧ (k : Int) < 20 := by omega
  simp [Instr.index, run_underlying Tryz.underlying204, asIntOf, hn, go_sem]
  rw [if_pos hk, hg]
  rfl
set_option maxRecDepth 100000 in
set_option maxHeartbeats 1000000 in
theorem blank_any (n : Nat) (w : World) (h : n ≤ 1114111) (hT : Tabs w) : Calls Tryz.prog 122 #[.int .i32 (n : Int)] w fun e w' => e = .returned (.bool (blk n)) ∧ w' = w := by
  have hcell : ∀ j u, blkV[j]? = some u → w.cell? ⟨19, 0 + j, none⟩ = some u := by
    intro j u hu
    have hj : j < 20 := (Array.getElem?_eq_some_iff.1 hu).1
    rw [Nat.zero_add, hT.bl j hj, ← blkV_get j hj]; exact hu
  obtain ⟨V, hV⟩ : ∃ V, V = blkV := ⟨_, rfl⟩
  have hVg : Hid (∀ j, j < 20 → V[j]? = some (.int .i32 ((blkL.getD j 0 : Nat) : Int))) := by rw [hV]; exact blkV_get
  have hVs : V.size = 20 := by rw [hV]; rfl
  rw [← hV] at hcell
  clear hV
  go_enter Tryz.func122, Tryz.ntmps122
  go_wp2_with (refine wp_load_cells rfl (.global 19) 204 20 rfl Tryz.isAgg204 Tryz.sizeOf204 19 0 rfl V hVs hcell ?_)
  go_loop [6] (fun i => ∃ k : Nat, k ≤ 20 ∧ i = .int .i64 k ∧ ∀ j, j < k → n ≠ blkL.getD j 0) (fun i => 21 - (intOf i).toNat)
  case atStart => exact ⟨0, by omega, rfl, fun j hj => absurd hj (by omega)⟩
  case round =>
    obtain ⟨k, hk, rfl, hno⟩ := hrel
    have HNO : Hid (∀ j, j < k → n ≠ blkL.getD j 0) := hno
    clear hno
    by_cases hlt : k < 20
    · have hg := hVg.out k hlt
      have hix := index_blk V hVs k hlt _ hg
      obtain ⟨x, hx⟩ : ∃ x, x = blkL.getD k 0 := ⟨_, rfl⟩
      have HX : Hid (x = blkL.getD k 0) := hx
      rw [← hx] at hix
      clear hg hx
      by_cases he : n = x
      · subst he
        have hb : Hid (blk n = true) := by
          unfold Hid
          rw [blk_eq, List.contains_iff_mem.2 (show n ∈ blkL by rw [HX.out, List.getD_eq_getElem?_getD, List.getElem?_eq_getElem (show k < blkL.length from hlt)]; exact List.getElem_mem _)]
        go_wp2
        go_ret
        exact ⟨by rw [hb.out]; rfl, rfl⟩
      · have hz : ((n : Int) == (x : Int)) = false := by rw [beq_eq_false_iff_ne]; omega
        go_wp2
        refine ⟨⟨k + 1, by omega, by go_num, fun j hj => ?_⟩, by simp [intOf]; omega⟩
        by_cases hjk : j = k
        · subst hjk; rw [← HX.out]; exact he
        · exact HNO.out j (by omega)
    · obtain rfl : k = 20 := by omega
      have hb : Hid (blk n = false) := by
        unfold Hid
        rw [blk_eq, Bool.eq_false_iff]
        intro hc
        obtain ⟨j, hj, he⟩ := List.mem_iff_getElem.1 (List.contains_iff_mem.1 hc)
        exact HNO.out j hj (by rw [List.getD_eq_getElem?_getD, List.getElem?_eq_getElem hj]; exact he.symm)
      go_wp2
      go_ret
      exact ⟨by rw [hb.out]; rfl, rfl⟩
end Go.Proofs.YtebbgpnhkpbefaaGreatDoor
