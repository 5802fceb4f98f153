/- A digest in memory: what filled and mix do. -/
import Derived.Test.YthkkjpefealdgaaDoorP3
namespace Go.Proofs.YthkkjpefealdgaaDoor
open Go.RowKit
set_option linter.unusedVariables false
set_option linter.unusedSimpArgs false

/-- A digest's cells. -/
def dcs (s : V8) (blk : List UInt8) (n : Nat) : Array Value := (.bool true :: ((vals s).toList ++ (bc blk ++ [.int .u64 (n : Int)]))).toArray
theorem vals_len (s : V8) : (vals s).toList.length = 8 := rfl
theorem vals_size (s : V8) : (vals s).size = 8 := rfl
theorem dcs_size (s : V8) (blk : List UInt8) (n : Nat) (h : blk.length = 64) : (dcs s blk n).size = 74 := by
  simp [dcs, vals_size, bc_len, h]
theorem dcs_0 (s : V8) (blk : List UInt8) (n : Nat) : (dcs s blk n)[0]? = some (.bool true) := rfl
theorem dcs_73 (s : V8) (blk : List UInt8) (n : Nat) (h : blk.length = 64) : (dcs s blk n)[73]? = some (.int .u64 (n : Int)) := by
  simp only [dcs, List.getElem?_toArray, List.getElem?_cons_succ]
  rw [List.getElem?_append_right (by rw [vals_len]; omega), vals_len, List.getElem?_append_right (by rw [bc_len, h]; omega), bc_len, h]
  rfl
theorem dcs_w (s : V8) (blk : List UInt8) (n j : Nat) (hj : j < 8) : (dcs s blk n)[1 + j]? = (vals s)[j]? := by
  rw [Nat.add_comm]
  simp only [dcs, List.getElem?_toArray, List.getElem?_cons_succ]
  rw [List.getElem?_append_left (by rw [vals_len]; omega), Array.getElem?_toList]
theorem dcs_b (s : V8) (blk : List UInt8) (n j : Nat) (hj : j < 64) (h : blk.length = 64) : (dcs s blk n)[9 + j]? = some (.int .u8 ((blk.getD j 0).toNat : Nat)) := by
  rw [show 9 + j = (8 + j) + 1 by omega]
  simp only [dcs, List.getElem?_toArray, List.getElem?_cons_succ]
  rw [List.getElem?_append_right (by rw [vals_len]; omega), vals_len, show 8 + j - 8 = j by omega, List.getElem?_append_left (by rw [bc_len, h]; omega), bc, List.getElem?_map, List.getElem?_eq_getElem (by omega), List.getD_eq_getElem?_getD, List.getElem?_eq_getElem (by omega)]
  rfl
theorem dcs_words (s s' : V8) (blk : List UInt8) (n : Nat) : (dcs s' blk n).toList = (dcs s blk n).toList.take 1 ++ (vals s').toList ++ (dcs s blk n).toList.drop (1 + 8) := by
  simp only [dcs, List.toList_toArray, List.take_succ_cons, List.take_zero, Nat.add_comm 1 8, List.drop_succ_cons]
  rw [List.drop_append_of_le_length (by rw [vals_len]; omega), show ((vals s).toList.drop 8) = [] from List.drop_of_length_le (by rw [vals_len]; omega)]
  simp
theorem dcs_copy (s : V8) (blk c : List UInt8) (n f : Nat) (h : blk.length = 64) (hf : f + c.length ≤ 64) : (dcs s (blk.take f ++ c ++ blk.drop (f + c.length)) n).toList = (dcs s blk n).toList.take (9 + f) ++ bc c ++ (dcs s blk n).toList.drop (9 + f + c.length) := by
  simp only [dcs, List.toList_toArray]
  rw [show 9 + f = (8 + f) + 1 by omega, show 8 + f + 1 + c.length = (8 + (f + c.length)) + 1 by omega, List.take_succ_cons, List.drop_succ_cons]
  have e1 : ((vals s).toList ++ (bc blk ++ [Value.int .u64 (n : Int)])).take (8 + f) = (vals s).toList ++ bc (blk.take f) := by
    rw [List.take_append, List.take_of_length_le (by rw [vals_len]; omega), vals_len, show 8 + f - 8 = f by omega, List.take_append_of_le_length (by rw [bc_len]; omega)]
    simp [bc]
  have e2 : ((vals s).toList ++ (bc blk ++ [Value.int .u64 (n : Int)])).drop (8 + (f + c.length)) = bc (blk.drop (f + c.length)) ++ [Value.int .u64 (n : Int)] := by
    rw [List.drop_append, List.drop_of_length_le (by rw [vals_len]; omega), vals_len, show 8 + (f + c.length) - 8 = f + c.length by omega, List.drop_append_of_le_length (by rw [bc_len]; omega)]
    simp [bc]
  rw [e1, e2]
  simp [bc_app]
theorem dcs_count (s : V8) (blk : List UInt8) (n m : Nat) (h : blk.length = 64) : (dcs s blk n).setIfInBounds 73 (.int .u64 (m : Int)) = dcs s blk m := by
  apply Array.ext'
  rw [Array.toList_setIfInBounds]
  simp only [dcs, List.toList_toArray, List.set_cons_succ]
  rw [List.set_append_right _ _ (by rw [vals_len]; omega), vals_len, List.set_append_right _ _ (by rw [bc_len, h]; omega), bc_len, h]
  rfl
/-- A block of bytes as numbers. -/
abbrev bn (blk : List UInt8) : Nat → Nat := fun i => (blk.getD i 0).toNat
/-- The words behind a block. -/
def comp (s : V8) (blk : List UInt8) : V8 := add8 s (rounds Kc (Wf (bn blk)) s 64)
theorem comp_ok (s : V8) (blk : List UInt8) : (comp s blk).ok := add8_ok _ _
theorem vals_one (s : V8) : ∀ u ∈ (vals s).toList, u.oneCell' = true := by simp [vals, Value.oneCell']
abbrev tD : TypeId := 96

set_option maxRecDepth 100000 in
set_option maxHeartbeats 1000000 in
theorem filled_any (d n : Nat) (hn : n < 18446744073709551616) (w : World) (hc : w.cell? ⟨d, 73, none⟩ = some (.int .u64 (n : Int))) :
    Calls Tryd.prog 56 #[.pointer (some ⟨d, 0, none⟩)] w fun e w' => e = .returned (.int .i64 ((n % 64 : Nat) : Int)) ∧ w' = w := by
  go_enter Tryd.func56, Tryd.ntmps56
  go_wp2
  go_ret
  exact ⟨by go_num, rfl⟩

set_option maxRecDepth 100000 in
set_option maxHeartbeats 1000000 in
theorem mix_any (d : Nat) (s : V8) (hs : s.ok) (blk : List UInt8) (hl : blk.length = 64) (n : Nat) (w : World) (hd : w.heap[d]? = some (.cells (dcs s blk n) tD (0, 0))) (hK : Ks w) :
    Calls Tryd.prog 57 #[.pointer (some ⟨d, 0, none⟩)] w fun e w' => e = .returned (.tuple #[]) ∧ w'.heap[d]? = some (.cells (dcs (comp s blk) blk n) tD (0, 0)) ∧ Fr (fun k => k = d) w w' := by
  have HK : Hid (Ks w) := hK
  clear hK
  have hdl := heap_lt hd
  have HL : Hid (blk.length = 64) := hl
  clear hl
  go_enter Tryd.func57, Tryd.ntmps57
  go_wp2_with fail
  have q := spread_any d (bn blk) (fun i _ => UInt8.toNat_lt _) w (fun i hi => (cell_of hd (9 + i)).trans (dcs_b s blk n i hi HL.out))
  refine q.mono ?_
  rintro e w1 ⟨rfl, n1⟩
  have d1 := (n1.block d hdl (fun f => f)).trans hd
  have n1s := n1.size
  go_wp2_with first
    | (refine wp_store_agg rfl (.tmp 2) (.tmp 6) 136 64 rfl Tryd.sizeOf136 w1.heap.size 0 rfl _ 136 (heap_new _ _) (wcs (bn blk) 64) rfl (wcs_size _ _) (wcs_one _ _) (by decide) (wcs (bn blk) 64) (by simp) ?_; intro w2 j2 f2 z2; have n2 : Nw w w2 := (n1.alloc _).trans f2 (fun k hk q => by omega); have d2 := (n2.block d hdl (fun f => f)).trans hd)
    | (refine wp_load_agg rfl (.tmp 10) 93 8 rfl Tryd.isAgg93 Tryd.sizeOf93 d 1 rfl (dcs s blk n) tD (0, 0) d2 (vals s) rfl (fun j hj => dcs_w s blk n j hj) ?_)
    | (go_at_call 62; refine (mixed_any s hs w1.heap.size (Wf (bn blk)) (fun i hi => Wf_lt _ (fun i _ => UInt8.toNat_lt _) i hi) w2 (fun i hi => (cell_of j2 i).trans (wcs_get _ 64 i hi (Nat.le_refl _))) (HK.out.nw n2)).mono ?_; rintro e w3 ⟨rfl, n3⟩; have n4 : Nw w w3 := n2.tr n3; have d3 := (n4.block d hdl (fun f => f)).trans hd)
    | (refine wp_store_agg rfl (.tmp 14) (.tmp 12) 93 8 rfl Tryd.sizeOf93 d 1 rfl (dcs s blk n) tD d3 (vals (comp s blk)) rfl rfl (vals_one _) (by rw [dcs_size _ _ _ HL.out]; decide) (dcs (comp s blk) blk n) (dcs_words s _ blk n) ?_; intro w5 j5 f5 z5)
  exact bodyPost_end (v := .tuple #[]) (by simp [results, Tryd.results57, go_sem]) rfl ⟨rfl, j5, (n4.mono (fun _ _ f => f.elim)).trans f5 (fun _ _ q => q)⟩
end Go.Proofs.YthkkjpefealdgaaDoor
