/- The document's forms, as its reference makes them: a number's, a text's, a hash's. -/
import Derived.Test.YtlkkadkdanjfoaaDoorX2
import Derived.Test.YtlkkadkdanjfoaaDoorAg
namespace Go.Proofs.YtlkkadkdanjfoaaDoor
open Go.RowKit Go.Lib
set_option linter.unusedVariables false
set_option linter.unusedSimpArgs false

theorem conv_own {w : World} {base : Nat} {v : Value} {l : List UInt8} (h : w.ownsRow base 5 1 v l.length (bc l)) : (convert 25 9 v).run Tryd.prog w = .ok (.string ⟨l.toArray⟩) w := by
  rcases h.2 with ⟨rfl, hn⟩ | ⟨g, cap, cur, rfl, _⟩
  · have : l = [] := List.eq_nil_of_length_eq_zero hn
    subst this
    exact conv_nil w
  · refine run_convert_bytes_back w _ _ _ _ _ _ Tryd.underlying25 Tryd.underlying5 Tryd.underlying9 (fun j hj => ?_)
    exact h.cells (g := g) rfl j _ (by simp [bc, hj])
theorem ref_byte (m : Nat) : (Value.int .u8 (128 + (m : Int) % 128)) = .int .u8 ((UInt8.ofNat (m % 128 + 128)).toNat : Nat) := by
  rw [UInt8.toNat_ofNat']
  congr 1
  omega

set_option maxRecDepth 100000 in
set_option maxHeartbeats 1000000 in
theorem refVar (N : Nat) (w : World) (hN : N < 18446744073709551616) :
    Calls Tryd.prog 30 #[.int .u64 N] w fun e w' => e = .returned (.string ⟨(varB N).toArray⟩) ∧ Fr (fun _ => False) w w' := by
  have hten := varB_ten N hN
  obtain ⟨i0, hi, hz0, hz1, hz2⟩ := info_parts8
  go_enter Tryd.func30, Tryd.ntmps30
  go_wp2
  go_loopw [0, 3] (fun n v1 wr => ∃ (m : Nat) (l1 : List UInt8), n = .int .u64 m ∧ m ≤ N ∧ wr.ownsRow w.heap.size 5 1 v1 l1.length (bc l1) ∧ l1 ++ varB m = varB N ∧ Fr (fun _ => False) w wr) (fun n _ _ => (RowKit.intOf n).toNat)
  case atStart => exact ⟨N, [], rfl, Nat.le_refl _, World.ownsRow_nil _ _ _ _, rfl, Fr.refl _ _⟩
  case round =>
    obtain ⟨m, l1, rfl, hm, hown, hll, hf⟩ := hrel
    have HL : Hid (l1 ++ varB m = varB N) := hll
    have hlen : l1.length ≤ 10 := by have := congrArg List.length hll; simp only [List.length_append] at this; omega
    clear hll
    have hsz := hf.size
    obtain ⟨ga, gk, gc, rfl⟩ := ownsRow_form hown
    by_cases hlt : m < 128
    · have HB : Hid (varB m = [UInt8.ofNat m]) := varB_lt hlt
      go_wp2_with (at_builtin; refine wpList_append_own _ rfl _ _ 25 rfl w.heap.size 5 i0 (.int .u8 0) 1 1 Tryd.underlying25 hi hz0 hz1 hz2 rfl (by decide) _ _ _ rfl (hown.alloc _) ⟨wr.heap.size, 0, none⟩ 1 1 [.int .u8 (m : Int)] rfl rfl (one_new _ _ _) (by simp [Value.oneCell']) (by unfold maxLen; omega) (by omega) (by simp; omega) ?_; intro v' w1 hown' hgrow _; have hown2 : w1.ownsRow w.heap.size 5 1 v' (l1 ++ [UInt8.ofNat m]).length (bc (l1 ++ [UInt8.ofNat m])) := (by rw [u8_of m (by omega)] at hown'; rw [bc_app, List.length_append]; exact hown'); have hcv := conv_own hown2; obtain ⟨ga2, gk2, gc2, rfl⟩ := ownsRow_form hown')
      go_ret
      exact ⟨by rw [← HL.out, HB.out]; rfl, (hf.alloc _).grown hgrow (fun k e hk => by have := hown.lt k e; omega)⟩
    · go_wp2_with (at_builtin; refine wpList_append_own _ rfl _ _ 25 rfl w.heap.size 5 i0 (.int .u8 0) 1 1 Tryd.underlying25 hi hz0 hz1 hz2 rfl (by decide) _ _ _ rfl (hown.alloc _) ⟨wr.heap.size, 0, none⟩ 1 1 [.int .u8 _] rfl rfl (one_new _ _ _) (by simp [Value.oneCell']) (by unfold maxLen; omega) (by omega) (by simp; omega) ?_; intro v' w1 hown' hgrow _; obtain ⟨ga2, gk2, gc2, rfl⟩ := ownsRow_form hown')
      go_roundw
      case rel =>
        have e8 := ref_byte m
        rw [e8] at hown'
        exact ⟨m / 128, l1 ++ [UInt8.ofNat (m % 128 + 128)], by go_num, by omega, by rw [bc_app, List.length_append]; exact hown', by rw [List.append_assoc, ← HL.out, varB_ge hlt]; rfl, (hf.alloc _).grown hgrow (fun k e hk => by have := hown.lt k e; omega)⟩
      case measure => simp [RowKit.intOf]; omega

theorem cat_bytes (a b : List UInt8) : (⟨a.toArray⟩ : ByteArray) ++ (⟨b.toArray⟩ : ByteArray) = ⟨(a ++ b).toArray⟩ := by
  apply ByteArray.ext
  rw [ByteArray.data_append]
  simp
theorem bytes_of (s : ByteArray) : s = ⟨s.data.toList.toArray⟩ := by
  apply ByteArray.ext
  simp

set_option maxRecDepth 100000 in
set_option maxHeartbeats 1000000 in
theorem refText (s : ByteArray) (w : World) (hs : s.size ≤ 1048576) :
    Calls Tryd.prog 31 #[.string s] w fun e w' => e = .returned (.string ⟨(varB s.size ++ s.data.toList).toArray⟩) ∧ Fr (fun _ => False) w w' := by
  have hten := varB_ten s.size (by omega)
  go_enter Tryd.func31, Tryd.ntmps31
  go_wp2_with fail
  refine (refVar s.size w (by omega)).mono ?_
  rintro e w1 ⟨rfl, f1⟩
  go_wp2_with fail
  go_ret
  refine ⟨?_, f1⟩
  rw [← cat_bytes, ← bytes_of]; rfl

set_option maxRecDepth 100000 in
set_option maxHeartbeats 1000000 in
theorem refHash (lh : List UInt8) (w : World) (hh : lh.length = 32) :
    Calls Tryd.prog 32 #[.agg (bc lh).toArray] w fun e w' => e = .returned (.string ⟨lh.toArray⟩) ∧ Fr (fun _ => False) w w' := by
  obtain ⟨i0, hi, hz0, hz1, hz2⟩ := info_parts8
  obtain ⟨A, hA⟩ : ∃ A, A = (bc lh).toArray := ⟨_, rfl⟩
  have hAs : A.size = 32 := by rw [hA]; simp [bc_len, hh]
  have hfr : Fr (fun _ => False) w (w.alloc (.cells A 32)) := (Fr.refl _ _).alloc _
  have hbk : (w.alloc (.cells A 32)).heap[w.heap.size]? = some (.cells A 32 (0, 0)) := heap_alloc_new w _
  have hlt0 : w.heap.size < (w.alloc (.cells A 32)).heap.size := by simp
  have hz0' : Hid ((w.alloc (.cells A 32)).heap.size = w.heap.size + 1) := by unfold Hid; simp
  rw [← hA]
  have HA : Hid (A = (bc lh).toArray) := hA
  clear hA
  obtain ⟨wa, hwa⟩ : ∃ wa, wa = w.alloc (.cells A 32) := ⟨_, rfl⟩
  go_enter Tryd.func32, Tryd.ntmps32
  go_wp2
  rw [← hwa] at hfr hbk hlt0 hz0' ⊢
  go_loopw [3, 4] (fun v1 i wr => ∃ (j : Nat), i = .int .i64 j ∧ j ≤ 32 ∧ wr.ownsRow (w.heap.size + 1) 5 1 v1 (lh.take j).length (bc (lh.take j)) ∧ Fr (fun _ => False) wa wr) (fun _ i _ => 32 - (RowKit.intOf i).toNat)
  case atStart => exact ⟨0, rfl, by omega, World.ownsRow_nil _ _ _ _, Fr.refl _ _⟩
  case round =>
    obtain ⟨j, rfl, hj, hown, hf⟩ := hrel
    have hsz := hf.size
    have hfw := hfr.trans hf (fun _ _ q => q)
    have hbr := (hf.block _ hlt0 (fun f => f)).trans hbk
    by_cases hlt : j < 32
    · have hlj : j < lh.length := by omega
      have hc : wr.cell? ⟨w.heap.size, j, none⟩ = some (.int .u8 (lh[j].toNat : Int)) := by rw [cell_of hbr, HA.out]; simp [bc, hlj]
      have hlen : (lh.take j).length ≤ 32 := by rw [List.length_take]; omega
      have hjl : (j : Int) < 32 := by omega
      obtain ⟨ga, gk, gc, rfl⟩ := ownsRow_form hown
      go_wp2_with (at_builtin; refine wpList_append_own _ rfl _ _ 25 rfl (w.heap.size + 1) 5 i0 (.int .u8 0) 1 1 Tryd.underlying25 hi hz0 hz1 hz2 rfl (by decide) _ _ _ rfl (hown.alloc _) ⟨wr.heap.size, 0, none⟩ 1 1 [.int .u8 (lh[j].toNat : Int)] rfl rfl (one_new _ _ _) (by simp [Value.oneCell']) (by unfold maxLen; omega) (by omega) (by simp; omega) ?_; intro v' w1 hown' hgrow _; obtain ⟨ga2, gk2, gc2, rfl⟩ := ownsRow_form hown')
      go_roundw
      case rel => exact ⟨j + 1, by go_num, by omega, by rw [List.take_succ_eq_append_getElem hlj, bc_app, List.length_append]; exact hown', (hf.alloc _).grown hgrow (fun k e hk => by have := hown.lt k e; have := hz0'.out; omega)⟩
      case measure => simp [RowKit.intOf]; omega
    · have hge : ¬ ((j : Int) < 32) := by omega
      have hcv := conv_own hown
      rw [List.take_of_length_le (by omega)] at hcv
      obtain ⟨ga, gk, gc, rfl⟩ := ownsRow_form hown
      go_wp2
      go_ret
      exact ⟨rfl, hfw⟩
end Go.Proofs.YtlkkadkdanjfoaaDoor
