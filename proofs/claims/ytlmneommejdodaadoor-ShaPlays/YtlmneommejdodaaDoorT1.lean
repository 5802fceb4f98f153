/- Lists of texts: their size, a mark, a copy, compared. -/
import Derived.Test.YtlmneommejdodaaDoorT0
import Derived.Test.YtlmneommejdodaaDoorOc
import Derived.Lib.ItoaLen
import Derived.Laws.Concat
namespace Go.Proofs.YtlmneommejdodaaDoor
open Go.RowKit
set_option linter.unusedVariables false
set_option linter.unusedSimpArgs false

/-- How many bytes texts have, and one for each. -/
def tsz (ss : List ByteArray) : Nat := (ss.map fun x => 1 + x.size).sum
theorem tsz_step (ss : List ByteArray) (k : Nat) (x : ByteArray) (h : ss[k]? = some x) : tsz (ss.take (k + 1)) = tsz (ss.take k) + 1 + x.size := by
  unfold tsz
  rw [List.take_add_one, h]
  simp
  omega
theorem one_int (w : World) (n : Nat) : Ints (w.alloc (.cells #[.int .i64 (n : Int)] 3)) (some ⟨w.heap.size, 0, none⟩) [n] := fun j hj => by
  match j, hj with
  | 0, _ => exact ⟨_, _, rfl, by simp [cell_of (heap_new w _)]⟩
theorem getD_one (n : Nat) (h : n < 4611686018427387904) : ∀ j, [n].getD j 0 < 4611686018427387904 := fun j => by
  match j with
  | 0 => exact h
  | j + 1 => simp

set_option maxRecDepth 100000 in
set_option maxHeartbeats 1000000 in
theorem size_any (p : Option Addr) (c : Nat) (ss : List ByteArray) (w : World) (hp : Strs w p ss) (hx : ∀ x ∈ ss, x.size ≤ 140737488355328) (hl : ss.length ≤ 140737488355328) :
    Calls Tryd.prog 25 #[.slice p ss.length c] w fun e w' => (∃ m : Nat, e = .returned (.int .i64 (m : Int)) ∧ m < 4611686018427387904 ∧ (m ≤ 1048576 → m = tsz ss)) ∧ w' = w := by
  have HP : Hid (Strs w p ss) := hp
  have HX : Hid (∀ x ∈ ss, x.size ≤ 140737488355328) := hx
  clear hp hx
  obtain ⟨n, hn⟩ : ∃ n, n = ss.length := ⟨_, rfl⟩
  rw [← hn] at hl ⊢
  have Hn : Hid (n = ss.length) := hn
  clear hn
  go_enter Tryd.func25, Tryd.ntmps25
  go_wp2
  go_loop [3, 4] (fun s i => ∃ k m : Nat, k ≤ n ∧ i = .int .i64 k ∧ s = .int .i64 m ∧ m = tsz (ss.take k) ∧ m ≤ 140737489403905) (fun _ i => n - (intOf i).toNat)
  case atStart => exact ⟨0, 0, by omega, rfl, rfl, rfl, by omega⟩
  case round =>
    obtain ⟨k, m, hk, rfl, rfl, hm, hm2⟩ := hrel
    have HM : Hid (m = tsz (ss.take k)) := hm
    clear hm
    by_cases hlt : k < n
    · by_cases hbig : m ≤ 1048576
      · have hx : ss[k]? = some (ss[k]'(by have := Hn.out; omega)) := List.getElem?_eq_getElem _
        have hxm := HX.out _ (List.getElem_mem (show k < ss.length by have := Hn.out; omega))
        generalize ss[k]'(by have := Hn.out; omega) = x at hx hxm
        obtain ⟨g, o, rfl, hc⟩ := HP.out k x hx
        have hst : Hid (tsz (ss.take (k + 1)) = tsz (ss.take k) + 1 + x.size) := tsz_step ss k x hx
        clear hx
        have hki : (k : Int) < (n : Int) := by omega
        have hb : (m : Int) ≤ 1048576 := by omega
        go_wp2
        exact ⟨⟨k + 1, m + 1 + x.size, by omega, by go_num, by go_num, by rw [hst.out, ← HM.out], by omega⟩, by simp [intOf]; omega⟩
      · have hki : (k : Int) < (n : Int) := by omega
        have hb : ¬ (m : Int) ≤ 1048576 := by omega
        go_wp2
        go_ret
        exact ⟨⟨m, rfl, by omega, fun h => absurd h hbig⟩, rfl⟩
    · have hge : ¬ (k : Int) < (n : Int) := by omega
      have HE : Hid (m = tsz ss) := by
        unfold Hid
        have h1 := HM.out
        rw [List.take_of_length_le (by have := Hn.out; omega)] at h1
        exact h1
      clear hlt
      go_wp2
      go_ret
      exact ⟨⟨m, rfl, by omega, fun _ => HE.out⟩, rfl⟩
set_option maxRecDepth 100000 in
set_option maxHeartbeats 1000000 in
theorem far_any (p : Option Addr) (c : Nat) (ss : List ByteArray) (w : World) (hp : Strs w p ss) (hx : ∀ x ∈ ss, x.size ≤ 140737488355328) (hl : ss.length ≤ 140737488355328) :
    Calls Tryd.prog 9 #[.slice p ss.length c] w fun e w' => (∃ b : Bool, e = .returned (.bool b) ∧ (b = false → tsz ss ≤ 1048576)) ∧ Nw w w' := by
  have q1 := size_any p c ss w hp hx hl
  go_enter Tryd.func9, Tryd.ntmps9
  go_wp2_with fail
  refine q1.mono ?_
  rintro e1 w1 ⟨⟨m, rfl, hm, hm2⟩, rfl⟩
  have q2 := beyond_any (some ⟨w1.heap.size, 0, none⟩) 1 [m] _ (one_int w1 m) (getD_one m hm) (by simp)
  clear q1
  go_wp2_with fail
  refine q2.mono ?_
  rintro e2 w2 ⟨rfl, rfl⟩
  clear q2
  go_wp2_with fail
  go_ret
  refine ⟨⟨_, rfl, fun h => ?_⟩, (Fr.refl _ _).alloc _⟩
  have h1 : ¬ 1048576 < [m].sum := of_decide_eq_false h
  simp at h1
  rw [← hm2 h1]
  exact h1
/-- The mark behind a copy. -/
def mark7 : ByteArray := (⟨#[35]⟩ : ByteArray) ++ ⟨(Lib.itoa 7777).toArray⟩
theorem add_any (a b : ByteArray) (h : a.size + b.size ≤ 9223372036854775807) : ∀ W : World, (Op.stringOp .add a b).run Tryd.prog W = .ok (.string (a ++ b)) W := fun W => run_string_add_sum W a b h
theorem mark_small : (⟨(Lib.itoa 7777).toArray⟩ : ByteArray).size ≤ 21 := by
  have := Lib.itoa_length_le 7777 (by decide) (by decide)
  show (Lib.itoa 7777).toArray.size ≤ 21
  simpa using this
set_option maxRecDepth 100000 in
theorem word_any (w : World) (hP : Pow w) : Calls Tryd.prog 38 #[.int .i64 7777] w fun e w' => e = .returned (.string mark7) ∧ Nw w w' := by
  have q1 := Tryd.strconv_Itoa 7777 (by decide) (by decide) w hP
  have hm := mark_small
  unfold mark7
  generalize (⟨(Lib.itoa 7777).toArray⟩ : ByteArray) = X at q1 hm ⊢
  have hadd := add_any ⟨#[35]⟩ X (by have h1 : (⟨#[35]⟩ : ByteArray).size = 1 := rfl; omega)
  go_enter Tryd.func38, Tryd.ntmps38
  go_wp2_with fail
  refine q1.mono ?_
  rintro e1 w1 ⟨rfl, k, os, rfl⟩
  have n1 : Nw w (Go.Sort.grow (w.drewN k) os) := Fr.ofBelow (Lib.below_grow _ w (Nat.le_refl _) k os)
  generalize Go.Sort.grow (w.drewN k) os = w1 at n1 ⊢
  clear q1
  go_wp2_with fail
  go_ret
  exact ⟨rfl, n1⟩
theorem marktext_any (w : World) (hP : Pow w) : Calls Tryd.prog 26 #[.int .i64 7777] w fun e w' => e = .returned (.string mark7) ∧ Nw w w' := by
  have q1 := word_any w hP
  generalize mark7 = X at q1 ⊢
  go_enter Tryd.func26, Tryd.ntmps26
  go_wp2_with fail
  refine q1.mono ?_
  rintro e1 w1 ⟨rfl, n1⟩
  clear q1
  go_wp2_with fail
  go_ret
  exact ⟨rfl, n1⟩
theorem istext_any (w : World) (hP : Pow w) : Calls Tryd.prog 34 #[.string mark7, .int .i64 7777] w fun e w' => e = .returned (.bool true) ∧ Nw w w' := by
  have q1 := word_any w hP
  generalize mark7 = X at q1 ⊢
  go_enter Tryd.func34, Tryd.ntmps34
  go_wp2_with fail
  refine q1.mono ?_
  rintro e1 w1 ⟨rfl, n1⟩
  clear q1
  go_wp2_with fail
  go_ret
  exact ⟨by simp, n1⟩
end Go.Proofs.YtlmneommejdodaaDoor
