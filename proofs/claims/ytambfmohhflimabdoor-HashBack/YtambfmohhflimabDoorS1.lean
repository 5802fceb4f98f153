/- What Hex and Show answer. -/
import Derived.Test.YtambfmohhflimabDoorH4
import Derived.Test.YtambfmohhflimabDoorWb
import Derived.Laws.BitsAllLaws
namespace Go.Proofs.YtambfmohhflimabDoor
open Go.RowKit
set_option linter.unusedVariables false
set_option linter.unusedSimpArgs false

def hexs : List UInt8 := [48, 49, 50, 51, 52, 53, 54, 55, 56, 57, 97, 98, 99, 100, 101, 102]
def hx (n : Nat) : UInt8 := hexs.getD n 0
def hex : List UInt8 → List UInt8
  | [] => []
  | a :: r => hx (a.toNat / 16) :: hx (a.toNat % 16) :: hex r
theorem hex_append (l r : List UInt8) : hex (l ++ r) = hex l ++ hex r := by
  induction l with
  | nil => rfl
  | cons a t ih => simp [hex, ih]
theorem hex_length (l : List UInt8) : (hex l).length = 2 * l.length := by
  induction l with
  | nil => rfl
  | cons a t ih => simp [hex, ih]; omega
def C (l : List UInt8) (k : Nat) : UInt8 := l.getD k 0
theorem C_get (g : ByteArray) (k : Nat) (h : k < g.size) : g[k]'h = C g.data.toList k := by
  unfold C
  rw [List.getD_eq_getElem?_getD, List.getElem?_eq_getElem (by simpa using h)]
  rfl
theorem take_getD (l : List UInt8) (i : Nat) (h : i < l.length) : l.take (i + 1) = l.take i ++ [l.getD i 0] := by
  rw [List.take_succ_eq_append_getElem h, List.getD_eq_getElem?_getD, List.getElem?_eq_getElem h]
  rfl
abbrev hexsB : ByteArray := ⟨#[48, 49, 50, 51, 52, 53, 54, 55, 56, 57, 97, 98, 99, 100, 101, 102]⟩
theorem hexsB_get (i : Nat) (h : i < hexsB.size) : (hexsB[i]'h).toNat = (hx i).toNat := by
  unfold hx
  rw [List.getD_eq_getElem?_getD, List.getElem?_eq_getElem (show i < hexs.length from h)]
  rfl
theorem and15 (x : Nat) (h : x < 256) : bits .and .u8 (x : Int) 15 = ((x % 16 : Nat) : Int) := by
  have hx : x &&& 15 = x % 16 := Nat.and_two_pow_sub_one_eq_mod x 4
  rw [show (15 : Int) = ((15 : Nat) : Int) from rfl, u8_and_nat x 15 h (by decide), hx]
theorem hex_more (l : List UInt8) (k : Nat) (h : k < l.length) : hex (l.take (k + 1)) = hex (l.take k) ++ [hx ((C l k).toNat / 16)] ++ [hx ((C l k).toNat % 16)] := by
  rw [take_getD l k h, hex_append]
  simp [hex, C]
set_option maxRecDepth 100000 in
set_option maxHeartbeats 2000000 in
theorem hex_any (s : ByteArray) (w : World) (hs : s.size ≤ 70368744177663) :
    Calls Tryd.prog 21 #[.string s] w fun e w' => e = .returned (.string ⟨(hex s.data.toList).toArray⟩) ∧ Nw w w' := by
  obtain ⟨L, hL⟩ : ∃ L, L = s.data.toList := ⟨_, rfl⟩
  have hlen : L.length = s.size := by rw [hL, Array.length_toList]; rfl
  have hC : Hid (∀ k (h : k < s.size), s[k]'h = C L k) := fun k h => by rw [hL]; exact C_get s k h
  rw [← hL]
  clear hL
  go_enter Tryd.func21, Tryd.ntmps21
  go_wp2_with (go_at_call 27; refine (Tryd.Builder_Grow_fresh w.heap.size w.heap.size (2 * s.size) _ (Nat.le_refl _) (heap_alloc_new w _) (by simp) (by omega)).mono ?_; rintro e w1 ⟨rfl, hI, hb⟩)
  go_loopw [11] (fun i wr => ∃ k : Nat, k ≤ s.size ∧ i = .int .i64 k ∧ Lib.IsBuilder 67 5 w.heap.size w.heap.size (Lib.byteCells (hex (L.take k))) wr ∧ Below w.heap.size w wr) (fun i _ => s.size - (intOf i).toNat)
  case atStart => exact ⟨0, by omega, rfl, .inr (by simpa [hex, Lib.byteCells] using hI), ((Below.refl _ w).alloc (Nat.le_refl _) _).trans hb⟩
  case round =>
    obtain ⟨k, hk, rfl, hI', hb'⟩ := hrel
    by_cases hlt : k < s.size
    · have hck := hC.out k hlt
      have hsz : w.heap.size ≤ wr.heap.size := hb'.size
      have hmore := hex_more L k (by omega)
      have hll : (hex (L.take k)).length + 2 ≤ 140737488355328 := by rw [hex_length, List.length_take]; omega
      obtain ⟨c, hc⟩ : ∃ c, C L k = c := ⟨_, rfl⟩
      have hc256 : c.toNat < 256 := c.toNat_lt
      rw [hc] at hck hmore
      have HM : Hid (hex (L.take (k + 1)) = hex (L.take k) ++ [hx (c.toNat / 16)] ++ [hx (c.toNat % 16)]) := hmore
      clear hmore hc
      have i1 := and15 c.toNat hc256
      generalize hex (L.take k) = A at hI' hll HM
      have q1 : ∀ x : Int, Calls Tryd.prog 28 #[.pointer (some ⟨w.heap.size, 0, none⟩), .int .u8 x] wr _ := fun x => Tryd.Builder_WriteByte w.heap.size w.heap.size _ x wr hI' (by rw [Lib.byteCells_length]; omega) hsz
      go_wp2_with fail
      refine (q1 _).mono ?_
      rintro e w2 ⟨rfl, hA, hBw⟩
      have hx1 : Lib.BuilderAt 67 5 w.heap.size w.heap.size (.pointer (some ⟨w.heap.size, 0, none⟩)) (Lib.byteCells (A ++ [hx (c.toNat / 16)])) w2 := by
        rw [Lib.byteCells_append]
        have e1 := hexsB_get (c.toNat / 16) (show c.toNat / 16 < 16 by omega)
        have e2 : Lib.byteCells [hx (c.toNat / 16)] = [.int .u8 ((hx (c.toNat / 16)).toNat : Int)] := rfl
        rw [e2, ← e1]
        exact hA
      have q2 : ∀ x : Int, Calls Tryd.prog 28 #[.pointer (some ⟨w.heap.size, 0, none⟩), .int .u8 x] w2 _ := fun x => Tryd.Builder_WriteByte w.heap.size w.heap.size _ x w2 (.inr hx1) (by rw [Lib.byteCells_length, List.length_append]; simp; omega) (Nat.le_trans hsz hBw.size)
      clear hA
      go_wp2_with fail
      refine (q2 _).mono ?_
      rintro e w3 ⟨rfl, hA, hBw3⟩
      go_wp2_with fail
      refine ⟨⟨k + 1, by omega, by go_num, .inr ?_, (hb'.trans hBw).trans hBw3⟩, by simp [intOf]; omega⟩
      rw [HM.out, Lib.byteCells_append]
      have e1 := hexsB_get (c.toNat % 16) (show c.toNat % 16 < 16 by omega)
      have e2 : Lib.byteCells [hx (c.toNat % 16)] = [.int .u8 ((hx (c.toNat % 16)).toNat : Int)] := rfl
      rw [e2, ← e1]
      exact hA
    · obtain rfl : k = s.size := by omega
      rw [← hlen, List.take_length] at hI'
      have hsz : w.heap.size ≤ wr.heap.size := hb'.size
      go_wp2_with (go_at_call 29; refine (Tryd.Builder_String_any w.heap.size w.heap.size _ wr hI' hsz).mono ?_; rintro e w2 ⟨rfl, hb2⟩)
      go_ret
      exact ⟨rfl, Fr.ofBelow (hb'.trans hb2)⟩

set_option maxRecDepth 100000 in
set_option maxHeartbeats 1000000 in
theorem show_any (A : List UInt8) (hA : A.length = 32) (w : World) :
    Calls Tryd.prog 10 #[.agg (hbs A)] w fun e w' => e = .returned (.string ⟨(hex A).toArray⟩) ∧ Nw w w' := by
  have q1 := fun W => hex_any ⟨A.toArray⟩ W (by show A.toArray.size ≤ _; simp [hA])
  have e1 : (⟨A.toArray⟩ : ByteArray).data.toList = A := by simp
  rw [e1] at q1
  clear e1
  have j0 : (w.alloc (.cells (hbs A) 23)).heap[w.heap.size]? = some (.cells (hbs A) 23) := heap_new w _
  have n0 : Nw w (w.alloc (.cells (hbs A) 23)) := (Fr.refl _ _).alloc _
  have hc := conv_h j0 hA
  have has : (hbs A).size = 32 := by rw [hbs_size, hA]
  clear hA
  go_enter Tryd.func10, Tryd.ntmps10
  go_wp2_with fail
  refine (q1 _).mono ?_
  rintro e2 w2 ⟨rfl, n2⟩
  go_wp2
  go_ret
  exact ⟨rfl, n0.tr n2⟩
end Go.Proofs.YtambfmohhflimabDoor
