/- Bytes by letters: what Base64 answers. -/
import Derived.Test.YtebbgpnhkpbefaaGreatDoorBase
import Derived.Test.YtebbgpnhkpbefaaGreatDoorWb
import Derived.Test.YtebbgpnhkpbefaaGreatDoorM4
import Derived.Laws.BitsAllLaws
namespace Go.Proofs.YtebbgpnhkpbefaaGreatDoor
open Go.RowKit
set_option linter.unusedVariables false
set_option linter.unusedSimpArgs false

/-- A byte of a text, as a number. -/
def gb (g : ByteArray) (k : Nat) : Nat := (g.data.toList.getD k 0).toNat
theorem gb_get (g : ByteArray) (k : Nat) (h : k < g.size) : (g[k]'h).toNat = gb g k := by
  unfold gb
  rw [List.getD_eq_getElem?_getD, List.getElem?_eq_getElem (by simpa using h)]
  rfl
theorem gb_lt (g : ByteArray) (k : Nat) : gb g k < 256 := UInt8.toNat_lt _
theorem or32 (m x y : Nat) (hy : y < 2 ^ m) (hs : 2 ^ m * x + y < 4294967296) : bits .or .u32 ((2 ^ m * x : Nat) : Int) (y : Int) = ((2 ^ m * x + y : Nat) : Int) := by
  rw [u32_or_nat _ _ (by omega) (by omega), Nat.two_pow_add_eq_or_of_lt hy]
theorem and63 (x : Nat) (h : x < 4294967296) : bits .and .u32 (x : Int) 63 = ((x % 64 : Nat) : Int) := by
  rw [show (63 : Int) = ((63 : Nat) : Int) from rfl, u32_and_nat _ _ h (by omega)]
  congr 1
  exact Nat.and_two_pow_sub_one_eq_mod x 6
/-- The bits of the first so many bytes. -/
def acc3 (g : ByteArray) (k : Nat) : Nat := (if 0 < k then gb g 0 * 65536 else 0) + (if 1 < k then gb g 1 * 256 else 0) + (if 2 < k then gb g 2 else 0)
theorem acc3_lt (g : ByteArray) (k : Nat) : acc3 g k < 16777216 := by
  have := gb_lt g 0; have := gb_lt g 1; have := gb_lt g 2
  unfold acc3
  split <;> split <;> split <;> omega
theorem acc3_0 (g : ByteArray) (c : Nat) (hc : c = gb g 0) : bits .or .u32 0 ((c : Int) % 4294967296 * 65536 % 4294967296) = ((acc3 g 1 : Nat) : Int) := by
  have := gb_lt g 0
  subst hc
  have e : ((gb g 0 : Int) % 4294967296 * 65536 % 4294967296) = ((gb g 0 * 65536 : Nat) : Int) := by omega
  have := or32 24 0 (gb g 0 * 65536) (by omega) (by omega)
  rw [e]
  simpa [acc3] using this
theorem acc3_1 (g : ByteArray) (c : Nat) (hc : c = gb g 1) : bits .or .u32 ((acc3 g 1 : Nat) : Int) ((c : Int) % 4294967296 * 256 % 4294967296) = ((acc3 g 2 : Nat) : Int) := by
  have := gb_lt g 0; have := gb_lt g 1
  subst hc
  have e : ((gb g 1 : Int) % 4294967296 * 256 % 4294967296) = ((gb g 1 * 256 : Nat) : Int) := by omega
  have h := or32 16 (gb g 0) (gb g 1 * 256) (by omega) (by omega)
  rw [e]
  have e1 : acc3 g 1 = 2 ^ 16 * gb g 0 := by simp [acc3]; omega
  have e2 : acc3 g 2 = 2 ^ 16 * gb g 0 + gb g 1 * 256 := by simp [acc3]; omega
  rw [e1, e2]; exact h
theorem acc3_2 (g : ByteArray) (c : Nat) (hc : c = gb g 2) : bits .or .u32 ((acc3 g 2 : Nat) : Int) ((c : Int) % 4294967296) = ((acc3 g 3 : Nat) : Int) := by
  have := gb_lt g 0; have := gb_lt g 1; have := gb_lt g 2
  subst hc
  have e : ((gb g 2 : Int) % 4294967296) = ((gb g 2 : Nat) : Int) := by omega
  have h := or32 8 (256 * gb g 0 + gb g 1) (gb g 2) (by omega) (by omega)
  rw [e]
  have e1 : acc3 g 2 = 2 ^ 8 * (256 * gb g 0 + gb g 1) := by simp [acc3]; omega
  have e2 : acc3 g 3 = 2 ^ 8 * (256 * gb g 0 + gb g 1) + gb g 2 := by simp [acc3]; omega
  rw [e1, e2]; exact h

/-- The letter at place k of those that tell a group. -/
def tg (g : ByteArray) (k : Nat) : UInt8 := (b64 g.data.toList).getD k 0
theorem list_of (g : ByteArray) (h1 : 1 ≤ g.size) (h3 : g.size ≤ 3) : (∃ x, g.data.toList = [x] ∧ g.size = 1) ∨ (∃ x y, g.data.toList = [x, y] ∧ g.size = 2) ∨ (∃ x y z, g.data.toList = [x, y, z] ∧ g.size = 3) := by
  have hs : g.data.toList.length = g.size := by rw [Array.length_toList]; rfl
  rcases hl : g.data.toList with _ | ⟨x, _ | ⟨y, _ | ⟨z, _ | ⟨u, r⟩⟩⟩⟩
  · rw [hl] at hs; simp at hs; omega
  · rw [hl] at hs; exact .inl ⟨x, rfl, hs.symm⟩
  · rw [hl] at hs; exact .inr (.inl ⟨x, y, rfl, hs.symm⟩)
  · rw [hl] at hs; exact .inr (.inr ⟨x, y, z, rfl, hs.symm⟩)
  · rw [hl] at hs; simp at hs; omega
theorem b64_four (g : ByteArray) (h1 : 1 ≤ g.size) (h3 : g.size ≤ 3) : (b64 g.data.toList).length = 4 := by
  rw [b64_length, Array.length_toList]
  show (g.size + 2) / 3 * 4 = 4
  omega
theorem take_tg (g : ByteArray) (k : Nat) (hk : k < (b64 g.data.toList).length) : (b64 g.data.toList).take (k + 1) = (b64 g.data.toList).take k ++ [tg g k] := by
  rw [List.take_succ_eq_append_getElem hk]
  unfold tg
  rw [List.getD_eq_getElem?_getD, List.getElem?_eq_getElem hk]
  rfl
theorem tg_0 (g : ByteArray) (h1 : 1 ≤ g.size) (h3 : g.size ≤ 3) : tg g 0 = lt (acc3 g g.size / 262144 % 64) := by
  have hl := acc3_lt g g.size
  rw [show acc3 g g.size / 262144 % 64 = acc3 g g.size / 262144 by omega]
  rcases list_of g h1 h3 with ⟨x, e, hs⟩ | ⟨x, y, e, hs⟩ | ⟨x, y, z, e, hs⟩ <;> simp [tg, acc3, gb, e, hs, b64, n3]
theorem tg_1 (g : ByteArray) (h1 : 1 ≤ g.size) (h3 : g.size ≤ 3) : tg g 1 = lt (acc3 g g.size / 4096 % 64) := by
  rcases list_of g h1 h3 with ⟨x, e, hs⟩ | ⟨x, y, e, hs⟩ | ⟨x, y, z, e, hs⟩ <;> simp [tg, acc3, gb, e, hs, b64, n3]
theorem tg_2 (g : ByteArray) (h1 : 1 ≤ g.size) (h3 : g.size ≤ 3) : tg g 2 = if g.size = 1 then 61 else lt (acc3 g g.size / 64 % 64) := by
  rcases list_of g h1 h3 with ⟨x, e, hs⟩ | ⟨x, y, e, hs⟩ | ⟨x, y, z, e, hs⟩ <;> simp [tg, acc3, gb, e, hs, b64, n3]
theorem tg_3 (g : ByteArray) (h1 : 1 ≤ g.size) (h3 : g.size ≤ 3) : tg g 3 = if g.size = 3 then lt (acc3 g g.size % 64) else 61 := by
  rcases list_of g h1 h3 with ⟨x, e, hs⟩ | ⟨x, y, e, hs⟩ | ⟨x, y, z, e, hs⟩ <;> simp [tg, acc3, gb, e, hs, b64, n3]
/-- The letters as a text of the program. -/
abbrev abcB : ByteArray := ⟨#[65, 66, 67, 68, 69, 70, 71, 72, 73, 74, 75, 76, 77, 78, 79, 80, 81, 82, 83, 84, 85, 86, 87, 88, 89, 90, 97, 98, 99, 100, 101, 102, 103, 104, 105, 106, 107, 108, 109, 110, 111, 112, 113, 114, 115, 116, 117, 118, 119, 120, 121, 122, 48, 49, 50, 51, 52, 53, 54, 55, 56, 57, 43, 47]⟩
theorem abcB_get (i : Nat) (h : i < abcB.size) : (abcB[i]'h).toNat = (lt i).toNat := by
  unfold lt
  rw [List.getD_eq_getElem?_getD, List.getElem?_eq_getElem (show i < abc.length from h)]
  rfl

set_option maxRecDepth 100000 in
set_option maxHeartbeats 1000000 in
theorem tell_any (B b : Nat) (g : ByteArray) (bs : List UInt8) (w : World) (hI : Lib.IsBuilder 187 5 B b (Lib.byteCells bs) w) (hB : B ≤ w.heap.size) (h1 : 1 ≤ g.size) (h3 : g.size ≤ 3) (hl : bs.length + 4 ≤ 140737488355328) :
    Calls Tryz.prog 118 #[.pointer (some ⟨b, 0, none⟩), .string g] w fun e w' => e = .returned (.tuple #[]) ∧ Lib.IsBuilder 187 5 B b (Lib.byteCells (bs ++ b64 g.data.toList)) w' ∧ Below B w w' := by
  go_enter Tryz.func118, Tryz.ntmps118
  go_wp2
  go_loop [4, 9] (fun n i => ∃ k : Nat, k ≤ g.size ∧ i = .int .i64 k ∧ n = .int .u32 (acc3 g k : Nat)) (fun _ i => 16 - (intOf i).toNat)
  case atStart => exact ⟨0, by omega, rfl, rfl⟩
  case round =>
    obtain ⟨k, hk, rfl, rfl⟩ := hrel
    by_cases hlt : k < g.size
    · have hk3 : k = 0 ∨ k = 1 ∨ k = 2 := by omega
      rcases hk3 with rfl | rfl | rfl
      · have e0 : ((acc3 g 0 : Nat) : Int) = 0 := by simp [acc3]
        go_wp2
        refine ⟨⟨1, by omega, rfl, ?_⟩, by simp [intOf]⟩
        congr 1
        exact acc3_0 g _ (gb_get g 0 hlt)
      · go_wp2
        refine ⟨⟨2, by omega, rfl, ?_⟩, by simp [intOf]⟩
        congr 1
        exact acc3_1 g _ (gb_get g 1 hlt)
      · go_wp2
        refine ⟨⟨3, by omega, rfl, ?_⟩, by simp [intOf]⟩
        congr 1
        exact acc3_2 g _ (gb_get g 2 hlt)
    · obtain rfl : k = g.size := by omega
      obtain ⟨N, hN0⟩ : ∃ N, N = acc3 g g.size := ⟨_, rfl⟩
      have hNl : N < 16777216 := hN0 ▸ acc3_lt g _
      rw [← hN0]
      have hN : Hid (N = acc3 g g.size) := hN0
      have t0 : Hid (tg g 0 = lt (N / 262144 % 64)) := hN0 ▸ tg_0 g h1 h3
      have t1 : Hid (tg g 1 = lt (N / 4096 % 64)) := hN0 ▸ tg_1 g h1 h3
      have t2 : Hid (tg g 2 = if g.size = 1 then 61 else lt (N / 64 % 64)) := hN0 ▸ tg_2 g h1 h3
      have t3 : Hid (tg g 3 = if g.size = 3 then lt (N % 64) else 61) := hN0 ▸ tg_3 g h1 h3
      have l4 : Hid ((b64 g.data.toList).length = 4) := b64_four g h1 h3
      clear hN0
      have i0 : bits .and .u32 ((N : Int) / 262144) 63 = ((N / 262144 % 64 : Nat) : Int) := by
        rw [show (N : Int) / 262144 = ((N / 262144 : Nat) : Int) by omega]; exact and63 _ (by omega)
      have i1 : bits .and .u32 ((N : Int) / 4096) 63 = ((N / 4096 % 64 : Nat) : Int) := by
        rw [show (N : Int) / 4096 = ((N / 4096 : Nat) : Int) by omega]; exact and63 _ (by omega)
      have i2 : bits .and .u32 ((N : Int) / 64) 63 = ((N / 64 % 64 : Nat) : Int) := by
        rw [show (N : Int) / 64 = ((N / 64 : Nat) : Int) by omega]; exact and63 _ (by omega)
      have i3 : bits .and .u32 (N : Int) 63 = ((N % 64 : Nat) : Int) := and63 _ (by omega)
      go_wp2
      go_loopw [23] (fun i wr => ∃ k : Nat, k ≤ 4 ∧ i = .int .i64 k ∧ Lib.IsBuilder 187 5 B b (Lib.byteCells (bs ++ (b64 g.data.toList).take k)) wr ∧ Below B w wr) (fun i _ => 16 - (intOf i).toNat)
      case atStart => exact ⟨0, by omega, rfl, by simpa using hI, Below.refl _ _⟩
      case round =>
        obtain ⟨k, hk, rfl, hI', hb⟩ := hrel
        by_cases hlt : k < 4
        · have hsz : B ≤ wr.heap.size := Nat.le_trans hB hb.size
          have hln : (Lib.byteCells (bs ++ (b64 g.data.toList).take k)).length + 1 ≤ 140737488355328 := by rw [Lib.byteCells_length, List.length_append, List.length_take]; omega
          have fin : ∀ (W : World) (c : Int), c = ((tg g k).toNat : Int) → Lib.BuilderAt 187 5 B b (.pointer (some ⟨b, 0, none⟩)) (Lib.byteCells (bs ++ (b64 g.data.toList).take k) ++ [.int .u8 c]) W → Below B wr W → Lib.IsBuilder 187 5 B b (Lib.byteCells (bs ++ (b64 g.data.toList).take (k + 1))) W ∧ Below B w W := by
            intro W c hc hA hB'
            refine ⟨.inr ?_, hb.trans hB'⟩
            rw [take_tg g k (by rw [l4.out]; exact hlt), ← List.append_assoc, Lib.byteCells_append]
            subst hc
            exact hA
          have hk3 : k = 0 ∨ k = 1 ∨ k = 2 ∨ k = 3 := by omega
          rcases hk3 with rfl | rfl | rfl | rfl
          · go_wp2_with (go_at_call 130; refine (Tryz.Builder_WriteByte B b _ _ _ hI' hln hsz).mono ?_; rintro e w1 ⟨rfl, hA, hBw⟩)
            refine ⟨⟨1, by omega, rfl, fin w1 _ ?_ hA hBw⟩, by simp [intOf]⟩
            rw [t0.out]; exact congrArg (Nat.cast : Nat → Int) (abcB_get (N / 262144 % 64) _)
          · go_wp2_with (go_at_call 130; refine (Tryz.Builder_WriteByte B b _ _ _ hI' hln hsz).mono ?_; rintro e w1 ⟨rfl, hA, hBw⟩)
            refine ⟨⟨2, by omega, rfl, fin w1 _ ?_ hA hBw⟩, by simp [intOf]⟩
            rw [t1.out]; exact congrArg (Nat.cast : Nat → Int) (abcB_get (N / 4096 % 64) _)
          · by_cases hs0 : g.size = 1
            · have hgt : (g.size : Int) < 2 := by omega
              have hs : Hid (g.size = 1) := hs0
              clear hs0
              go_wp2_with (go_at_call 130; refine (Tryz.Builder_WriteByte B b _ _ _ hI' hln hsz).mono ?_; rintro e w1 ⟨rfl, hA, hBw⟩)
              refine ⟨⟨3, by omega, rfl, fin w1 _ ?_ hA hBw⟩, by simp [intOf]⟩
              rw [t2.out, if_pos hs.out]; rfl
            · have hgt : ¬ (g.size : Int) < 2 := by omega
              have hs : Hid (¬ g.size = 1) := hs0
              clear hs0
              go_wp2_with (go_at_call 130; refine (Tryz.Builder_WriteByte B b _ _ _ hI' hln hsz).mono ?_; rintro e w1 ⟨rfl, hA, hBw⟩)
              refine ⟨⟨3, by omega, rfl, fin w1 _ ?_ hA hBw⟩, by simp [intOf]⟩
              rw [t2.out, if_neg hs.out]; exact congrArg (Nat.cast : Nat → Int) (abcB_get (N / 64 % 64) _)
          · by_cases hs0 : g.size = 3
            · have hgt : ¬ (g.size : Int) < 3 := by omega
              have hs : Hid (g.size = 3) := hs0
              clear hs0
              go_wp2_with (go_at_call 130; refine (Tryz.Builder_WriteByte B b _ _ _ hI' hln hsz).mono ?_; rintro e w1 ⟨rfl, hA, hBw⟩)
              refine ⟨⟨4, by omega, rfl, fin w1 _ ?_ hA hBw⟩, by simp [intOf]⟩
              rw [t3.out, if_pos hs.out]; exact congrArg (Nat.cast : Nat → Int) (abcB_get (N % 64) _)
            · have hgt : (g.size : Int) < 3 := by omega
              have hs : Hid (¬ g.size = 3) := hs0
              clear hs0
              go_wp2_with (go_at_call 130; refine (Tryz.Builder_WriteByte B b _ _ _ hI' hln hsz).mono ?_; rintro e w1 ⟨rfl, hA, hBw⟩)
              refine ⟨⟨4, by omega, rfl, fin w1 _ ?_ hA hBw⟩, by simp [intOf]⟩
              rw [t3.out, if_neg hs.out]; rfl
        · obtain rfl : k = 4 := by omega
          go_wp2
          refine bodyPost_end (v := .tuple #[]) (by simp [results, Tryz.results118, go_sem]) rfl ⟨rfl, ?_, hb⟩
          rw [show (4 : Nat) = (b64 g.data.toList).length from l4.out.symm, List.take_length] at hI'
          exact hI'

end Go.Proofs.YtebbgpnhkpbefaaGreatDoor
