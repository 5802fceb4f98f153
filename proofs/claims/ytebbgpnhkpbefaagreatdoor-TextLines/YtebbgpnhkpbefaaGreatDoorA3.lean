/- Bytes by letters: what Base64 answers. -/
import Derived.Test.YtebbgpnhkpbefaaGreatDoorA2
namespace Go.Proofs.YtebbgpnhkpbefaaGreatDoor
open Go.RowKit
set_option linter.unusedVariables false
set_option linter.unusedSimpArgs false

theorem cut_slice (s : ByteArray) (p q : Nat) (h : p ≤ q) (h2 : q ≤ s.size) (w : World) : (Instr.slice 9 (.string s) (some (.int .i64 (p : Int))) (some (.int .i64 (q : Int))) none).run Tryz.prog w = .ok (.string (s.extract p q)) w := by
  rw [run_slice_string _ _ _ _ _ _ _ Tryz.underlying9 (by omega) (by omega) (by omega)]
  rfl
/-- What was told of the groups up to place p. -/
theorem b64_more (s : ByteArray) (p : Nat) (hp : p % 3 = 0) (h : p < s.size) :
    b64 (s.data.toList.take (min (p + 3) s.size)) = b64 (s.data.toList.take p) ++ b64 ((s.extract p (min (p + 3) s.size)).data.toList) := by
  have hs : s.data.toList.length = s.size := by rw [Array.length_toList]; rfl
  have e : s.data.toList.take (min (p + 3) s.size) = s.data.toList.take p ++ (s.extract p (min (p + 3) s.size)).data.toList := by
    rw [ByteArray.data_extract, Array.toList_extract]
    have : s.data.toList.take (min (p + 3) s.size) = s.data.toList.take (p + (min (p + 3) s.size - p)) := by congr 1; omega
    rw [this, List.take_add]
  rw [e, b64_append _ _ (by rw [List.length_take, hs]; omega)]
set_option maxRecDepth 100000 in
set_option maxHeartbeats 1000000 in
theorem base64_any (s : ByteArray) (w : World) (hs : s.size ≤ 70368744177664) :
    Calls Tryz.prog 72 #[.string s] w fun e w' => e = .returned (.string ⟨(b64 s.data.toList).toArray⟩) ∧ Nw w w' := by
  have hlen : s.data.toList.length = s.size := by rw [Array.length_toList]; rfl
  go_enter Tryz.func72, Tryz.ntmps72
  go_wp2_with (first
    | (go_at_call 117; refine (Tryz.Builder_Grow_fresh w.heap.size w.heap.size ((s.size + 2) / 3 * 4) _ (Nat.le_refl _) (heap_alloc_new w _) (by simp) (by omega)).mono ?_; rintro e w1 ⟨rfl, hI, hb⟩)
    | fail)
  go_loopw [4] (fun i wr => ∃ p : Nat, p % 3 = 0 ∧ p ≤ s.size + 2 ∧ i = .int .i64 p ∧ Lib.IsBuilder 187 5 w.heap.size w.heap.size (Lib.byteCells (b64 (s.data.toList.take (min p s.size)))) wr ∧ Below w.heap.size w wr) (fun i _ => s.size + 3 - (intOf i).toNat)
  case atStart => exact ⟨0, rfl, by omega, rfl, .inr (by simpa [b64, Lib.byteCells] using hI), ((Below.refl _ w).alloc (Nat.le_refl _) _).trans hb⟩
  case round =>
    obtain ⟨p, hp, hps, rfl, hI', hb'⟩ := hrel
    by_cases hlt : p < s.size
    · have hm : min p s.size = p := by omega
      rw [hm] at hI'
      have hsz : w.heap.size ≤ wr.heap.size := hb'.size
      have hmore := b64_more s p hp hlt
      have hq : (s.extract p (min (p + 3) s.size)).size = min (p + 3) s.size - p := by rw [ByteArray.size_extract]; omega
      have hll : (b64 (s.data.toList.take p)).length + 4 ≤ 140737488355328 := by rw [b64_length, List.length_take, hlen]; omega
      have ht := tell_any w.heap.size w.heap.size (s.extract p (min (p + 3) s.size)) _ wr hI' hsz (by rw [hq]; omega) (by rw [hq]; omega) hll
      rw [← hmore] at ht
      have hsl := cut_slice s p (min (p + 3) s.size) (by omega) (by omega)
      rw [show ((min (p + 3) s.size : Nat) : Int) = min ((p : Int) + 3) (s.size : Int) by omega] at hsl
      have hnew : min (p + 3) s.size = min (p + 3) s.size := rfl
      generalize hM : s.extract p (min (p + 3) s.size) = M at ht hsl hq
      have HM : Hid (s.extract p (min (p + 3) s.size) = M) := hM
      clear hM hq hmore hll hm hnew
      go_wp2_with (go_at_call 118; refine ht.mono ?_; rintro e w2 ⟨rfl, hI2, hb2⟩)
      exact ⟨⟨p + 3, by omega, by omega, by go_num, hI2, hb'.trans hb2⟩, by simp [intOf]; omega⟩
    · have hm : min p s.size = s.size := by omega
      rw [hm, ← hlen, List.take_length] at hI'
      have hsz : w.heap.size ≤ wr.heap.size := hb'.size
      go_wp2_with (go_at_call 119; refine (Tryz.Builder_String_any w.heap.size w.heap.size _ wr hI' hsz).mono ?_; rintro e w2 ⟨rfl, hb2⟩)
      go_ret
      exact ⟨rfl, Fr.ofBelow (hb'.trans hb2)⟩
end Go.Proofs.YtebbgpnhkpbefaaGreatDoor
