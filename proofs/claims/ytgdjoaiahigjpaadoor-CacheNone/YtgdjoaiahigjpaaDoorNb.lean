/- CacheNone. -/
import Derived.Test.YtgdjoaiahigjpaaDoorNa
namespace Go.Proofs.YtgdjoaiahigjpaaDoor
open Go.RowKit Go.Maps
open CS hiding tA tB tC
set_option linter.unusedVariables false
set_option linter.unusedSimpArgs false
set_option maxRecDepth 100000 in
set_option maxHeartbeats 4000000 in
theorem none13_any (w : World) (s : ByteArray) (v : Int) :
    Calls Tryd.prog 5 #[.string s, .int .i64 v] w fun e w' => e = .returned (.bool true) ∧ Nw w w' := by
  have q := alive_any w
  go_enter Tryd.func5, Tryd.ntmps5
  go_wp2_with fail
  refine q.mono ?_
  rintro e w1 ⟨rfl, n1⟩
  have N1 : Hid (Nw w w1) := n1
  clear n1 q
  go_wp2_with fail
  refine gen_w (fun W => Nw w W ∧ ∃ z, W.heap[w1.heap.size + 1]? = some (.cells #[.pointer none, .pointer (some ⟨z, 0, none⟩)] 69) ∧ W.heap[z]? = some (cac 0 (.slice none 0 0) (.map none))) ?_ ?_
  · refine ⟨(N1.out.alloc _).alloc _, w1.heap.size, heap_next _ _ _, ((Fr.refl (fun _ => False) (w1.alloc _)).alloc _).block _ (by simp) (fun e => e) |>.trans (heap_new _ _)⟩
  rintro W ⟨nW, z, hb, hz⟩
  have HN : Hid (Nw w W) := nW
  have lB := heap_lt hb
  have c0 : W.cell? ⟨w1.heap.size + 1, 0, none⟩ = some (.pointer none) := (cell_of hb 0).trans rfl
  have c1 : W.cell? ⟨w1.heap.size + 1, 1, none⟩ = some (.pointer (some ⟨z, 0, none⟩)) := (cell_of hb 1).trans rfl
  have P0 : Hid (NoC W (.pointer none)) := .inl rfl
  have P1 : Hid (NoC W (.pointer (some ⟨z, 0, none⟩))) := .inr ⟨z, _, _, rfl, hz⟩
  clear nW hb hz N1
  go_loopw [7] (fun v7 wx => ∃ k : Nat, k ≤ 2 ∧ v7 = .int .i64 k ∧ W = wx) (fun v7 _ => 2 - (intOf v7).toNat)
  case atStart => exact ⟨0, by omega, rfl, rfl⟩
  case round =>
    obtain ⟨k, hk, rfl, rfl⟩ := hrel
    have hk3 : k = 0 ∨ k = 1 ∨ k = 2 := by omega
    rcases hk3 with rfl | rfl | rfl
    · go_wp2_with fail
      refine (put_no P0.out s v).mono ?_
      rintro e w2 ⟨rfl, rfl⟩
      go_wp2_with fail
      refine (get_no P0.out s).mono ?_
      rintro e w2 ⟨rfl, rfl⟩
      go_wp2_with fail
      refine (drop_no P0.out s).mono ?_
      rintro e w2 ⟨rfl, rfl⟩
      go_wp2_with fail
      refine (len_no P0.out).mono ?_
      rintro e w2 ⟨rfl, rfl⟩
      go_wp2_with fail
      refine (keys_no P0.out).mono ?_
      rintro e w2 ⟨rfl, rfl⟩
      go_wp2
      exact ⟨⟨1, by omega, rfl, trivial⟩, by simp [intOf]⟩
    · go_wp2_with fail
      refine (put_no P1.out s v).mono ?_
      rintro e w2 ⟨rfl, rfl⟩
      go_wp2_with fail
      refine (get_no P1.out s).mono ?_
      rintro e w2 ⟨rfl, rfl⟩
      go_wp2_with fail
      refine (drop_no P1.out s).mono ?_
      rintro e w2 ⟨rfl, rfl⟩
      go_wp2_with fail
      refine (len_no P1.out).mono ?_
      rintro e w2 ⟨rfl, rfl⟩
      go_wp2_with fail
      refine (keys_no P1.out).mono ?_
      rintro e w2 ⟨rfl, rfl⟩
      go_wp2
      exact ⟨⟨2, by omega, rfl, trivial⟩, by simp [intOf]⟩
    · go_wp2
      go_ret
      exact ⟨rfl, HN.out⟩
end Go.Proofs.YtgdjoaiahigjpaaDoor
