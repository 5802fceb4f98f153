/- The document's reader: Text. -/
import Derived.Test.YtebbgpnhkpbefaaDoorcK4
namespace Go.Proofs.YtebbgpnhkpbefaaDoor
open Go.RowKit
set_option linter.unusedVariables false
set_option linter.unusedSimpArgs false

theorem ftext_arg (c : Nat) (s : ByteArray) (p pl most : Int) (w : World) (h : Rf w c s p 0 pl) (hm : most < 0) :
    Calls Tryd.prog 27 #[.pointer (some ⟨c, 0, none⟩), .int .i64 most] w fun e w' => e = .returned (.string ⟨#[]⟩) ∧ Rf w' c s p 2 (-1) ∧ Fr (fun j => j = c) w w' := by
  go_enter Tryd.func27, Tryd.ntmps27
  go_wp2_with fail
  refine (plain_any 2 _ (by omega)).mono ?_
  rintro e w4 ⟨rfl, f4⟩
  go_wp2_with fail
  refine (fail_no c s p pl 2 (-1) w4 (h.fr f4 (fun f => f))).mono ?_
  rintro e w5 ⟨rfl, h5, f5⟩
  go_wp2_with fail
  go_ret
  exact ⟨rfl, h5, (f4.mono (fun _ _ f => f.elim)).trans f5 (fun _ _ q => q)⟩
theorem ftext_bad (c : Nat) (s : ByteArray) (p code pl most : Int) (w : World) (h : Rf w c s p code pl) (hc : code ≠ 0) :
    Calls Tryd.prog 27 #[.pointer (some ⟨c, 0, none⟩), .int .i64 most] w fun e w' => e = .returned (.string ⟨#[]⟩) ∧ Fr (fun _ => False) w w' := by
  obtain ⟨c0, c1, c2, c3, f1, f2, f3⟩ := h.parts
  by_cases hm : most < 0
  · go_enter Tryd.func27, Tryd.ntmps27
    go_wp2_with fail
    refine (plain_any 2 _ (by omega)).mono ?_
    rintro e w4 ⟨rfl, f4⟩
    go_wp2_with fail
    refine (fail_yes c s p code pl 2 (-1) w4 (h.fr f4 (fun f => f)) hc).mono ?_
    rintro e w5 ⟨rfl, f5⟩
    go_wp2_with fail
    go_ret
    exact ⟨rfl, f4.trans f5 (fun _ _ q => q)⟩
  · go_enter Tryd.func27, Tryd.ntmps27
    go_wp2_with fail
    refine (fvar_bad c s p code pl w h hc).mono ?_
    rintro e w4 ⟨rfl, rfl⟩
    go_wp2_with fail
    refine (bad_yes c s p code pl _ h hc).mono ?_
    rintro e w5 ⟨rfl, rfl⟩
    go_wp2_with fail
    go_ret
    exact ⟨rfl, Fr.refl _ _⟩
theorem fvar_no (c : Nat) (s : ByteArray) (p : Nat) (pl : Int) (w : World) (h : Rf w c s p 0 pl) (hp : p ≤ s.size) (hs : s.size ≤ 140737488355328) (hv : rvGo 0 (s.data.toList.drop p) = none) :
    Calls Tryd.prog 26 #[.pointer (some ⟨c, 0, none⟩)] w fun e w' => e = .returned (.int .u64 0) ∧ Rf w' c s p 3 p ∧ Fr (fun j => j = c) w w' := by
  have := fvar_any c s p pl w h hp hs
  rw [hv] at this
  exact this
theorem fvar_yes (c : Nat) (s : ByteArray) (p v k : Nat) (pl : Int) (w : World) (h : Rf w c s p 0 pl) (hp : p ≤ s.size) (hs : s.size ≤ 140737488355328) (hv : rvGo 0 (s.data.toList.drop p) = some (v, k)) :
    Calls Tryd.prog 26 #[.pointer (some ⟨c, 0, none⟩)] w fun e w' => e = .returned (.int .u64 v) ∧ Rf w' c s ((p + k : Nat) : Int) 0 pl ∧ Fr (fun j => j = c) w w' := by
  have := fvar_any c s p pl w h hp hs
  rw [hv] at this
  exact this
theorem ftext_form (c : Nat) (s : ByteArray) (p : Nat) (pl most : Int) (w : World) (h : Rf w c s p 0 pl) (hp : p ≤ s.size) (hs : s.size ≤ 140737488355328) (hm : 0 ≤ most) (hv : rvGo 0 (s.data.toList.drop p) = none) :
    Calls Tryd.prog 27 #[.pointer (some ⟨c, 0, none⟩), .int .i64 most] w fun e w' => e = .returned (.string ⟨#[]⟩) ∧ Rf w' c s p 3 p ∧ Fr (fun j => j = c) w w' := by
  obtain ⟨c0, c1, c2, c3, f1, f2, f3⟩ := h.parts
  have hm' : ¬ most < 0 := by omega
  have hv' := fvar_no c s p pl w h hp hs hv
  clear hv
  go_enter Tryd.func27, Tryd.ntmps27
  go_wp2_with fail
  refine hv'.mono ?_
  rintro e w4 ⟨rfl, h4, f4⟩
  go_wp2_with fail
  refine (bad_yes c s p 3 p w4 h4 (by omega)).mono ?_
  rintro e w5 ⟨rfl, rfl⟩
  go_wp2_with fail
  go_ret
  exact ⟨rfl, h4, f4⟩
theorem ftext_limit (c : Nat) (s : ByteArray) (p v k most : Nat) (pl : Int) (w : World) (h : Rf w c s p 0 pl) (hp : p ≤ s.size) (hs : s.size ≤ 140737488355328) (hv : rvGo 0 (s.data.toList.drop p) = some (v, k)) (hm : most < v) (hm2 : most < 9223372036854775808) :
    Calls Tryd.prog 27 #[.pointer (some ⟨c, 0, none⟩), .int .i64 most] w fun e w' => e = .returned (.string ⟨#[]⟩) ∧ Rf w' c s ((p + k : Nat) : Int) 4 (-1) ∧ Fr (fun j => j = c) w w' := by
  obtain ⟨c0, c1, c2, c3, f1, f2, f3⟩ := h.parts
  have hm' : ¬ (most : Int) < 0 := by omega
  have hv' := fvar_yes c s p v k pl w h hp hs hv
  clear hv
  have hlt : (most : Int) < v := by omega
  go_enter Tryd.func27, Tryd.ntmps27
  go_wp2_with fail
  refine hv'.mono ?_
  rintro e w4 ⟨rfl, h4, f4⟩
  go_wp2_with fail
  refine (bad_no c s _ pl w4 h4).mono ?_
  rintro e w5 ⟨rfl, rfl⟩
  go_wp2_with fail
  refine (plain_any 4 _ (by omega)).mono ?_
  rintro e w6 ⟨rfl, f6⟩
  go_wp2_with fail
  refine (fail_no c s _ pl 4 (-1) w6 (h4.fr f6 (fun f => f))).mono ?_
  rintro e w7 ⟨rfl, h7, f7⟩
  go_wp2_with fail
  go_ret
  exact ⟨rfl, h7, (f4.trans f6 (fun _ _ q => q.elim)).trans f7 (fun _ _ q => q)⟩
theorem ftext_short (c : Nat) (s : ByteArray) (p v k most : Nat) (pl : Int) (w : World) (h : Rf w c s p 0 pl) (hp : p ≤ s.size) (hs : s.size ≤ 140737488355328) (hv : rvGo 0 (s.data.toList.drop p) = some (v, k)) (hm : v ≤ most) (hm2 : most < 9223372036854775808) (hk : p + k ≤ s.size) (hl : s.size < p + k + v) :
    Calls Tryd.prog 27 #[.pointer (some ⟨c, 0, none⟩), .int .i64 most] w fun e w' => e = .returned (.string ⟨#[]⟩) ∧ Rf w' c s ((p + k : Nat) : Int) 3 p ∧ Fr (fun j => j = c) w w' := by
  obtain ⟨c0, c1, c2, c3, f1, f2, f3⟩ := h.parts
  have hm' : ¬ (most : Int) < 0 := by omega
  have hv' := fvar_yes c s p v k pl w h hp hs hv
  clear hv
  have hlt : ¬ (most : Int) < v := by omega
  by_cases hbig : s.size < v
  · have hbig' : (s.size : Int) < v := by omega
    go_enter Tryd.func27, Tryd.ntmps27
    go_wp2_with fail
    refine hv'.mono ?_
    rintro e w4 ⟨rfl, h4, f4⟩
    obtain ⟨d0, d1, d2, d3, _, _, _⟩ := h4.parts
    go_wp2_with fail
    refine (bad_no c s _ pl w4 h4).mono ?_
    rintro e w5 ⟨rfl, rfl⟩
    go_wp2_with fail
    refine (placed_any 3 p _).mono ?_
    rintro e w6 ⟨rfl, f6⟩
    go_wp2_with fail
    refine (fail_no c s _ pl 3 p w6 (h4.fr f6 (fun f => f))).mono ?_
    rintro e w7 ⟨rfl, h7, f7⟩
    go_wp2_with fail
    go_ret
    exact ⟨rfl, h7, (f4.trans f6 (fun _ _ q => q.elim)).trans f7 (fun _ _ q => q)⟩
  · have hbig' : ¬ (s.size : Int) < v := by omega
    go_enter Tryd.func27, Tryd.ntmps27
    go_wp2_with fail
    refine hv'.mono ?_
    rintro e w4 ⟨rfl, h4, f4⟩
    obtain ⟨d0, d1, d2, d3, _, _, _⟩ := h4.parts
    go_wp2_with fail
    refine (bad_no c s _ pl w4 h4).mono ?_
    rintro e w5 ⟨rfl, rfl⟩
    have htk := ftake_no c s (p + k) v pl p w5 h4 (by omega) hk (by unfold maxLen; omega)
    go_wp2_with fail
    refine htk.mono ?_
    rintro e w6 ⟨rfl, h6, f6⟩
    go_wp2_with fail
    go_ret
    exact ⟨rfl, h6, f4.trans f6 (fun _ _ q => q)⟩
theorem ftext_yes (c : Nat) (s : ByteArray) (p v k most : Nat) (pl : Int) (w : World) (h : Rf w c s p 0 pl) (hp : p ≤ s.size) (hs : s.size ≤ 140737488355328) (hv : rvGo 0 (s.data.toList.drop p) = some (v, k)) (hm : v ≤ most) (hm2 : most < 9223372036854775808) (hl : p + k + v ≤ s.size) :
    Calls Tryd.prog 27 #[.pointer (some ⟨c, 0, none⟩), .int .i64 most] w fun e w' => e = .returned (.string (sub s (p + k) v)) ∧ Rf w' c s ((p + k + v : Nat) : Int) 0 pl ∧ Fr (fun j => j = c) w w' := by
  obtain ⟨c0, c1, c2, c3, f1, f2, f3⟩ := h.parts
  have hm' : ¬ (most : Int) < 0 := by omega
  have hv' := fvar_yes c s p v k pl w h hp hs hv
  clear hv
  have hlt : ¬ (most : Int) < v := by omega
  have hbig' : ¬ (s.size : Int) < v := by omega
  go_enter Tryd.func27, Tryd.ntmps27
  go_wp2_with fail
  refine hv'.mono ?_
  rintro e w4 ⟨rfl, h4, f4⟩
  obtain ⟨d0, d1, d2, d3, _, _, _⟩ := h4.parts
  go_wp2_with fail
  refine (bad_no c s _ pl w4 h4).mono ?_
  rintro e w5 ⟨rfl, rfl⟩
  have htk := ftake_yes c s (p + k) v pl p w5 h4 hl (by unfold maxLen; omega)
  go_wp2_with fail
  refine htk.mono ?_
  rintro e w6 ⟨rfl, h6, f6⟩
  go_wp2_with fail
  go_ret
  exact ⟨rfl, h6, f4.trans f6 (fun _ _ q => q)⟩
end Go.Proofs.YtebbgpnhkpbefaaDoor
