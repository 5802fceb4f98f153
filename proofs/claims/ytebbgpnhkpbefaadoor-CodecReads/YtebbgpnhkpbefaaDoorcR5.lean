/- What a reader's Text answers. -/
import Derived.Test.YtebbgpnhkpbefaaDoorcR4
namespace Go.Proofs.YtebbgpnhkpbefaaDoor
open Go.RowKit
set_option linter.unusedVariables false
set_option linter.unusedSimpArgs false

set_option maxHeartbeats 1000000 in
theorem rtext_yes (b : Nat) (s : ByteArray) (p v k most : Nat) (a : Int) (w : World) (h : Rd w b s p .nilIface a) (hp : p ≤ s.size) (hs : s.size ≤ 140737488355328) (hv : rvGo 0 (s.data.toList.drop p) = some (v, k)) (hm : v ≤ most) (hm2 : most < 9223372036854775808) (hl : p + k + v ≤ s.size) :
    Calls Tryd.prog 23 #[.pointer (some ⟨b, 0, none⟩), .int .i64 most] w fun e w' => e = .returned (.string (sub s (p + k) v)) ∧ Rd w' b s ((p + k + v : Nat) : Int) .nilIface a ∧ Fr (fun j => j = b) w w' := by
  obtain ⟨c0, c1, c2, c3, c4, f2, f3, f4⟩ := h.parts
  have HV : Hid (rvGo 0 (s.data.toList.drop p) = some (v, k)) := hv
  clear hv
  have hsm : s.size ≤ maxLen := by unfold maxLen; omega
  have hc := varNumber_any b s p a .nilIface w h hp hsm
  rw [HV.out, show rvVal (some (v, k)) = v from rfl] at hc
  have hz := sub_size s (p + k) v hl
  have HZ : Hid ((sub s (p + k) v).size = v) := hz
  clear hz
  have hd : ¬ ((most : Int) < v) := by omega
  go_enter Tryd.func23, Tryd.ntmps23
  go_wp2_with (first
    | (go_at_call 31; refine (ready_yes b s p a w h).mono ?_; rintro e w2 ⟨rfl, rfl⟩)
    | (go_at_call 52; refine hc.mono ?_; rintro e w3 ⟨rfl, ⟨q, hq, h3, hqe⟩, hf3⟩; clear hc; obtain rfl := hqe v k rfl; clear hqe)
    | (go_at_call 50; refine (take_yes b s (p + k) v a _ _ h3 hl hsm).mono ?_; rintro e w4 ⟨rfl, h4, hf4⟩)
    | (go_at_call 53; refine (clone_any _ _ (by rw [HZ.out]; omega)).mono ?_; rintro e w5 ⟨rfl, hf5⟩))
  go_ret
  exact ⟨rfl, h4.fr hf5 (fun f => f), (hf3.trans hf4 (fun _ _ q => q)).trans hf5 (fun _ _ q => q.elim)⟩

set_option maxHeartbeats 1000000 in
theorem rtext_short (b : Nat) (s : ByteArray) (p v k most : Nat) (a : Int) (x : Addr) (w : World) (h : Rd w b s p .nilIface a) (hp : p ≤ s.size) (hs : s.size ≤ 140737488355328) (hv : rvGo 0 (s.data.toList.drop p) = some (v, k)) (hm : v ≤ most) (hm2 : most < 9223372036854775808) (hl : s.size < p + k + v) (hg : w.cell? ⟨1, 0, none⟩ = some (sen x)) (hgb : 1 ≠ b) (hgs : 1 < w.heap.size) :
    Calls Tryd.prog 23 #[.pointer (some ⟨b, 0, none⟩), .int .i64 most] w fun e w' => e = .returned (.string ⟨#[]⟩) ∧ (∃ q : Int, Rd w' b s q (sen x) p) ∧ Fr (fun j => j = b) w w' := by
  obtain ⟨c0, c1, c2, c3, c4, f2, f3, f4⟩ := h.parts
  have HV : Hid (rvGo 0 (s.data.toList.drop p) = some (v, k)) := hv
  clear hv
  have hsm : s.size ≤ maxLen := by unfold maxLen; omega
  have hc := varNumber_any b s p a .nilIface w h hp hsm
  rw [HV.out, show rvVal (some (v, k)) = v from rfl] at hc
  have hd : ¬ ((most : Int) < v) := by omega
  go_enter Tryd.func23, Tryd.ntmps23
  go_wp2_with (first
    | (go_at_call 31; refine (ready_yes b s p a w h).mono ?_; rintro e w2 ⟨rfl, rfl⟩)
    | (go_at_call 52; refine hc.mono ?_; rintro e w3 ⟨rfl, ⟨q, hq, h3, hqe⟩, hf3⟩; clear hc; obtain rfl := hqe v k rfl; clear hqe; have hg3 := (hf3.cell (p := ⟨1, 0, none⟩) hgs hgb).trans hg)
    | (go_at_call 50; refine (take_no b s (p + k) v a _ _ h3 (by omega) hq hsm).mono ?_; rintro e w4 ⟨rfl, h4, hf4⟩; have hg4 := (hf4.cell (p := ⟨1, 0, none⟩) (Nat.lt_of_lt_of_le hgs hf3.size) hgb).trans hg3)
    | (go_at_call 51; refine (noForm_any b s _ a p _ _ _ h4 hg4).mono ?_; rintro e w5 ⟨rfl, h5, hf5⟩))
  go_ret
  exact ⟨rfl, ⟨_, h5⟩, (hf3.trans hf4 (fun _ _ q => q)).trans hf5 (fun _ _ q => q)⟩

set_option maxHeartbeats 1000000 in
theorem rtext_form (b : Nat) (s : ByteArray) (p : Nat) (most a : Int) (x : Addr) (w : World) (h : Rd w b s p .nilIface a) (hp : p ≤ s.size) (hs : s.size ≤ maxLen) (hm : 0 ≤ most) (hv : rvGo 0 (s.data.toList.drop p) = none) (hg : w.cell? ⟨1, 0, none⟩ = some (sen x)) (hgb : 1 ≠ b) (hgs : 1 < w.heap.size) :
    Calls Tryd.prog 23 #[.pointer (some ⟨b, 0, none⟩), .int .i64 most] w fun e w' => e = .returned (.string ⟨#[]⟩) ∧ (∃ q : Int, Rd w' b s q (sen x) p) ∧ Fr (fun j => j = b) w w' := by
  obtain ⟨c0, c1, c2, c3, c4, f2, f3, f4⟩ := h.parts
  have HV : Hid (rvGo 0 (s.data.toList.drop p) = none) := hv
  clear hv
  have hc := varNumber_any b s p a .nilIface w h hp hs
  rw [HV.out] at hc
  have hd : ¬ (most < 0) := by omega
  go_enter Tryd.func23, Tryd.ntmps23
  go_wp2_with (first
    | (go_at_call 31; refine (ready_yes b s p a w h).mono ?_; rintro e w2 ⟨rfl, rfl⟩)
    | (go_at_call 52; refine hc.mono ?_; rintro e w3 ⟨rfl, ⟨q, hq, h3, hqe⟩, hf3⟩; clear hc; have hg3 := (hf3.cell (p := ⟨1, 0, none⟩) hgs hgb).trans hg)
    | (go_at_call 51; refine (noForm_any b s q a p _ _ _ h3 hg3).mono ?_; rintro e w4 ⟨rfl, h4, hf4⟩))
  go_ret
  exact ⟨rfl, ⟨_, h4⟩, hf3.trans hf4 (fun _ _ q => q)⟩

set_option maxHeartbeats 1000000 in
theorem rtext_limit (b : Nat) (s : ByteArray) (p v k most : Nat) (a : Int) (x : Addr) (w : World) (h : Rd w b s p .nilIface a) (hp : p ≤ s.size) (hs : s.size ≤ maxLen) (hv : rvGo 0 (s.data.toList.drop p) = some (v, k)) (hm : most < v) (hm2 : most < 9223372036854775808) (hg : w.cell? ⟨4, 0, none⟩ = some (sen x)) (hgb : 4 ≠ b) (hgs : 4 < w.heap.size) :
    Calls Tryd.prog 23 #[.pointer (some ⟨b, 0, none⟩), .int .i64 most] w fun e w' => e = .returned (.string ⟨#[]⟩) ∧ (∃ q : Int, Rd w' b s q (sen x) a) ∧ Fr (fun j => j = b) w w' := by
  obtain ⟨c0, c1, c2, c3, c4, f2, f3, f4⟩ := h.parts
  have HV : Hid (rvGo 0 (s.data.toList.drop p) = some (v, k)) := hv
  clear hv
  have hc := varNumber_any b s p a .nilIface w h hp hs
  rw [HV.out, show rvVal (some (v, k)) = v from rfl] at hc
  have hd : ((most : Int) < v) := by omega
  go_enter Tryd.func23, Tryd.ntmps23
  go_wp2_with (first
    | (go_at_call 31; refine (ready_yes b s p a w h).mono ?_; rintro e w2 ⟨rfl, rfl⟩)
    | (go_at_call 52; refine hc.mono ?_; rintro e w3 ⟨rfl, ⟨q, hq, h3, hqe⟩, hf3⟩; clear hc; have hg3 := (hf3.cell (p := ⟨4, 0, none⟩) hgs hgb).trans hg; obtain ⟨d0, d1, d2, d3, d4, k2, k3, k4⟩ := h3.parts))
  go_ret
  exact ⟨rfl, ⟨_, h3.set3 _⟩, hf3.trans ((Fr.refl (fun k => k = b) _).setCell ⟨b, 3, none⟩ _ (fun _ => rfl)) (fun _ _ q => q)⟩
set_option maxHeartbeats 1000000 in
theorem rtext_arg (b : Nat) (s : ByteArray) (p most a : Int) (x : Addr) (w : World) (h : Rd w b s p .nilIface a) (hm : most < 0) (hg : w.cell? ⟨3, 0, none⟩ = some (sen x)) :
    Calls Tryd.prog 23 #[.pointer (some ⟨b, 0, none⟩), .int .i64 most] w fun e w' => e = .returned (.string ⟨#[]⟩) ∧ (∃ q : Int, Rd w' b s q (sen x) a) ∧ Fr (fun j => j = b) w w' := by
  obtain ⟨c0, c1, c2, c3, c4, f2, f3, f4⟩ := h.parts
  go_enter Tryd.func23, Tryd.ntmps23
  go_wp2_with (go_at_call 31; refine (ready_yes b s p a w h).mono ?_; rintro e w2 ⟨rfl, rfl⟩)
  go_ret
  exact ⟨rfl, ⟨_, h.set3 _⟩, (Fr.refl (fun k => k = b) _).setCell ⟨b, 3, none⟩ _ (fun _ => rfl)⟩
end Go.Proofs.YtebbgpnhkpbefaaDoor
