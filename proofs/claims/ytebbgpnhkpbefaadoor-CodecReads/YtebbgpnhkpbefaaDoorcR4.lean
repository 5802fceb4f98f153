/- What a reader's calls answer, and what it is then. -/
import Derived.Test.YtebbgpnhkpbefaaDoorcR3
import Derived.Test.YtebbgpnhkpbefaaDoorcCl
namespace Go.Proofs.YtebbgpnhkpbefaaDoor
open Go.RowKit
set_option linter.unusedVariables false
set_option linter.unusedSimpArgs false

theorem Fr.ofBelow {w w' : World} (h : Below w.heap.size w w') : Fr (fun _ => False) w w' := ⟨h.os, h.tape, h.output, h.size, fun k hk _ => h.block k hk⟩

theorem clone_any (s : ByteArray) (w : World) (hs : s.size ≤ 281474976710656) :
    Calls Tryd.prog 53 #[.string s] w fun e w' => e = .returned (.string s) ∧ Fr (fun _ => False) w w' := by
  go_enter Tryd.func53, Tryd.ntmps53
  go_wp2_with (go_at_call 65; refine (Tryd.stringslite_Clone s _ hs).mono ?_; rintro e w2 ⟨rfl, hb⟩)
  go_ret
  exact ⟨rfl, Fr.ofBelow hb⟩

theorem mayBe_yes (n : Int) (w : World) (h1 : 1 ≤ n) (h8 : n ≤ 8) : Calls Tryd.prog 48 #[.int .i64 n] w fun e w' => e = .returned (.bool true) ∧ w' = w := by
  go_enter Tryd.func48, Tryd.ntmps48
  go_wp2
  go_ret
  refine ⟨?_, rfl⟩
  simp [h1, h8]
theorem mayBe_no (n : Int) (w : World) (h : n < 1 ∨ 8 < n) : Calls Tryd.prog 48 #[.int .i64 n] w fun e w' => e = .returned (.bool false) ∧ w' = w := by
  rcases h with h | h
  · have h' : ¬ 1 ≤ n := by omega
    go_enter Tryd.func48, Tryd.ntmps48
    go_wp2
    go_ret
    refine ⟨?_, rfl⟩
    simp [h']
  · have h' : ¬ n ≤ 8 := by omega
    have h1 : 1 ≤ n := by omega
    go_enter Tryd.func48, Tryd.ntmps48
    go_wp2
    go_ret
    refine ⟨?_, rfl⟩
    simp [h', h1]

/-- A sentinel, as a value. -/
abbrev sen (x : Addr) : Value := .iface 144 (.pointer (some x))

set_option maxHeartbeats 1000000 in
theorem rvar_yes (b : Nat) (s : ByteArray) (p v k : Nat) (a : Int) (w : World) (h : Rd w b s p .nilIface a) (hp : p ≤ s.size) (hs : s.size ≤ maxLen) (hv : rvGo 0 (s.data.toList.drop p) = some (v, k)) :
    Calls Tryd.prog 22 #[.pointer (some ⟨b, 0, none⟩)] w fun e w' => e = .returned (.int .u64 v) ∧ Rd w' b s ((p + k : Nat) : Int) .nilIface a ∧ p + k ≤ s.size ∧ Fr (fun j => j = b) w w' := by
  obtain ⟨c0, c1, c2, c3, c4, f2, f3, f4⟩ := h.parts
  have HV : Hid (rvGo 0 (s.data.toList.drop p) = some (v, k)) := hv
  clear hv
  have hc := varNumber_any b s p a .nilIface w h hp hs
  rw [HV.out] at hc
  go_enter Tryd.func22, Tryd.ntmps22
  go_wp2_with (first
    | (go_at_call 31; refine (ready_yes b s p a w h).mono ?_; rintro e w2 ⟨rfl, rfl⟩)
    | (go_at_call 52; refine hc.mono ?_; rintro e w3 ⟨rfl, ⟨q, hq, h3, hqe⟩, hf3⟩; clear hc))
  go_ret
  obtain rfl := hqe v k rfl
  exact ⟨rfl, h3, hq, hf3⟩

set_option maxHeartbeats 1000000 in
theorem rvar_no (b : Nat) (s : ByteArray) (p : Nat) (a : Int) (x : Addr) (w : World) (h : Rd w b s p .nilIface a) (hp : p ≤ s.size) (hs : s.size ≤ maxLen) (hv : rvGo 0 (s.data.toList.drop p) = none) (hg : w.cell? ⟨1, 0, none⟩ = some (sen x)) (hgb : 1 ≠ b) (hgs : 1 < w.heap.size) :
    Calls Tryd.prog 22 #[.pointer (some ⟨b, 0, none⟩)] w fun e w' => e = .returned (.int .u64 0) ∧ (∃ q : Int, Rd w' b s q (sen x) p) ∧ Fr (fun j => j = b) w w' := by
  obtain ⟨c0, c1, c2, c3, c4, f2, f3, f4⟩ := h.parts
  have HV : Hid (rvGo 0 (s.data.toList.drop p) = none) := hv
  clear hv
  have hc := varNumber_any b s p a .nilIface w h hp hs
  rw [HV.out] at hc
  go_enter Tryd.func22, Tryd.ntmps22
  go_wp2_with (first
    | (go_at_call 31; refine (ready_yes b s p a w h).mono ?_; rintro e w2 ⟨rfl, rfl⟩)
    | (go_at_call 52; refine hc.mono ?_; rintro e w3 ⟨rfl, ⟨q, hq, h3, hqe⟩, hf3⟩; clear hc; have hg3 := (hf3.cell (p := ⟨1, 0, none⟩) hgs hgb).trans hg)
    | (go_at_call 51; refine (noForm_any b s q a p _ _ _ h3 hg3).mono ?_; rintro e w4 ⟨rfl, h4, hf4⟩))
  go_ret
  exact ⟨rfl, ⟨_, h4⟩, hf3.trans hf4 (fun _ _ q => q)⟩

set_option maxHeartbeats 1000000 in
theorem rfixed_yes (b : Nat) (s : ByteArray) (p n : Nat) (a : Int) (w : World) (h : Rd w b s p .nilIface a) (hp : p + n ≤ s.size) (h1 : 1 ≤ n) (h8 : n ≤ 8) (hs : s.size ≤ maxLen) :
    Calls Tryd.prog 21 #[.pointer (some ⟨b, 0, none⟩), .int .i64 n] w fun e w' => e = .returned (.int .u64 (fxN ((s.data.toList.drop p).take n))) ∧ Rd w' b s ((p + n : Nat) : Int) .nilIface a ∧ Fr (fun j => j = b) w w' := by
  obtain ⟨c0, c1, c2, c3, c4, f2, f3, f4⟩ := h.parts
  go_enter Tryd.func21, Tryd.ntmps21
  go_wp2_with (first
    | (go_at_call 31; refine (ready_yes b s p a w h).mono ?_; rintro e w2 ⟨rfl, rfl⟩)
    | (go_at_call 48; refine (mayBe_yes n _ (by omega) (by omega)).mono ?_; rintro e w2 ⟨rfl, rfl⟩)
    | (go_at_call 49; refine (fixedNumber_yes b s p n a _ _ h hp h8 hs).mono ?_; rintro e w3 ⟨rfl, h3, hf3⟩))
  go_ret
  exact ⟨rfl, h3, hf3⟩
set_option maxHeartbeats 1000000 in
theorem rfixed_short (b : Nat) (s : ByteArray) (p n : Nat) (a : Int) (x : Addr) (w : World) (h : Rd w b s p .nilIface a) (hq : p ≤ s.size) (hp : s.size < p + n) (h1 : 1 ≤ n) (h8 : n ≤ 8) (hs : s.size ≤ maxLen) (hg : w.cell? ⟨1, 0, none⟩ = some (sen x)) (hgb : 1 ≠ b) (hgs : 1 < w.heap.size) :
    Calls Tryd.prog 21 #[.pointer (some ⟨b, 0, none⟩), .int .i64 n] w fun e w' => e = .returned (.int .u64 0) ∧ (∃ q : Int, Rd w' b s q (sen x) p) ∧ Fr (fun j => j = b) w w' := by
  obtain ⟨c0, c1, c2, c3, c4, f2, f3, f4⟩ := h.parts
  go_enter Tryd.func21, Tryd.ntmps21
  go_wp2_with (first
    | (go_at_call 31; refine (ready_yes b s p a w h).mono ?_; rintro e w2 ⟨rfl, rfl⟩)
    | (go_at_call 48; refine (mayBe_yes n _ (by omega) (by omega)).mono ?_; rintro e w2 ⟨rfl, rfl⟩)
    | (go_at_call 49; refine (fixedNumber_no b s p n a _ _ h hp hq hs).mono ?_; rintro e w3 ⟨rfl, h3, hf3⟩; have hg3 := (hf3.cell (p := ⟨1, 0, none⟩) hgs hgb).trans hg)
    | (go_at_call 51; refine (noForm_any b s p a p _ _ _ h3 hg3).mono ?_; rintro e w4 ⟨rfl, h4, hf4⟩))
  go_ret
  exact ⟨rfl, ⟨_, h4⟩, hf3.trans hf4 (fun _ _ q => q)⟩
set_option maxHeartbeats 1000000 in
theorem rfixed_arg (b : Nat) (s : ByteArray) (p n a : Int) (x : Addr) (w : World) (h : Rd w b s p .nilIface a) (hn : n < 1 ∨ 8 < n) (hg : w.cell? ⟨3, 0, none⟩ = some (sen x)) :
    Calls Tryd.prog 21 #[.pointer (some ⟨b, 0, none⟩), .int .i64 n] w fun e w' => e = .returned (.int .u64 0) ∧ (∃ q : Int, Rd w' b s q (sen x) a) ∧ Fr (fun j => j = b) w w' := by
  obtain ⟨c0, c1, c2, c3, c4, f2, f3, f4⟩ := h.parts
  go_enter Tryd.func21, Tryd.ntmps21
  go_wp2_with (first
    | (go_at_call 31; refine (ready_yes b s p a w h).mono ?_; rintro e w2 ⟨rfl, rfl⟩)
    | (go_at_call 48; refine (mayBe_no n _ hn).mono ?_; rintro e w2 ⟨rfl, rfl⟩))
  go_ret
  exact ⟨rfl, ⟨_, h.set3 _⟩, (Fr.refl (fun k => k = b) _).setCell ⟨b, 3, none⟩ _ (fun _ => rfl)⟩

set_option maxHeartbeats 1000000 in
theorem left_yes (b : Nat) (s : ByteArray) (p : Nat) (a : Int) (w : World) (h : Rd w b s p .nilIface a) (hp : p ≤ s.size) (hs : s.size ≤ maxLen) :
    Calls Tryd.prog 12 #[.pointer (some ⟨b, 0, none⟩)] w fun e w' => e = .returned (.int .i64 ((s.size : Int) - p)) ∧ Rd w' b s p .nilIface a ∧ Fr (fun j => False) w w' := by
  unfold maxLen at hs
  obtain ⟨c0, c1, c2, c3, c4, f2, f3, f4⟩ := h.parts
  go_enter Tryd.func12, Tryd.ntmps12
  go_wp2_with (go_at_call 31; refine (ready_yes b s p a w h).mono ?_; rintro e w2 ⟨rfl, rfl⟩)
  go_region
  all_goals try go_wp2
  all_goals go_ret
  all_goals exact ⟨rfl, h, (Fr.refl _ _).drew⟩
theorem left_no (b : Nat) (s : ByteArray) (p a : Int) (x : Addr) (w : World) (h : Rd w b s p (sen x) a) :
    Calls Tryd.prog 12 #[.pointer (some ⟨b, 0, none⟩)] w fun e w' => e = .returned (.int .i64 0) ∧ w' = w := by
  go_enter Tryd.func12, Tryd.ntmps12
  go_wp2_with (go_at_call 31; refine (ready_no b s p a x w h).mono ?_; rintro e w2 ⟨rfl, rfl⟩)
  go_ret
  exact ⟨rfl, rfl⟩
end Go.Proofs.YtebbgpnhkpbefaaDoor
