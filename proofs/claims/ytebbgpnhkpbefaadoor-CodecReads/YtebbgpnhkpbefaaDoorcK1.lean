/- The document's reader in memory: bad, fail, take, Left, End, Fixed. -/
import Derived.Test.YtebbgpnhkpbefaaDoorcV2
import Derived.Test.YtebbgpnhkpbefaaDoorcS1
namespace Go.Proofs.YtebbgpnhkpbefaaDoor
open Go.RowKit
set_option linter.unusedVariables false
set_option linter.unusedSimpArgs false

/-- The document's reader at block c: its text, its place, its fault's number and place. -/
def Rf (w : World) (c : Nat) (s : ByteArray) (p code pl : Int) : Prop :=
  w.heap[c]? = some (.cells #[.string s, .int .i64 p, .int .i64 code, .int .i64 pl] 34 (0, 0))
theorem Rf.fr {S : Nat → Prop} {w w' : World} {c : Nat} {s : ByteArray} {p code pl : Int} (h : Rf w c s p code pl) (hf : Fr S w w') (hb : ¬ S c) : Rf w' c s p code pl := (hf.block c (heap_lt h) hb).trans h
theorem Rf.parts {w : World} {c : Nat} {s : ByteArray} {p code pl : Int} (h : Rf w c s p code pl) :
    w.cell? ⟨c, 0, none⟩ = some (.string s) ∧ w.cell? ⟨c, 1, none⟩ = some (.int .i64 p) ∧ w.cell? ⟨c, 2, none⟩ = some (.int .i64 code) ∧ w.cell? ⟨c, 3, none⟩ = some (.int .i64 pl) ∧ w.frozen? ⟨c, 1, none⟩ = false ∧ w.frozen? ⟨c, 2, none⟩ = false ∧ w.frozen? ⟨c, 3, none⟩ = false :=
  ⟨cell_of h 0, cell_of h 1, cell_of h 2, cell_of h 3, frozen_of h 1, frozen_of h 2, frozen_of h 3⟩

theorem bad_no (c : Nat) (s : ByteArray) (p pl : Int) (w : World) (h : Rf w c s p 0 pl) : Calls Tryd.prog 29 #[.pointer (some ⟨c, 0, none⟩)] w fun e w' => e = .returned (.bool false) ∧ w' = w := by
  obtain ⟨c0, c1, c2, c3, f1, f2, f3⟩ := h.parts
  go_enter Tryd.func29, Tryd.ntmps29
  go_wp2
  go_ret
  exact ⟨rfl, rfl⟩
theorem bad_yes (c : Nat) (s : ByteArray) (p code pl : Int) (w : World) (h : Rf w c s p code pl) (hc : code ≠ 0) : Calls Tryd.prog 29 #[.pointer (some ⟨c, 0, none⟩)] w fun e w' => e = .returned (.bool true) ∧ w' = w := by
  obtain ⟨c0, c1, c2, c3, f1, f2, f3⟩ := h.parts
  have hn : (code != 0) = true := by simp [hc]
  go_enter Tryd.func29, Tryd.ntmps29
  go_wp2
  go_ret
  exact ⟨by simp [hc], rfl⟩

theorem fail_no (c : Nat) (s : ByteArray) (p pl x y : Int) (w : World) (h : Rf w c s p 0 pl) : Calls Tryd.prog 54 #[.pointer (some ⟨c, 0, none⟩), .agg #[.int .i64 x, .int .i64 y]] w fun e w' => e = .returned (.tuple #[]) ∧ Rf w' c s p x y ∧ Fr (fun j => j = c) w w' := by
  have fa : Fr (fun _ => False) w (w.alloc (.cells #[.int .i64 x, .int .i64 y] 32)) := (Fr.refl _ _).alloc _
  have ha := h.fr fa (fun f => f)
  have hb := bad_no c s p pl _ ha
  have hlt := heap_lt h
  have hg : (w.alloc (.cells #[.int .i64 x, .int .i64 y] 32)).heap[c]? = some (.cells #[.string s, .int .i64 p, .int .i64 0, .int .i64 pl] 34 (0, 0)) := ha
  go_enter Tryd.func54, Tryd.ntmps54
  go_wp2_with (first
    | (go_at_call 29; refine hb.mono ?_; rintro e w' ⟨rfl, rfl⟩)
    | (refine wp_store_agg rfl (.tmp 10) (.tmp 8) 32 2 rfl Tryd.sizeOf32 c 2 rfl #[.string s, .int .i64 p, .int .i64 0, .int .i64 pl] 34 hg #[.int .i64 x, .int .i64 y] rfl rfl (by simp [Value.oneCell']) (Nat.le_refl 4) #[.string s, .int .i64 p, .int .i64 x, .int .i64 y] rfl ?_; intro w5 j5 f5 z5))
  go_end0
  exact ⟨rfl, j5, (fa.mono (fun _ _ f => f.elim)).trans f5 (fun _ _ q => q)⟩
theorem fail_yes (c : Nat) (s : ByteArray) (p code pl x y : Int) (w : World) (h : Rf w c s p code pl) (hc : code ≠ 0) : Calls Tryd.prog 54 #[.pointer (some ⟨c, 0, none⟩), .agg #[.int .i64 x, .int .i64 y]] w fun e w' => e = .returned (.tuple #[]) ∧ Fr (fun _ => False) w w' := by
  have fa : Fr (fun _ => False) w (w.alloc (.cells #[.int .i64 x, .int .i64 y] 32)) := (Fr.refl _ _).alloc _
  have hb := bad_yes c s p code pl _ (h.fr fa (fun f => f)) hc
  go_enter Tryd.func54, Tryd.ntmps54
  go_wp2_with (go_at_call 29; refine hb.mono ?_; rintro e w' ⟨rfl, rfl⟩)
  go_end0
  exact ⟨rfl, fa⟩

theorem Fr.drewN {S : Nat → Prop} {a w : World} (h : Fr S a w) (n : Nat) : Fr S a (w.drewN n) := ⟨h.os, h.tape, h.output, h.size, h.block⟩
theorem Rf.set1 {w : World} {c : Nat} {s : ByteArray} {p code pl : Int} (h : Rf w c s p code pl) (q : Int) : Rf (w.setCell ⟨c, 1, none⟩ (.int .i64 q)) c s q code pl := by
  unfold Rf; rw [heap_set h]; rfl
set_option maxHeartbeats 1000000 in
theorem ftake_yes (c : Nat) (s : ByteArray) (p n : Nat) (pl fm : Int) (w : World) (h : Rf w c s p 0 pl) (hp : p + n ≤ s.size) (hs : s.size ≤ maxLen) :
    Calls Tryd.prog 55 #[.pointer (some ⟨c, 0, none⟩), .int .i64 n, .int .i64 fm] w fun e w' => e = .returned (.tuple #[.string (sub s p n), .bool true]) ∧ Rf w' c s ((p + n : Nat) : Int) 0 pl ∧ Fr (fun j => j = c) w w' := by
  unfold maxLen at hs
  obtain ⟨c0, c1, c2, c3, f1, f2, f3⟩ := h.parts
  have hb := bad_no c s p pl w h
  have hle : ¬ ((s.size : Int) - p < n) := by omega
  have sl := sub_slice s p n hp
  go_enter Tryd.func55, Tryd.ntmps55
  go_wp2_with (go_at_call 29; refine hb.mono ?_; rintro e w' ⟨rfl, rfl⟩)
  go_quiet (fail)
  go_wp2
  go_quiet (fail)
  go_wp2
  go_ret2
  exact ⟨rfl, h.set1 _, ((Fr.refl (fun j => j = c) _).drewN _).setCell ⟨c, 1, none⟩ _ (fun _ => rfl)⟩
set_option maxHeartbeats 1000000 in
theorem ftake_no (c : Nat) (s : ByteArray) (p : Nat) (n pl fm : Int) (w : World) (h : Rf w c s p 0 pl) (hp : (s.size : Int) - p < n) (hq : p ≤ s.size) (hs : s.size ≤ maxLen) :
    Calls Tryd.prog 55 #[.pointer (some ⟨c, 0, none⟩), .int .i64 n, .int .i64 fm] w fun e w' => e = .returned (.tuple #[.string ⟨#[]⟩, .bool false]) ∧ Rf w' c s p 3 fm ∧ Fr (fun j => j = c) w w' := by
  unfold maxLen at hs
  obtain ⟨c0, c1, c2, c3, f1, f2, f3⟩ := h.parts
  have hb := bad_no c s p pl w h
  go_enter Tryd.func55, Tryd.ntmps55
  go_wp2_with (go_at_call 29; refine hb.mono ?_; rintro e w' ⟨rfl, rfl⟩)
  go_quiet (fail)
  go_wp2_with fail
  refine (placed_any 3 fm _).mono ?_
  rintro e w4 ⟨rfl, f4⟩
  have f4' := ((Fr.refl (fun _ => False) w').drewN _).trans f4 (fun _ _ q => q)
  go_wp2_with fail
  refine (fail_no c s p pl 3 fm w4 (h.fr f4' (fun f => f))).mono ?_
  rintro e w5 ⟨rfl, h5, f5⟩
  go_wp2_with fail
  go_ret2
  exact ⟨rfl, h5, (f4'.mono (fun _ _ f => f.elim)).trans f5 (fun _ _ q => q)⟩
theorem ftake_bad (c : Nat) (s : ByteArray) (p code pl n fm : Int) (w : World) (h : Rf w c s p code pl) (hc : code ≠ 0) :
    Calls Tryd.prog 55 #[.pointer (some ⟨c, 0, none⟩), .int .i64 n, .int .i64 fm] w fun e w' => e = .returned (.tuple #[.string ⟨#[]⟩, .bool false]) ∧ w' = w := by
  have hb := bad_yes c s p code pl w h hc
  go_enter Tryd.func55, Tryd.ntmps55
  go_wp2_with (go_at_call 29; refine hb.mono ?_; rintro e w' ⟨rfl, rfl⟩)
  go_ret2
  exact ⟨rfl, rfl⟩

set_option maxHeartbeats 1000000 in
theorem fleft_yes (c : Nat) (s : ByteArray) (p : Nat) (pl : Int) (w : World) (h : Rf w c s p 0 pl) (hp : p ≤ s.size) (hs : s.size ≤ maxLen) :
    Calls Tryd.prog 10 #[.pointer (some ⟨c, 0, none⟩)] w fun e w' => e = .returned (.int .i64 ((s.size : Int) - p)) ∧ Fr (fun _ => False) w w' := by
  unfold maxLen at hs
  obtain ⟨c0, c1, c2, c3, f1, f2, f3⟩ := h.parts
  have hb := bad_no c s p pl w h
  go_enter Tryd.func10, Tryd.ntmps10
  go_wp2_with (go_at_call 29; refine hb.mono ?_; rintro e w' ⟨rfl, rfl⟩)
  go_quiet (fail)
  go_wp2
  go_ret
  exact ⟨rfl, (Fr.refl _ _).drewN _⟩
theorem fleft_no (c : Nat) (s : ByteArray) (p code pl : Int) (w : World) (h : Rf w c s p code pl) (hc : code ≠ 0) :
    Calls Tryd.prog 10 #[.pointer (some ⟨c, 0, none⟩)] w fun e w' => e = .returned (.int .i64 0) ∧ w' = w := by
  have hb := bad_yes c s p code pl w h hc
  go_enter Tryd.func10, Tryd.ntmps10
  go_wp2_with (go_at_call 29; refine hb.mono ?_; rintro e w' ⟨rfl, rfl⟩)
  go_ret
  exact ⟨rfl, rfl⟩
end Go.Proofs.YtebbgpnhkpbefaaDoor
