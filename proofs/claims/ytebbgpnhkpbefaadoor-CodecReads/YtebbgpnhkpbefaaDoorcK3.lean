/- The document's reader: what Fixed says otherwise; End. -/
import Derived.Test.YtebbgpnhkpbefaaDoorcK2
namespace Go.Proofs.YtebbgpnhkpbefaaDoor
open Go.RowKit
set_option linter.unusedVariables false
set_option linter.unusedSimpArgs false

set_option maxRecDepth 100000 in
set_option maxHeartbeats 2000000 in
theorem ffixed_arg (c : Nat) (s : ByteArray) (p pl wd : Int) (w : World) (h : Rf w c s p 0 pl) (hw : wd < 1 ∨ 8 < wd) :
    Calls Tryd.prog 25 #[.pointer (some ⟨c, 0, none⟩), .int .i64 wd] w fun e w' => e = .returned (.int .u64 0) ∧ Rf w' c s p 2 (-1) ∧ Fr (fun j => j = c) w w' := by
  rcases hw with hw | hw
  all_goals
    have h' : ¬ (wd < 1) ∨ wd < 1 := by omega
    go_enter Tryd.func25, Tryd.ntmps25
    go_wp2_with fail
    refine (plain_any 2 _ (by omega)).mono ?_
    rintro e w4 ⟨rfl, f4⟩
    go_wp2_with fail
    refine (fail_no c s p pl 2 (-1) w4 (h.fr f4 (fun f => f))).mono ?_
    rintro e w5 ⟨rfl, h5, f5⟩
    go_wp2_with fail
    go_ret
    exact ⟨rfl, h5, (f4.mono (fun _ _ f => f.elim)).trans f5 (fun _ _ q => q)⟩
set_option maxRecDepth 100000 in
set_option maxHeartbeats 2000000 in
theorem ffixed_short (c : Nat) (s : ByteArray) (p n : Nat) (pl : Int) (w : World) (h : Rf w c s p 0 pl) (hq : p ≤ s.size) (hp : s.size < p + n) (h1 : 1 ≤ n) (h8 : n ≤ 8) (hs : s.size ≤ maxLen) :
    Calls Tryd.prog 25 #[.pointer (some ⟨c, 0, none⟩), .int .i64 n] w fun e w' => e = .returned (.int .u64 0) ∧ Rf w' c s p 3 p ∧ Fr (fun j => j = c) w w' := by
  obtain ⟨c0, c1, c2, c3, f1, f2, f3⟩ := h.parts
  have hm1 : ¬ ((n : Int) < 1) := by omega
  have hm8 : ¬ ((8 : Int) < n) := by omega
  have htk := ftake_no c s p n pl p w h (by omega) hq hs
  go_enter Tryd.func25, Tryd.ntmps25
  go_wp2_with (go_at_call 55; refine htk.mono ?_; rintro e w2 ⟨rfl, h2, hf2⟩)
  clear htk
  go_loop [7, 8] (fun x i => i = .int .i64 0 ∧ x = .int .u64 0) (fun _ _ => 0)
  case atStart => exact ⟨rfl, rfl⟩
  case round =>
    obtain ⟨rfl, rfl⟩ := hrel
    go_wp2
    go_ret
    exact ⟨rfl, h2, hf2⟩
set_option maxRecDepth 100000 in
set_option maxHeartbeats 2000000 in
theorem ffixed_bad (c : Nat) (s : ByteArray) (p code pl wd : Int) (w : World) (h : Rf w c s p code pl) (hc : code ≠ 0) :
    Calls Tryd.prog 25 #[.pointer (some ⟨c, 0, none⟩), .int .i64 wd] w fun e w' => e = .returned (.int .u64 0) ∧ Fr (fun _ => False) w w' := by
  obtain ⟨c0, c1, c2, c3, f1, f2, f3⟩ := h.parts
  by_cases hw : wd < 1 ∨ 8 < wd
  · rcases hw with hw | hw
    all_goals
      have h' : ¬ (wd < 1) ∨ wd < 1 := by omega
      go_enter Tryd.func25, Tryd.ntmps25
      go_wp2_with fail
      refine (plain_any 2 _ (by omega)).mono ?_
      rintro e w4 ⟨rfl, f4⟩
      go_wp2_with fail
      refine (fail_yes c s p code pl 2 (-1) w4 (h.fr f4 (fun f => f)) hc).mono ?_
      rintro e w5 ⟨rfl, f5⟩
      go_wp2_with fail
      go_ret
      exact ⟨rfl, f4.trans f5 (fun _ _ q => q)⟩
  · have hm1 : ¬ (wd < 1) := by omega
    have hm8 : ¬ ((8 : Int) < wd) := by omega
    have htk := ftake_bad c s p code pl wd p w h hc
    clear hw
    go_enter Tryd.func25, Tryd.ntmps25
    go_wp2_with (go_at_call 55; refine htk.mono ?_; rintro e w2 ⟨rfl, rfl⟩)
    clear htk
    go_loop [7, 8] (fun x i => i = .int .i64 0 ∧ x = .int .u64 0) (fun _ _ => 0)
    case atStart => exact ⟨rfl, rfl⟩
    case round =>
      obtain ⟨rfl, rfl⟩ := hrel
      go_wp2
      go_ret
      exact ⟨rfl, Fr.refl _ _⟩

/-- End: a fault stays; bytes that are left; none. -/
theorem fend_bad (c : Nat) (s : ByteArray) (p code pl : Int) (w : World) (h : Rf w c s p code pl) (hc : code ≠ 0) :
    Calls Tryd.prog 11 #[.pointer (some ⟨c, 0, none⟩)] w fun e w' => e = .returned (.agg #[.int .i64 code, .int .i64 pl]) ∧ Fr (fun _ => False) w w' := by
  have fa : Fr (fun _ => False) w (w.alloc (.cells #[.int .i64 0, .int .i64 0] 32)) := (Fr.refl _ _).alloc _
  have ha := h.fr fa (fun f => f)
  obtain ⟨c0, c1, c2, c3, f1, f2, f3⟩ := ha.parts
  have hb := bad_yes c s p code pl _ ha hc
  have hbd : ∀ n, Calls Tryd.prog 29 #[.pointer (some ⟨c, 0, none⟩)] ((w.alloc (.cells #[.int .i64 0, .int .i64 0] 32)).drewN n) fun e w' => e = .returned (.bool true) ∧ w' = (w.alloc (.cells #[.int .i64 0, .int .i64 0] 32)).drewN n := fun n => bad_yes c s p code pl _ (ha.fr ((Fr.refl (fun _ => False) _).drewN n) (fun f => f)) hc
  have kb : (w.alloc (.cells #[.int .i64 0, .int .i64 0] 32)).heap[w.heap.size]? = some (.cells #[.int .i64 0, .int .i64 0] 32 (0, 0)) := heap_alloc_new w _
  have hlt := heap_lt h
  go_enter Tryd.func11, Tryd.ntmps11
  go_wp2
  go_quiet ((go_at_call 29; exact Calls.quiet_of_same (hbd _)))
  go_wp2_with (refine wp_store_agg rfl (.tmp 2) (.tmp 26) 32 2 rfl Tryd.sizeOf32 w.heap.size 0 rfl #[.int .i64 0, .int .i64 0] 32 kb #[.int .i64 code, .int .i64 pl] rfl rfl (by simp [Value.oneCell']) (Nat.le_refl 2) #[.int .i64 code, .int .i64 pl] rfl ?_; intro w5 j5 f5 z5)
  exact bodyPost_ret (results_cell Tryd.results11 Tryd.isAgg32 Tryd.sizeOf32 rfl j5 rfl) rfl ⟨rfl, (fa.drewN _).trans f5 (fun k hk q => by omega)⟩
end Go.Proofs.YtebbgpnhkpbefaaDoor
