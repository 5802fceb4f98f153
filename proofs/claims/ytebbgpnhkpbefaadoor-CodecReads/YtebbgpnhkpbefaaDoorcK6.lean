/- The document's reader: End of one without a fault; Hash. -/
import Derived.Test.YtebbgpnhkpbefaaDoorcK3
namespace Go.Proofs.YtebbgpnhkpbefaaDoor
open Go.RowKit
set_option linter.unusedVariables false
set_option linter.unusedSimpArgs false

theorem fend_ok (c : Nat) (s : ByteArray) (p : Nat) (pl : Int) (w : World) (h : Rf w c s p 0 pl) (hp : p = s.size) (hs : s.size ≤ maxLen) :
    Calls Tryd.prog 11 #[.pointer (some ⟨c, 0, none⟩)] w fun e w' => e = .returned (.agg #[.int .i64 0, .int .i64 pl]) ∧ Fr (fun _ => False) w w' := by
  unfold maxLen at hs
  have fa : Fr (fun _ => False) w (w.alloc (.cells #[.int .i64 0, .int .i64 0] 32)) := (Fr.refl _ _).alloc _
  have ha := h.fr fa (fun f => f)
  obtain ⟨c0, c1, c2, c3, f1, f2, f3⟩ := ha.parts
  have hbd : ∀ n, Calls Tryd.prog 29 #[.pointer (some ⟨c, 0, none⟩)] ((w.alloc (.cells #[.int .i64 0, .int .i64 0] 32)).drewN n) fun e w' => e = .returned (.bool false) ∧ w' = (w.alloc (.cells #[.int .i64 0, .int .i64 0] 32)).drewN n := fun n => bad_no c s p pl _ (ha.fr ((Fr.refl (fun _ => False) _).drewN n) (fun f => f))
  have kb : (w.alloc (.cells #[.int .i64 0, .int .i64 0] 32)).heap[w.heap.size]? = some (.cells #[.int .i64 0, .int .i64 0] 32 (0, 0)) := heap_alloc_new w _
  have hlt := heap_lt h
  have hd : decide ((p : Int) < s.size) = false := decide_eq_false (by omega)
  go_enter Tryd.func11, Tryd.ntmps11
  go_wp2
  go_quiet ((go_at_call 29; exact Calls.quiet_of_same (hbd _)))
  go_wp2_with (refine wp_store_agg rfl (.tmp 2) (.tmp 26) 32 2 rfl Tryd.sizeOf32 w.heap.size 0 rfl #[.int .i64 0, .int .i64 0] 32 kb #[.int .i64 0, .int .i64 pl] rfl rfl (by simp [Value.oneCell']) (Nat.le_refl 2) #[.int .i64 0, .int .i64 pl] rfl ?_; intro w5 j5 f5 z5)
  exact bodyPost_ret (results_cell Tryd.results11 Tryd.isAgg32 Tryd.sizeOf32 rfl j5 rfl) rfl ⟨rfl, (fa.drewN _).trans f5 (fun k hk q => by omega)⟩
theorem fend_left (c : Nat) (s : ByteArray) (p : Nat) (pl : Int) (w : World) (h : Rf w c s p 0 pl) (hp : p < s.size) (hs : s.size ≤ maxLen) :
    Calls Tryd.prog 11 #[.pointer (some ⟨c, 0, none⟩)] w fun e w' => e = .returned (.agg #[.int .i64 3, .int .i64 p]) ∧ Fr (fun _ => False) w w' := by
  unfold maxLen at hs
  have fa : Fr (fun _ => False) w (w.alloc (.cells #[.int .i64 0, .int .i64 0] 32)) := (Fr.refl _ _).alloc _
  have ha := h.fr fa (fun f => f)
  obtain ⟨c0, c1, c2, c3, f1, f2, f3⟩ := ha.parts
  have hbd : ∀ n, Calls Tryd.prog 29 #[.pointer (some ⟨c, 0, none⟩)] ((w.alloc (.cells #[.int .i64 0, .int .i64 0] 32)).drewN n) fun e w' => e = .returned (.bool false) ∧ w' = (w.alloc (.cells #[.int .i64 0, .int .i64 0] 32)).drewN n := fun n => bad_no c s p pl _ (ha.fr ((Fr.refl (fun _ => False) _).drewN n) (fun f => f))
  have kb : (w.alloc (.cells #[.int .i64 0, .int .i64 0] 32)).heap[w.heap.size]? = some (.cells #[.int .i64 0, .int .i64 0] 32 (0, 0)) := heap_alloc_new w _
  have hlt := heap_lt h
  have hd : decide ((p : Int) < s.size) = true := decide_eq_true (by omega)
  have hp' : (p : Int) < s.size := by omega
  go_enter Tryd.func11, Tryd.ntmps11
  go_wp2
  go_quiet ((go_at_call 29; exact Calls.quiet_of_same (hbd _)))
  go_wp2_with fail
  refine (placed_any 3 p _).mono ?_
  rintro e w4 ⟨rfl, f4⟩
  have f4' := (fa.drewN _).trans f4 (fun _ _ q => q)
  have kb4 := (f4.block w.heap.size (by simp) (fun f => f)).trans kb
  go_wp2_with (refine wp_store_agg rfl (.tmp 2) (.tmp 22) 32 2 rfl Tryd.sizeOf32 w.heap.size 0 rfl #[.int .i64 0, .int .i64 0] 32 kb4 #[.int .i64 3, .int .i64 p] rfl rfl (by simp [Value.oneCell']) (Nat.le_refl 2) #[.int .i64 3, .int .i64 p] rfl ?_; intro w5 j5 f5 z5)
  exact bodyPost_ret (results_cell Tryd.results11 Tryd.isAgg32 Tryd.sizeOf32 rfl j5 rfl) rfl ⟨rfl, f4'.trans f5 (fun k hk q => by omega)⟩

/-- Two arrays of zeros at the head of Hash. -/
theorem two_hash (w : World) : ∃ W, W = (w.alloc (.cells zH 38)).alloc (.cells zH 38) ∧ W.heap[w.heap.size]? = some (.cells zH 38 (0, 0)) ∧ W.heap[w.heap.size + 1]? = some (.cells zH 38 (0, 0)) ∧ Fr (fun _ => False) w W := by
  refine ⟨_, rfl, (Below.heap_alloc _ _ _ (by simp)).trans (heap_alloc_new w _), ?_, ((Fr.refl _ _).alloc _).alloc _⟩
  have := heap_alloc_new (w.alloc (.cells zH 38)) (.cells zH 38)
  simpa using this
set_option maxRecDepth 100000 in
set_option maxHeartbeats 2000000 in
/-- Hash, whatever take gives: its bytes, and zeros behind. -/
theorem fhash_by (c : Nat) (t : ByteArray) (ok : Bool) (p : Int) (w : World) (PF : World → Prop) (hc : c < w.heap.size) (hcell : w.cell? ⟨c, 1, none⟩ = some (.int .i64 p)) (ht : t.size ≤ 32)
    (hF : ∀ w1, Fr (fun _ => False) w w1 → Calls Tryd.prog 55 #[.pointer (some ⟨c, 0, none⟩), .int .i64 32, .int .i64 p] w1 fun e w' => e = .returned (.tuple #[.string t, .bool ok]) ∧ PF w' ∧ Fr (fun j => j = c) w1 w')
    (hP : ∀ w' w'' (S : Nat → Prop), PF w' → Fr S w' w'' → ¬ S c → PF w'') :
    Calls Tryd.prog 28 #[.pointer (some ⟨c, 0, none⟩)] w fun e w' => e = .returned (.agg (bc (t.data.toList ++ List.replicate (32 - t.size) 0)).toArray) ∧ PF w' ∧ Fr (fun j => j = c) w w' := by
  obtain ⟨W, hW, b1, b2, fW⟩ := two_hash w
  have c1 := (fW.cell (p := ⟨c, 1, none⟩) hc (fun f => f)).trans hcell
  have htl : t.data.toList.length = t.size := by rw [Array.length_toList]; rfl
  subst hW
  go_enter Tryd.func28, Tryd.ntmps28
  go_wp2_with fail
  refine (hF _ fW).mono ?_
  rintro e w2 ⟨rfl, hp2, f2⟩
  have k1 := (f2.block _ (heap_lt b1) (by omega)).trans b1
  have k2 := (f2.block _ (heap_lt b2) (by omega)).trans b2
  have g2 : Fr (fun j => j = c) w w2 := (fW.mono (fun _ _ f => f.elim)).trans f2 (fun _ _ q => q)
  clear b1 b2 c1 fW f2
  go_wp2_with fail
  go_loopw [6] (fun i wr => ∃ (j : Nat) (C : Array Value), i = .int .i64 j ∧ j ≤ t.size ∧ wr.heap[w.heap.size + 1]? = some (.cells C 38 (0, 0)) ∧ C.toList = bc (t.data.toList.take j) ++ List.replicate (32 - j) z8 ∧ wr.heap[w.heap.size]? = some (.cells zH 38 (0, 0)) ∧ PF wr ∧ Fr (fun j => j = c) w wr) (fun i _ => t.size - (intOf i).toNat)
  case atStart => exact ⟨0, zH, rfl, by omega, k2, rfl, k1, hp2, g2⟩
  case round =>
    clear k1 k2 g2 hp2
    obtain ⟨j, C, rfl, hj, k2, hC, k1, hpr, gr⟩ := hrel
    have HC : Hid (C.toList = bc (t.data.toList.take j) ++ List.replicate (32 - j) z8) := hC
    have hCs : C.size = 32 := by
      have := congrArg List.length hC
      rw [Array.length_toList, List.length_append, bc_len, List.length_take, List.length_replicate] at this
      omega
    have hl1 := heap_lt k1
    have hl2 := heap_lt k2
    by_cases hlt : j < t.size
    · have hlt' : (j : Int) < t.size := by omega
      have hj32 : (j : Int) < 32 := by omega
      have hcell : wr.cell? ⟨w.heap.size + 1, j, none⟩ = some z8 := by
        rw [cell_of k2, ← Array.getElem?_toList, hC, List.getElem?_append_right (by rw [bc_len, List.length_take]; omega), bc_len, List.length_take, List.getElem?_replicate, if_pos (by omega)]
      have hfz := frozen_of k2 j
      clear hC
      go_wp2
      go_roundw
      case rel =>
        refine ⟨j + 1, C.setIfInBounds j (.int .u8 ((t[j]'hlt).toNat : Int)), by go_num, by omega, heap_set k2 _, ?_, (heap_set_ne (by omega) _).trans k1, hP _ _ (fun k => k = w.heap.size + 1) hpr ((Fr.refl _ _).setCell _ _ (fun _ => rfl)) (by omega), gr.setCell _ _ (fun h => by simp at h; omega)⟩
        rw [Array.toList_setIfInBounds, HC.out, take_snoc t j hlt, bc_app, List.set_append_right _ _ (by rw [bc_len, List.length_take]; omega), bc_len, List.length_take, show j - min j t.data.toList.length = 0 by omega, show 32 - j = (32 - (j + 1)) + 1 by omega, List.replicate_succ, List.append_assoc]
        rfl
      case measure => simp [intOf]; omega
    · have hge : ¬ ((j : Int) < t.size) := by omega
      obtain rfl : j = t.size := by omega
      have hCe : C = (bc (t.data.toList ++ List.replicate (32 - t.size) 0)).toArray := by
        apply Array.ext'
        rw [hC, List.take_of_length_le (by omega), List.toList_toArray, bc_app]
        congr 1
        simp [bc]
      have h1c : ∀ u ∈ C.toList, u.oneCell' = true := by rw [hCe]; simpa using bc_one (t.data.toList ++ List.replicate (32 - t.size) 0)
      have HCE : Hid (C = (bc (t.data.toList ++ List.replicate (32 - t.size) 0)).toArray) := hCe
      clear hC hCe
      go_wp2_with (first
        | (refine wp_load_agg rfl (.tmp 3) 38 32 rfl Tryd.isAgg38 Tryd.sizeOf38 (w.heap.size + 1) 0 rfl C 38 (0, 0) k2 C hCs (fun j _ => by rw [Nat.zero_add]) ?_)
        | (refine wp_store_agg rfl (.tmp 2) (.tmp 27) 38 32 rfl Tryd.sizeOf38 w.heap.size 0 rfl zH 38 k1 C rfl hCs h1c (by decide) C (by have : zH.toList.drop (0 + 32) = [] := rfl; rw [this]; simp) ?_; intro w5 j5 f5 z5))
      exact bodyPost_ret (results_cell Tryd.results28 Tryd.isAgg38 Tryd.sizeOf38 rfl j5 hCs) rfl ⟨by rw [← HCE.out], hP _ _ _ hpr f5 (by omega), gr.trans f5 (fun k hk q => by omega)⟩

theorem fhash_yes (c : Nat) (s : ByteArray) (p : Nat) (pl : Int) (w : World) (h : Rf w c s p 0 pl) (hl : p + 32 ≤ s.size) (hs : s.size ≤ maxLen) :
    Calls Tryd.prog 28 #[.pointer (some ⟨c, 0, none⟩)] w fun e w' => e = .returned (.agg (bc ((s.data.toList.drop p).take 32)).toArray) ∧ Rf w' c s ((p + 32 : Nat) : Int) 0 pl ∧ Fr (fun j => j = c) w w' := by
  have hz := sub_size s p 32 hl
  have := fhash_by c (sub s p 32) true p w (fun w' => Rf w' c s ((p + 32 : Nat) : Int) 0 pl) (heap_lt h) h.parts.2.1 (by omega) (fun w1 f1 => ftake_yes c s p 32 pl p w1 (h.fr f1 (fun f => f)) hl hs) (fun w' w'' S hv hf hS => hv.fr hf hS)
  rw [hz, sub_list] at this
  simpa using this
theorem fhash_zero (t : ByteArray) (h : t = ⟨#[]⟩) : (bc (t.data.toList ++ List.replicate (32 - t.size) 0)).toArray = zH := by subst h; rfl
theorem fhash_short (c : Nat) (s : ByteArray) (p : Nat) (pl : Int) (w : World) (h : Rf w c s p 0 pl) (hp : p ≤ s.size) (hl : s.size < p + 32) (hs : s.size ≤ maxLen) :
    Calls Tryd.prog 28 #[.pointer (some ⟨c, 0, none⟩)] w fun e w' => e = .returned (.agg zH) ∧ Rf w' c s p 3 p ∧ Fr (fun j => j = c) w w' := by
  have := fhash_by c ⟨#[]⟩ false p w (fun w' => Rf w' c s p 3 p) (heap_lt h) h.parts.2.1 (by decide) (fun w1 f1 => ftake_no c s p 32 pl p w1 (h.fr f1 (fun f => f)) (by omega) hp hs) (fun w' w'' S hv hf hS => hv.fr hf hS)
  rw [fhash_zero _ rfl] at this
  exact this
theorem fhash_bad (c : Nat) (s : ByteArray) (p code pl : Int) (w : World) (h : Rf w c s p code pl) (hc : code ≠ 0) :
    Calls Tryd.prog 28 #[.pointer (some ⟨c, 0, none⟩)] w fun e w' => e = .returned (.agg zH) ∧ Rf w' c s p code pl ∧ Fr (fun j => j = c) w w' := by
  have := fhash_by c ⟨#[]⟩ false p w (fun w' => Rf w' c s p code pl) (heap_lt h) h.parts.2.1 (by decide) (fun w1 f1 => (ftake_bad c s p code pl 32 p w1 (h.fr f1 (fun f => f)) hc).mono (by rintro e w' ⟨rfl, rfl⟩; exact ⟨rfl, h.fr f1 (fun f => f), Fr.refl _ _⟩)) (fun w' w'' S hv hf hS => hv.fr hf hS)
  rw [fhash_zero _ rfl] at this
  exact this
end Go.Proofs.YtebbgpnhkpbefaaDoor
