/- The document's Hash of a tile: where it may be. -/
import Derived.Test.YtkjonddlmiedcaaGreatDoorUt
namespace Go.Proofs.YtkjonddlmiedcaaGreatDoor
open Go.RowKit
set_option linter.unusedVariables false
set_option linter.unusedSimpArgs false
set_option maxRecDepth 100000 in
set_option maxHeartbeats 4000000 in
theorem dhash_yes (l : List (List UInt8)) (h32 : ∀ x ∈ l, x.length = 32) (hn : l.length ≤ 256) (k A : Nat) (hk : k ≤ 8) (hA : A + 2 ^ k ≤ l.length) (hd : A % 2 ^ k = 0) (g o c : Nat) (w : World) (hr : Rw w (some ⟨g, o, none⟩) c l) (hLd : Laid w) :
    Calls Tryz.prog 9 #[.slice (some ⟨g, o, none⟩) l.length c, .int .i64 (A : Int), .int .i64 ((2 ^ k : Nat) : Int)] w fun e w' => e = .returned (.tuple #[.agg (hbs (ovr k ((l.drop A).take (2 ^ k)))), .agg #[.int .i64 0, .int .i64 0]]) ∧ Nw w w' := by
  have h0 : 0 < 2 ^ k := Nat.pow_pos (by decide)
  have hlen : ((l.drop A).take (2 ^ k)).length = 2 ^ k := by simp; omega
  have h32' : ∀ x ∈ (l.drop A).take (2 ^ k), x.length = 32 := fun x hx => h32 x (List.mem_of_mem_drop (List.mem_of_mem_take hx))
  have hR : (hbs (ovr k ((l.drop A).take (2 ^ k)))).size = 32 := by rw [hbs_size, ovr_32 k _ h32']
  have QO : Hid (∀ W, Nw w W → Calls Tryz.prog 24 #[.slice (some ⟨g, o + A * 32, none⟩) (2 ^ k) (c - A)] W fun e w' => e = .returned (.agg (hbs (ovr k ((l.drop A).take (2 ^ k))))) ∧ Nw W w') := fun W nW => by
    have := dtree_any k _ g (o + A * 32) (c - A) W hk hlen h32' ((hr.nw h32 nW).cut A (2 ^ k) hA) (hLd.nw nW)
    rwa [hlen] at this
  have hc := hr.1
  have HS := show Hid _ from cut_hlh g o l.length c A (A + 2 ^ k) (by omega) (by omega)
  rw [Nat.add_sub_cancel_left] at HS
  obtain ⟨R, hRe⟩ : ∃ R, R = hbs (ovr k ((l.drop A).take (2 ^ k))) := ⟨_, rfl⟩
  rw [← hRe] at QO hR ⊢
  have h1 : ∀ u ∈ R.toList, u.oneCell' = true := by rw [hRe]; exact hbs_one _
  have HP : Hid (pwB ((2 ^ k : Nat) : Int) 9 = true) := (pwB_iff _ 9).2 ⟨k, by omega, rfl⟩
  clear hRe hlen h32' h32 hr hLd hk
  generalize 2 ^ k = C at *
  generalize l.length = n at *
  obtain ⟨y, hy⟩ : ∃ y : Int, y = (C : Int) := ⟨_, rfl⟩
  have HY : Hid (y = (C : Int)) := hy
  rw [← hy] at HP ⊢
  clear hy
  go_enter Tryz.func9, Tryz.ntmps9
  go_upto_region 1 with fail
  rw [z32_h]
  obtain ⟨w1, hw1⟩ : ∃ q, (w.alloc (.cells z32 26)).alloc (.cells #[.int .i64 0, .int .i64 0] 32) = q := ⟨_, rfl⟩
  have N1 : Hid (Nw w w1) := by show Nw w w1; rw [← hw1]; exact (nwa w _).alloc _
  have JZ : Hid (w1.heap[w.heap.size]? = some (.cells z32 26)) := by show _ = _; rw [← hw1]; exact ((nwa _ _).block _ (by simp) (fun f => f)).trans (heap_new _ _)
  have JF : Hid (w1.heap[w.heap.size + 1]? = some (.cells #[.int .i64 0, .int .i64 0] 32)) := by show _ = _; rw [← hw1]; exact heap_next _ _ _
  rw [hw1]
  clear hw1
  obtain ⟨hb, hhb⟩ : ∃ q, q = w.heap.size := ⟨_, rfl⟩
  rw [← hhb] at JZ JF ⊢
  have HHB : Hid (hb = w.heap.size) := hhb
  clear hhb
  go_wp2
  go_loopw [8, 9] (fun u v wx => ∃ j : Nat, j ≤ 9 ∧ v = .int .i64 ((2 ^ j : Nat) : Int) ∧ u = .bool (pwB y j) ∧ w1 = wx) (fun _ v _ => 512 - (intOf v).toNat)
  case atStart => exact ⟨0, by omega, rfl, rfl, rfl⟩
  case round =>
    obtain ⟨j, hj, rfl, rfl, rfl⟩ := hrel
    by_cases hj9 : j < 9
    · obtain ⟨m, hm⟩ : ∃ m, m = 2 ^ j := ⟨_, rfl⟩
      have hm1 : m ≤ 256 := by rw [hm]; exact Nat.pow_le_pow_right (by decide) (show j ≤ 8 by omega)
      have hm0 : 1 ≤ m := by rw [hm]; exact Nat.one_le_two_pow
      have HM : Hid (2 * m = 2 ^ (j + 1)) := by show _ = _; rw [hm, Nat.pow_succ]; omega
      have HB : Hid (pwB y (j + 1) = (pwB y j || (m : Int) == y)) := by show _ = _; rw [hm]; rfl
      rw [← hm]
      clear hm
      have h256 : (m : Int) ≤ 256 := by omega
      generalize pwB y j = f at HB ⊢
      cases f
      · go_wp2
        exact ⟨⟨j + 1, by omega, by rw [← HM.out]; go_num, by rw [HB.out]; simp, trivial⟩, by simp [intOf]; omega⟩
      · go_wp2
        exact ⟨⟨j + 1, by omega, by rw [← HM.out]; go_num, by rw [HB.out]; simp, trivial⟩, by simp [intOf]; omega⟩
    · obtain rfl : j = 9 := by omega
      have h512 : ((2 ^ 9 : Nat) : Int) = 512 := by decide
      rw [h512]
      clear h512
      rw [HP.out]
      have hyy := HY.out
      subst hyy
      clear HP
      have d1 : ¬ (256 : Int) < (n : Int) := by omega
      have d2 : ¬ (256 : Int) < (A : Int) := by omega
      have d3 : ((A : Int) % (C : Int) != 0) = false := by
        have : (A : Int) % (C : Int) = 0 := by omega
        simp [this]
      have d4 : ¬ (n : Int) < (A : Int) + (C : Int) := by omega
      have hCz : ¬ (C : Int) = 0 := by omega
      go_wp2_with (first
        | (refine wplt_cut rfl (.tmp 51) (.tmp 52) (.tmp 55) rfl (.slice (some ⟨g, o, none⟩) n c) (.int .i64 (A : Int)) (.int .i64 ((A : Int) + (C : Int))) (.slice (some ⟨g, o + A * 32, none⟩) C (c - A)) rfl rfl rfl (HS.out _ (by omega) _) ?_)
        | fail)
      refine (QO.out _ N1.out).mono ?_
      rintro e w3 ⟨rfl, n3⟩
      have jz3 := (n3.block _ (heap_lt JZ.out) (fun f => f)).trans JZ.out
      have jf3 := (n3.block _ (heap_lt JF.out) (fun f => f)).trans JF.out
      have N3 : Hid (Nw w w3) := N1.out.tr n3
      clear n3
      go_wp2_with (first | (refine wp_store_agg rfl (.tmp 6) (.tmp 57) 26 32 rfl Tryz.sizeOf26 hb 0 rfl z32 26 jz3 R rfl hR h1 (by decide) R (by rw [z32_drop]; simp) ?_; intro w4 j4 f4 z4; have jf4 : w4.heap[hb + 1]? = some (.cells #[.int .i64 0, .int .i64 0] 32) := (f4.block _ (heap_lt jf3) (by omega)).trans jf3; clear z4) | (refine wp_store_agg rfl (.tmp 7) (.tmp 58) 32 2 rfl Tryz.sizeOf32 (hb + 1) 0 rfl #[.int .i64 0, .int .i64 0] 32 jf4 #[.int .i64 0, .int .i64 0] rfl rfl (by simp [Value.oneCell']) (by decide) #[.int .i64 0, .int .i64 0] (by simp) ?_; intro w5 j5 f5 z5))
      exact bodyPost_ret (results_cells Tryz.results9 Tryz.isAgg26 Tryz.sizeOf26 Tryz.isAgg32 Tryz.sizeOf32 rfl rfl ((f5.block _ (heap_lt j4) (by omega)).trans j4) hR j5 rfl) rfl ⟨rfl, (N3.out.trans f4 (fun k hk q => by have := HHB.out; omega)).trans f5 (fun k hk q => by have := HHB.out; omega)⟩
end Go.Proofs.YtkjonddlmiedcaaGreatDoor
