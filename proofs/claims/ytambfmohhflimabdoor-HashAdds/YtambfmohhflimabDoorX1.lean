/- HashAdds. -/
import Derived.Test.YtambfmohhflimabDoorH6
namespace Go.Proofs.YtambfmohhflimabDoor
open Go.RowKit
set_option linter.unusedVariables false
set_option linter.unusedSimpArgs false

set_option maxRecDepth 100000 in
set_option maxHeartbeats 2000000 in
theorem adds_any (A : List UInt8) (hA : A.length = 32) (m n : Nat) (hm : m ≤ 255) (hn : n ≤ 255) (w : World) (hL : Laid w) {Bd : Nat} {a : Nat → Addr} (hS : Sent Bd w a) :
    Calls Tryd.prog 3 #[.agg (hbs A), .int .u8 (m : Int), .int .u8 (n : Int)] w fun e w' => e = .returned (.bool true) ∧ Nw w w' := by
  have HL : Hid (Laid w) := hL
  have HS : Hid (Sent Bd w a) := hS
  have HA : Hid (A.length = 32) := hA
  have has : (hbs A).size = 32 := by rw [hbs_size, hA]
  clear hL hS hA
  have m0 : (0 : Int) ≤ (m : Int) := by omega
  have m1 : (m : Int) ≤ 255 := by omega
  have n0 : (0 : Int) ≤ (n : Int) := by omega
  have n1 : (n : Int) ≤ 255 := by omega
  go_enter Tryd.func3, Tryd.ntmps3
  obtain ⟨w0, hw0⟩ : ∃ w0, w0 = w.alloc (.cells (hbs A) 23) := ⟨_, rfl⟩
  have nw0 : Nw w w0 := by rw [hw0]; exact (Fr.refl _ _).alloc _
  have ja : w0.heap[w.heap.size]? = some (.cells (hbs A) 23) := by rw [hw0]; exact heap_new w _
  have ja' := ja
  rw [hw0] at ja'
  go_wp2_with (refine wp_load_agg rfl (.tmp 3) 23 32 rfl Tryd.isAgg23 Tryd.sizeOf23 w.heap.size 0 rfl (hbs A) 23 (0, 0) ja' (hbs A) has (fun j _ => by rw [Nat.zero_add]) ?_)
  rw [← hw0]
  clear ja' hw0
  refine (chain_in A HA.out m hm w0 (HL.out.nw nw0)).mono ?_
  rintro e1 w1 ⟨rfl, k1⟩
  have ja1 := (k1.block _ (heap_lt ja) (fun f => f)).trans ja
  have nw1 : Nw w w1 := nw0.tr k1
  clear ja nw0 k1
  obtain ⟨M, hM⟩ : ∃ M, M = chn m A := ⟨_, rfl⟩
  have lM : M.length = 32 := by rw [hM]; exact chn_len m A HA.out
  have sM : (hbs M).size = 32 := by rw [hbs_size, lM]
  have HM : Hid (M = chn m A) := hM
  have HlM : Hid (M.length = 32) := lM
  rw [← hM]
  clear hM lM
  go_wp2_with first
    | (refine wp_store_agg rfl (.tmp 7) (.tmp 18) 23 32 rfl Tryd.sizeOf23 w1.heap.size 0 rfl _ 23 (heap_new _ _) (hbs M) rfl sM (hbs_one _) (by decide) (hbs M) (by simp) ?_; intro w2 j2 f2 z2; have nw2 : Nw w w2 := (nw1.alloc _).trans f2 (fun k hk q => by have := nw1.size; omega); have ja2 := (f2.block _ (by have := heap_lt ja1; simp; omega) (by have := heap_lt ja1; omega)).trans ((Below.heap_alloc _ _ _ (heap_lt ja1)).trans ja1); clear z2 f2)
    | (refine wp_load_agg rfl (.tmp 7) 23 32 rfl Tryd.isAgg23 Tryd.sizeOf23 w1.heap.size 0 rfl (hbs M) 23 (0, 0) j2 (hbs M) sM (fun j _ => by rw [Nat.zero_add]) ?_)
  refine (chain_in M HlM.out n hn w2 (HL.out.nw nw2)).mono ?_
  rintro e3 w3 ⟨rfl, k3⟩
  have ja3 := (k3.block _ (heap_lt ja2) (fun f => f)).trans ja2
  have nw3 : Nw w w3 := nw2.tr k3
  have h13 : w1.heap.size < w3.heap.size := Nat.lt_of_lt_of_le (heap_lt j2) k3.size
  clear ja1 ja2 nw2 k3 j2
  obtain ⟨q, hq⟩ : ∃ q, q = w1.heap.size := ⟨_, rfl⟩
  rw [← hq] at h13 ⊢
  clear hq nw1
  obtain ⟨R, hR⟩ : ∃ R, R = chn n M := ⟨_, rfl⟩
  have lR : R.length = 32 := by rw [hR]; exact chn_len n M HlM.out
  have sR : (hbs R).size = 32 := by rw [hbs_size, lR]
  have HR : Hid (R = chn (m + n) A) := by unfold Hid; rw [hR, HM.out]; exact chn_add m n A
  have HlR : Hid (R.length = 32) := lR
  rw [← hR]
  clear hR lR
  go_wp2_with first
    | (refine wp_store_agg rfl (.tmp 9) (.tmp 25) 23 32 rfl Tryd.sizeOf23 w3.heap.size 0 rfl _ 23 (heap_new _ _) (hbs R) rfl sR (hbs_one _) (by decide) (hbs R) (by simp) ?_; intro w4 j4 f4 z4; have nw4 : Nw w w4 := (nw3.alloc _).trans f4 (fun k hk q => by have := nw3.size; omega); have ja4 := (f4.block _ (by have := heap_lt ja3; simp; omega) (by have := heap_lt ja3; omega)).trans ((Below.heap_alloc _ _ _ (heap_lt ja3)).trans ja3); clear z4 f4)
    | (refine wp_load_agg rfl (.tmp 3) 23 32 rfl Tryd.isAgg23 Tryd.sizeOf23 w.heap.size 0 rfl (hbs A) 23 (0, 0) ja4 (hbs A) has (fun j _ => by rw [Nat.zero_add]) ?_)
  have h34 : w3.heap.size < w4.heap.size := heap_lt j4
  obtain ⟨r, hr⟩ : ∃ r, r = w3.heap.size := ⟨_, rfl⟩
  rw [← hr] at j4 h34 ⊢
  clear hr ja3 h13 nw3
  have HmR : Hid (m ≤ 255 ∧ n ≤ 255) := ⟨hm, hn⟩
  by_cases hbig : 255 < m + n
  · have q5 := chain_out (hbs A) has ((m : Int) + (n : Int)) (.inr (by omega)) w4 (HS.out.fr nw4 (fun _ _ f => f))
    refine q5.mono ?_
    rintro e5 w5 ⟨rfl, k5⟩
    have j5 := (k5.block _ (heap_lt j4) (fun f => f)).trans j4
    have nw5 : Nw w w5 := nw4.tr k5
    clear k5 q5 ja4 nw4 j4
    rw [← z32_hbs]
    have hz32 : z32.size = 32 := by simp [z32]
    have hz1 : ∀ u ∈ z32.toList, u.oneCell' = true := by rw [z32_hbs]; exact hbs_one _
    have hgt : (m : Int) + (n : Int) > 255 := by omega
    have ezz := fun W => arr_eq z32 (fun i hi => ⟨0, by simp [z32, hi]⟩) W
    have ezz2 : ∀ W : World, (Op.equalIn 10000 23 (.agg z32) (.agg #[.int .u8 0, .int .u8 0, .int .u8 0, .int .u8 0, .int .u8 0, .int .u8 0, .int .u8 0, .int .u8 0, .int .u8 0, .int .u8 0, .int .u8 0, .int .u8 0, .int .u8 0, .int .u8 0, .int .u8 0, .int .u8 0, .int .u8 0, .int .u8 0, .int .u8 0, .int .u8 0, .int .u8 0, .int .u8 0, .int .u8 0, .int .u8 0, .int .u8 0, .int .u8 0, .int .u8 0, .int .u8 0, .int .u8 0, .int .u8 0, .int .u8 0, .int .u8 0])).run Tryd.prog W = .ok true W := fun W => by rw [z32_h]; exact ezz W
    clear ezz
    go_wp2_with (refine wp_store_agg rfl (.tmp 11) (.tmp 35) 23 32 rfl Tryd.sizeOf23 w5.heap.size 0 rfl _ 23 (heap_new _ _) z32 rfl hz32 hz1 (by decide) z32 (by simp) ?_; intro w6 j6 f6 z6; have nw6 : Nw w w6 := (nw5.alloc _).trans f6 (fun k hk q => by have := nw5.size; omega); clear z6 f6)
    have ev : EV w6 a (sen (a 1)) 2 none := .inr (.inl ⟨1, by decide, rfl, rfl, rfl⟩)
    have q7 := isE_any (HS.out.fr nw6 (fun _ _ f => f)) ev 2
    refine q7.mono ?_
    rintro e7 w7 ⟨rfl, k7⟩
    have hsb : sameB 2 none 2 (-1) = true := by decide
    rw [hsb]
    have j7 := (k7.block _ (heap_lt j6) (fun f => f)).trans j6
    have nw7 : Nw w w7 := nw6.tr k7
    clear q7 k7 nw6 j6
    go_wp2_with (refine wp_load_g rfl (.tmp 11) 23 32 rfl Tryd.isAgg23 Tryd.sizeOf23 w5.heap.size 0 rfl z32 23 (0, 0) j7 z32 hz32 (fun j _ => by rw [Nat.zero_add]) ?_)
    have q8 := lives_any w7 (HL.out.nw nw7) (HS.out.fr nw7 (fun _ _ f => f))
    refine q8.mono ?_
    rintro e8 w8 ⟨rfl, k8⟩
    clear q8
    go_wp2
    go_ret
    exact ⟨rfl, nw7.tr k8⟩
  · have q5 := chain_in A HA.out (m + n) (by omega) w4 (HL.out.nw nw4)
    rw [Int.natCast_add, ← HR.out] at q5
    refine q5.mono ?_
    rintro e5 w5 ⟨rfl, k5⟩
    have j5 := (k5.block _ (heap_lt j4) (fun f => f)).trans j4
    have nw5 : Nw w w5 := nw4.tr k5
    have h5 : r < w5.heap.size := heap_lt j5
    clear k5 q5 ja4 nw4 j4 h34
    have hgt : ¬ (m : Int) + (n : Int) > 255 := by omega
    have eqR := hbs_eq R HlR.out
    go_wp2_with first
      | (refine wp_store_agg rfl (.tmp 11) (.tmp 35) 23 32 rfl Tryd.sizeOf23 w5.heap.size 0 rfl _ 23 (heap_new _ _) (hbs R) rfl sR (hbs_one _) (by decide) (hbs R) (by simp) ?_; intro w6 j6 f6 z6; have nw6 : Nw w w6 := (nw5.alloc _).trans f6 (fun k hk q => by have := nw5.size; omega); have jr6 := (f6.block r (by simp; omega) (by omega)).trans ((Below.heap_alloc _ _ _ h5).trans j5); clear z6 f6)
      | (refine wp_load_g rfl (.tmp 9) 23 32 rfl Tryd.isAgg23 Tryd.sizeOf23 r 0 rfl (hbs R) 23 (0, 0) jr6 (hbs R) sR (fun j _ => by rw [Nat.zero_add]) ?_)
      | (refine wp_load_g rfl (.tmp 11) 23 32 rfl Tryd.isAgg23 Tryd.sizeOf23 w5.heap.size 0 rfl (hbs R) 23 (0, 0) j6 (hbs R) sR (fun j _ => by rw [Nat.zero_add]) ?_)
    have q8 := lives_any w6 (HL.out.nw nw6) (HS.out.fr nw6 (fun _ _ f => f))
    refine q8.mono ?_
    rintro e8 w8 ⟨rfl, k8⟩
    clear q8
    go_wp2
    go_ret
    exact ⟨rfl, nw6.tr k8⟩
end Go.Proofs.YtambfmohhflimabDoor
