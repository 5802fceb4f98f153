/- HashBack. -/
import Derived.Test.YtambfmohhflimabDoorS7
import Derived.Test.YtambfmohhflimabDoorH6
import Derived.Laws.Cover1
namespace Go.Proofs.YtambfmohhflimabDoor
open Go.RowKit
set_option linter.unusedVariables false
set_option linter.unusedSimpArgs false

theorem read_good (s : ByteArray) (hs : s.size ≤ 140737488355328) (hg : Good s.data.toList) (w : World) {Bd : Nat} {a : Nat → Addr} (hS : Sent Bd w a) :
    Calls Tryd.prog 9 #[.string s] w fun e w' => e = .returned (.tuple #[.agg (hbs (rdh s.data.toList)), .nilIface]) ∧ Nw w w' := by
  refine (read_any s hs w hS 0 true (fun _ => hg) (fun h => by cases h)).mono ?_
  rintro e w' ⟨v, rfl, hev, n⟩
  rcases hev with ⟨rfl, _, _⟩ | ⟨i, _, _, hc, _⟩ | ⟨i, pb, q, _, _, _, hc, _⟩
  · exact ⟨rfl, n⟩
  · simp at hc
  · simp at hc
theorem read_bad' (s : ByteArray) (p : Nat) (hs : s.size ≤ 140737488355328) (hb : Bad s.data.toList p) (w : World) {Bd : Nat} {a : Nat → Addr} (hS : Sent Bd w a) :
    Calls Tryd.prog 9 #[.string s] w fun e w' => ∃ t u, e = .returned (.tuple #[.agg z32, .iface t u]) ∧ EV w' a (.iface t u) 3 (some (p : Int)) ∧ Nw w w' := by
  have h := read_any s hs w hS p false (fun h => by cases h) (fun _ => hb)
  rw [if_neg (by decide), if_neg (by decide), if_neg (by decide), ← z32_hbs] at h
  refine h.mono ?_
  rintro e w' ⟨v, rfl, hev, n⟩
  rcases EV.form hev with ⟨rfl, hc⟩ | ⟨t, u, rfl, _⟩
  · simp at hc
  · exact ⟨t, u, rfl, hev, n⟩
set_option maxRecDepth 100000 in
set_option maxHeartbeats 4000000 in
theorem back_any (A B : List UInt8) (s : ByteArray) (hA : A.length = 32) (hB : B.length = 32) (hs : s.size ≤ 140737488355328) (w : World) (hL : Laid w) {Bd : Nat} {a : Nat → Addr} (hS : Sent Bd w a) :
    Calls Tryd.prog 4 #[.agg (hbs A), .agg (hbs B), .string s] w fun e w' => e = .returned (.bool true) ∧ Nw w w' := by
  have HL : Hid (Laid w) := hL
  have HS : Hid (Sent Bd w a) := hS
  have has : (hbs A).size = 32 := by rw [hbs_size, hA]
  have hbs' : (hbs B).size = 32 := by rw [hbs_size, hB]
  have HA : Hid (A.length = 32) := hA
  have HB : Hid (B.length = 32) := hB
  obtain ⟨XA, hXA⟩ : ∃ x : ByteArray, x = ⟨(hex A).toArray⟩ := ⟨_, rfl⟩
  obtain ⟨XB, hXB⟩ : ∃ x : ByteArray, x = ⟨(hex B).toArray⟩ := ⟨_, rfl⟩
  have tA : XA.data.toList = hex A := by rw [hXA]
  have zA : XA.size = 64 := by rw [hXA]; show (hex A).toArray.size = 64; rw [List.size_toArray, hex_length, hA]
  have QS : Hid (∀ W, Calls Tryd.prog 10 #[.agg (hbs A)] W fun e w' => e = .returned (.string XA) ∧ Nw W w') := fun W => by rw [hXA]; exact show_any A HA.out W
  have QT : Hid (∀ W, Calls Tryd.prog 10 #[.agg (hbs B)] W fun e w' => e = .returned (.string XB) ∧ Nw W w') := fun W => by rw [hXB]; exact show_any B HB.out W
  have QR : Hid (∀ W, Nw w W → Calls Tryd.prog 9 #[.string XA] W fun e w' => e = .returned (.tuple #[.agg (hbs A), .nilIface]) ∧ Nw W w') := fun W hW => by
    have := read_good XA (by omega) (by rw [tA]; exact good_hex A HA.out) W (HS.out.fr hW (fun _ _ f => f))
    rw [tA, rdh_hex A HA.out] at this
    exact this
  obtain ⟨c, hc⟩ : ∃ c, c = cmpH A B := ⟨_, rfl⟩
  have QC : Hid (∀ W, Calls Tryd.prog 11 #[.agg (hbs A), .agg (hbs B)] W fun e w' => e = .returned (.int .i64 c) ∧ Nw W w') := fun W => by rw [hc]; exact cmp_any A B HA.out HB.out W
  have hqAB := fun W => hbs_dec A B hA hB W
  have hqAA := fun W => hbs_eq A hA W
  have lA : XA.toList = hex A := by rw [hXA]; simp
  have lB : XB.toList = hex B := by rw [hXB]; simp
  have hord : ∃ l e d : Bool, Op.bytesLess XA.toList XB.toList = l ∧ (XA.toList == XB.toList) = e ∧ decide (A = B) = d ∧ ((c = 0 ∧ l = false ∧ e = true ∧ d = true) ∨ (c = -1 ∧ l = true ∧ e = false ∧ d = false) ∨ (c = 1 ∧ l = false ∧ e = false ∧ d = false)) := by
    refine ⟨_, _, _, rfl, rfl, rfl, ?_⟩
    rw [lA, lB, hc]
    rcases order_hex A B hA hB with ⟨h1, h2⟩ | ⟨h1, h2, h3, h4⟩ | ⟨h1, h2, h3, h4⟩
    · exact .inl ⟨h1, by rw [h2]; exact less_self _, by rw [h2]; simp, decide_eq_true h2⟩
    · exact .inr (.inl ⟨h1, h4, by simpa using h3, decide_eq_false h2⟩)
    · exact .inr (.inr ⟨h1, h4, by simpa using h3, decide_eq_false h2⟩)
  obtain ⟨l, e, d, hl, he, hd, hcase⟩ := hord
  rw [hd] at hqAB
  clear hd lA lB tA hXA hXB hA hB hc hL hS
  obtain ⟨w0, hw0⟩ : ∃ w0, w0 = (w.alloc (.cells (hbs A) 23)).alloc (.cells (hbs B) 23) := ⟨_, rfl⟩
  have n0 : Nw w w0 := by rw [hw0]; exact ((Fr.refl _ _).alloc _).alloc _
  have ja : w0.heap[w.heap.size]? = some (.cells (hbs A) 23) := by rw [hw0]; exact (Below.heap_alloc _ _ _ (by simp)).trans (heap_new w _)
  have jb : w0.heap[w.heap.size + 1]? = some (.cells (hbs B) 23) := by rw [hw0]; exact heap_next w _ _
  have ja' := ja
  rw [hw0] at ja'
  go_enter Tryd.func4, Tryd.ntmps4
  go_wp2_with (refine wp_load_agg rfl (.tmp 3) 23 32 rfl Tryd.isAgg23 Tryd.sizeOf23 w.heap.size 0 rfl (hbs A) 23 (0, 0) ja' (hbs A) has (fun j _ => by rw [Nat.zero_add]) ?_)
  rw [← hw0]
  clear ja' hw0
  refine (QS.out w0).mono ?_
  rintro e1 w1 ⟨rfl, k1⟩
  go_wp2_with fail
  refine (QR.out w1 (n0.tr k1)).mono ?_
  rintro e2 w2 ⟨rfl, k2⟩
  have k02 : Nw w0 w2 := k1.tr k2
  have ja2 := (k02.block _ (heap_lt ja) (fun f => f)).trans ja
  have jb2 := (k02.block _ (heap_lt jb) (fun f => f)).trans jb
  have n2 : Nw w w2 := n0.tr k02
  clear k1 k2 k02 ja jb n0
  go_wp2_with first
    | (refine wp_store_agg rfl (.tmp 7) (.tmp 20) 23 32 rfl Tryd.sizeOf23 w2.heap.size 0 rfl _ 23 (heap_new _ _) (hbs A) rfl has (hbs_one _) (by decide) (hbs A) (by simp) ?_; intro w3 j3 f3 z3; have k3 : Nw w2 w3 := ((Fr.refl _ _).alloc _).trans f3 (fun k hk q => by omega); have ja3 := (k3.block _ (heap_lt ja2) (fun f => f)).trans ja2; have jb3 := (k3.block _ (heap_lt jb2) (fun f => f)).trans jb2; have n3 : Nw w w3 := n2.tr k3; clear z3 f3)
    | (refine wp_load_agg rfl (.tmp 3) 23 32 rfl Tryd.isAgg23 Tryd.sizeOf23 w.heap.size 0 rfl (hbs A) 23 (0, 0) ja3 (hbs A) has (fun j _ => by rw [Nat.zero_add]) ?_)
  refine (QS.out w3).mono ?_
  rintro e4 w4 ⟨rfl, k4⟩
  obtain ⟨b7, hb7⟩ : ∃ b, b = w2.heap.size := ⟨_, rfl⟩
  rw [← hb7] at j3 ⊢
  have j4 := (k4.block _ (heap_lt j3) (fun f => f)).trans j3
  have ja4 := (k4.block _ (heap_lt ja3) (fun f => f)).trans ja3
  have jb4 := (k4.block _ (heap_lt jb3) (fun f => f)).trans jb3
  have n4 : Nw w w4 := n3.tr k4
  clear j3 ja3 jb3 n3 k4 ja2 jb2 n2 k3 hb7
  go_wp2_with (refine wp_load_agg rfl (.tmp 4) 23 32 rfl Tryd.isAgg23 Tryd.sizeOf23 (w.heap.size + 1) 0 rfl (hbs B) 23 (0, 0) jb4 (hbs B) hbs' (fun j _ => by rw [Nat.zero_add]) ?_)
  refine (QT.out w4).mono ?_
  rintro e5 w5 ⟨rfl, k5⟩
  have j5 := (k5.block _ (heap_lt j4) (fun f => f)).trans j4
  have ja5 := (k5.block _ (heap_lt ja4) (fun f => f)).trans ja4
  have jb5 := (k5.block _ (heap_lt jb4) (fun f => f)).trans jb4
  have n5 : Nw w w5 := n4.tr k5
  clear j4 ja4 jb4 n4 k5
  go_wp2_with first
    | (refine wp_load_agg rfl (.tmp 3) 23 32 rfl Tryd.isAgg23 Tryd.sizeOf23 w.heap.size 0 rfl (hbs A) 23 (0, 0) ja5 (hbs A) has (fun j _ => by rw [Nat.zero_add]) ?_)
    | (refine wp_load_agg rfl (.tmp 4) 23 32 rfl Tryd.isAgg23 Tryd.sizeOf23 (w.heap.size + 1) 0 rfl (hbs B) 23 (0, 0) jb5 (hbs B) hbs' (fun j _ => by rw [Nat.zero_add]) ?_)
  refine (QC.out w5).mono ?_
  rintro e6 w6 ⟨rfl, k6⟩
  have j6 := (k6.block _ (heap_lt j5) (fun f => f)).trans j5
  have ja6 := (k6.block _ (heap_lt ja5) (fun f => f)).trans ja5
  have jb6 := (k6.block _ (heap_lt jb5) (fun f => f)).trans jb5
  have n6 : Nw w w6 := n5.tr k6
  clear j5 ja5 jb5 n5 k6 QS QT QR QC
  have CUT : ∀ (K : Prop), (c = 0 ∧ l = false ∧ e = true ∧ d = true → K) → (c = -1 ∧ l = true ∧ e = false ∧ d = false → K) → (c = 1 ∧ l = false ∧ e = false ∧ d = false → K) → K := fun K k1 k2 k3 => by
    rcases hcase with h | h | h
    · exact k1 h
    · exact k2 h
    · exact k3 h
  clear hcase
  refine CUT _ (fun h => ?_) (fun h => ?_) (fun h => ?_)
  all_goals
    obtain ⟨rfl, rfl, rfl, rfl⟩ := h
    clear CUT
    go_wp2_with first
      | (refine wp_load_g rfl (.tmp 7) 23 32 rfl Tryd.isAgg23 Tryd.sizeOf23 b7 0 rfl (hbs A) 23 (0, 0) j6 (hbs A) has (fun j _ => by rw [Nat.zero_add]) ?_)
      | (refine wp_load_g rfl (.tmp 3) 23 32 rfl Tryd.isAgg23 Tryd.sizeOf23 w.heap.size 0 rfl (hbs A) 23 (0, 0) ja6 (hbs A) has (fun j _ => by rw [Nat.zero_add]) ?_)
      | (refine wp_load_g rfl (.tmp 4) 23 32 rfl Tryd.isAgg23 Tryd.sizeOf23 (w.heap.size + 1) 0 rfl (hbs B) 23 (0, 0) jb6 (hbs B) hbs' (fun j _ => by rw [Nat.zero_add]) ?_)
    clear hqAB hqAA hl he j6 ja6 jb6
    rcases good_or_bad s.data.toList with hg | ⟨p, hb⟩
    · have hback : (⟨(hex (rdh s.data.toList)).toArray⟩ : ByteArray) = s := by rw [hex_rdh _ hg]
      have hRl := rdh_len s.data.toList
      refine (read_good s hs hg w6 (HS.out.fr n6 (fun _ _ f => f))).mono ?_
      rintro e7 w7 ⟨rfl, k7⟩
      have n7 : Nw w w7 := n6.tr k7
      have QX := fun W => show_any (rdh s.data.toList) hRl W
      rw [hback] at QX
      have hRs : (hbs (rdh s.data.toList)).size = 32 := by rw [hbs_size, hRl]
      generalize rdh s.data.toList = R at QX hRs ⊢
      clear k7 n6 hg hback hRl
      go_wp2_with first
        | (refine wp_store_agg rfl (.tmp 12) (.tmp 76) 23 32 rfl Tryd.sizeOf23 w7.heap.size 0 rfl _ 23 (heap_new _ _) (hbs R) rfl hRs (hbs_one _) (by decide) (hbs R) (by simp) ?_; intro w8 j8 f8 z8; have k8 : Nw w7 w8 := ((Fr.refl _ _).alloc _).trans f8 (fun k hk q => by omega); have n8 : Nw w w8 := n7.tr k8; clear z8 f8 k8)
        | (refine wp_load_g rfl (.tmp 12) 23 32 rfl Tryd.isAgg23 Tryd.sizeOf23 w7.heap.size 0 rfl (hbs R) 23 (0, 0) j8 (hbs R) hRs (fun j _ => by rw [Nat.zero_add]) ?_)
      refine (QX w8).mono ?_
      rintro e9 w9 ⟨rfl, k9⟩
      have n9 : Nw w w9 := n8.tr k9
      clear QX
      go_wp2_with fail
      refine (lives_any w9 (HL.out.nw n9) (HS.out.fr n9 (fun _ _ f => f))).mono ?_
      rintro e10 w10 ⟨rfl, k10⟩
      go_wp2
      go_ret
      exact ⟨rfl, n9.tr k10⟩
    · have hpl := bad_le _ p hb
      have hsl : s.data.toList.length = s.size := by rw [Array.length_toList]; rfl
      rw [hsl] at hpl
      refine (read_bad' s p hs hb w6 (HS.out.fr n6 (fun _ _ f => f))).mono ?_
      rintro e7 w7 ⟨t, u, rfl, hev, k7⟩
      have n7 : Nw w w7 := n6.tr k7
      have HE : Hid (EV w7 a (.iface t u) 3 (some (p : Int))) := hev
      have hz32 : z32.size = 32 := by simp [z32]
      have hz1 : ∀ u ∈ z32.toList, u.oneCell' = true := by rw [z32_hbs]; exact hbs_one _
      have p0 : (p : Int) ≥ 0 := by omega
      have p1 : (p : Int) ≤ 64 := by omega
      have p2 : (p : Int) ≤ (s.size : Int) := by omega
      have ezz := fun W => arr_eq z32 (fun i hi => ⟨0, by simp [z32, hi]⟩) W
      have ezz2 : ∀ W : World, (Op.equalIn 10000 23 (.agg z32) (.agg #[.int .u8 0, .int .u8 0, .int .u8 0, .int .u8 0, .int .u8 0, .int .u8 0, .int .u8 0, .int .u8 0, .int .u8 0, .int .u8 0, .int .u8 0, .int .u8 0, .int .u8 0, .int .u8 0, .int .u8 0, .int .u8 0, .int .u8 0, .int .u8 0, .int .u8 0, .int .u8 0, .int .u8 0, .int .u8 0, .int .u8 0, .int .u8 0, .int .u8 0, .int .u8 0, .int .u8 0, .int .u8 0, .int .u8 0, .int .u8 0, .int .u8 0, .int .u8 0])).run Tryd.prog W = .ok true W := fun W => by rw [z32_h]; exact ezz W
      clear k7 n6 hb hpl hsl hev ezz
      go_wp2_with (refine wp_store_agg rfl (.tmp 12) (.tmp 76) 23 32 rfl Tryd.sizeOf23 w7.heap.size 0 rfl _ 23 (heap_new _ _) z32 rfl hz32 hz1 (by decide) z32 (by simp) ?_; intro w8 j8 f8 z8; have k8 : Nw w7 w8 := ((Fr.refl _ _).alloc _).trans f8 (fun k hk q => by omega); have n8 : Nw w w8 := n7.tr k8; clear z8 f8)
      have q9 := at_any (HS.out.fr n8 (fun _ _ f => f)) (HE.out.fr k8)
      refine q9.mono ?_
      rintro e9 w9 ⟨rfl, k9⟩
      have n9 : Nw w w9 := n8.tr k9
      have j9 := (Nw.bel k9 |>.block _ (heap_lt j8)).trans j8
      clear q9
      have t1 : (some (p : Int)).getD 0 = (p : Int) := rfl
      have t2 : (some (p : Int)).isSome = true := rfl
      rw [t1, t2]
      clear t1 t2
      go_wp2_with fail
      have q10 := code_any (HS.out.fr n9 (fun _ _ f => f)) (HE.out.fr (k8.tr k9))
      refine q10.mono ?_
      rintro e10 w10 ⟨rfl, k10⟩
      have n10 : Nw w w10 := n9.tr k10
      have j10 := (Nw.bel k10 |>.block _ (heap_lt j9)).trans j9
      clear q10 j8 j9 k8 k9 k10
      go_wp2_with (refine wp_load_g rfl (.tmp 12) 23 32 rfl Tryd.isAgg23 Tryd.sizeOf23 w7.heap.size 0 rfl z32 23 (0, 0) j10 z32 hz32 (fun j _ => by rw [Nat.zero_add]) ?_)
      refine (lives_any w10 (HL.out.nw n10) (HS.out.fr n10 (fun _ _ f => f))).mono ?_
      rintro e11 w11 ⟨rfl, k11⟩
      go_wp2
      go_ret
      exact ⟨rfl, n10.tr k11⟩
end Go.Proofs.YtambfmohhflimabDoor
