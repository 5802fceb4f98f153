/- What FromBase64 answers. -/
import Derived.Test.YtebbgpnhkpbefaaGreatDoorA6
import Derived.Test.YtebbgpnhkpbefaaGreatDoorA1
namespace Go.Proofs.YtebbgpnhkpbefaaGreatDoor
open Go.RowKit
set_option linter.unusedVariables false
set_option linter.unusedSimpArgs false

/-- What was read, ahead of what is read further on. -/
def jn (acc : List UInt8) : Except Nat (List UInt8) → Except Nat (List UInt8)
  | .error k => .error k
  | .ok b => .ok (acc ++ b)
theorem jn_jn (a d : List UInt8) (r : Except Nat (List UInt8)) : jn a (jn d r) = jn (a ++ d) r := by cases r <;> simp [jn]
theorem jn_nil (r : Except Nat (List UInt8)) : jn [] r = r := by cases r <;> simp [jn]
theorem un64_nil (p : Nat) (e : Bool) : un64 p e [] = .ok [] := by cases e <;> simp [un64]
theorem un64_true (p : Nat) (l : List UInt8) (h : l ≠ []) : un64 p true l = .error p := by
  cases l with
  | nil => exact absurd rfl h
  | cons a b => simp [un64]
theorem un64_more (l : List UInt8) (p : Nat) (h : rgt (l.take 4) = 4) : 4 ≤ l.length ∧ un64 p false l = jn (dec (C l 0) (C l 1) (C l 2) (C l 3)) (un64 (p + 4) (C l 3 == 61) (l.drop 4)) := by
  have hl := rgt_le (l.take 4) (by simp; omega)
  rw [h] at hl
  rcases l with _ | ⟨c0, _ | ⟨c1, _ | ⟨c2, _ | ⟨c3, r⟩⟩⟩⟩
  · simp at hl
  · simp at hl
  · simp at hl
  · simp at hl
  · refine ⟨by simp, ?_⟩
    have e : (c0 :: c1 :: c2 :: c3 :: r).take 4 = [c0, c1, c2, c3] := rfl
    rw [e] at h
    rw [un64, if_neg (by omega)]
    simp only [C, List.getD_cons_zero, List.getD_cons_succ, List.drop_succ_cons, List.drop_zero]
    cases un64 (p + 4) (c3 == 61) r <;> rfl
theorem dec_flag (c0 c1 c2 c3 : UInt8) (acc : List UInt8) (h : acc.length % 3 = 0) : decide ((acc ++ dec c0 c1 c2 c3).length % 3 ≠ 0) = (c3 == 61) := by
  rw [List.length_append]
  unfold dec
  by_cases h3 : c3 = 61
  · by_cases h2 : c2 = 61
    · simp [h3, h2]; omega
    · simp [h3, h2]; omega
  · simp [h3, h]
theorem dec_len (c0 c1 c2 c3 : UInt8) : 1 ≤ (dec c0 c1 c2 c3).length ∧ (dec c0 c1 c2 c3).length ≤ 3 := by
  unfold dec
  split
  · simp
  · split <;> simp
theorem n4_lt (c0 c1 c2 c3 : UInt8) : n4 c0 c1 c2 c3 < 16777216 := by
  have := ixn_lt c0; have := ixn_lt c1; have := ixn_lt c2; have := ixn_lt c3
  unfold n4; omega
/-- The byte at place i of those that four letters tell. -/
theorem dec_get (c0 c1 c2 c3 : UInt8) (i : Nat) (h : i < (dec c0 c1 c2 c3).length) : ((dec c0 c1 c2 c3).getD i 0).toNat = n4 c0 c1 c2 c3 / 2 ^ (16 - 8 * i) % 256 := by
  have hl := n4_lt c0 c1 c2 c3
  have hd := dec_len c0 c1 c2 c3
  unfold dec at h ⊢
  have hi : i = 0 ∨ i = 1 ∨ i = 2 := by
    split at h
    · simp at h; omega
    · split at h
      · simp at h; omega
      · simp at h; omega
  by_cases h3 : c3 = 61
  · by_cases h2 : c2 = 61
    · rcases hi with rfl | rfl | rfl <;> simp [h3, h2] at h ⊢
    · rcases hi with rfl | rfl | rfl <;> simp [h3, h2] at h ⊢
  · rcases hi with rfl | rfl | rfl <;> simp [h3] at h ⊢
theorem take_getD (l : List UInt8) (i : Nat) (h : i < l.length) : l.take (i + 1) = l.take i ++ [l.getD i 0] := by
  rw [List.take_succ_eq_append_getElem h, List.getD_eq_getElem?_getD, List.getElem?_eq_getElem h]
  rfl

theorem extract_end (s : ByteArray) (p : Nat) : (s.extract p s.size).data.toList = s.data.toList.drop p := by
  rw [ByteArray.data_extract, Array.toList_extract, List.extract_eq_take_drop]
  exact List.take_of_length_le (by rw [List.length_drop, Array.length_toList]; exact Nat.le_refl _)
theorem C_drop4 (l : List UInt8) (i : Nat) (h : i < 4) : C (l.take 4) i = C l i := by
  unfold C
  rw [List.getD_eq_getElem?_getD, List.getD_eq_getElem?_getD, List.getElem?_take_of_lt h]

set_option maxRecDepth 100000 in
set_option maxHeartbeats 2000000 in
theorem from64_any {B : Nat} {w : World} {a : Nat → Addr} (hS : Sent B w a) (s : ByteArray) (hs : s.size ≤ 9223372036854775807) :
    Calls Tryz.prog 70 #[.string s] w fun e w' => ∃ v, e = .returned (.tuple #[.string ⟨(rd [] s (un64 0 false s.data.toList)).1.toArray⟩, v]) ∧ EV w' a v (rd [] s (un64 0 false s.data.toList)).2.1 (rd [] s (un64 0 false s.data.toList)).2.2 ∧ Nw w w' := by
  obtain ⟨L, hL⟩ : ∃ L, L = s.data.toList := ⟨_, rfl⟩
  have hlen : L.length = s.size := by rw [hL, Array.length_toList]; rfl
  rw [← hL]
  by_cases hbig : 1048576 < s.size
  · rw [rd_long _ _ _ hbig]
    have hc := hS.c3
    have hbz : (1048576 : Int) < (s.size : Int) := by omega
    go_enter Tryz.func70, Tryz.ntmps70
    go_wp2
    go_quiet (fail)
    go_wp2
    go_ret2
    exact ⟨_, rfl, .inr (.inl ⟨3, by omega, rfl, rfl, rfl⟩), (Fr.refl _ _).drewN _⟩
  · have hbz : ¬ (1048576 : Int) < (s.size : Int) := by omega
    obtain ⟨w1, hmk, hown, hnw⟩ := make_own w.heap.size w (s.size / 4 * 3) (by omega) (Nat.le_refl _)
    have hmk' : (Instr.makeSlice 85 (.int .i64 0) (.int .i64 ((s.size : Int) / 4 * 3))).run Tryz.prog w = .ok (.slice (some ⟨w.heap.size, 0, none⟩) 0 (s.size / 4 * 3)) w1 := by
      rw [← hmk]; congr 3
    clear hmk
    obtain ⟨i0, hi, hz0, hz1, hz2⟩ := info_parts8
    go_enter Tryz.func70, Tryz.ntmps70
    go_wp2
    go_loopw [4, 5] (fun b i wr => ∃ (p : Nat) (acc : List UInt8), p % 4 = 0 ∧ p ≤ s.size + 3 ∧ i = .int .i64 p ∧ Own w.heap.size wr b acc ∧ Below w.heap.size w wr ∧ acc.length ≤ p ∧ un64 0 false L = jn acc (un64 p (decide (acc.length % 3 ≠ 0)) (L.drop p))) (fun _ i _ => s.size + 4 - (intOf i).toNat)
    case atStart =>
      refine ⟨0, [], rfl, by omega, rfl, hown, hnw.bel, by simp, ?_⟩
      exact (jn_nil _).symm
    case round =>
      obtain ⟨p, acc, hp4, hp, rfl, ho, hb, hap, hsp⟩ := hrel
      have HSP : Hid (un64 0 false L = jn acc (un64 p (decide (acc.length % 3 ≠ 0)) (L.drop p))) := hsp
      clear hsp
      obtain ⟨ba, bc', rfl⟩ := ownsRow_form ho
      by_cases hlt : p < s.size
      · have hne : L.drop p ≠ [] := by rw [Ne, List.drop_eq_nil_iff]; omega
        have hSr : Sent B wr a := hS.fr (Fr.ofBelow hb) (fun _ _ f => f)
        by_cases h3 : acc.length % 3 = 0
        · have h3z : (((acc.length : Int) % 3) != 0) = false := by simp; omega
          have hsl : ∀ W, (Instr.slice 9 (.string s) (some (.int .i64 (p : Int))) none none).run Tryz.prog W = .ok (.string (s.extract p s.size)) W := fun W => by
            rw [run_slice_string_from_if _ _ _ _ _ Tryz.underlying9, if_pos (by omega)]; rfl
          have hgrp := group_any (s.extract p s.size) wr (by rw [ByteArray.size_extract]; omega)
          have hdl : (s.extract p s.size).data.toList = L.drop p := by
            rw [hL]; exact extract_end s p
          rw [hdl] at hgrp
          generalize s.extract p s.size = M at hsl hgrp
          clear hdl
          obtain ⟨R, hR⟩ : ∃ R, R = rgt ((L.drop p).take 4) := ⟨_, rfl⟩
          have HR : Hid (R = rgt ((L.drop p).take 4)) := hR
          have hR4 : R ≤ 4 := by
            rw [hR]
            have := rgt_le ((L.drop p).take 4) (by simp; omega)
            have : ((L.drop p).take 4).length ≤ 4 := by simp; omega
            omega
          unfold GR at hgrp
          rw [← hR] at hgrp
          clear hR
          by_cases hr : R < 4
          · have hrz : (R : Int) < 4 := by omega
            have HSP2 : Hid (un64 0 false L = .error (p + R)) := by
              unfold Hid
              rw [HSP.out, decide_eq_false (by omega), un64_wrong_at _ _ hne (by rw [← HR.out]; exact hr), ← HR.out]; rfl
            have hwr := wrong_any hSr ((p : Int) + R)
            go_wp2_with (first
              | (go_at_call 115; refine hgrp.mono ?_; rintro e w2 ⟨⟨n, c, r, rfl, rfl, hGR⟩, rfl⟩; clear hGR)
              | (go_at_call 15; refine hwr.mono ?_; rintro e w3 ⟨v, rfl, hev, hnw3⟩))
            go_ret2
            rw [rd_err _ _ _ hbig _ HSP2.out]
            refine ⟨v, rfl, ?_, Nw.tr (Fr.ofBelow hb) hnw3⟩
            simpa using hev
          · obtain rfl : R = 4 := by omega
            obtain ⟨D, hD⟩ : ∃ D, D = dec (C (L.drop p) 0) (C (L.drop p) 1) (C (L.drop p) 2) (C (L.drop p) 3) := ⟨_, rfl⟩
            obtain ⟨N, hN⟩ : ∃ N, N = n4 (C (L.drop p) 0) (C (L.drop p) 1) (C (L.drop p) 2) (C (L.drop p) 3) := ⟨_, rfl⟩
            have hdl := dec_len (C (L.drop p) 0) (C (L.drop p) 1) (C (L.drop p) 2) (C (L.drop p) 3)
            have hNl : N < 16777216 := hN ▸ n4_lt _ _ _ _
            have Hget : Hid (∀ i, i < D.length → (D.getD i 0).toNat = N / 2 ^ (16 - 8 * i) % 256) := by
              rw [hD, hN]; exact dec_get _ _ _ _
            have hmore := un64_more (L.drop p) p HR.out.symm
            have HSP2 : Hid (un64 0 false L = jn (acc ++ D) (un64 (p + 4) (decide ((acc ++ D).length % 3 ≠ 0)) (L.drop (p + 4)))) := by
              unfold Hid
              rw [HSP.out, decide_eq_false (by omega), hmore.2, jn_jn, List.drop_drop, hD, dec_flag _ _ _ _ _ h3]
            have hp4l : p + 4 ≤ s.size := by have := hmore.1; rw [List.length_drop] at this; omega
            rw [C_drop4 _ 0 (by omega), C_drop4 _ 1 (by omega), C_drop4 _ 2 (by omega), C_drop4 _ 3 (by omega), ← hD, ← hN] at hgrp
            rw [← hD] at hdl
            clear hD hN hmore
            obtain ⟨hd1, hd3⟩ := hdl
            go_wp2_with (go_at_call 115; refine hgrp.mono ?_; rintro e w2 ⟨⟨n, c, r, rfl, rfl, hGR⟩, rfl⟩; obtain ⟨rfl, rfl⟩ := hGR rfl)
            go_loopw [4, 46] (fun b i wr => ∃ k : Nat, k ≤ D.length ∧ i = .int .i64 k ∧ Own w.heap.size wr b (acc ++ D.take k) ∧ Below w.heap.size w wr) (fun _ i _ => 16 - (intOf i).toNat)
            case atStart => exact ⟨0, by omega, rfl, by simpa using ho, hb⟩
            case round =>
              obtain ⟨k, hk, rfl, ho2, hb2⟩ := hrel
              by_cases hkd : k < D.length
              · have hkz : (k : Int) < (D.length : Int) := by omega
                have hal : (acc ++ D.take k).length ≤ s.size + 8 := by rw [List.length_append, List.length_take]; omega
                have hg := Hget.out k hkd
                have hsz : w.heap.size ≤ wr.heap.size := hb2.size
                have fin : ∀ (v' : Value) (w3 : World) (n : Nat) (x : Int) (t : TypeId), x = ((D.getD k 0).toNat : Int) → w3.ownsRow w.heap.size 5 1 v' n (bc (acc ++ D.take k) ++ [.int .u8 x]) → n = (acc ++ D.take k).length + 1 → ∀ v, Own w.heap.size wr v (acc ++ D.take k) → (wr.alloc (.cells #[.int .u8 x] t)).grownBy w3 v.ownBlock → Own w.heap.size w3 v' (acc ++ D.take (k + 1)) ∧ Below w.heap.size w w3 := by
                  intro v' w3 n x t hx h1 h2 v hov h3
                  rw [take_getD D k hkd, ← List.append_assoc]
                  exact own_put hb2 hov hx h1 h2 h3 (Nat.le_refl _)
                have hk3 : k = 0 ∨ k = 1 ∨ k = 2 := by omega
                generalize acc ++ D.take k = A at ho2 hal fin
                obtain ⟨ca, cc, rfl⟩ := ownsRow_form ho2
                rcases hk3 with rfl | rfl | rfl
                · go_wp2_with (at_builtin; refine wpList_append_own _ rfl _ _ 85 rfl w.heap.size 5 i0 (.int .u8 0) 1 1 Tryz.underlying85 hi hz0 hz1 hz2 rfl (by decide) _ _ _ rfl (ho2.alloc _) ⟨wr.heap.size, 0, none⟩ 1 1 [.int .u8 _] rfl rfl (one_new _ _ _) (by simp [Value.oneCell']) (by unfold maxLen; omega) (by omega) (by simp; omega) ?_; intro v' w3 hown' hgrow _; obtain ⟨ga, gc, rfl⟩ := ownsRow_form hown')
                  refine ⟨⟨1, by omega, rfl, fin _ _ _ _ _ ?_ hown' rfl _ ho2 hgrow⟩, by simp [intOf]⟩
                  rw [hg]
                  show _ = ((N / 65536 % 256 : Nat) : Int)
                  omega
                · go_wp2_with (at_builtin; refine wpList_append_own _ rfl _ _ 85 rfl w.heap.size 5 i0 (.int .u8 0) 1 1 Tryz.underlying85 hi hz0 hz1 hz2 rfl (by decide) _ _ _ rfl (ho2.alloc _) ⟨wr.heap.size, 0, none⟩ 1 1 [.int .u8 _] rfl rfl (one_new _ _ _) (by simp [Value.oneCell']) (by unfold maxLen; omega) (by omega) (by simp; omega) ?_; intro v' w3 hown' hgrow _; obtain ⟨ga, gc, rfl⟩ := ownsRow_form hown')
                  refine ⟨⟨2, by omega, rfl, fin _ _ _ _ _ ?_ hown' rfl _ ho2 hgrow⟩, by simp [intOf]⟩
                  rw [hg]
                  show _ = ((N / 256 % 256 : Nat) : Int)
                  omega
                · go_wp2_with (at_builtin; refine wpList_append_own _ rfl _ _ 85 rfl w.heap.size 5 i0 (.int .u8 0) 1 1 Tryz.underlying85 hi hz0 hz1 hz2 rfl (by decide) _ _ _ rfl (ho2.alloc _) ⟨wr.heap.size, 0, none⟩ 1 1 [.int .u8 _] rfl rfl (one_new _ _ _) (by simp [Value.oneCell']) (by unfold maxLen; omega) (by omega) (by simp; omega) ?_; intro v' w3 hown' hgrow _; obtain ⟨ga, gc, rfl⟩ := ownsRow_form hown')
                  refine ⟨⟨3, by omega, rfl, fin _ _ _ _ _ ?_ hown' rfl _ ho2 hgrow⟩, by simp [intOf]⟩
                  rw [hg]
                  show _ = ((N / 1 % 256 : Nat) : Int)
                  omega
              · obtain rfl : k = D.length := by omega
                rw [List.take_length] at ho2
                obtain ⟨ca, cc, rfl⟩ := ownsRow_form ho2
                have hkz : ¬ (D.length : Int) < (D.length : Int) := by omega
                go_wp2
                exact ⟨⟨p + 4, acc ++ D, by omega, by omega, by go_num, ho2, hb2, by rw [List.length_append]; omega, HSP2.out⟩, by simp [intOf]; omega⟩
        · have h3z : (((acc.length : Int) % 3) != 0) = true := by simp; omega
          have HSP2 : Hid (un64 0 false L = .error p) := by
            unfold Hid
            rw [HSP.out, decide_eq_true (by omega), un64_true _ _ hne]; rfl
          have hwr := wrong_any hSr (p : Int)
          go_wp2_with (go_at_call 15; refine hwr.mono ?_; rintro e w3 ⟨v, rfl, hev, hnw3⟩)
          go_ret2
          rw [rd_err _ _ _ hbig _ HSP2.out]
          exact ⟨v, rfl, hev, Nw.tr (Fr.ofBelow hb) hnw3⟩
      · have HSP2 : Hid (un64 0 false L = .ok acc) := by
          unfold Hid
          rw [HSP.out, List.drop_of_length_le (by omega), un64_nil]; simp [jn]
        have hcv := conv_own ho
        go_wp2
        go_ret2
        rw [rd_ok _ _ _ hbig _ HSP2.out]
        exact ⟨_, rfl, .inl ⟨rfl, rfl, rfl⟩, Fr.ofBelow hb⟩
end Go.Proofs.YtebbgpnhkpbefaaGreatDoor
