/- A number by digits, read: FromDecimal. -/
import Derived.Test.YtgobdjdaehlgdaaGreatDoorEg
import Derived.Test.YtgobdjdaehlgdaaGreatDoorCg
import Derived.Test.YtgobdjdaehlgdaaGreatDoorSh
import Derived.Lib.Bytealg
namespace Go.Proofs.YtgobdjdaehlgdaaGreatDoor
namespace TX
open Go.RowKit
set_option linter.unusedVariables false
set_option linter.unusedSimpArgs false
def tens : List UInt8 := [48, 49, 50, 51, 52, 53, 54, 55, 56, 57]
def ix (l : List UInt8) (c : UInt8) : Int := Go.Lib.indexByte l c
/-- A number by digits, read on from n, at place p. -/
def undec : Nat → Nat → List UInt8 → Except Nat Nat
  | _, n, [] => .ok n
  | p, n, c :: r => if ix tens c < 0 ∨ (0 < p ∧ n = 0) ∨ 18446744073709551615 < 10 * n + (ix tens c).toNat then .error p else undec (p + 1) (10 * n + (ix tens c).toNat) r
def fromdec (l : List UInt8) : Except Nat Nat := if l = [] then .error 0 else undec 0 0 l

theorem ix_ge (l : List UInt8) (c : UInt8) : -1 ≤ ix l c := Go.Lib.indexByte_ge l c
theorem ix_lt (l : List UInt8) (c : UInt8) : ix l c < l.length := by
  unfold ix
  induction l with
  | nil => simp [Go.Lib.indexByte]
  | cons b t ih =>
    unfold Go.Lib.indexByte
    split
    · simp only [List.length_cons]; omega
    · split
      · simp only [List.length_cons]; omega
      · simp at ih ⊢; omega
theorem ix_get (l : List UInt8) (c : UInt8) (h : 0 ≤ ix l c) : l.getD (ix l c).toNat 0 = c := by
  unfold ix at *
  induction l with
  | nil => simp [Go.Lib.indexByte] at h
  | cons b t ih =>
    unfold Go.Lib.indexByte at h ⊢
    by_cases hb : (b == c) = true
    · simp [hb] at h ⊢; simpa using hb
    · simp only [hb] at h ⊢
      by_cases hn : (Go.Lib.indexByte t c == -1) = true
      · simp [hn] at h
      · simp only [hn] at h ⊢
        have hge := Go.Lib.indexByte_ge t c
        have h0 : 0 ≤ Go.Lib.indexByte t c := by simp at hn; omega
        have : (Go.Lib.indexByte t c + 1).toNat = (Go.Lib.indexByte t c).toNat + 1 := by omega
        simp [this]
        simpa using ih h0
def C (l : List UInt8) (k : Nat) : UInt8 := l.getD k 0
theorem C_get (g : ByteArray) (k : Nat) (h : k < g.size) : g[k]'h = C g.data.toList k := by
  unfold C
  rw [List.getD_eq_getElem?_getD, List.getElem?_eq_getElem (by simpa using h)]
  rfl
def rd {α : Type} (z : α) (s : ByteArray) (r : Except Nat α) : α × Nat × Option Int := if 1048576 < s.size then (z, 4, none) else match r with
  | .error k => (z, 3, some (k : Int))
  | .ok b => (b, 0, none)
theorem rd_long {α : Type} (z : α) (s : ByteArray) (r : Except Nat α) (h : 1048576 < s.size) : rd z s r = (z, 4, none) := by unfold rd; rw [if_pos h]
theorem rd_err {α : Type} (z : α) (s : ByteArray) (r : Except Nat α) (h : ¬ 1048576 < s.size) (k : Nat) (e : r = .error k) : rd z s r = (z, 3, some (k : Int)) := by unfold rd; rw [if_neg h, e]
theorem rd_ok {α : Type} (z : α) (s : ByteArray) (r : Except Nat α) (h : ¬ 1048576 < s.size) (b : α) (e : r = .ok b) : rd z s r = (b, 0, none) := by unfold rd; rw [if_neg h, e]
theorem wrong_any {B : Nat} {w : World} {a : Nat → Addr} (hS : Sent B w a) (q : Int) :
    Calls Tryz.prog 163 #[.int .i64 q] w fun e w' => ∃ v, e = .returned v ∧ EV w' a v 3 (some q) ∧ Nw w w' := by
  have hc := hS.c2
  go_enter Tryz.func163, Tryz.ntmps163
  go_wp2
  go_ret
  refine ⟨_, rfl, .inr (.inr ⟨2, w.heap.size, q, by omega, rfl, ⟨?_, ?_⟩, rfl, rfl⟩), (Fr.refl _ _).alloc _⟩
  · rw [cell_of (heap_new w _)]; rfl
  · rw [cell_of (heap_new w _)]; rfl
abbrev tensB : ByteArray := ⟨#[48, 49, 50, 51, 52, 53, 54, 55, 56, 57]⟩
theorem idx_tens (c : UInt8) (w : World) : Calls Tryz.prog 164 #[.string tensB, .int .u8 c.toNat] w fun e w' => e = .returned (.int .i64 (ix tens c)) ∧ w' = w := by
  have h := Tryz.strings_IndexByte tensB c.toNat w
  have e : ((c.toNat : Int)).toNat.toUInt8 = c := by simp
  rw [e] at h
  exact h
theorem drop_C (l : List UInt8) (k : Nat) (h : k < l.length) : l.drop k = C l k :: l.drop (k + 1) := by
  unfold C
  rw [List.getD_eq_getElem?_getD, List.getElem?_eq_getElem h]
  exact List.drop_eq_getElem_cons h
theorem size_zero (s : ByteArray) (h : s.size = 0) : s = ⟨#[]⟩ := by
  obtain ⟨d⟩ := s
  congr 1
  exact Array.eq_empty_of_size_eq_zero h

theorem em_list (s : ByteArray) : s.toList = s.data.toList := by
  exact ByteArray.toList_eq s
theorem em_no (s : ByteArray) (h : s.size ≠ 0) : s.toList.isEmpty = false := by
  rw [em_list, List.isEmpty_eq_false_iff]
  intro e
  apply h
  have : s.data.toList.length = 0 := by rw [e]; rfl
  rw [Array.length_toList] at this
  exact this

set_option maxRecDepth 100000 in
set_option maxHeartbeats 2000000 in
theorem fromdec_any {B : Nat} {w : World} {a : Nat → Addr} (hS : Sent B w a) (s : ByteArray) (hs : s.size ≤ 9223372036854775807) :
    Calls Tryz.prog 141 #[.string s] w fun e w' => ∃ v, e = .returned (.tuple #[.int .u64 ((rd 0 s (fromdec s.data.toList)).1 : Nat), v]) ∧ EV w' a v (rd 0 s (fromdec s.data.toList)).2.1 (rd 0 s (fromdec s.data.toList)).2.2 ∧ Nw w w' := by
  obtain ⟨L, hL⟩ : ∃ L, L = s.data.toList := ⟨_, rfl⟩
  have hlen : L.length = s.size := by rw [hL, Array.length_toList]; rfl
  have hC : Hid (∀ k (h : k < s.size), s[k]'h = C L k) := fun k h => by rw [hL]; exact C_get s k h
  rw [← hL]
  clear hL
  by_cases hbig : 1048576 < s.size
  · rw [rd_long _ _ _ hbig]
    have hc := hS.c3
    have hbz : (1048576 : Int) < (s.size : Int) := by omega
    go_enter Tryz.func141, Tryz.ntmps141
    go_wp2
    go_quiet (fail)
    go_wp2
    go_ret2
    exact ⟨_, rfl, .inr (.inl ⟨3, by omega, rfl, rfl, rfl⟩), (Fr.refl _ _).drewN _⟩
  · have hbz : ¬ (1048576 : Int) < (s.size : Int) := by omega
    by_cases h0 : s.size = 0
    · have hn : L = [] := List.eq_nil_of_length_eq_zero (by omega)
      have hw := wrong_any hS 0
      obtain rfl := size_zero s h0
      go_enter Tryz.func141, Tryz.ntmps141
      go_wp2_with (go_at_call 163; refine hw.mono ?_; rintro e w3 ⟨v, rfl, hev, hnw3⟩)
      go_ret2
      rw [rd_err _ _ _ hbig 0 (by rw [hn]; rfl)]
      exact ⟨v, rfl, hev, hnw3⟩
    · have hne := em_no s h0
      have hfd : fromdec L = undec 0 0 L := by unfold fromdec; rw [if_neg (fun e => h0 (by rw [← hlen, e]; rfl))]
      rw [hfd]
      clear hfd
      go_enter Tryz.func141, Tryz.ntmps141
      go_wp2
      go_loop [4, 16] (fun n i => ∃ k m : Nat, k ≤ s.size ∧ i = .int .i64 k ∧ n = .int .u64 m ∧ m ≤ 18446744073709551615 ∧ undec 0 0 L = undec k m (L.drop k)) (fun _ i => s.size - (intOf i).toNat)
      case atStart => exact ⟨0, 0, by omega, rfl, rfl, by omega, rfl⟩
      case round =>
        obtain ⟨k, m, hk, rfl, rfl, hm, hsp⟩ := hrel
        by_cases hlt : k < s.size
        · have hck := hC.out k hlt
          have hx1 := ix_lt tens (C L k)
          rw [show (tens.length : Int) = 10 from rfl] at hx1
          have hx0 := ix_ge tens (C L k)
          have hcall := idx_tens (C L k) w
          have hwr := wrong_any hS (k : Int)
          have hun : undec k m (L.drop k) = if ix tens (C L k) < 0 ∨ (0 < k ∧ m = 0) ∨ 18446744073709551615 < 10 * m + (ix tens (C L k)).toNat then .error k else undec (k + 1) (10 * m + (ix tens (C L k)).toNat) (L.drop (k + 1)) := by
            rw [drop_C L k (by omega), undec]
          rw [hun] at hsp
          clear hun
          generalize ix tens (C L k) = X at hx1 hx0 hcall hsp
          by_cases hbad : X < 0 ∨ (0 < k ∧ m = 0) ∨ 18446744073709551615 < 10 * m + X.toNat
          · rw [if_pos hbad] at hsp
            have HSP : Hid (undec 0 0 L = .error k) := hsp
            clear hsp
            have tac : ∀ (v : Value) (w3 : World), EV w3 a v 3 (some (k : Int)) → Nw w w3 → ∃ v', Ending.returned (.tuple #[.int .u64 0, v]) = .returned (.tuple #[.int .u64 ((rd 0 s (undec 0 0 L)).1 : Nat), v']) ∧ EV w3 a v' (rd 0 s (undec 0 0 L)).2.1 (rd 0 s (undec 0 0 L)).2.2 ∧ Nw w w3 := by
              intro v w3 h1 h2
              rw [rd_err _ _ _ hbig _ HSP.out]
              exact ⟨v, rfl, h1, h2⟩
            by_cases c1 : X < 0
            · clear hbad
              go_wp2_with (first
                | (go_at_call 164; refine hcall.mono ?_; rintro e w2 ⟨rfl, rfl⟩)
                | (go_at_call 163; refine hwr.mono ?_; rintro e w3 ⟨v, rfl, hev, hnw3⟩))
              go_ret2
              exact tac v w3 hev hnw3
            · by_cases c2 : 0 < k ∧ m = 0
              · obtain ⟨c2, rfl⟩ := c2
                clear hbad
                have c2z : (0 : Int) < (k : Int) := by omega
                go_wp2_with (first
                  | (go_at_call 164; refine hcall.mono ?_; rintro e w2 ⟨rfl, rfl⟩)
                  | (go_at_call 163; refine hwr.mono ?_; rintro e w3 ⟨v, rfl, hev, hnw3⟩))
                go_ret2
                exact tac v w3 hev hnw3
              · have hov : (18446744073709551615 - X) / 10 < (m : Int) := by omega
                clear hbad
                rcases (show k = 0 ∨ (0 < k ∧ m ≠ 0) by omega) with rfl | ⟨k0, m0⟩
                · go_wp2_with (first
                    | (go_at_call 164; refine hcall.mono ?_; rintro e w2 ⟨rfl, rfl⟩)
                    | (go_at_call 163; refine hwr.mono ?_; rintro e w3 ⟨v, rfl, hev, hnw3⟩))
                  go_ret2
                  exact tac v w3 hev hnw3
                · have c2z : (0 : Int) < (k : Int) := by omega
                  have m0z : ((m : Int) == 0) = false := by rw [beq_eq_false_iff_ne]; omega
                  clear c2
                  go_wp2_with (first
                    | (go_at_call 164; refine hcall.mono ?_; rintro e w2 ⟨rfl, rfl⟩)
                    | (go_at_call 163; refine hwr.mono ?_; rintro e w3 ⟨v, rfl, hev, hnw3⟩))
                  go_ret2
                  exact tac v w3 hev hnw3
          · rw [if_neg hbad] at hsp
            have HSP : Hid (undec 0 0 L = undec (k + 1) (10 * m + X.toNat) (L.drop (k + 1))) := hsp
            clear hsp
            have c1 : ¬ X < 0 := by omega
            have hov : ¬ (18446744073709551615 - X) / 10 < (m : Int) := by omega
            have hm10 : 10 * m + X.toNat ≤ 18446744073709551615 := by omega
            have hmx : 10 * (m : Int) + X ≤ 18446744073709551615 := by omega
            have HX : Hid (10 * (m : Int) + X = ((10 * m + X.toNat : Nat) : Int)) := by unfold Hid; omega
            rcases (show k = 0 ∨ (0 < k ∧ m ≠ 0) by omega) with rfl | ⟨k0, m0⟩
            · clear hbad
              go_wp2_with (go_at_call 164; refine hcall.mono ?_; rintro e w2 ⟨rfl, rfl⟩)
              exact ⟨⟨1, 10 * m + X.toNat, by omega, rfl, by rw [HX.out], hm10, HSP.out⟩, by simp [intOf]; omega⟩
            · have c2z : (0 : Int) < (k : Int) := by omega
              have m0z : ((m : Int) == 0) = false := by rw [beq_eq_false_iff_ne]; omega
              clear hbad
              go_wp2_with (go_at_call 164; refine hcall.mono ?_; rintro e w2 ⟨rfl, rfl⟩)
              exact ⟨⟨k + 1, 10 * m + X.toNat, by omega, by go_num, by rw [HX.out], hm10, HSP.out⟩, by simp [intOf]; omega⟩
        · obtain rfl : k = s.size := by omega
          have HSP : Hid (undec 0 0 L = .ok m) := by
            unfold Hid
            rw [hsp, List.drop_of_length_le (by omega)]; rfl
          clear hsp
          go_wp2
          go_ret2
          rw [rd_ok _ _ _ hbig _ HSP.out]
          exact ⟨_, rfl, .inl ⟨rfl, rfl, rfl⟩, Fr.refl _ _⟩
end TX
end Go.Proofs.YtgobdjdaehlgdaaGreatDoor
