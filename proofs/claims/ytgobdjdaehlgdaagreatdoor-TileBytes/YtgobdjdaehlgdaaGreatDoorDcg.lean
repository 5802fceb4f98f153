/- The document's digits of a number. -/
import Derived.Test.YtgobdjdaehlgdaaGreatDoorRh
import Derived.Laws.AppendOwn
import Derived.Lib.ItoaLen
import Derived.Test.YtgobdjdaehlgdaaGreatDoorUf
import Derived.Test.YtgobdjdaehlgdaaGreatDoorUz
import Derived.Test.YtgobdjdaehlgdaaGreatDoorHq
namespace Go.Proofs.YtgobdjdaehlgdaaGreatDoor.Rf
open Go.RowKit
set_option linter.unusedVariables false
set_option linter.unusedSimpArgs false
/-- How long a list is. -/
def slLen : Value → Nat
  | .slice _ n _ => n
  | _ => 0
theorem dd_step (u m : Nat) (l : List UInt8) (h : Lib.decDigits u = (if m = 0 ∧ l ≠ [] then [] else Lib.decDigits m) ++ l.reverse) (hc : ¬ (m = 0 ∧ l ≠ [])) :
    Lib.decDigits u = (if m / 10 = 0 ∧ l ++ [UInt8.ofNat (48 + m % 10)] ≠ [] then [] else Lib.decDigits (m / 10)) ++ (l ++ [UInt8.ofNat (48 + m % 10)]).reverse := by
  rw [if_neg hc] at h
  rw [h, List.reverse_append]
  rw [Lib.decDigits]
  by_cases h10 : m < 10
  · rw [dif_pos h10, if_pos ⟨by omega, by simp⟩, Nat.mod_eq_of_lt h10]; rfl
  · rw [dif_neg h10, if_neg (by omega)]; simp
theorem drop_rev (l : List UInt8) (k : Nat) (h : k < l.length) : (l.drop k).reverse = (l.drop (k + 1)).reverse ++ [l.getD k 0] := by
  rw [List.drop_eq_getElem_cons h, List.reverse_cons, List.getD_eq_getElem?_getD, List.getElem?_eq_getElem h]; rfl
set_option maxRecDepth 100000 in
set_option maxHeartbeats 2000000 in
theorem refdec_any (u : Nat) (hu : u < 18446744073709551616) (w : World) :
    Calls Tryz.prog 128 #[.int .u64 u] w fun e w' => e = .returned (.string ⟨(Lib.decDigits u).toArray⟩) ∧ Nw w w' := by
  obtain ⟨i0, hi, hz0, hz1, hz2⟩ := info_parts8
  have hz2i := hz2
  clear hz2
  go_enter Tryz.func128, Tryz.ntmps128
  go_wp2
  go_loopw [0, 3] (fun n b wr => ∃ (m : Nat) (l : List UInt8), n = .int .u64 m ∧ Own w.heap.size wr b l ∧ Below w.heap.size w wr ∧ l.length ≤ 20 ∧ m < 10 ^ (20 - l.length) ∧ m < 18446744073709551616 ∧ Lib.decDigits u = (if m = 0 ∧ l ≠ [] then [] else Lib.decDigits m) ++ l.reverse) (fun n b _ => (intOf n).toNat + (if slLen b = 0 then 1 else 0))
  case atStart => exact ⟨u, [], rfl, World.ownsRow_nil _ _ _ _, Below.refl _ _, by simp, by simp; omega, hu, by simp⟩
  case round =>
    obtain ⟨m, l, rfl, ho, hb, hl, hm, hm64, hd⟩ := hrel
    obtain ⟨wo, hwo⟩ : ∃ x, x = wr := ⟨_, rfl⟩
    subst hwo
    have HM : Hid (m < 10 ^ (20 - l.length)) := hm
    have HD : Hid (Lib.decDigits u = (if m = 0 ∧ l ≠ [] then [] else Lib.decDigits m) ++ l.reverse) := hd
    clear hm hd
    have hsz : w.heap.size ≤ wo.heap.size := hb.size
    obtain ⟨ca, cc, rfl⟩ := ownsRow_form ho
    by_cases hc : m = 0 ∧ l ≠ []
    · obtain ⟨hm0, hne⟩ := hc
      have HD2 : Hid (Lib.decDigits u = l.reverse) := by unfold Hid; rw [HD.out, if_pos ⟨hm0, hne⟩]; rfl
      have hmz : ¬ (0 : Int) < (m : Int) := by omega
      clear hm0
      have hl0 : ¬ l.length = 0 := fun e => hne (List.eq_nil_of_length_eq_zero e)
      have hlz : ((l.length : Int) == 0) = false := by rw [beq_eq_false_iff_ne]; omega
      have HC : Hid (∀ k, k < l.length → ∃ g, ca = some ⟨g, 0, none⟩ ∧ wo.cell? ⟨g, k, none⟩ = some (.int .u8 ((l.getD k 0).toNat : Nat))) := by
        intro k hk
        rcases ho.2 with ⟨h, hn⟩ | ⟨g, cap, cur, h, _⟩
        · omega
        · simp only [Value.slice.injEq] at h
          obtain ⟨rfl, _, rfl⟩ := h
          refine ⟨g, rfl, ?_⟩
          have := ho.cells (g := g) rfl k (.int .u8 ((l.getD k 0).toNat : Nat)) (by simp [bc, List.getD_eq_getElem?_getD, List.getElem?_eq_getElem hk])
          rw [addZ] at this
          exact this
      clear HD HM hne
      go_wp2
      go_loopw [4, 5] (fun b i wq => ∃ (k : Nat), k ≤ l.length ∧ i = .int .i64 ((k : Int) - 1) ∧ Own wo.heap.size wq b (l.drop k).reverse ∧ Below wo.heap.size wo wq) (fun _ i _ => (intOf i + 1).toNat)
      case atStart => exact ⟨l.length, by omega, rfl, by rw [List.drop_length]; exact World.ownsRow_nil _ _ _ _, Below.refl _ _⟩
      case round =>
        obtain ⟨k, hk, rfl, hoq, hbq⟩ := hrel
        have hsq : wo.heap.size ≤ wr.heap.size := hbq.size
        by_cases hk0 : k = 0
        · subst hk0
          have hz : ¬ (0 : Int) ≤ ((0 : Nat) : Int) - 1 := by omega
          rw [List.drop_zero] at hoq
          obtain ⟨R, hR⟩ : ∃ R, R = l.reverse := ⟨_, rfl⟩
          have HR : Hid (R = l.reverse) := hR
          rw [← hR] at hoq
          clear hR
          have hcv := conv_own hoq
          obtain ⟨qa, qc, rfl⟩ := ownsRow_form hoq
          go_wp2
          go_ret
          exact ⟨by rw [HD2.out, ← HR.out]; rfl, Fr.ofBelow (hb.trans (hbq.mono hsz))⟩
        · obtain ⟨j, rfl⟩ : ∃ j, k = j + 1 := ⟨k - 1, by omega⟩
          obtain ⟨g, rfl, hcell⟩ := HC.out j (by omega)
          have hnwq : Nw wo wr := Fr.ofBelow hbq
          have hcell2 := hnwq.cellOf hcell
          have HDR : Hid ((l.drop j).reverse = (l.drop (j + 1)).reverse ++ [l.getD j 0]) := drop_rev l j (by omega)
          have hrl : (l.drop (j + 1)).reverse.length ≤ 20 := by simp; omega
          rw [show (((j + 1 : Nat) : Int) - 1) = (j : Int) by omega]
          generalize (l.drop (j + 1)).reverse = R at hoq HDR hrl
          obtain ⟨qa, qc, rfl⟩ := ownsRow_form hoq
          generalize l.getD j 0 = cj at hcell2 HDR
          go_wp2_with (at_builtin; refine wpList_append_own _ rfl _ _ 92 rfl wo.heap.size 5 i0 (.int .u8 0) 1 1 Tryz.underlying92 hi hz0 hz1 hz2i rfl (by decide) _ _ _ rfl (hoq.alloc _) ⟨wr.heap.size, 0, none⟩ 1 1 [.int .u8 _] rfl rfl (one_new _ _ _) (by simp [Value.oneCell']) (by unfold maxLen; omega) (by omega) (by simp; omega) ?_; intro v' w3 hown' hgrow _; obtain ⟨ga, gc, rfl⟩ := ownsRow_form hown')
          obtain ⟨h5, h6⟩ := own_put hbq hoq rfl hown' rfl hgrow (Nat.le_refl _)
          exact ⟨⟨j, by omega, by go_num, by rw [HDR.out]; exact h5, h6⟩, by simp [intOf]⟩
    · have hdd := dd_step u m l HD.out hc
      have HD2 : Hid (Lib.decDigits u = (if m / 10 = 0 ∧ l ++ [UInt8.ofNat (48 + m % 10)] ≠ [] then [] else Lib.decDigits (m / 10)) ++ (l ++ [UInt8.ofNat (48 + m % 10)]).reverse) := hdd
      clear hdd HD
      have hl19 : l.length ≤ 19 := by
        rcases Nat.lt_or_ge l.length 20 with h | h
        · omega
        · exfalso
          have h20 : l.length = 20 := by omega
          have hm := HM.out
          rw [h20] at hm
          exact hc ⟨by simp at hm; omega, fun e => by rw [e] at h20; simp at h20⟩
      have HM2 : Hid (m / 10 < 10 ^ (20 - (l.length + 1))) := by
        unfold Hid
        apply Nat.div_lt_of_lt_mul
        have hm := HM.out
        rw [show 20 - l.length = (20 - (l.length + 1)) + 1 by omega, Nat.pow_succ] at hm
        omega
      clear HM
      have hd8 : (48 + (m : Int) % 10) = ((UInt8.ofNat (48 + m % 10)).toNat : Int) := by
        rw [UInt8.toNat_ofNat', Nat.mod_eq_of_lt (by omega)]; omega
      have hif : (0 < m) ∨ (m = 0 ∧ l.length = 0) := by
        rcases Nat.eq_zero_or_pos m with h | h
        · refine .inr ⟨h, ?_⟩
          rcases Nat.eq_zero_or_pos l.length with h2 | h2
          · exact h2
          · exact absurd ⟨h, fun e => by rw [e] at h2; simp at h2⟩ hc
        · exact .inl h
      clear hc
      generalize UInt8.ofNat (48 + m % 10) = d8 at HD2 hd8
      rcases hif with hpos | ⟨rfl, hl0⟩
      · have hpz : (0 : Int) < (m : Int) := by omega
        go_wp2_with (at_builtin; refine wpList_append_own _ rfl _ _ 92 rfl w.heap.size 5 i0 (.int .u8 0) 1 1 Tryz.underlying92 hi hz0 hz1 hz2i rfl (by decide) _ _ _ rfl (ho.alloc _) ⟨wo.heap.size, 0, none⟩ 1 1 [.int .u8 _] rfl rfl (one_new _ _ _) (by simp [Value.oneCell']) (by unfold maxLen; omega) (by omega) (by simp; omega) ?_; intro v' w3 hown' hgrow _; obtain ⟨ga, gc, rfl⟩ := ownsRow_form hown')
        obtain ⟨h5, h6⟩ := own_put (c := d8) hb ho (by omega) hown' rfl hgrow (Nat.le_refl _)
        exact ⟨⟨m / 10, l ++ [d8], by go_num, h5, h6, by simp; omega, by rw [List.length_append]; exact HM2.out, by omega, HD2.out⟩, by simp [intOf, slLen]; omega⟩
      · have hpz : ¬ (0 : Int) < ((0 : Nat) : Int) := by omega
        obtain rfl : l = [] := List.eq_nil_of_length_eq_zero hl0
        go_wp2_with (at_builtin; refine wpList_append_own _ rfl _ _ 92 rfl w.heap.size 5 i0 (.int .u8 0) 1 1 Tryz.underlying92 hi hz0 hz1 hz2i rfl (by decide) _ _ _ rfl (ho.alloc _) ⟨wo.heap.size, 0, none⟩ 1 1 [.int .u8 _] rfl rfl (one_new _ _ _) (by simp [Value.oneCell']) (by unfold maxLen; omega) (by omega) (by simp; omega) ?_; intro v' w3 hown' hgrow _; obtain ⟨ga, gc, rfl⟩ := ownsRow_form hown')
        obtain ⟨h5, h6⟩ := own_put (c := d8) hb ho (by omega) hown' rfl hgrow (Nat.le_refl _)
        exact ⟨⟨0, [] ++ [d8], by go_num, h5, h6, by simp, by rw [List.length_append]; exact HM2.out, by omega, HD2.out⟩, by simp [intOf, slLen]⟩
end Go.Proofs.YtgobdjdaehlgdaaGreatDoor.Rf
namespace Go.Proofs.YtgobdjdaehlgdaaGreatDoor
open Go.RowKit
open Go.Lib (decDigits nDigits)
set_option linter.unusedVariables false
set_option linter.unusedSimpArgs false
theorem mayT_doc (L I : Nat) (W : Int) : mayT L I W ↔ (L ≤ 7 ∧ 1 ≤ W ∧ W ≤ 256 ∧ I ≤ 36028797018963968) ∧ (256 * I + W.toNat) * 2 ^ (8 * L) ≤ 9223372036854775808 := by
  by_cases hL : L ≤ 7
  · have hn := nod8_top L hL
    have hp : 2 ^ (63 - 8 * L) * 2 ^ (8 * L) = 9223372036854775808 := by rw [← Nat.pow_add, show 63 - 8 * L + 8 * L = 63 by omega]
    have h0 : 0 < 2 ^ (8 * L) := Nat.pow_pos (by decide)
    have hle : (256 * I + W.toNat) * 2 ^ (8 * L) ≤ 9223372036854775808 ↔ 256 * I + W.toNat ≤ 2 ^ (63 - 8 * L) := by
      rw [← hp]
      exact ⟨fun h => Nat.le_of_mul_le_mul_right h h0, fun h => Nat.mul_le_mul_right _ h⟩
    have hb : 2 ^ (63 - 8 * L) ≤ 9223372036854775808 := by rw [← hp]; exact Nat.le_mul_of_pos_right _ h0
    rw [hle]
    unfold mayT wid
    rw [if_neg (by omega), hn]
    generalize 2 ^ (63 - 8 * L) = X at *
    omega
  · constructor
    · intro h
      exfalso
      unfold mayT wid at h
      rw [if_pos (by omega)] at h
      have := h.1
      have := h.2
      omega
    · intro h; exact absurd h.1.1 hL
set_option maxHeartbeats 1000000 in
theorem fits_big (n k : Nat) (hn : 9223372036854775808 < n) (hn2 : n < 18446744073709551616) (w : World) :
    Calls Tryz.prog 127 #[.int .u64 (n : Int), .int .u64 (k : Int)] w fun e w' => e = .returned (.bool false) ∧ w' = w := by
  have hbi : (4611686018427387904 : Int) < (n : Int) := by omega
  have hmi : ¬ (n : Int) ≤ 9223372036854775808 := by omega
  go_enter Tryz.func127, Tryz.ntmps127
  go_wp2
  go_loop [0, 5] (fun s i => s = .int .u64 (n : Int) ∧ i = .int .u64 0) (fun _ i => 0)
  case atStart => exact ⟨rfl, rfl⟩
  case round =>
    obtain ⟨rfl, rfl⟩ := hrel
    by_cases hk : 0 < k
    · have hki : (0 : Int) < (k : Int) := by omega
      go_wp2
      go_ret
      exact ⟨rfl, rfl⟩
    · have hki : ¬ (0 : Int) < (k : Int) := by omega
      go_wp2
      go_ret
      exact ⟨by simp [hmi], rfl⟩
set_option maxHeartbeats 1000000 in
theorem rmay_any (L I : Nat) (W : Int) (hL : L ≤ 255) (hI : I < 18446744073709551616) (b : Bool) (hb : b = true ↔ mayT L I W) (w : World) :
    Calls Tryz.prog 83 #[.agg #[.int .u8 (L : Int), .int .u64 (I : Int), .int .i64 W]] w fun e w' => e = .returned (.bool b) ∧ Nw w w' := by
  rw [mayT_doc] at hb
  have HB : Hid (b = true ↔ (L ≤ 7 ∧ 1 ≤ W ∧ W ≤ 256 ∧ I ≤ 36028797018963968) ∧ (256 * I + W.toNat) * 2 ^ (8 * L) ≤ 9223372036854775808) := hb
  clear hb
  have hf : ¬ (L ≤ 7 ∧ 1 ≤ W ∧ W ≤ 256 ∧ I ≤ 36028797018963968) → b = false := fun h => by
    cases b with
    | false => rfl
    | true => exact absurd (HB.out.1 rfl).1 h
  by_cases h7 : L ≤ 7
  · have h7i : ¬ (7 : Int) < (L : Int) := by omega
    by_cases h1 : 1 ≤ W
    · have h1i : ¬ W < 1 := by omega
      by_cases h2 : W ≤ 256
      · have h2i : ¬ 256 < W := by omega
        by_cases h3 : I ≤ 36028797018963968
        · have h3i : ¬ (36028797018963968 : Int) < (I : Int) := by omega
          obtain ⟨k, rfl⟩ : ∃ k : Nat, W = (k : Int) := ⟨W.toNat, by omega⟩
          by_cases h4 : 256 * I + k ≤ 9223372036854775808
          · have q := fits_any (256 * I + k) (8 * L) h4 (by omega) b (by rw [HB.out]; simp only [Int.toNat_natCast]; exact ⟨fun h => h.2, fun h => ⟨⟨h7, h1, h2, h3⟩, h⟩⟩)
            rw [show ((256 * I + k : Nat) : Int) = 256 * (I : Int) + (k : Int) by omega, show ((8 * L : Nat) : Int) = 8 * (L : Int) by omega] at q
            have h4i : 256 * (I : Int) + (k : Int) ≤ 9223372036854775808 := by omega
            clear hf
            go_enter Tryz.func83, Tryz.ntmps83
            go_wp2_with fail
            refine (q _).mono ?_
            rintro e w1 ⟨rfl, rfl⟩
            go_wp2
            go_ret
            exact ⟨rfl, nwa w _⟩
          · have hbf : b = false := by
              cases b with
              | false => rfl
              | true =>
                have h := (HB.out.1 rfl).2
                have h0 : 0 < 2 ^ (8 * L) := Nat.pow_pos (by decide)
                have := Nat.le_mul_of_pos_right (256 * I + k) h0
                simp only [Int.toNat_natCast] at h
                omega
            subst hbf
            clear hf
            have hI55 : I = 36028797018963968 := by omega
            subst hI55
            have q := fits_big (256 * 36028797018963968 + k) (8 * L) (by omega) (by omega)
            rw [show ((256 * 36028797018963968 + k : Nat) : Int) = 9223372036854775808 + (k : Int) by omega, show ((8 * L : Nat) : Int) = 8 * (L : Int) by omega] at q
            go_enter Tryz.func83, Tryz.ntmps83
            go_wp2_with fail
            refine (q _).mono ?_
            rintro e w1 ⟨rfl, rfl⟩
            go_wp2
            go_ret
            exact ⟨rfl, nwa w _⟩
        · have h3i : (36028797018963968 : Int) < (I : Int) := by omega
          obtain rfl := hf (fun h => h3 h.2.2.2)
          clear hf
          go_enter Tryz.func83, Tryz.ntmps83
          go_wp2
          go_ret
          exact ⟨rfl, nwa w _⟩
      · have h2i : 256 < W := by omega
        obtain rfl := hf (fun h => h2 h.2.2.1)
        clear hf
        go_enter Tryz.func83, Tryz.ntmps83
        go_wp2
        go_ret
        exact ⟨rfl, nwa w _⟩
    · have h1i : W < 1 := by omega
      obtain rfl := hf (fun h => h1 h.2.1)
      clear hf
      go_enter Tryz.func83, Tryz.ntmps83
      go_wp2
      go_ret
      exact ⟨rfl, nwa w _⟩
  · have h7i : (7 : Int) < (L : Int) := by omega
    obtain rfl := hf (fun h => h7 h.1)
    clear hf
    go_enter Tryz.func83, Tryz.ntmps83
    go_wp2
    go_ret
    exact ⟨rfl, nwa w _⟩
end Go.Proofs.YtgobdjdaehlgdaaGreatDoor
namespace Go.Proofs.YtgobdjdaehlgdaaGreatDoor
open Go.RowKit
open Go.Lib (decDigits nDigits)
set_option linter.unusedVariables false
set_option linter.unusedSimpArgs false
section
variable {w : World} {o : Oper} {a : Act} {K : Act → Prop}
theorem quiet_cellD {t : TypeId} (x : Operand) (ho : o.op = .load t x) (g off : Nat) (hx : a.eval x = .pointer (some ⟨g, off, none⟩)) (ht : ∀ W, (isAgg t).run Tryz.prog W = .ok false W) (v : Value) (hc : w.cell? ⟨g, off, none⟩ = some v) (hk : K (a.put o.dst v)) : o.quiet Tryz.prog a (fun w' => ∃ x : Grw w, w' = x.val) K := by
  refine ⟨v, ?_, hk⟩
  rintro W ⟨y, rfl⟩
  have h1 := y.cell hc
  unfold Oper.quietAt execOp
  simp only [ho, hx, Instr.loadAt, sure, loadVar, Sem.run_bind, Sem.run_pure, Sem.run_ite, ht, Result.andThen_ok, run_load, h1, if_false, Bool.false_eq_true]
  exact ⟨rfl, rfl⟩
end
theorem app_list (x y : ByteArray) : (x ++ y).data.toList = x.data.toList ++ y.data.toList := by
  rw [ByteArray.data_append, Array.toList_append]
theorem bx_of {x : ByteArray} {l : List UInt8} (h : x.data.toList = l) : x = ⟨l.toArray⟩ := by
  cases x; simp at h; subst h; simp
set_option maxRecDepth 100000 in
set_option maxHeartbeats 1000000 in
theorem rthr_any (n : Nat) (hn : n < 18446744073709551616) (w : World) :
    Calls Tryz.prog 129 #[.int .u64 (n : Int)] w fun e w' => e = .returned (.string ⟨(thrL (pad3 (decDigits n))).toArray⟩) ∧ Nw w w' := by
  obtain ⟨D, hD⟩ : ∃ D, D = decDigits n := ⟨_, rfl⟩
  have hD1 : 1 ≤ D.length := by rw [hD, Go.Lib.decDigits_length]; exact Go.Lib.nDigits_pos n
  have hD2 : D.length ≤ 20 := by rw [hD, Go.Lib.decDigits_length]; exact nDigits_lt 19 n (by omega)
  have QD : Hid (∀ V, Calls Tryz.prog 128 #[.int .u64 (n : Int)] V fun e w' => e = .returned (.string ⟨D.toArray⟩) ∧ Nw V w') := fun V => by rw [hD]; exact Rf.refdec_any n hn V
  rw [← hD]
  clear hD
  obtain ⟨d, hd⟩ : ∃ d, d = (⟨D.toArray⟩ : ByteArray) := ⟨_, rfl⟩
  have HDL : Hid (d.data.toList = D) := by show _ = _; rw [hd]
  have hds : d.size = D.length := by rw [hd, bxs]
  rw [← hd] at QD
  obtain ⟨m, hm⟩ : ∃ m, m = D.length := ⟨_, rfl⟩
  have HM : Hid (D.length = m) := hm.symm
  rw [← hm] at hD1 hD2 hds
  obtain ⟨P, hP⟩ : ∃ P, P = pad3 D := ⟨_, rfl⟩
  have HP : Hid (P = List.replicate ((3 - m % 3) % 3) 48 ++ D) := by show _ = _; rw [hP, pad3, HM.out]
  rw [← hP]
  clear hm hd hP
  go_enter Tryz.func129, Tryz.ntmps129
  go_wp2_with fail
  refine (QD.out _).mono ?_
  rintro e w1 ⟨rfl, n1⟩
  have N1 : Hid (Nw w w1) := n1
  clear n1 QD
  go_wp2
  go_loop [3] (fun s => ∃ (j : Nat) (x : ByteArray), s = .string x ∧ x.size = j + m ∧ j ≤ (3 - m % 3) % 3 ∧ x.data.toList = List.replicate j 48 ++ D) (fun s => 40 - strLen s)
  case atStart => exact ⟨0, d, rfl, by omega, by omega, by rw [HDL.out]; simp⟩
  case round =>
    obtain ⟨j, x, rfl, hx, hj, hxl⟩ := hrel
    have HXL : Hid (x.data.toList = List.replicate j 48 ++ D) := hxl
    clear hxl
    by_cases h3 : (j + m) % 3 = 0
    · have h3i : (((x.size : Int) % 3) != 0) = false := by simp; omega
      have HXP : Hid (x.data.toList = P) := by
        show _ = _
        rw [HXL.out, HP.out, show j = (3 - m % 3) % 3 by omega]
      have hxs : 3 ≤ x.size ∧ x.size ≤ 24 := by omega
      clear HXL h3
      go_wp2
      go_loop [3, 4] (fun s o => ∃ (z y : ByteArray), s = .string z ∧ o = .string y ∧ z.size ≤ 24 ∧ 1 ≤ z.size ∧ y.size + 5 * z.size ≤ 200 ∧ y.data.toList ++ thrL z.data.toList = thrL P) (fun s _ => strLen s)
      case atStart => exact ⟨x, ⟨#[]⟩, rfl, rfl, by omega, by omega, by show 0 + 5 * x.size ≤ 200; omega, by rw [HXP.out]; rfl⟩
      case round =>
        obtain ⟨z, y, rfl, rfl, hz1, hz2, hyb, hzy⟩ := hrel
        have hyb2 : y.size ≤ 200 := by omega
        have HZY : Hid (y.data.toList ++ thrL z.data.toList = thrL P) := hzy
        have hzl := bytes_len z
        clear hzy
        by_cases hlt : 3 < z.size
        · have hli : (3 : Int) < (z.size : Int) := by omega
          have e3 := thrL_gt z.data.toList (by omega)
          have HE3 : Hid (thrL z.data.toList = [120] ++ z.data.toList.take 3 ++ [47] ++ thrL (z.data.toList.drop 3)) := e3
          have hls : (z.extract 3 z.size).size = z.size - 3 := by rw [← bytes_len, ext_drop, List.length_drop, hzl]
          clear e3 hzl
          go_wp2
          refine ⟨⟨_, _, rfl, rfl, ?_, ?_, ?_, ?_⟩, ?_⟩
          · omega
          · omega
          · have e4 : (z.extract 0 3).size = 3 := by rw [← bytes_len, ext_take, List.length_take, bytes_len]; omega
            simp only [ByteArray.size_append, e4, hls]
            show y.size + 1 + 3 + 1 + _ ≤ 200
            omega
          · rw [← HZY.out, HE3.out]
            simp only [app_list, ext_take, ext_drop, List.append_assoc]
          · simp only [strLen]; omega
        · have hli : ¬ (3 : Int) < (z.size : Int) := by omega
          have HFIN : Hid (y ++ z = ⟨(thrL P).toArray⟩) := bx_of (by rw [app_list, ← HZY.out, thrL_le z.data.toList (by omega)])
          clear hzl
          go_wp2
          go_ret
          exact ⟨by rw [HFIN.out]; rfl, N1.out⟩
    · have h3i : (((x.size : Int) % 3) != 0) = true := by simp; omega
      go_wp2
      refine ⟨⟨j + 1, _, rfl, ?_, ?_, ?_⟩, ?_⟩
      · rw [ByteArray.size_append, hx]; show 1 + (j + m) = _; omega
      · omega
      · rw [app_list, HXL.out, List.replicate_succ]; rfl
      · simp only [strLen, ByteArray.size_append, hx]; show 40 - (1 + (j + m)) < _; omega
set_option maxRecDepth 100000 in
set_option maxHeartbeats 1000000 in
theorem rname_any (L I Z : Nat) (hL : L ≤ 255) (hI : I < 18446744073709551616) (hW : Z ≤ 256) (w : World) :
    Calls Tryz.prog 84 #[tl L I Z] w fun e w' => e = .returned (.string ⟨(nm L I Z).toArray⟩) ∧ Nw w w' := by
  obtain ⟨dL, hdL⟩ : ∃ d, d = (⟨(decDigits L).toArray⟩ : ByteArray) := ⟨_, rfl⟩
  obtain ⟨dW, hdW⟩ : ∃ d, d = (⟨(decDigits Z).toArray⟩ : ByteArray) := ⟨_, rfl⟩
  obtain ⟨dI, hdI⟩ : ∃ d, d = (⟨(thrL (pad3 (decDigits I))).toArray⟩ : ByteArray) := ⟨_, rfl⟩
  have QL : Hid (∀ V, Nw w V → Calls Tryz.prog 128 #[.int .u64 (L : Int)] V fun e w' => e = .returned (.string dL) ∧ Nw V w') := fun V _ => by rw [hdL]; exact Rf.refdec_any L (by omega) V
  have QW' : Hid (∀ V, Calls Tryz.prog 128 #[.int .u64 (Z : Int)] V fun e w' => e = .returned (.string dW) ∧ Nw V w') := fun V => by rw [hdW]; exact Rf.refdec_any Z (by omega) V
  have QI : Hid (∀ V, Nw w V → Calls Tryz.prog 129 #[.int .u64 (I : Int)] V fun e w' => e = .returned (.string dI) ∧ Nw V w') := fun V _ => by rw [hdI]; exact rthr_any I hI V
  have HNM : Hid (nm L I Z = [116, 105, 108, 101, 47] ++ dL.data.toList ++ [47] ++ dI.data.toList ++ (if Z < 256 then [46, 112, 47] ++ dW.data.toList else [])) := by show _ = _; rw [hdL, hdW, hdI]; rfl
  have sL : dL.size ≤ 20 := by rw [hdL, bxs, Go.Lib.decDigits_length]; exact nDigits_lt 19 L (by omega)
  have sW : dW.size ≤ 20 := by rw [hdW, bxs, Go.Lib.decDigits_length]; exact nDigits_lt 19 Z (by omega)
  have sI : dI.size ≤ 100 := by
    rw [hdI, bxs]
    obtain ⟨k, hk⟩ := pad3_lenU I
    rw [thrL_len k _ hk]
    have h1 := pad3_len (decDigits I)
    have h2 : (decDigits I).length ≤ 20 := by rw [Go.Lib.decDigits_length]; exact nDigits_lt 19 I (by omega)
    omega
  clear hdL hdW hdI
  have c0 := nwa w (.cells #[.int .u8 (L : Int), .int .u64 (I : Int), .int .i64 (Z : Int)] 56)
  have N0 : Hid (Nw w (w.alloc (.cells #[.int .u8 (L : Int), .int .u64 (I : Int), .int .i64 (Z : Int)] 56))) := c0
  obtain ⟨k0, k1, _⟩ := cell3 (heap_new w (.cells #[.int .u8 (L : Int), .int .u64 (I : Int), .int .i64 (Z : Int)] 56))
  clear c0
  go_enter Tryz.func84, Tryz.ntmps84
  go_wp2_with fail
  (refine wp_region_grown (by kernel_rfl) (by kernel_rfl) ?_; (repeat (first | go_big_quiet_skip | (go_big_quiet_want; first | (refine quiet_cellD (.tmp 4) rfl w.heap.size 0 rfl Tryz.isAgg5 (.int .u8 (L : Int)) k0 ?_; ((try simp only [Act.put, List.setIfInBounds_toArray, List.set_cons_zero, List.set_cons_succ]); go_big_quiet_on)) | (refine quiet_cellD (.tmp 10) rfl w.heap.size 1 rfl Tryz.isAgg22 (.int .u64 (I : Int)) k1 ?_; ((try simp only [Act.put, List.setIfInBounds_toArray, List.set_cons_zero, List.set_cons_succ]); go_big_quiet_on)) | (go_big_quiet_op; first | go_big_quiet_on | go_big_quiet_call (first | rfl | with_reducible exact grw_call QL.out N0.out _ | with_reducible exact grw_call QI.out N0.out _))))); refine wpQuiet_nil ?_; rintro W ⟨⟨_, nW⟩, rfl⟩)
  obtain ⟨l0, b0, m1⟩ := one_made nW
  obtain ⟨e0, e1, e2⟩ := cell3 b0
  have M1 : Hid (Nw w W) := m1
  by_cases hlt : Z < 256
  · have hli : (Z : Int) < 256 := by omega
    go_wp2_with fail
    refine (QW'.out _).mono ?_
    rintro e w2 ⟨rfl, n2⟩
    go_wp2
    go_ret
    exact ⟨congrArg (fun x => Ending.returned (Value.string x)) (bx_of (by rw [HNM.out, if_pos hlt]; simp only [app_list, List.append_assoc])), m1.tr n2⟩
  · have hli : ¬ (Z : Int) < 256 := by omega
    go_wp2
    go_ret
    exact ⟨congrArg (fun x => Ending.returned (Value.string x)) (bx_of (by rw [HNM.out, if_neg hlt]; simp only [app_list, List.append_assoc, List.append_nil])), m1⟩
end Go.Proofs.YtgobdjdaehlgdaaGreatDoor
namespace Go.Proofs.YtgobdjdaehlgdaaGreatDoor
open Go.RowKit
open Go.Lib (decDigits nDigits)
set_option linter.unusedVariables false
set_option linter.unusedSimpArgs false
/-- The digits of a text as a number. -/
def dgs (n : Nat) : List UInt8 → Nat
  | [] => n
  | c :: r => if 48 ≤ c.toNat ∧ c.toNat ≤ 57 then dgs ((n * 10 + (c.toNat - 48)) % 18446744073709551616) r else dgs n r
theorem dgs_lt : ∀ (l : List UInt8) (n : Nat), n < 18446744073709551616 → dgs n l < 18446744073709551616
  | [], n, h => h
  | c :: r, n, h => by
    unfold dgs
    split
    · exact dgs_lt r _ (Nat.mod_lt _ (by decide))
    · exact dgs_lt r _ h
theorem dgs_app : ∀ (l m : List UInt8) (n : Nat), dgs n (l ++ m) = dgs (dgs n l) m
  | [], m, n => rfl
  | c :: r, m, n => by
    rw [List.cons_append]
    conv => lhs; unfold dgs
    conv => rhs; arg 1; unfold dgs
    split
    · exact dgs_app r m _
    · exact dgs_app r m _
theorem dgs_no (l : List UInt8) (n : Nat) (h : ∀ c ∈ l, ¬ (48 ≤ c.toNat ∧ c.toNat ≤ 57)) : dgs n l = n := by
  induction l generalizing n with
  | nil => rfl
  | cons c r ih =>
    unfold dgs
    rw [if_neg (h c (by simp))]
    exact ih n (fun x hx => h x (by simp [hx]))
theorem dgs_dec : ∀ u : Nat, u < 18446744073709551616 → dgs 0 (decDigits u) = u := by
  intro u
  induction u using Nat.strongRecOn with
  | ind u ih =>
    intro hu
    rw [Go.Lib.decDigits]
    by_cases h : u < 10
    · rw [dif_pos h]
      have hd := dig_of u h
      have h1 := hd.1
      unfold digU at h1
      unfold dgs dgs
      rw [if_pos h1, hd.2]
      omega
    · rw [dif_neg h, dgs_app, ih (u / 10) (by omega) (by omega)]
      have hd := dig_of (u % 10) (by omega)
      have h1 := hd.1
      unfold digU at h1
      unfold dgs dgs
      rw [if_pos h1, hd.2]
      omega
theorem dgs_zeros (k : Nat) (l : List UInt8) : dgs 0 (List.replicate k 48 ++ l) = dgs 0 l := by
  induction k with
  | zero => rfl
  | succ k ih =>
    rw [List.replicate_succ, List.cons_append]
    conv => lhs; unfold dgs
    rw [if_pos (by decide)]
    exact ih
theorem dgs_thr : ∀ (k : Nat) (l : List UInt8) (n : Nat), l.length ≤ k → dgs n (thrL l) = dgs n l
  | 0, l, n, h => by rw [thrL_le l (by omega)]
  | k + 1, l, n, h => by
    by_cases h3 : l.length ≤ 3
    · rw [thrL_le l h3]
    · rw [thrL_gt l (by omega), dgs_app, dgs_app, dgs_app, dgs_thr k (l.drop 3) _ (by rw [List.length_drop]; omega)]
      rw [dgs_no [120] n (by decide), dgs_no [47] _ (by decide), ← dgs_app, List.take_append_drop]
/-- The parts of a name, roughly. -/
def roL (X : List UInt8) : Nat := dgs 0 ((X.drop 5).take 1) % 256
def roA (X : List UInt8) : List UInt8 := (X.drop 7).takeWhile (fun c => c != 112)
def roB (X : List UInt8) : List UInt8 := (X.drop 7).dropWhile (fun c => c != 112)
def roI (X : List UInt8) : Nat := dgs 0 (roA X)
def roW (X : List UInt8) : Nat := if roB X = [] then 256 else dgs 0 (roB X) % 1000
theorem dw_skip : ∀ (P S : List UInt8), (112 : UInt8) ∉ P → (P ++ S).takeWhile (fun c => c != 112) = P ++ S.takeWhile (fun c => c != 112) ∧ (P ++ S).dropWhile (fun c => c != 112) = S.dropWhile (fun c => c != 112)
  | [], S, h => ⟨rfl, rfl⟩
  | c :: r, S, h => by
    have hc : (c != 112) = true := by simp; intro e; exact h (by simp [e])
    have := dw_skip r S (fun e => h (by simp [e]))
    constructor
    · rw [List.cons_append, List.takeWhile_cons, if_pos hc, this.1, List.cons_append]
    · rw [List.cons_append, List.dropWhile_cons, if_pos hc, this.2]
theorem ro_nm {L I W : Nat} (h : mayT L I (W : Int)) : roL (nm L I W) = L ∧ roI (nm L I W) = I ∧ roW (nm L I W) = W := by
  obtain ⟨_, hL, hI, hW1, hW⟩ := nm_len h
  have hdl : (decDigits L).length = 1 := by
    have h1 : (decDigits L).length ≤ 1 := by rw [Go.Lib.decDigits_length]; exact nDigits_lt 0 L (by omega)
    have h2 : 1 ≤ (decDigits L).length := by rw [Go.Lib.decDigits_length]; exact Go.Lib.nDigits_pos L
    omega
  have hdL := dgs_dec L (by omega)
  have hdI : dgs 0 (thrL (pad3 (decDigits I))) = I := by rw [dgs_thr _ _ _ (Nat.le_refl _), pad3, dgs_zeros]; exact dgs_dec I (by omega)
  have hdW := dgs_dec W (by omega)
  have h112 : (112 : UInt8) ∉ thrL (pad3 (decDigits I)) := fun e => by
    rcases thr_memU 112 _ _ (Nat.le_refl _) e with h | h | h
    · have := pad3_dig I 112 h; unfold digU at this; revert this; decide
    · exact absurd h (by decide)
    · exact absurd h (by decide)
  obtain ⟨a, ha⟩ : ∃ a, decDigits L = [a] := by
    match decDigits L, hdl with
    | [a], _ => exact ⟨a, rfl⟩
  obtain ⟨T, hT⟩ : ∃ T, T = thrL (pad3 (decDigits I)) := ⟨_, rfl⟩
  have e : nm L I W = [116, 105, 108, 101, 47, a, 47] ++ (T ++ (if W < 256 then [46, 112, 47] ++ decDigits W else [])) := by
    unfold nm; rw [ha, hT]; simp
  rw [← hT] at h112 hdI
  rw [ha] at hdL
  have e5 : ((nm L I W).drop 5).take 1 = [a] := by rw [e]; rfl
  have e7 : (nm L I W).drop 7 = T ++ (if W < 256 then [46, 112, 47] ++ decDigits W else []) := by rw [e]; rfl
  have hs := dw_skip T (if W < 256 then [46, 112, 47] ++ decDigits W else []) h112
  refine ⟨by unfold roL; rw [e5, hdL]; omega, ?_, ?_⟩
  · unfold roI roA
    rw [e7, hs.1, dgs_app, hdI]
    by_cases hlt : W < 256
    · rw [if_pos hlt]; exact dgs_no _ _ (by intro c hc; have : c = 46 := by simpa using hc
                                            subst this; decide)
    · rw [if_neg hlt]; rfl
  · unfold roW roB
    rw [e7, hs.2]
    by_cases hlt : W < 256
    · rw [if_pos hlt]
      have : ([46, 112, 47] ++ decDigits W).dropWhile (fun c => c != 112) = [112, 47] ++ decDigits W := rfl
      rw [this, if_neg (by simp), dgs_app, dgs_no [112, 47] 0 (by decide), hdW]
      omega
    · rw [if_neg hlt, List.dropWhile_nil, if_pos rfl]; omega
theorem u64w (x : Nat) (h : x < 18446744073709551616) (c : Nat) (hc : c ≤ 9) : (((x : Int) * 10 % 18446744073709551616 + (c : Int)) % 18446744073709551616) = (((x * 10 + c) % 18446744073709551616 : Nat) : Int) := by omega
set_option maxHeartbeats 400000 in
theorem rdig_any (s : ByteArray) (hs : s.size ≤ 9223372036854775807) (w : World) :
    Calls Tryz.prog 86 #[.string s] w fun e w' => e = .returned (.int .u64 (dgs 0 s.data.toList : Nat)) ∧ w' = w := by
  have hlen := bytes_len s
  have HC : Hid (∀ k (h : k < s.size), s[k]'h = TX.C s.data.toList k) := fun k h => TX.C_get s k h
  obtain ⟨l, hl⟩ : ∃ l, l = s.data.toList := ⟨_, rfl⟩
  rw [← hl] at HC hlen ⊢
  clear hl
  have HLEN : Hid (l.length = s.size) := hlen
  clear hlen
  go_enter Tryz.func86, Tryz.ntmps86
  go_wp2
  go_loop [3, 4] (fun n i => ∃ j m : Nat, j ≤ s.size ∧ i = .int .i64 (j : Int) ∧ n = .int .u64 (m : Int) ∧ m < 18446744073709551616 ∧ dgs m (l.drop j) = dgs 0 l) (fun _ i => s.size - (intOf i).toNat)
  case atStart => exact ⟨0, 0, by omega, rfl, rfl, by omega, by simp⟩
  case round =>
    obtain ⟨j, m, hj, rfl, rfl, hm, hd⟩ := hrel
    have HD : Hid (dgs m (l.drop j) = dgs 0 l) := hd
    clear hd
    by_cases hlt : j < s.size
    · have hck := HC.out j hlt
      have hdr := TX.drop_C l j (by rw [HLEN.out]; omega)
      have HDR : Hid (l.drop j = TX.C l j :: l.drop (j + 1)) := hdr
      have hc255 : (TX.C l j).toNat < 256 := UInt8.toNat_lt _
      clear hdr
      generalize TX.C l j = c at hck HDR hc255
      by_cases h48 : 48 ≤ c.toNat
      · have h48i : (48 : Int) ≤ (c.toNat : Int) := by omega
        by_cases h57 : c.toNat ≤ 57
        · have h57i : (c.toNat : Int) ≤ 57 := by omega
          have HD2 : Hid (dgs ((m * 10 + (c.toNat - 48)) % 18446744073709551616) (l.drop (j + 1)) = dgs 0 l) := by
            show _ = _
            rw [← HD.out, HDR.out]
            conv => rhs; unfold dgs
            rw [if_pos ⟨h48, h57⟩]
          go_wp2
          refine ⟨⟨j + 1, _, by omega, by go_num, ?_, Nat.mod_lt _ (by decide), HD2.out⟩, by simp [intOf]; omega⟩
          have := u64w m hm (c.toNat - 48) (by omega)
          rw [w64, w64, show (c.toNat : Int) - 48 = ((c.toNat - 48 : Nat) : Int) by omega, this]
        · have h57i : ¬ (c.toNat : Int) ≤ 57 := by omega
          have HD2 : Hid (dgs m (l.drop (j + 1)) = dgs 0 l) := by
            show _ = _
            rw [← HD.out, HDR.out]
            conv => rhs; unfold dgs
            rw [if_neg (by omega)]
          go_wp2
          exact ⟨⟨j + 1, m, by omega, by go_num, rfl, hm, HD2.out⟩, by simp [intOf]; omega⟩
      · have h48i : ¬ (48 : Int) ≤ (c.toNat : Int) := by omega
        have HD2 : Hid (dgs m (l.drop (j + 1)) = dgs 0 l) := by
          show _ = _
          rw [← HD.out, HDR.out]
          conv => rhs; unfold dgs
          rw [if_neg (by omega)]
        go_wp2
        exact ⟨⟨j + 1, m, by omega, by go_num, rfl, hm, HD2.out⟩, by simp [intOf]; omega⟩
    · obtain rfl : j = s.size := by omega
      have HD2 : Hid (m = dgs 0 l) := by
        show _ = _
        rw [← HD.out, List.drop_of_length_le (by rw [HLEN.out]; exact Nat.le_refl _)]; rfl
      go_wp2
      go_ret
      exact ⟨by rw [show dgs 0 l = m from HD2.out.symm]; rfl, rfl⟩
end Go.Proofs.YtgobdjdaehlgdaaGreatDoor
namespace Go.Proofs.YtgobdjdaehlgdaaGreatDoor
open Go.RowKit
open Go.Lib (decDigits nDigits)
set_option linter.unusedVariables false
set_option linter.unusedSimpArgs false
theorem res_slot_cell {P : Program} {w : World} {fn : Func} {i j : Nat} {t : TypeId} {n g : Nat} {tmps : Array Value} {V : Array Value} {ty : TypeId} {f : Nat × Nat} (hr : fn.results = #[.tmp j, .cell i t]) (hagg : ∀ W : World, (isAgg t).run P W = .ok true W) (hsz : ∀ W : World, (sizeOf t).run P W = .ok n W)
    (hx : tmps.getD i undef = .pointer (some ⟨g, 0, none⟩)) (v : Value) (hj : tmps.getD j undef = v) (hg : w.heap[g]? = some (.cells V ty f)) (hV : V.size = n) : (results fn tmps).run P w = .ok (.tuple #[v, .agg V]) w := by
  have hl : (loadCells ⟨g, 0, none⟩ n).run P w = .ok V w := by
    have := run_loadCells_list (P := P) w ⟨g, 0, none⟩ V.toList (fun j v hv => by
      rw [addZ, cell_of hg]
      simpa using hv)
    simpa [hV] using this
  have ha : ∀ W : World, (asAddr (.pointer (some ⟨g, 0, none⟩))).run P W = .ok ⟨g, 0, none⟩ W := fun W => by simp [asAddr]
  have hx2 : tmps[i]?.getD undef = .pointer (some ⟨g, 0, none⟩) := by rw [← hx]; simp [Array.getD]; split <;> simp_all
  have hj2 : tmps[j]?.getD undef = v := by rw [← hj]; simp [Array.getD]; split <;> simp_all
  simp [results, hr, hx2, hj2, ha, loadVar, hagg, hsz, hl]
theorem res_cells {P : Program} {w : World} {fn : Func} {i j : Nat} {t u : TypeId} {n m g k : Nat} {tmps : Array Value} {V U : Array Value} {ty tz : TypeId} {f f2 : Nat × Nat} (hr : fn.results = #[.cell i t, .cell j u]) (hagg : ∀ W : World, (isAgg t).run P W = .ok true W) (hsz : ∀ W : World, (sizeOf t).run P W = .ok n W)
    (hagg2 : ∀ W : World, (isAgg u).run P W = .ok true W) (hsz2 : ∀ W : World, (sizeOf u).run P W = .ok m W)
    (hx : tmps.getD i undef = .pointer (some ⟨g, 0, none⟩)) (hy : tmps.getD j undef = .pointer (some ⟨k, 0, none⟩)) (hg : w.heap[g]? = some (.cells V ty f)) (hV : V.size = n) (hk : w.heap[k]? = some (.cells U tz f2)) (hU : U.size = m) : (results fn tmps).run P w = .ok (.tuple #[.agg V, .agg U]) w := by
  have hl : (loadCells ⟨g, 0, none⟩ n).run P w = .ok V w := by
    have := run_loadCells_list (P := P) w ⟨g, 0, none⟩ V.toList (fun j v hv => by
      rw [addZ, cell_of hg]
      simpa using hv)
    simpa [hV] using this
  have hl2 : (loadCells ⟨k, 0, none⟩ m).run P w = .ok U w := by
    have := run_loadCells_list (P := P) w ⟨k, 0, none⟩ U.toList (fun j v hv => by
      rw [addZ, cell_of hk]
      simpa using hv)
    simpa [hU] using this
  have ha : ∀ (W : World) (q : Nat), (asAddr (.pointer (some ⟨q, 0, none⟩))).run P W = .ok ⟨q, 0, none⟩ W := fun W q => by simp [asAddr]
  have hx2 : tmps[i]?.getD undef = .pointer (some ⟨g, 0, none⟩) := by rw [← hx]; simp [Array.getD]; split <;> simp_all
  have hy2 : tmps[j]?.getD undef = .pointer (some ⟨k, 0, none⟩) := by rw [← hy]; simp [Array.getD]; split <;> simp_all
  simp [results, hr, hx2, hy2, ha, loadVar, hagg, hsz, hl, hagg2, hsz2, hl2]
abbrev flt (c p : Int) : Value := .agg #[.int .i64 c, .int .i64 p]
set_option maxHeartbeats 1000000 in
theorem rpath_yes (L I W : Nat) (h : mayT L I (W : Int)) (w : World) :
    Calls Tryz.prog 14 #[tl L I W] w fun e w' => e = .returned (.tuple #[.string ⟨(nm L I W).toArray⟩, flt 0 0]) ∧ Nw w w' := by
  obtain ⟨_, hL, hI, hW1, hW⟩ := nm_len h
  have QM : Hid (∀ V, Calls Tryz.prog 83 #[tl L I W] V fun e w' => e = .returned (.bool true) ∧ Nw V w') := fun V => rmay_any L I W (by omega) (by omega) true (by simp [h]) V
  have QN : Hid (∀ V, Calls Tryz.prog 84 #[tl L I W] V fun e w' => e = .returned (.string ⟨(nm L I W).toArray⟩) ∧ Nw V w') := fun V => rname_any L I W (by omega) (by omega) hW V
  obtain ⟨s, hs⟩ : ∃ s, s = (⟨(nm L I W).toArray⟩ : ByteArray) := ⟨_, rfl⟩
  rw [← hs] at QN ⊢
  clear hs h
  go_enter Tryz.func14, Tryz.ntmps14
  go_wp2_with fail
  refine (QM.out _).mono ?_
  rintro e w1 ⟨rfl, n1⟩
  obtain ⟨⟨l0, l1⟩, b0, b1, n2⟩ := two_made n1
  obtain ⟨d0, d1, d2⟩ := cell3 b0
  have N2 : Hid (Nw w w1) := n2
  have B1 : Hid (w1.heap[w.heap.size + 1]? = some (.cells #[.int .i64 0, .int .i64 0] 29)) := b1
  clear n1 n2 b0 b1
  go_wp2_with fail
  refine (QN.out _).mono ?_
  rintro e w2 ⟨rfl, n3⟩
  have b1 := (n3.block _ (heap_lt B1.out) (fun f => f)).trans B1.out
  have n4 := N2.out.tr n3
  obtain ⟨z0, z1⟩ : _ ∧ _ := ⟨frozen_of b1 0, frozen_of b1 1⟩
  have y0 := (cell_of b1 0)
  have y1 := (cell_of b1 1)
  clear n3
  go_wp2
  refine bodyPost_ret (res_slot_cell (V := #[.int .i64 0, .int .i64 0]) (ty := 29) (f := (0, 0)) Tryz.results14 Tryz.isAgg29 Tryz.sizeOf29 rfl _ rfl ?_ rfl) rfl ⟨rfl, (by repeat first | with_reducible exact n4 | with_reducible refine Fr.alloc ?_ _ | with_reducible refine Fr.drew ?_ | (with_reducible refine Fr.setCell ?_ _ _ (fun h => ?_); rotate_left; focus (simp only at h; omega)))⟩
  (repeat first | with_reducible exact b1 | with_reducible exact heap_new _ _ | with_reducible exact heap_next _ _ _ | with_reducible exact heap_third _ _ _ _ | with_reducible refine hp_dr ?_ | (with_reducible refine hp_ne ?_ ?_; focus omega) | (with_reducible refine hp_al ?_ ?_; focus (first | omega | (simp <;> omega))) | with_reducible apply hp_set) <;> rfl
set_option maxHeartbeats 1000000 in
theorem rpath_no (L I : Nat) (W : Int) (hL : L ≤ 255) (hI : I < 18446744073709551616) (h : ¬ mayT L I W) (w : World) :
    Calls Tryz.prog 14 #[.agg #[.int .u8 (L : Int), .int .u64 (I : Int), .int .i64 W]] w fun e w' => e = .returned (.tuple #[.string ⟨#[]⟩, flt 2 (-1)]) ∧ Nw w w' := by
  have QM : Hid (∀ V, Calls Tryz.prog 83 #[.agg #[.int .u8 (L : Int), .int .u64 (I : Int), .int .i64 W]] V fun e w' => e = .returned (.bool false) ∧ Nw V w') := fun V => rmay_any L I W hL hI false (by simp [h]) V
  have QP : Hid (∀ V, Calls Tryz.prog 27 #[.int .i64 2] V fun e w' => e = .returned (.agg #[.int .i64 2, .int .i64 (-1)]) ∧ Nw V w') := fun V => plain_any 2 V (by decide)
  clear h
  go_enter Tryz.func14, Tryz.ntmps14
  go_wp2_with fail
  refine (QM.out _).mono ?_
  rintro e w1 ⟨rfl, n1⟩
  obtain ⟨⟨l0, l1⟩, b0, b1, n2⟩ := two_made n1
  have N2 : Hid (Nw w w1) := n2
  have B1 : Hid (w1.heap[w.heap.size + 1]? = some (.cells #[.int .i64 0, .int .i64 0] 29)) := b1
  clear n1 n2 b0 b1
  go_wp2_with fail
  refine (QP.out _).mono ?_
  rintro e w2 ⟨rfl, n3⟩
  have b1 := (n3.block _ (heap_lt B1.out) (fun f => f)).trans B1.out
  have n4 := N2.out.tr n3
  obtain ⟨z0, z1⟩ : _ ∧ _ := ⟨frozen_of b1 0, frozen_of b1 1⟩
  have y0 := (cell_of b1 0)
  have y1 := (cell_of b1 1)
  clear n3
  go_wp2
  refine bodyPost_ret (res_slot_cell (V := #[.int .i64 2, .int .i64 (-1)]) (ty := 29) (f := (0, 0)) Tryz.results14 Tryz.isAgg29 Tryz.sizeOf29 rfl _ rfl ?_ rfl) rfl ⟨rfl, (by repeat first | with_reducible exact n4 | with_reducible refine Fr.alloc ?_ _ | with_reducible refine Fr.drew ?_ | (with_reducible refine Fr.setCell ?_ _ _ (fun h => ?_); rotate_left; focus (simp only at h; omega)))⟩
  (repeat first | with_reducible exact b1 | with_reducible exact heap_new _ _ | with_reducible exact heap_next _ _ _ | with_reducible exact heap_third _ _ _ _ | with_reducible refine hp_dr ?_ | (with_reducible refine hp_ne ?_ ?_; focus omega) | (with_reducible refine hp_al ?_ ?_; focus (first | omega | (simp <;> omega))) | with_reducible apply hp_set) <;> rfl
theorem ro_stop {R : List UInt8} {k : Nat} (h1 : (112 : UInt8) ∉ R.take k) (h2 : ∃ r, R.drop k = 112 :: r) : R.takeWhile (fun c => c != 112) = R.take k ∧ R.dropWhile (fun c => c != 112) = R.drop k := by
  obtain ⟨r, hr⟩ := h2
  have := dw_skip (R.take k) (R.drop k) h1
  rw [List.take_append_drop, hr] at this
  rw [this.1, this.2, hr]
  exact ⟨by simp, rfl⟩
theorem ro_none {R : List UInt8} (h1 : (112 : UInt8) ∉ R) : R.takeWhile (fun c => c != 112) = R ∧ R.dropWhile (fun c => c != 112) = [] := by
  have := dw_skip R [] h1
  rw [List.append_nil] at this
  exact ⟨by rw [this.1]; simp, this.2⟩
set_option maxHeartbeats 1000000 in
theorem rparse_short (s : ByteArray) (h : s.size < 8) (w : World) :
    Calls Tryz.prog 16 #[.string s] w fun e w' => e = .returned (.tuple #[tl 0 0 0, flt 3 (-1)]) ∧ Nw w w' := by
  have hi : (s.size : Int) < 8 := by omega
  have QP : Hid (∀ V, Calls Tryz.prog 27 #[.int .i64 3] V fun e w' => e = .returned (.agg #[.int .i64 3, .int .i64 (-1)]) ∧ Nw V w') := fun V => plain_any 3 V (by decide)
  go_enter Tryz.func16, Tryz.ntmps16
  go_wp2_with fail
  refine (QP.out _).mono ?_
  rintro e w1 ⟨rfl, n1⟩
  obtain ⟨⟨l0, l1⟩, b0, b1, n2⟩ := two_made n1
  obtain ⟨d0, d1, d2⟩ := cell3 b0
  obtain ⟨z0, z1, z2⟩ : _ ∧ _ ∧ _ := ⟨frozen_of b0 0, frozen_of b0 1, frozen_of b0 2⟩
  obtain ⟨y0, y1⟩ : _ ∧ _ := ⟨frozen_of b1 0, frozen_of b1 1⟩
  have x0 := (cell_of b1 0)
  have x1 := (cell_of b1 1)
  clear n1
  go_wp2
  go_region
  all_goals
    go_wp2
    refine bodyPost_ret (res_cells (V := #[.int .u8 0, .int .u64 0, .int .i64 0]) (ty := 56) (f := (0, 0)) (U := #[.int .i64 3, .int .i64 (-1)]) (tz := 29) (f2 := (0, 0)) Tryz.results16 Tryz.isAgg56 Tryz.sizeOf56 Tryz.isAgg29 Tryz.sizeOf29 rfl rfl ?hg rfl ?hk rfl) rfl ⟨rfl, (by repeat first | with_reducible exact n2 | with_reducible refine Fr.alloc ?_ _ | with_reducible refine Fr.drew ?_ | (with_reducible refine Fr.setCell ?_ _ _ (fun h => ?_); rotate_left; focus (simp only at h; omega)))⟩
    case hg => (repeat first | with_reducible exact b0 | with_reducible exact heap_new _ _ | with_reducible exact heap_next _ _ _ | with_reducible exact heap_third _ _ _ _ | with_reducible refine hp_dr ?_ | (with_reducible refine hp_ne ?_ ?_; focus omega) | (with_reducible refine hp_al ?_ ?_; focus (first | omega | (simp <;> omega))) | with_reducible apply hp_set) <;> rfl
    case hk => (repeat first | with_reducible exact b1 | with_reducible exact heap_new _ _ | with_reducible exact heap_next _ _ _ | with_reducible exact heap_third _ _ _ _ | with_reducible refine hp_dr ?_ | (with_reducible refine hp_ne ?_ ?_; focus omega) | (with_reducible refine hp_al ?_ ?_; focus (first | omega | (simp <;> omega))) | with_reducible apply hp_set) <;> rfl
end Go.Proofs.YtgobdjdaehlgdaaGreatDoor
namespace Go.Proofs.YtgobdjdaehlgdaaGreatDoor
open Go.RowKit
open Go.Lib (decDigits nDigits)
set_option linter.unusedVariables false
set_option linter.unusedSimpArgs false
theorem ext_mid (s : ByteArray) (a b : Nat) : (s.extract a b).data.toList = (s.data.toList.drop a).take (b - a) := by
  rw [ByteArray.data_extract, Array.toList_extract, List.extract_eq_take_drop]
/-- What lies in memory at the head of Parse's loop. -/
structure Pz (w wr : World) (c : Nat) (L I : Nat) (W : Int) : Prop where
  b2 : wr.heap[w.heap.size]? = some (.cells #[.int .u8 0, .int .u64 0, .int .i64 0] 56)
  b3 : wr.heap[w.heap.size + 1]? = some (.cells #[.int .i64 0, .int .i64 0] 29)
  b4 : wr.heap[c]? = some (.cells #[.int .i64 3, .int .i64 (-1)] 29)
  b5 : wr.heap[c + 1]? = some (.cells #[.int .u8 (L : Int), .int .u64 (I : Int), .int .i64 W] 56)
  lt : w.heap.size + 1 < c
  nw : Nw w wr
theorem Pz.go {w wr w' : World} {c L I : Nat} {W : Int} (h : Pz w wr c L I W) (n : Nw wr w') : Pz w w' c L I W :=
  ⟨(n.block _ (heap_lt h.b2) (fun f => f)).trans h.b2, (n.block _ (heap_lt h.b3) (fun f => f)).trans h.b3, (n.block _ (heap_lt h.b4) (fun f => f)).trans h.b4, (n.block _ (heap_lt h.b5) (fun f => f)).trans h.b5, h.lt, h.nw.tr n⟩
set_option maxRecDepth 100000 in
set_option maxHeartbeats 2000000 in
theorem rparse_any (s : ByteArray) (hs8 : 8 ≤ s.size) (hsb : s.size ≤ 4611686018427387904) (L I W : Nat) (ok : Bool) (hL : roL s.data.toList = L) (hI : roI s.data.toList = I) (hW : roW s.data.toList = W) (hok : ok = true ↔ mayT L I (W : Int) ∧ nm L I W = s.data.toList) (w : World) :
    Calls Tryz.prog 16 #[.string s] w fun e w' => e = .returned (.tuple #[if ok = true then tl L I W else tl 0 0 0, if ok = true then flt 0 0 else flt 3 (-1)]) ∧ Nw w w' := by
  have h8i : ¬ (s.size : Int) < 8 := by omega
  have QP : Hid (∀ V, Calls Tryz.prog 27 #[.int .i64 3] V fun e w' => e = .returned (.agg #[.int .i64 3, .int .i64 (-1)]) ∧ Nw V w') := fun V => plain_any 3 V (by decide)
  have HOK : Hid (ok = true ↔ mayT L I (W : Int) ∧ nm L I W = s.data.toList) := hok
  have HI : Hid (roI s.data.toList = I) := hI
  have HW : Hid (roW s.data.toList = W) := hW
  have hIb : I < 18446744073709551616 := by rw [← hI]; exact dgs_lt _ _ (by decide)
  have hLb : L ≤ 255 := by rw [← hL]; unfold roL; omega
  obtain ⟨D5, hD5⟩ : ∃ D, D = dgs 0 ((s.data.toList.drop 5).take 1) := ⟨_, rfl⟩
  have hD5b : D5 < 18446744073709551616 := by rw [hD5]; exact dgs_lt _ _ (by decide)
  have q5 := rdig_any (s.extract 5 6) (by rw [← bytes_len, ext_mid, List.length_take]; omega)
  rw [ext_mid, ← hD5] at q5
  have hLn : D5 % 256 = L := by rw [← hL, hD5]; rfl
  have hLm : (D5 : Int) % 256 = (L : Int) := by omega
  clear hLn
  obtain ⟨R, hR⟩ : ∃ R, R = s.data.toList.drop 7 := ⟨_, rfl⟩
  have hRl : R.length = s.size - 7 := by rw [hR, List.length_drop, bytes_len]
  have HR : Hid (R = s.data.toList.drop 7) := hR
  have QG : Hid (∀ (x : ByteArray) (V : World), x.size ≤ 4611686018427387904 → Calls Tryz.prog 86 #[.string x] V fun e w' => e = .returned (.int .u64 ((dgs 0 x.data.toList : Nat) : Int)) ∧ w' = V) := fun x V hx => rdig_any x (by omega) V
  have HWI : Hid (∀ (x : ByteArray) (Z : Nat), (x.data.toList = R ∧ Z = 256 ∧ (112 : UInt8) ∉ R) ∨ (x.data.toList = R.takeWhile (fun c => c != 112) ∧ Z = dgs 0 (R.dropWhile (fun c => c != 112)) % 1000 ∧ R.dropWhile (fun c => c != 112) ≠ []) → dgs 0 x.data.toList = I ∧ Z = W) := fun x Z h => by
    rw [← HI.out, ← HW.out]
    unfold roI roW roA roB
    rw [← hR]
    rcases h with ⟨h1, h2, h3⟩ | ⟨h1, h2, h3⟩
    · rw [(ro_none h3).1, (ro_none h3).2, if_pos rfl, h1]; exact ⟨rfl, h2⟩
    · rw [if_neg h3, h1]; exact ⟨rfl, h2⟩
  clear hok hL hI hW hD5 hR HI HW
  go_enter Tryz.func16, Tryz.ntmps16
  go_wp2_with fail
  refine (QP.out _).mono ?_
  rintro e w1 ⟨rfl, n1⟩
  obtain ⟨⟨l0, l1⟩, b0, b1, n2⟩ := two_made n1
  have N2 : Hid (Nw w w1) := n2
  have B0 : Hid (w1.heap[w.heap.size]? = some (.cells #[.int .u8 0, .int .u64 0, .int .i64 0] 56)) := b0
  have B1 : Hid (w1.heap[w.heap.size + 1]? = some (.cells #[.int .i64 0, .int .i64 0] 29)) := b1
  clear n1 n2 b0 b1
  go_wp2_with fail
  refine (q5 _).mono ?_
  rintro e w2 ⟨rfl, rfl⟩
  clear q5
  go_wp2_with fail
  obtain ⟨c, hc⟩ : ∃ c, c = w1.heap.size := ⟨_, rfl⟩
  rw [← hc]
  have HC : Hid (c = w1.heap.size) := hc
  clear hc
  rw [hLm]
  clear hLm
  go_loopw [6, 7] (fun u v wr => ∃ (k : Nat) (x : ByteArray) (Z : Nat), u = .string x ∧ v = .int .i64 (k : Int) ∧ Pz w wr c L 0 (Z : Int) ∧ x.size ≤ R.length ∧ k ≤ R.length + 1 ∧ ((k ≤ x.size ∧ x.data.toList = R ∧ Z = 256 ∧ (112 : UInt8) ∉ R.take k) ∨ (x.size < k ∧ x.data.toList = R.takeWhile (fun c => c != 112) ∧ Z = dgs 0 (R.dropWhile (fun c => c != 112)) % 1000 ∧ R.dropWhile (fun c => c != 112) ≠ []))) (fun _ v _ => R.length + 1 - (intOf v).toNat)
  case atStart =>
    have hc := HC.out
    subst hc
    refine ⟨0, s.extract 7 s.size, 256, rfl, rfl, ?_, ?_, by omega, .inl ⟨by omega, ?_, rfl, by simp⟩⟩
    · refine ⟨?_, ?_, ?_, ?_, by omega, (by repeat first | with_reducible exact N2.out | with_reducible refine Fr.alloc ?_ _ | with_reducible refine Fr.drew ?_ | (with_reducible refine Fr.setCell ?_ _ _ (fun h => ?_); rotate_left; focus (simp only at h; omega)))⟩
      · (repeat first | with_reducible exact B0.out | with_reducible exact heap_new _ _ | with_reducible exact heap_next _ _ _ | with_reducible exact heap_third _ _ _ _ | with_reducible refine hp_dr ?_ | (with_reducible refine hp_ne ?_ ?_; focus omega) | (with_reducible refine hp_al ?_ ?_; focus (first | omega | (simp <;> omega))) | with_reducible apply hp_set) <;> rfl
      · (repeat first | with_reducible exact B1.out | with_reducible exact heap_new _ _ | with_reducible exact heap_next _ _ _ | with_reducible exact heap_third _ _ _ _ | with_reducible refine hp_dr ?_ | (with_reducible refine hp_ne ?_ ?_; focus omega) | (with_reducible refine hp_al ?_ ?_; focus (first | omega | (simp <;> omega))) | with_reducible apply hp_set) <;> rfl
      · (repeat first | with_reducible exact heap_new _ _ | with_reducible exact heap_new _ _ | with_reducible exact heap_next _ _ _ | with_reducible exact heap_third _ _ _ _ | with_reducible refine hp_dr ?_ | (with_reducible refine hp_ne ?_ ?_; focus omega) | (with_reducible refine hp_al ?_ ?_; focus (first | omega | (simp <;> omega))) | with_reducible apply hp_set) <;> rfl
      · exact heap_next _ _ _
    · rw [← bytes_len, ext_drop, ← HR.out]; exact Nat.le_refl _
    · rw [ext_drop, ← HR.out]
  case round =>
    obtain ⟨k, x, Z, rfl, rfl, hp, hxR, hkR, hd⟩ := hrel
    have HP : Hid (Pz w wr c L 0 (Z : Int)) := hp
    have HD : Hid ((k ≤ x.size ∧ x.data.toList = R ∧ Z = 256 ∧ (112 : UInt8) ∉ R.take k) ∨ (x.size < k ∧ x.data.toList = R.takeWhile (fun c => c != 112) ∧ Z = dgs 0 (R.dropWhile (fun c => c != 112)) % 1000 ∧ R.dropWhile (fun c => c != 112) ≠ [])) := hd
    have hxb : x.size ≤ 4611686018427387904 := by omega
    have hcl := HP.out.lt
    have hc5 := heap_lt HP.out.b5
    have hZb : Z < 1000 := by rcases hd with h | h <;> omega
    clear hp hd
    by_cases hlt : k < x.size
    · have hli : (k : Int) < (x.size : Int) := by omega
      have hA : x.data.toList = R ∧ Z = 256 ∧ (112 : UInt8) ∉ R.take k := by
        rcases HD.out with h | h
        · exact h.2
        · omega
      have HA : Hid (x.data.toList = R ∧ Z = 256 ∧ (112 : UInt8) ∉ R.take k) := hA
      have hck : x[k]'hlt = TX.C R k := by rw [TX.C_get x k hlt, HA.out.1]
      have hdr := TX.drop_C R k (by rw [← HA.out.1, bytes_len]; exact hlt)
      have HDR : Hid (R.drop k = TX.C R k :: R.drop (k + 1)) := hdr
      have htk : R.take (k + 1) = R.take k ++ [TX.C R k] := by
        have h1 := List.take_append_drop k R
        rw [List.take_add, hdr]; rfl
      have HTK : Hid (R.take (k + 1) = R.take k ++ [TX.C R k]) := htk
      clear hdr htk hA HD
      obtain ⟨h2, h3⟩ : wr.heap[c + 1]? = some (.cells #[.int .u8 (L : Int), .int .u64 ((0 : Nat) : Int), .int .i64 (Z : Int)] 56) ∧ True := ⟨HP.out.b5, trivial⟩
      have z2 := frozen_of h2 2
      obtain ⟨g0, g1, g2⟩ := cell3 h2
      generalize TX.C R k = ch at hck HDR HTK
      by_cases hc112 : ch = 112
      · subst hc112
        have hz : ((((112 : UInt8).toNat : Int)) == 112) = true := rfl
        have q := QG.out (x.extract k x.size) wr (by rw [← bytes_len, ext_drop, List.length_drop, bytes_len]; omega)
        obtain ⟨N, hN⟩ : ∃ N, N = dgs 0 (x.extract k x.size).data.toList := ⟨_, rfl⟩
        have hNb : N < 18446744073709551616 := by rw [hN]; exact dgs_lt _ _ (by decide)
        rw [← hN] at q
        have hst := ro_stop HA.out.2.2 ⟨_, HDR.out⟩
        have HN : Hid (N = dgs 0 (R.dropWhile (fun c => c != 112))) := by show _ = _; rw [hN, ext_drop, HA.out.1, hst.2]
        have HX : Hid ((x.extract 0 k).data.toList = R.takeWhile (fun c => c != 112)) := by show _ = _; rw [ext_take, HA.out.1, hst.1]
        have HNE : Hid (R.dropWhile (fun c => c != 112) ≠ []) := by show _ ≠ _; rw [hst.2, HDR.out]; simp
        clear hN hst
        go_wp2_with fail
        refine q.mono ?_
        rintro e w3 ⟨rfl, rfl⟩
        go_wp2
        refine ⟨⟨k + 1, x.extract 0 k, N % 1000, rfl, by go_num, ?_, ?_, by omega, .inr ⟨?_, HX.out, by rw [HN.out], HNE.out⟩⟩, by simp [intOf]; omega⟩
        · refine ⟨?_, ?_, ?_, ?_, HP.out.lt, ?_⟩
          · (repeat first | with_reducible exact HP.out.b2 | with_reducible exact heap_new _ _ | with_reducible exact heap_next _ _ _ | with_reducible exact heap_third _ _ _ _ | with_reducible refine hp_dr ?_ | (with_reducible refine hp_ne ?_ ?_; focus omega) | (with_reducible refine hp_al ?_ ?_; focus (first | omega | (simp <;> omega))) | with_reducible apply hp_set) <;> rfl
          · (repeat first | with_reducible exact HP.out.b3 | with_reducible exact heap_new _ _ | with_reducible exact heap_next _ _ _ | with_reducible exact heap_third _ _ _ _ | with_reducible refine hp_dr ?_ | (with_reducible refine hp_ne ?_ ?_; focus omega) | (with_reducible refine hp_al ?_ ?_; focus (first | omega | (simp <;> omega))) | with_reducible apply hp_set) <;> rfl
          · (repeat first | with_reducible exact HP.out.b4 | with_reducible exact heap_new _ _ | with_reducible exact heap_next _ _ _ | with_reducible exact heap_third _ _ _ _ | with_reducible refine hp_dr ?_ | (with_reducible refine hp_ne ?_ ?_; focus omega) | (with_reducible refine hp_al ?_ ?_; focus (first | omega | (simp <;> omega))) | with_reducible apply hp_set) <;> rfl
          · (repeat first | with_reducible exact HP.out.b5 | with_reducible exact heap_new _ _ | with_reducible exact heap_next _ _ _ | with_reducible exact heap_third _ _ _ _ | with_reducible refine hp_dr ?_ | (with_reducible refine hp_ne ?_ ?_; focus omega) | (with_reducible refine hp_al ?_ ?_; focus (first | omega | (simp <;> omega))) | with_reducible apply hp_set) <;> rfl
          · exact (by repeat first | with_reducible exact HP.out.nw | with_reducible refine Fr.alloc ?_ _ | with_reducible refine Fr.drew ?_ | (with_reducible refine Fr.setCell ?_ _ _ (fun h => ?_); rotate_left; focus (simp only at h; omega)))
        · rw [← bytes_len, ext_take, List.length_take, bytes_len]; omega
        · rw [← bytes_len, ext_take, List.length_take, bytes_len]; omega
      · have hz : ((ch.toNat : Int) == 112) = false := by
          rw [beq_eq_false_iff_ne]
          intro e
          exact hc112 (UInt8.toNat_inj.1 (by show ch.toNat = 112; omega))
        have HNI : Hid ((112 : UInt8) ∉ R.take (k + 1)) := by
          show ¬ _
          rw [HTK.out, List.mem_append]
          rintro (h | h)
          · exact HA.out.2.2 h
          · simp at h; exact hc112 h.symm
        clear hc112
        go_wp2
        exact ⟨⟨k + 1, x, Z, rfl, by go_num, HP.out, hxR, by omega, .inl ⟨by omega, HA.out.1, HA.out.2.1, HNI.out⟩⟩, by simp [intOf]; omega⟩
    · have hli : ¬ (k : Int) < (x.size : Int) := by omega
      have hfin := HWI.out x Z (by
        rcases HD.out with ⟨h1, h2, h3, h4⟩ | ⟨h1, h2⟩
        · refine .inl ⟨h2, h3, ?_⟩
          rwa [List.take_of_length_le (by rw [← h2, bytes_len]; omega)] at h4
        · exact .inr h2)
      obtain ⟨hfI, rfl⟩ := hfin
      have q := QG.out x wr hxb
      rw [hfI] at q
      clear hfI HD hlt
      obtain ⟨g0, g1, g2⟩ := cell3 HP.out.b5
      have z1 := frozen_of HP.out.b5 1
      go_wp2_with fail
      refine q.mono ?_
      rintro e w3 ⟨rfl, rfl⟩
      clear q
      have P4 : Hid (Pz w (w3.setCell ⟨c + 1, 1, none⟩ (.int .u64 (I : Int))) c L I (Z : Int)) := by
        refine ⟨?_, ?_, ?_, ?_, hcl, ?_⟩
        · (repeat first | with_reducible exact HP.out.b2 | with_reducible exact heap_new _ _ | with_reducible exact heap_next _ _ _ | with_reducible exact heap_third _ _ _ _ | with_reducible refine hp_dr ?_ | (with_reducible refine hp_ne ?_ ?_; focus omega) | (with_reducible refine hp_al ?_ ?_; focus (first | omega | (simp <;> omega))) | with_reducible apply hp_set) <;> rfl
        · (repeat first | with_reducible exact HP.out.b3 | with_reducible exact heap_new _ _ | with_reducible exact heap_next _ _ _ | with_reducible exact heap_third _ _ _ _ | with_reducible refine hp_dr ?_ | (with_reducible refine hp_ne ?_ ?_; focus omega) | (with_reducible refine hp_al ?_ ?_; focus (first | omega | (simp <;> omega))) | with_reducible apply hp_set) <;> rfl
        · (repeat first | with_reducible exact HP.out.b4 | with_reducible exact heap_new _ _ | with_reducible exact heap_next _ _ _ | with_reducible exact heap_third _ _ _ _ | with_reducible refine hp_dr ?_ | (with_reducible refine hp_ne ?_ ?_; focus omega) | (with_reducible refine hp_al ?_ ?_; focus (first | omega | (simp <;> omega))) | with_reducible apply hp_set) <;> rfl
        · (repeat first | with_reducible exact HP.out.b5 | with_reducible exact heap_new _ _ | with_reducible exact heap_next _ _ _ | with_reducible exact heap_third _ _ _ _ | with_reducible refine hp_dr ?_ | (with_reducible refine hp_ne ?_ ?_; focus omega) | (with_reducible refine hp_al ?_ ?_; focus (first | omega | (simp <;> omega))) | with_reducible apply hp_set) <;> rfl
        · exact (by repeat first | with_reducible exact HP.out.nw | with_reducible refine Fr.alloc ?_ _ | with_reducible refine Fr.drew ?_ | (with_reducible refine Fr.setCell ?_ _ _ (fun h => ?_); rotate_left; focus (simp only at h; omega)))
      obtain ⟨w4, hw4⟩ : ∃ q, q = w3.setCell ⟨c + 1, 1, none⟩ (.int .u64 (I : Int)) := ⟨_, rfl⟩
      rw [← hw4] at P4
      by_cases hm : mayT L I (Z : Int)
      · have hnl := nm_len hm
        have q1 := rmay_any L I (Z : Int) hLb hIb true (by simp [hm]) w4
        have q2 := fun V : World => rname_any L I Z hLb hIb hnl.2.2.2.2 V
        obtain ⟨y, hy⟩ : ∃ y, y = (⟨(nm L I Z).toArray⟩ : ByteArray) := ⟨_, rfl⟩
        have HY : Hid (y.data.toList = nm L I Z) := by show _ = _; rw [hy, bx]
        rw [← hy] at q2
        rw [hw4] at q1
        clear hy hnl
        go_wp2_with fail
        refine q1.mono ?_
        rintro e w5 ⟨rfl, n5⟩
        rw [← hw4] at n5
        clear g0 g1 g2 z1
        have P5 : Hid (Pz w w5 c L I (Z : Int)) := P4.out.go n5
        obtain ⟨g0, g1, g2⟩ := cell3 P5.out.b5
        clear n5 q1 hw4 P4
        go_wp2_with fail
        refine (q2 _).mono ?_
        rintro e w6 ⟨rfl, n6⟩
        have P6 : Hid (Pz w w6 c L I (Z : Int)) := P5.out.go n6
        clear n6 q2 P5 g0 g1 g2
        obtain ⟨g0, g1, g2⟩ := cell3 P6.out.b5
        obtain ⟨d0, d1, d2⟩ := cell3 P6.out.b2
        obtain ⟨z0, z1, z2⟩ : _ ∧ _ ∧ _ := ⟨frozen_of P6.out.b2 0, frozen_of P6.out.b2 1, frozen_of P6.out.b2 2⟩
        obtain ⟨y0, y1⟩ : _ ∧ _ := ⟨frozen_of P6.out.b3 0, frozen_of P6.out.b3 1⟩
        obtain ⟨x0, x1⟩ : w6.cell? ⟨w.heap.size + 1, 0, none⟩ = some (.int .i64 0) ∧ w6.cell? ⟨w.heap.size + 1, 1, none⟩ = some (.int .i64 0) := ⟨(cell_of P6.out.b3 0).trans rfl, (cell_of P6.out.b3 1).trans rfl⟩
        obtain ⟨t0, t1⟩ : w6.cell? ⟨c, 0, none⟩ = some (.int .i64 3) ∧ w6.cell? ⟨c, 1, none⟩ = some (.int .i64 (-1)) := ⟨(cell_of P6.out.b4 0).trans rfl, (cell_of P6.out.b4 1).trans rfl⟩
        have l2 := heap_lt P6.out.b2
        have l3 := heap_lt P6.out.b3
        have n6 := P6.out.nw
        have b2 := P6.out.b2
        have b3 := P6.out.b3
        by_cases hys : y = s
        · subst hys
          obtain rfl : ok = true := HOK.out.2 ⟨hm, HY.out.symm⟩
          go_wp2
          refine bodyPost_ret (res_cells (V := #[.int .u8 (L : Int), .int .u64 (I : Int), .int .i64 (Z : Int)]) (ty := 56) (f := (0, 0)) (U := #[.int .i64 0, .int .i64 0]) (tz := 29) (f2 := (0, 0)) Tryz.results16 Tryz.isAgg56 Tryz.sizeOf56 Tryz.isAgg29 Tryz.sizeOf29 rfl rfl ?hg rfl ?hk rfl) rfl ⟨rfl, (by repeat first | with_reducible exact n6 | with_reducible refine Fr.alloc ?_ _ | with_reducible refine Fr.drew ?_ | (with_reducible refine Fr.setCell ?_ _ _ (fun h => ?_); rotate_left; focus (simp only at h; omega)))⟩
          case hg => (repeat first | with_reducible exact b2 | with_reducible exact heap_new _ _ | with_reducible exact heap_next _ _ _ | with_reducible exact heap_third _ _ _ _ | with_reducible refine hp_dr ?_ | (with_reducible refine hp_ne ?_ ?_; focus omega) | (with_reducible refine hp_al ?_ ?_; focus (first | omega | (simp <;> omega))) | with_reducible apply hp_set) <;> rfl
          case hk => (repeat first | with_reducible exact b3 | with_reducible exact heap_new _ _ | with_reducible exact heap_next _ _ _ | with_reducible exact heap_third _ _ _ _ | with_reducible refine hp_dr ?_ | (with_reducible refine hp_ne ?_ ?_; focus omega) | (with_reducible refine hp_al ?_ ?_; focus (first | omega | (simp <;> omega))) | with_reducible apply hp_set) <;> rfl
        · have hok : ok = false := by
            cases ok with
            | false => rfl
            | true =>
              have := (HOK.out.1 rfl).2
              rw [← HY.out] at this
              exact absurd (ByteArray.ext (Array.ext' this)) hys
          subst hok
          have hq : (y.toList == s.toList) = false := by
            rw [beq_eq_false_iff_ne]
            intro e
            rw [ByteArray.toList_eq, ByteArray.toList_eq] at e
            exact hys (ByteArray.ext (Array.ext' e))
          clear hys g0 g1 g2
          go_wp2
          go_region
          all_goals
            go_wp2
            refine bodyPost_ret (res_cells (V := #[.int .u8 0, .int .u64 0, .int .i64 0]) (ty := 56) (f := (0, 0)) (U := #[.int .i64 3, .int .i64 (-1)]) (tz := 29) (f2 := (0, 0)) Tryz.results16 Tryz.isAgg56 Tryz.sizeOf56 Tryz.isAgg29 Tryz.sizeOf29 rfl rfl ?hg rfl ?hk rfl) rfl ⟨rfl, (by repeat first | with_reducible exact n6 | with_reducible refine Fr.alloc ?_ _ | with_reducible refine Fr.drew ?_ | (with_reducible refine Fr.setCell ?_ _ _ (fun h => ?_); rotate_left; focus (simp only at h; omega)))⟩
            case hg => (repeat first | with_reducible exact b2 | with_reducible exact heap_new _ _ | with_reducible exact heap_next _ _ _ | with_reducible exact heap_third _ _ _ _ | with_reducible refine hp_dr ?_ | (with_reducible refine hp_ne ?_ ?_; focus omega) | (with_reducible refine hp_al ?_ ?_; focus (first | omega | (simp <;> omega))) | with_reducible apply hp_set) <;> rfl
            case hk => (repeat first | with_reducible exact b3 | with_reducible exact heap_new _ _ | with_reducible exact heap_next _ _ _ | with_reducible exact heap_third _ _ _ _ | with_reducible refine hp_dr ?_ | (with_reducible refine hp_ne ?_ ?_; focus omega) | (with_reducible refine hp_al ?_ ?_; focus (first | omega | (simp <;> omega))) | with_reducible apply hp_set) <;> rfl
      · have q1 := rmay_any L I (Z : Int) hLb hIb false (by simp [hm]) w4
        obtain rfl : ok = false := by
          cases ok with
          | false => rfl
          | true => exact absurd (HOK.out.1 rfl).1 hm
        rw [hw4] at q1
        go_wp2_with fail
        refine q1.mono ?_
        rintro e w6 ⟨rfl, n5⟩
        rw [← hw4] at n5
        clear g0 g1 g2 z1
        have P6 : Hid (Pz w w6 c L I (Z : Int)) := P4.out.go n5
        clear n5 q1 hw4 P4 hm
        obtain ⟨d0, d1, d2⟩ := cell3 P6.out.b2
        obtain ⟨z0, z1, z2⟩ : _ ∧ _ ∧ _ := ⟨frozen_of P6.out.b2 0, frozen_of P6.out.b2 1, frozen_of P6.out.b2 2⟩
        obtain ⟨y0, y1⟩ : _ ∧ _ := ⟨frozen_of P6.out.b3 0, frozen_of P6.out.b3 1⟩
        obtain ⟨x0, x1⟩ : w6.cell? ⟨w.heap.size + 1, 0, none⟩ = some (.int .i64 0) ∧ w6.cell? ⟨w.heap.size + 1, 1, none⟩ = some (.int .i64 0) := ⟨(cell_of P6.out.b3 0).trans rfl, (cell_of P6.out.b3 1).trans rfl⟩
        obtain ⟨t0, t1⟩ : w6.cell? ⟨c, 0, none⟩ = some (.int .i64 3) ∧ w6.cell? ⟨c, 1, none⟩ = some (.int .i64 (-1)) := ⟨(cell_of P6.out.b4 0).trans rfl, (cell_of P6.out.b4 1).trans rfl⟩
        have l2 := heap_lt P6.out.b2
        have l3 := heap_lt P6.out.b3
        have n6 := P6.out.nw
        have b2 := P6.out.b2
        have b3 := P6.out.b3
        go_wp2
        go_region
        all_goals
          go_wp2
          refine bodyPost_ret (res_cells (V := #[.int .u8 0, .int .u64 0, .int .i64 0]) (ty := 56) (f := (0, 0)) (U := #[.int .i64 3, .int .i64 (-1)]) (tz := 29) (f2 := (0, 0)) Tryz.results16 Tryz.isAgg56 Tryz.sizeOf56 Tryz.isAgg29 Tryz.sizeOf29 rfl rfl ?hg rfl ?hk rfl) rfl ⟨rfl, (by repeat first | with_reducible exact n6 | with_reducible refine Fr.alloc ?_ _ | with_reducible refine Fr.drew ?_ | (with_reducible refine Fr.setCell ?_ _ _ (fun h => ?_); rotate_left; focus (simp only at h; omega)))⟩
          case hg => (repeat first | with_reducible exact b2 | with_reducible exact heap_new _ _ | with_reducible exact heap_next _ _ _ | with_reducible exact heap_third _ _ _ _ | with_reducible refine hp_dr ?_ | (with_reducible refine hp_ne ?_ ?_; focus omega) | (with_reducible refine hp_al ?_ ?_; focus (first | omega | (simp <;> omega))) | with_reducible apply hp_set) <;> rfl
          case hk => (repeat first | with_reducible exact b3 | with_reducible exact heap_new _ _ | with_reducible exact heap_next _ _ _ | with_reducible exact heap_third _ _ _ _ | with_reducible refine hp_dr ?_ | (with_reducible refine hp_ne ?_ ?_; focus omega) | (with_reducible refine hp_al ?_ ?_; focus (first | omega | (simp <;> omega))) | with_reducible apply hp_set) <;> rfl
end Go.Proofs.YtgobdjdaehlgdaaGreatDoor
