/- compact: a range of some leaves, appended one by one; a beginning that leaves room. -/
import Derived.Test.YthbimomhbeoieaaDoorX17
namespace Go.Proofs.YthbimomhbeoieaaDoor
open Go.RowKit Go.Shelf
set_option linter.unusedVariables false
set_option linter.unusedSimpArgs false
/-- Leaves, appended one by one. -/
def apt (n : Nat) (L : List (List UInt8)) : List Tre := (L.zipIdx n).foldl (fun T p => psh T ⟨0, p.2, p.1⟩) []
theorem apt_snoc (n : Nat) (L : List (List UInt8)) (x : List UInt8) : apt n (L ++ [x]) = psh (apt n L) ⟨0, n + L.length, x⟩ := by
  simp [apt, List.zipIdx_append, List.foldl_append]
theorem apt_ok (n : Nat) : ∀ (k : Nat) (L : List (List UInt8)), L.length = k → (∀ x ∈ L, x.length = 32) → n + L.length ≤ 9223372036854775808 → (∀ t ∈ apt n L, t.ok) ∧ Cvd n (n + L.length) (apt n L)
  | 0, L, hk, _, _ => by
    obtain rfl := List.length_eq_zero_iff.1 hk
    exact ⟨fun t ht => by simp [apt] at ht, Cvd.nil n⟩
  | k + 1, L, hk, h32, hn => by
    rcases List.eq_nil_or_concat L with rfl | ⟨r, x, rfl⟩
    · simp at hk
    · rw [List.concat_eq_append] at h32 hn hk ⊢
      simp only [List.length_append, List.length_cons, List.length_nil, Nat.zero_add] at hk hn
      obtain ⟨i1, i2⟩ := apt_ok n k r (by omega) (fun y hy => h32 y (by simp [hy])) (by omega)
      have hx : Tre.ok ⟨0, n + r.length, x⟩ := ⟨⟨by show 0 ≤ 63; omega, by show (n + r.length + 1) * 2 ^ 0 ≤ 2 ^ 63; omega⟩, h32 x (by simp)⟩
      rw [apt_snoc]
      refine ⟨psh_ok i1 hx, ?_⟩
      have := i2.leaf i1 hx
      rw [List.length_append]
      exact this
theorem apt_len (n : Nat) (L : List (List UInt8)) (h32 : ∀ x ∈ L, x.length = 32) (hn : n + L.length ≤ 9223372036854775808) : (apt n L).length ≤ 128 := ((apt_ok n _ L rfl h32 hn).2).len hn
set_option maxRecDepth 100000 in
set_option maxHeartbeats 2000000 in
theorem appended_any {w : World} (n : Nat) (L : List (List UInt8)) (h32 : ∀ x ∈ L, x.length = 32) (hv : Value) (hH : Hss w hv L) (hn : n + L.length ≤ 9223372036854775808) (hll : L.length < 4611686018427387904) (hL : Laid w) :
    Calls Tryd.prog 20 #[.int .u64 (n : Int), hv] w fun e w' => ∃ rb base v, e = .returned (.pointer (some ⟨rb, 0, none⟩)) ∧ Rg w' rb base v n (n + L.length) (apt n L) ∧ w.heap.size ≤ rb ∧ rb < base ∧ Nw w w' := by
  obtain ⟨ad, hcap, rfl⟩ := hH.form
  have HH : Hid (Hss w (.slice ad L.length hcap) L) := hH
  have H32 : Hid (∀ x ∈ L, x.length = 32) := h32
  have HL : Hid (Laid w) := hL
  have HNB : Hid (n + L.length ≤ 9223372036854775808) := hn
  have hn64 : n < 18446744073709551616 := by omega
  have q0 := rnew_any n hn64 w hL
  obtain ⟨m, hm⟩ : ∃ m, m = L.length := ⟨_, rfl⟩
  rw [← hm] at hn hll
  have HM : Hid (L.length = m) := hm.symm
  have hee : ∀ W : World, (binOp .neq 34 .nilIface .nilIface).run Tryd.prog W = .ok (.bool false) W := fun W => by kernel_rfl
  rw [← hm]
  clear hH h32 hL hm
  go_enter Tryd.func20, Tryd.ntmps20
  go_wp2_with fail
  refine q0.mono ?_
  rintro e w1 ⟨rfl, g1, s1, n1⟩
  obtain ⟨rb, hrb⟩ : ∃ rb, rb = w.heap.size := ⟨_, rfl⟩
  rw [← hrb] at g1 s1 ⊢
  have HRB : Hid (rb = w.heap.size) := hrb
  have G1 : Hid (Rg w1 rb (rb + 1) (.slice none 0 0) n n []) := g1
  have N1 : Hid (Nw w w1) := n1
  clear hrb s1 g1 n1 q0
  go_wp2_with fail
  go_loopw [6] (fun i wr => ∃ (k : Nat) (v : Value), k ≤ m ∧ i = .int .i64 (k : Int) ∧ Rg wr rb (rb + 1) v n (n + k) (apt n (L.take k)) ∧ Nw w wr) (fun i _ => m - (intOf i).toNat)
  case atStart => exact ⟨0, _, by omega, rfl, G1.out, N1.out⟩
  case round =>
    obtain ⟨k, v, hk, rfl, hR, hW⟩ := hrel
    have HR : Hid (Rg wr rb (rb + 1) v n (n + k) (apt n (L.take k))) := hR
    have HW : Hid (Nw w wr) := hW
    clear hR hW
    by_cases hlt : k < m
    · obtain ⟨h, hh⟩ : ∃ h, L[k]? = some h := ⟨_, List.getElem?_eq_getElem (by have := HM.out; omega)⟩
      have hh32 : h.length = 32 := H32.out h (List.mem_of_getElem? hh)
      obtain ⟨ad', cap', q1, q2⟩ := HH.out.nw H32.out HW.out
      rw [HM.out] at q1
      cases q1
      obtain ⟨hg, hoff, rfl, hcs⟩ := q2 k h hh
      have HCS : Hid (∀ j, j < 32 → wr.cell? ⟨hg, hoff + k * 32 + j, none⟩ = (hbs h)[j]?) := hcs
      have hki : (k : Int) < (m : Int) := by omega
      have htk : L.take (k + 1) = L.take k ++ [h] := by rw [List.take_add_one, hh]; rfl
      have hlk : (L.take k).length = k := by rw [List.length_take]; have := HM.out; omega
      have hap : apt n (L.take (k + 1)) = psh (apt n (L.take k)) ⟨0, n + k, h⟩ := by rw [htk, apt_snoc, hlk]
      have HAP : Hid (apt n (L.take (k + 1)) = psh (apt n (L.take k)) ⟨0, n + k, h⟩) := hap
      have hle : (apt n (L.take k)).length ≤ 1000000 := Nat.le_trans (apt_len n (L.take k) (fun x hx => H32.out x (List.mem_of_mem_take hx)) (by rw [hlk]; omega)) (by decide)
      have q3 := rappend_yes HR.out (by omega) h hh32 hle (HL.out.nw HW.out)
      have H3 : Hid (h.length = 32) := hh32
      clear q2 hcs htk hap hle hlk hh hh32
      go_wp2_with (refine wpl_load rfl (.tmp 20) rfl hg (hoff + k * 32) rfl h H3.out HCS.out ?_)
      refine q3.mono ?_
      rintro e w3 ⟨rfl, v3, R3, S3, F3⟩
      rw [← HAP.out] at R3
      have R3' : Hid (Rg w3 rb (rb + 1) v3 n (n + k + 1) (apt n (L.take (k + 1)))) := R3
      have N3 : Hid (Nw w w3) := HW.out.trans F3 (fun j hj q => by
        have h1 := HRB.out
        rcases q with q | q
        · omega
        · have := (HR.out.own.lt j q).1; omega)
      clear q3 R3 S3 F3
      go_wp2_with fail
      exact ⟨⟨k + 1, _, by omega, by go_num, R3'.out, N3.out⟩, by simp [intOf]; omega⟩
    · obtain rfl : k = m := by omega
      have hkn : ¬ (k : Int) < (k : Int) := by omega
      have HRf : Hid (Rg wr rb (rb + 1) v n (n + k) (apt n L)) := by
        have := HR.out
        rw [List.take_of_length_le (Nat.le_of_eq HM.out)] at this
        exact this
      go_wp2
      go_ret
      exact ⟨rb, rfl, rb + 1, ⟨v, HRf.out⟩, by have := HRB.out; omega, by omega, HW.out⟩
/-- A leaf's number that leaves room for so many. -/
def sta (b r : Nat) : Nat := if b > 9223372036854775808 - r then 9223372036854775808 - r - b % 1000 else b
set_option maxHeartbeats 1000000 in
theorem start_any (b r : Nat) (hb : b < 18446744073709551616) (hr : r ≤ 1000000) (w : World) :
    Calls Tryd.prog 19 #[.int .u64 (b : Int), .int .i64 (r : Int)] w fun e w' => e = .returned (.int .u64 (sta b r : Int)) ∧ w' = w := by
  have e1 : IntKind.u64.wrap (9223372036854775808 - IntKind.u64.wrap (r : Int)) = ((9223372036854775808 - r : Nat) : Int) := by rw [w64, w64]; omega
  have e0 : IntKind.u64.wrap (r : Int) = (r : Int) := by rw [w64]; omega
  have e2 : IntKind.u64.wrap (9223372036854775808 - (r : Int)) = ((9223372036854775808 - r : Nat) : Int) := by rw [w64]; omega
  unfold sta
  by_cases h : b > 9223372036854775808 - r
  · rw [if_pos h]
    have hi : ((9223372036854775808 - r : Nat) : Int) < (b : Int) := by omega
    have e3 : IntKind.u64.wrap (((9223372036854775808 - r : Nat) : Int) - (b : Int) % 1000) = ((9223372036854775808 - r - b % 1000 : Nat) : Int) := by rw [w64]; omega
    go_enter Tryd.func19, Tryd.ntmps19
    go_wp2
    go_ret
    exact ⟨rfl, rfl⟩
  · rw [if_neg h]
    have hi : ¬ ((9223372036854775808 - r : Nat) : Int) < (b : Int) := by omega
    go_enter Tryd.func19, Tryd.ntmps19
    go_wp2
    go_ret
    exact ⟨rfl, rfl⟩
end Go.Proofs.YthbimomhbeoieaaDoor
