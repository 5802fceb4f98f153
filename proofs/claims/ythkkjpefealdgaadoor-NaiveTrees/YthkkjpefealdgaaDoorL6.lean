/- Path, Proof and Batch of package naive. -/
import Derived.Test.YthkkjpefealdgaaDoorL5
namespace Go.Proofs.YthkkjpefealdgaaDoor
open Go.RowKit
set_option linter.unusedVariables false
set_option linter.unusedSimpArgs false

theorem pth_fit : ∀ (n i b e : Nat), e - b ≤ n → b ≤ e → ∀ t ∈ pth i b e, b ≤ t.1 ∧ t.1 ≤ t.2 ∧ t.2 ≤ e
  | n, i, b, e, hn, hbe, t, ht => by
    by_cases h : 2 ≤ e - b
    · have h1 := spl_lt h
      have h2 := spl_pos (e - b)
      cases n with
      | zero => omega
      | succ n =>
        by_cases hi : i < b + spl (e - b)
        · rw [pth_left h hi] at ht
          rcases List.mem_append.1 ht with ht | ht
          · have := pth_fit n i b (b + spl (e - b)) (by omega) (by omega) t ht; omega
          · rw [List.mem_singleton.1 ht]; refine ⟨?_, ?_, ?_⟩ <;> simp only <;> omega
        · rw [pth_right h hi] at ht
          rcases List.mem_append.1 ht with ht | ht
          · have := pth_fit n i (b + spl (e - b)) e (by omega) (by omega) t ht; omega
          · rw [List.mem_singleton.1 ht]; refine ⟨?_, ?_, ?_⟩ <;> simp only <;> omega
    · rw [pth_one h] at ht; cases ht
theorem prf_fit : ∀ (n o b e : Nat) (known : Bool), e - b ≤ n → b ≤ e → b < o → o ≤ e → ∀ t ∈ prf o b e known, b ≤ t.1 ∧ t.1 ≤ t.2 ∧ t.2 ≤ e
  | n, o, b, e, known, hn, hbe, hbo, hoe, t, ht => by
    by_cases hq : o = e
    · subst hq
      cases known with
      | true => rw [prf_known] at ht; cases ht
      | false => rw [prf_whole, List.mem_singleton] at ht; rw [ht]; refine ⟨?_, ?_, ?_⟩ <;> simp only <;> omega
    · by_cases h : 2 ≤ e - b
      · have h1 := spl_lt h
        have h2 := spl_pos (e - b)
        cases n with
        | zero => omega
        | succ n =>
          by_cases hi : o ≤ b + spl (e - b)
          · rw [prf_left h hq hi] at ht
            rcases List.mem_append.1 ht with ht | ht
            · have := prf_fit n o b (b + spl (e - b)) known (by omega) (by omega) hbo hi t ht; omega
            · rw [List.mem_singleton.1 ht]; refine ⟨?_, ?_, ?_⟩ <;> simp only <;> omega
          · rw [prf_right h hq hi] at ht
            rcases List.mem_append.1 ht with ht | ht
            · have := prf_fit n o (b + spl (e - b)) e false (by omega) (by omega) (by omega) hoe t ht; omega
            · rw [List.mem_singleton.1 ht]; refine ⟨?_, ?_, ?_⟩ <;> simp only <;> omega
      · omega
theorem bat_fit : ∀ (n x y b e : Nat), e - b ≤ n → b ≤ e → ∀ t ∈ bat x y b e, b ≤ t.1 ∧ t.1 ≤ t.2 ∧ t.2 ≤ e
  | n, x, y, b, e, hn, hbe, t, ht => by
    by_cases h0 : y ≤ b ∨ e ≤ x
    · rw [bat_out h0, List.mem_singleton] at ht; rw [ht]; refine ⟨?_, ?_, ?_⟩ <;> simp only <;> omega
    · by_cases hi : x ≤ b ∧ e ≤ y
      · rw [bat_in h0 hi] at ht; cases ht
      · rw [bat_cut h0 hi] at ht
        by_cases h : 2 ≤ e - b
        · have h1 := spl_lt h
          have h2 := spl_pos (e - b)
          cases n with
          | zero => omega
          | succ n =>
            rcases List.mem_append.1 ht with ht | ht
            · have := bat_fit n x y b (b + spl (e - b)) (by omega) (by omega) t ht; omega
            · have := bat_fit n x y (b + spl (e - b)) e (by omega) (by omega) t ht; omega
        · omega
/-- What Path, Proof, Batch answer: the row of the hashes of some stretches, or an error. -/
def Rowed (w w' : World) (L : List ByteArray) (T : List (Nat × Nat)) (e : Ending) : Prop := ∃ v, e = .returned (.tuple #[v, .nilIface]) ∧ w'.ownsRow w.heap.size 32 32 v T.length (hsc (T.map (hst L))) ∧ Nw w w'
def Errd (w w' : World) (x : Addr) (e : Ending) : Prop := e = .returned (.tuple #[.slice none 0 0, sen x]) ∧ Nw w w'

set_option maxHeartbeats 1000000 in
theorem Path_yes {w : World} {b base : Nat} {v : Value} {L : List ByteArray} (h : Lg w b base v L) (i n : Nat) (hc : i < n) (hz : n ≤ L.length) (hL : Laid w) {B : Nat} {a : Nat → Addr} (hS : Sent B w a) :
    Calls Tryd.prog 18 #[.pointer (some ⟨b, 0, none⟩), .int .u64 (i : Int), .int .u64 (n : Int)] w fun e w' => Rowed w w' L (pth i 0 n) e := by
  have hle := h.len
  have qh := has_any h n (by omega) hS
  rw [if_pos hz] at qh
  have qs := path_yes i n hc (by omega) w
  have hlen : (pth i 0 n).length ≤ 200 := by have := pth_len 63 i 0 n (by rw [p63]; omega); omega
  have QH : Hid (∀ w1 u, Nw w w1 → Spn w1 u (pth i 0 n) → Calls Tryd.prog 38 #[.pointer (some ⟨b, 0, none⟩), u, .nilIface] w1 fun e w' => ∃ v, e = .returned (.tuple #[v, .nilIface]) ∧ w'.ownsRow w1.heap.size 32 32 v (pth i 0 n).length (hsc ((pth i 0 n).map (hst L))) ∧ Nw w1 w') := fun w1 u n1 hu => hashes_yes (h.nw n1) _ (fun t ht => by have := pth_fit n i 0 n (by omega) (by omega) t ht; omega) hlen u hu (hL.nw n1) (hS.fr n1 (fun _ _ f => f))
  clear h hL hS
  obtain ⟨T, hT⟩ : ∃ T, T = pth i 0 n := ⟨_, rfl⟩
  rw [← hT] at QH qs hlen ⊢
  clear hT
  go_enter Tryd.func18, Tryd.ntmps18
  go_wp2_with fail
  refine qh.mono ?_
  rintro e w1 ⟨rfl, rfl⟩
  go_wp2_with fail
  refine qs.mono ?_
  rintro e w2 ⟨u, rfl, o2, n2⟩
  have q3 := QH.out w2 u n2 (Spn.of o2)
  obtain ⟨ua, uc, rfl⟩ := ownsRow_form o2
  clear QH o2
  go_wp2_with fail
  refine q3.mono ?_
  rintro e w3 ⟨v3, rfl, o3, n3⟩
  have O3 : Hid (w3.ownsRow w1.heap.size 32 32 v3 T.length (hsc (T.map (hst L)))) := ownsRow_base o3 n2.size
  have N3 : Hid (Nw w1 w3) := n2.tr n3
  obtain ⟨ra, rc, rfl⟩ := ownsRow_form o3
  clear o3 q3 n2 n3
  go_wp2_with fail
  go_ret2
  exact ⟨_, rfl, O3.out, N3.out⟩
set_option maxHeartbeats 1000000 in
theorem Path_bad {w : World} {b base : Nat} {v : Value} {L : List ByteArray} (h : Lg w b base v L) (i n : Nat) (hi : i < 18446744073709551616) (hn : n < 18446744073709551616) (hc : ¬ (i < n)) (hz : n ≤ L.length) {B : Nat} {a : Nat → Addr} (hS : Sent B w a) :
    Calls Tryd.prog 18 #[.pointer (some ⟨b, 0, none⟩), .int .u64 (i : Int), .int .u64 (n : Int)] w fun e w' => Errd w w' (a 4) e := by
  have qh := has_any h n (by omega) hS
  rw [if_pos hz] at qh
  have qs := path_no i n (by omega) hi hn w hS
  have QH : Hid (∀ w1, Nw w w1 → Calls Tryd.prog 38 #[.pointer (some ⟨b, 0, none⟩), .slice none 0 0, sen (a 4)] w1 fun e w' => e = .returned (.tuple #[.slice none 0 0, sen (a 4)]) ∧ Nw w1 w') := fun w1 n1 => hashes_no _ _ (hS.fr n1 (fun _ _ f => f))
  clear h hS
  go_enter Tryd.func18, Tryd.ntmps18
  go_wp2_with fail
  refine qh.mono ?_
  rintro e w1 ⟨rfl, rfl⟩
  go_wp2_with fail
  refine qs.mono ?_
  rintro e w2 ⟨rfl, n2⟩
  go_wp2_with fail
  refine (QH.out _ n2).mono ?_
  rintro e w3 ⟨rfl, n3⟩
  go_wp2_with fail
  go_ret2
  exact ⟨rfl, n2.tr n3⟩
set_option maxHeartbeats 1000000 in
theorem Path_out {w : World} (P : Value) (i n : Nat) (er : Addr) (qh : Calls Tryd.prog 30 #[P, .int .u64 (n : Int)] w fun e w' => e = .returned (sen er) ∧ w' = w) :
    Calls Tryd.prog 18 #[P, .int .u64 (i : Int), .int .u64 (n : Int)] w fun e w' => Errd w w' er e := by
  go_enter Tryd.func18, Tryd.ntmps18
  go_wp2_with fail
  refine qh.mono ?_
  rintro e w1 ⟨rfl, rfl⟩
  go_wp2_with fail
  go_ret2
  exact ⟨rfl, nwr w1⟩
theorem Path_no {w : World} {p : Value} (h : NoL w p) (i n : Nat) {B : Nat} {a : Nat → Addr} (hS : Sent B w a) :
    Calls Tryd.prog 18 #[p, .int .u64 (i : Int), .int .u64 (n : Int)] w fun e w' => Errd w w' (a 0) e := Path_out p i n (a 0) (has_no h n hS)
theorem Path_any {w : World} {b base : Nat} {v : Value} {L : List ByteArray} (h : Lg w b base v L) (i n : Nat) (hi : i < 18446744073709551616) (hn : n < 18446744073709551616) (hL : Laid w) {B : Nat} {a : Nat → Addr} (hS : Sent B w a) :
    Calls Tryd.prog 18 #[.pointer (some ⟨b, 0, none⟩), .int .u64 (i : Int), .int .u64 (n : Int)] w fun e w' => if (i < n) ∧ n ≤ L.length then Rowed w w' L (pth i 0 n) e else Errd w w' (a 4) e := by
  by_cases hz : n ≤ L.length
  · by_cases hc : i < n
    · simp only [if_pos (show (i < n) ∧ n ≤ L.length from ⟨hc, hz⟩)]
      exact Path_yes h i n hc hz hL hS
    · simp only [if_neg (show ¬ ((i < n) ∧ n ≤ L.length) from fun q => hc q.1)]
      exact Path_bad h i n hi hn hc hz hS
  · simp only [if_neg (show ¬ ((i < n) ∧ n ≤ L.length) from fun q => hz q.2)]
    have q := has_any h n hn hS
    rw [if_neg hz] at q
    exact Path_out _ i n (a 4) q

set_option maxHeartbeats 1000000 in
theorem Proof_yes {w : World} {b base : Nat} {v : Value} {L : List ByteArray} (h : Lg w b base v L) (i n : Nat) (hc : 0 < i ∧ i ≤ n) (hz : n ≤ L.length) (hL : Laid w) {B : Nat} {a : Nat → Addr} (hS : Sent B w a) :
    Calls Tryd.prog 19 #[.pointer (some ⟨b, 0, none⟩), .int .u64 (i : Int), .int .u64 (n : Int)] w fun e w' => Rowed w w' L (prf i 0 n true) e := by
  have hle := h.len
  have qh := has_any h n (by omega) hS
  rw [if_pos hz] at qh
  have qs := proof_yes i n hc.1 hc.2 (by omega) w
  have hlen : (prf i 0 n true).length ≤ 200 := by have := prf_len 63 i 0 n true (by rw [p63]; omega) hc.1 hc.2; omega
  have QH : Hid (∀ w1 u, Nw w w1 → Spn w1 u (prf i 0 n true) → Calls Tryd.prog 38 #[.pointer (some ⟨b, 0, none⟩), u, .nilIface] w1 fun e w' => ∃ v, e = .returned (.tuple #[v, .nilIface]) ∧ w'.ownsRow w1.heap.size 32 32 v (prf i 0 n true).length (hsc ((prf i 0 n true).map (hst L))) ∧ Nw w1 w') := fun w1 u n1 hu => hashes_yes (h.nw n1) _ (fun t ht => by have := prf_fit n i 0 n true (by omega) (by omega) hc.1 hc.2 t ht; omega) hlen u hu (hL.nw n1) (hS.fr n1 (fun _ _ f => f))
  clear h hL hS
  obtain ⟨T, hT⟩ : ∃ T, T = prf i 0 n true := ⟨_, rfl⟩
  rw [← hT] at QH qs hlen ⊢
  clear hT
  go_enter Tryd.func19, Tryd.ntmps19
  go_wp2_with fail
  refine qh.mono ?_
  rintro e w1 ⟨rfl, rfl⟩
  go_wp2_with fail
  refine qs.mono ?_
  rintro e w2 ⟨u, rfl, o2, n2⟩
  have q3 := QH.out w2 u n2 (Spn.of o2)
  obtain ⟨ua, uc, rfl⟩ := ownsRow_form o2
  clear QH o2
  go_wp2_with fail
  refine q3.mono ?_
  rintro e w3 ⟨v3, rfl, o3, n3⟩
  have O3 : Hid (w3.ownsRow w1.heap.size 32 32 v3 T.length (hsc (T.map (hst L)))) := ownsRow_base o3 n2.size
  have N3 : Hid (Nw w1 w3) := n2.tr n3
  obtain ⟨ra, rc, rfl⟩ := ownsRow_form o3
  clear o3 q3 n2 n3
  go_wp2_with fail
  go_ret2
  exact ⟨_, rfl, O3.out, N3.out⟩
set_option maxHeartbeats 1000000 in
theorem Proof_bad {w : World} {b base : Nat} {v : Value} {L : List ByteArray} (h : Lg w b base v L) (i n : Nat) (hi : i < 18446744073709551616) (hn : n < 18446744073709551616) (hc : ¬ (0 < i ∧ i ≤ n)) (hz : n ≤ L.length) {B : Nat} {a : Nat → Addr} (hS : Sent B w a) :
    Calls Tryd.prog 19 #[.pointer (some ⟨b, 0, none⟩), .int .u64 (i : Int), .int .u64 (n : Int)] w fun e w' => Errd w w' (a 4) e := by
  have qh := has_any h n (by omega) hS
  rw [if_pos hz] at qh
  have qs := proof_no i n (by omega) hi hn w hS
  have QH : Hid (∀ w1, Nw w w1 → Calls Tryd.prog 38 #[.pointer (some ⟨b, 0, none⟩), .slice none 0 0, sen (a 4)] w1 fun e w' => e = .returned (.tuple #[.slice none 0 0, sen (a 4)]) ∧ Nw w1 w') := fun w1 n1 => hashes_no _ _ (hS.fr n1 (fun _ _ f => f))
  clear h hS
  go_enter Tryd.func19, Tryd.ntmps19
  go_wp2_with fail
  refine qh.mono ?_
  rintro e w1 ⟨rfl, rfl⟩
  go_wp2_with fail
  refine qs.mono ?_
  rintro e w2 ⟨rfl, n2⟩
  go_wp2_with fail
  refine (QH.out _ n2).mono ?_
  rintro e w3 ⟨rfl, n3⟩
  go_wp2_with fail
  go_ret2
  exact ⟨rfl, n2.tr n3⟩
set_option maxHeartbeats 1000000 in
theorem Proof_out {w : World} (P : Value) (i n : Nat) (er : Addr) (qh : Calls Tryd.prog 30 #[P, .int .u64 (n : Int)] w fun e w' => e = .returned (sen er) ∧ w' = w) :
    Calls Tryd.prog 19 #[P, .int .u64 (i : Int), .int .u64 (n : Int)] w fun e w' => Errd w w' er e := by
  go_enter Tryd.func19, Tryd.ntmps19
  go_wp2_with fail
  refine qh.mono ?_
  rintro e w1 ⟨rfl, rfl⟩
  go_wp2_with fail
  go_ret2
  exact ⟨rfl, nwr w1⟩
theorem Proof_no {w : World} {p : Value} (h : NoL w p) (i n : Nat) {B : Nat} {a : Nat → Addr} (hS : Sent B w a) :
    Calls Tryd.prog 19 #[p, .int .u64 (i : Int), .int .u64 (n : Int)] w fun e w' => Errd w w' (a 0) e := Proof_out p i n (a 0) (has_no h n hS)
theorem Proof_any {w : World} {b base : Nat} {v : Value} {L : List ByteArray} (h : Lg w b base v L) (i n : Nat) (hi : i < 18446744073709551616) (hn : n < 18446744073709551616) (hL : Laid w) {B : Nat} {a : Nat → Addr} (hS : Sent B w a) :
    Calls Tryd.prog 19 #[.pointer (some ⟨b, 0, none⟩), .int .u64 (i : Int), .int .u64 (n : Int)] w fun e w' => if (0 < i ∧ i ≤ n) ∧ n ≤ L.length then Rowed w w' L (prf i 0 n true) e else Errd w w' (a 4) e := by
  by_cases hz : n ≤ L.length
  · by_cases hc : 0 < i ∧ i ≤ n
    · simp only [if_pos (show (0 < i ∧ i ≤ n) ∧ n ≤ L.length from ⟨hc, hz⟩)]
      exact Proof_yes h i n hc hz hL hS
    · simp only [if_neg (show ¬ ((0 < i ∧ i ≤ n) ∧ n ≤ L.length) from fun q => hc q.1)]
      exact Proof_bad h i n hi hn hc hz hS
  · simp only [if_neg (show ¬ ((0 < i ∧ i ≤ n) ∧ n ≤ L.length) from fun q => hz q.2)]
    have q := has_any h n hn hS
    rw [if_neg hz] at q
    exact Proof_out _ i n (a 4) q

set_option maxHeartbeats 1000000 in
theorem Batch_yes {w : World} {b base : Nat} {v : Value} {L : List ByteArray} (h : Lg w b base v L) (x y n : Nat) (hc : x < y ∧ y ≤ n) (hz : n ≤ L.length) (hL : Laid w) {B : Nat} {a : Nat → Addr} (hS : Sent B w a) :
    Calls Tryd.prog 20 #[.pointer (some ⟨b, 0, none⟩), .int .u64 (x : Int), .int .u64 (y : Int), .int .u64 (n : Int)] w fun e w' => Rowed w w' L (bat x y 0 n) e := by
  have hle := h.len
  have qh := has_any h n (by omega) hS
  rw [if_pos hz] at qh
  have qs := batch_yes x y n hc.1 hc.2 (by omega) w
  have hlen : (bat x y 0 n).length ≤ 200 := by have := bat_len 63 x y 0 n (by rw [p63]; omega); omega
  have QH : Hid (∀ w1 u, Nw w w1 → Spn w1 u (bat x y 0 n) → Calls Tryd.prog 38 #[.pointer (some ⟨b, 0, none⟩), u, .nilIface] w1 fun e w' => ∃ v, e = .returned (.tuple #[v, .nilIface]) ∧ w'.ownsRow w1.heap.size 32 32 v (bat x y 0 n).length (hsc ((bat x y 0 n).map (hst L))) ∧ Nw w1 w') := fun w1 u n1 hu => hashes_yes (h.nw n1) _ (fun t ht => by have := bat_fit n x y 0 n (by omega) (by omega) t ht; omega) hlen u hu (hL.nw n1) (hS.fr n1 (fun _ _ f => f))
  clear h hL hS
  obtain ⟨T, hT⟩ : ∃ T, T = bat x y 0 n := ⟨_, rfl⟩
  rw [← hT] at QH qs hlen ⊢
  clear hT
  go_enter Tryd.func20, Tryd.ntmps20
  go_wp2_with fail
  refine qh.mono ?_
  rintro e w1 ⟨rfl, rfl⟩
  go_wp2_with fail
  refine qs.mono ?_
  rintro e w2 ⟨u, rfl, o2, n2⟩
  have q3 := QH.out w2 u n2 (Spn.of o2)
  obtain ⟨ua, uc, rfl⟩ := ownsRow_form o2
  clear QH o2
  go_wp2_with fail
  refine q3.mono ?_
  rintro e w3 ⟨v3, rfl, o3, n3⟩
  have O3 : Hid (w3.ownsRow w1.heap.size 32 32 v3 T.length (hsc (T.map (hst L)))) := ownsRow_base o3 n2.size
  have N3 : Hid (Nw w1 w3) := n2.tr n3
  obtain ⟨ra, rc, rfl⟩ := ownsRow_form o3
  clear o3 q3 n2 n3
  go_wp2_with fail
  go_ret2
  exact ⟨_, rfl, O3.out, N3.out⟩
set_option maxHeartbeats 1000000 in
theorem Batch_bad {w : World} {b base : Nat} {v : Value} {L : List ByteArray} (h : Lg w b base v L) (x y n : Nat) (hx : x < 18446744073709551616) (hy : y < 18446744073709551616) (hn : n < 18446744073709551616) (hc : ¬ (x < y ∧ y ≤ n)) (hz : n ≤ L.length) {B : Nat} {a : Nat → Addr} (hS : Sent B w a) :
    Calls Tryd.prog 20 #[.pointer (some ⟨b, 0, none⟩), .int .u64 (x : Int), .int .u64 (y : Int), .int .u64 (n : Int)] w fun e w' => Errd w w' (a 4) e := by
  have qh := has_any h n (by omega) hS
  rw [if_pos hz] at qh
  have qs := batch_no x y n (by omega) hx hy hn w hS
  have QH : Hid (∀ w1, Nw w w1 → Calls Tryd.prog 38 #[.pointer (some ⟨b, 0, none⟩), .slice none 0 0, sen (a 4)] w1 fun e w' => e = .returned (.tuple #[.slice none 0 0, sen (a 4)]) ∧ Nw w1 w') := fun w1 n1 => hashes_no _ _ (hS.fr n1 (fun _ _ f => f))
  clear h hS
  go_enter Tryd.func20, Tryd.ntmps20
  go_wp2_with fail
  refine qh.mono ?_
  rintro e w1 ⟨rfl, rfl⟩
  go_wp2_with fail
  refine qs.mono ?_
  rintro e w2 ⟨rfl, n2⟩
  go_wp2_with fail
  refine (QH.out _ n2).mono ?_
  rintro e w3 ⟨rfl, n3⟩
  go_wp2_with fail
  go_ret2
  exact ⟨rfl, n2.tr n3⟩
set_option maxHeartbeats 1000000 in
theorem Batch_out {w : World} (P : Value) (x y n : Nat) (er : Addr) (qh : Calls Tryd.prog 30 #[P, .int .u64 (n : Int)] w fun e w' => e = .returned (sen er) ∧ w' = w) :
    Calls Tryd.prog 20 #[P, .int .u64 (x : Int), .int .u64 (y : Int), .int .u64 (n : Int)] w fun e w' => Errd w w' er e := by
  go_enter Tryd.func20, Tryd.ntmps20
  go_wp2_with fail
  refine qh.mono ?_
  rintro e w1 ⟨rfl, rfl⟩
  go_wp2_with fail
  go_ret2
  exact ⟨rfl, nwr w1⟩
theorem Batch_no {w : World} {p : Value} (h : NoL w p) (x y n : Nat) {B : Nat} {a : Nat → Addr} (hS : Sent B w a) :
    Calls Tryd.prog 20 #[p, .int .u64 (x : Int), .int .u64 (y : Int), .int .u64 (n : Int)] w fun e w' => Errd w w' (a 0) e := Batch_out p x y n (a 0) (has_no h n hS)
theorem Batch_any {w : World} {b base : Nat} {v : Value} {L : List ByteArray} (h : Lg w b base v L) (x y n : Nat) (hx : x < 18446744073709551616) (hy : y < 18446744073709551616) (hn : n < 18446744073709551616) (hL : Laid w) {B : Nat} {a : Nat → Addr} (hS : Sent B w a) :
    Calls Tryd.prog 20 #[.pointer (some ⟨b, 0, none⟩), .int .u64 (x : Int), .int .u64 (y : Int), .int .u64 (n : Int)] w fun e w' => if (x < y ∧ y ≤ n) ∧ n ≤ L.length then Rowed w w' L (bat x y 0 n) e else Errd w w' (a 4) e := by
  by_cases hz : n ≤ L.length
  · by_cases hc : x < y ∧ y ≤ n
    · simp only [if_pos (show (x < y ∧ y ≤ n) ∧ n ≤ L.length from ⟨hc, hz⟩)]
      exact Batch_yes h x y n hc hz hL hS
    · simp only [if_neg (show ¬ ((x < y ∧ y ≤ n) ∧ n ≤ L.length) from fun q => hc q.1)]
      exact Batch_bad h x y n hx hy hn hc hz hS
  · simp only [if_neg (show ¬ ((x < y ∧ y ≤ n) ∧ n ≤ L.length) from fun q => hz q.2)]
    have q := has_any h n hn hS
    rw [if_neg hz] at q
    exact Batch_out _ x y n (a 4) q
end Go.Proofs.YthkkjpefealdgaaDoor
