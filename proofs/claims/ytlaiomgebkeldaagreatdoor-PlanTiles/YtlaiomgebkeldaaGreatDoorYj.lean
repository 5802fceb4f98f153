/- plan: Path, Proof, Batch. -/
import Derived.Test.YtlaiomgebkeldaaGreatDoorYf
namespace Go.Proofs.YtlaiomgebkeldaaGreatDoor
open Go.RowKit
set_option linter.unusedVariables false
set_option linter.unusedSimpArgs false
theorem pth_mem : ∀ (n i b e : Nat), e - b ≤ n → ∀ s ∈ pth i b e, b ≤ s.1 ∧ s.1 < s.2 ∧ s.2 ≤ e
  | n, i, b, e, hn, s, hs => by
    by_cases h : 2 ≤ e - b
    · have h1 := spl_lt h
      have h2 := spl_pos (e - b)
      cases n with
      | zero => omega
      | succ n =>
        by_cases hi : i < b + spl (e - b)
        · rw [pth_left h hi] at hs
          rcases List.mem_append.1 hs with hs | hs
          · have := pth_mem n i b (b + spl (e - b)) (by omega) s hs
            omega
          · simp at hs; subst hs; simp only; omega
        · rw [pth_right h hi] at hs
          rcases List.mem_append.1 hs with hs | hs
          · have := pth_mem n i (b + spl (e - b)) e (by omega) s hs
            omega
          · simp at hs; subst hs; simp only; omega
    · rw [pth_one h] at hs
      simp at hs
theorem prf_mem : ∀ (n o b e : Nat) (known : Bool), e - b ≤ n → b < o → o ≤ e → ∀ s ∈ prf o b e known, b ≤ s.1 ∧ s.1 < s.2 ∧ s.2 ≤ e
  | n, o, b, e, known, hn, hb, he, s, hs => by
    by_cases hoe : o = e
    · subst hoe
      cases known with
      | true => rw [prf_known] at hs; simp at hs
      | false => rw [prf_whole] at hs; simp at hs; subst hs; simp only; omega
    · have h : 2 ≤ e - b := by omega
      have h1 := spl_lt h
      have h2 := spl_pos (e - b)
      cases n with
      | zero => omega
      | succ n =>
        by_cases hi : o ≤ b + spl (e - b)
        · rw [prf_left h hoe hi] at hs
          rcases List.mem_append.1 hs with hs | hs
          · have := prf_mem n o b (b + spl (e - b)) known (by omega) (by omega) (by omega) s hs
            omega
          · simp at hs; subst hs; simp only; omega
        · rw [prf_right h hoe hi] at hs
          rcases List.mem_append.1 hs with hs | hs
          · have := prf_mem n o (b + spl (e - b)) e false (by omega) (by omega) (by omega) s hs
            omega
          · simp at hs; subst hs; simp only; omega
theorem bat_mem : ∀ (n x y b e : Nat), e - b ≤ n → b < e → ∀ s ∈ bat x y b e, b ≤ s.1 ∧ s.1 < s.2 ∧ s.2 ≤ e
  | n, x, y, b, e, hn, hb, s, hs => by
    by_cases h1 : y ≤ b ∨ e ≤ x
    · rw [bat_out h1] at hs; simp at hs; subst hs; simp only; omega
    · by_cases h2 : x ≤ b ∧ e ≤ y
      · rw [bat_in h1 h2] at hs; simp at hs
      · have h : 2 ≤ e - b := by omega
        have h3 := spl_lt h
        have h4 := spl_pos (e - b)
        cases n with
        | zero => omega
        | succ n =>
          rw [bat_cut h1 h2] at hs
          rcases List.mem_append.1 hs with hs | hs
          · have := bat_mem n x y b (b + spl (e - b)) (by omega) (by omega) s hs
            omega
          · have := bat_mem n x y (b + spl (e - b)) e (by omega) (by omega) s hs
            omega
set_option maxHeartbeats 1000000 in
theorem pparts_no (a : Nat → Addr) (w : World) :
    Calls Tryz.prog 33 #[.slice none 0 0, sen (a 4)] w fun x w' => x = .returned (.tuple #[.slice none 0 0, sen (a 4)]) ∧ w' = w := by
  go_enter Tryz.func33, Tryz.ntmps33
  go_wp2
  exact bodyPost_ret (v := .tuple #[.slice none 0 0, sen (a 4)]) (by simp [results, Tryz.results33]) rfl ⟨rfl, rfl⟩
set_option maxHeartbeats 1000000 in
theorem ppath_yes (i n : Nat) (h : i < n) (hn : n ≤ 9223372036854775808) (w : World) (hT : TabAt w) :
    Calls Tryz.prog 9 #[.int .u64 (i : Int), .int .u64 (n : Int)] w fun z w' => ∃ v xs, z = .returned (.tuple #[v, .nilIface]) ∧ Pts w' w.heap.size v xs ((pth i 0 n).map cvr) ∧ Nw w w' := by
  have HT : Hid (TabAt w) := hT
  have QA := path_yes i n h hn w
  have QB : Hid (∀ u W, Nw w W → Spn W u (pth i 0 n) → Calls Tryz.prog 33 #[u, .nilIface] W fun z w' => ∃ v xs, z = .returned (.tuple #[v, .nilIface]) ∧ Pts w' W.heap.size v xs ((pth i 0 n).map cvr) ∧ Nw W w') := fun u W nW hu => pparts_yes u _ (Nat.le_trans (pth_len 63 i 0 n (by rw [p63]; omega)) (by omega)) (fun s hs => by have := pth_mem n i 0 n (by omega) s hs; omega) W hu (HT.out.nw nW)
  obtain ⟨l, hL⟩ : ∃ l, l = pth i 0 n := ⟨_, rfl⟩
  rw [← hL] at QA QB ⊢
  clear hL hT
  go_enter Tryz.func9, Tryz.ntmps9
  go_wp2_with fail
  refine QA.mono ?_
  rintro e w1 ⟨v, rfl, o1, n1⟩
  have hs := Spn.of o1
  obtain ⟨va, vc, rfl⟩ := ownsRow_form o1
  have HQ := QB.out _ w1 n1 hs
  have N1 : Hid (Nw w w1) := n1
  clear o1 hs n1 QA
  go_wp2_with fail
  refine HQ.mono ?_
  rintro e w2 ⟨v2, xs, rfl, p2, n2⟩
  obtain ⟨vb, vd, rfl⟩ := ownsRow_form p2.1
  have P2 : Hid (Pts w2 w1.heap.size (.slice vb (l.map cvr).length vd) xs (l.map cvr)) := p2
  have N2 : Hid (Nw w w2) := N1.out.tr n2
  clear p2 n2 HQ
  go_wp2
  exact bodyPost_ret (v := .tuple #[.slice vb (l.map cvr).length vd, .nilIface]) (by simp [results, Tryz.results9]) rfl ⟨_, xs, rfl, Pts.low P2.out N1.out.size, N2.out⟩

set_option maxHeartbeats 1000000 in
theorem pproof_yes (i n : Nat) (h0 : 0 < i) (h : i ≤ n) (hn : n ≤ 9223372036854775808) (w : World) (hT : TabAt w) :
    Calls Tryz.prog 12 #[.int .u64 (i : Int), .int .u64 (n : Int)] w fun z w' => ∃ v xs, z = .returned (.tuple #[v, .nilIface]) ∧ Pts w' w.heap.size v xs ((prf i 0 n true).map cvr) ∧ Nw w w' := by
  have HT : Hid (TabAt w) := hT
  have QA := proof_yes i n h0 h hn w
  have QB : Hid (∀ u W, Nw w W → Spn W u (prf i 0 n true) → Calls Tryz.prog 33 #[u, .nilIface] W fun z w' => ∃ v xs, z = .returned (.tuple #[v, .nilIface]) ∧ Pts w' W.heap.size v xs ((prf i 0 n true).map cvr) ∧ Nw W w') := fun u W nW hu => pparts_yes u _ (Nat.le_trans (prf_len 63 i 0 n true (by rw [p63]; omega) h0 h) (by omega)) (fun s hs => by have := prf_mem n i 0 n true (by omega) h0 h s hs; omega) W hu (HT.out.nw nW)
  obtain ⟨l, hL⟩ : ∃ l, l = prf i 0 n true := ⟨_, rfl⟩
  rw [← hL] at QA QB ⊢
  clear hL hT
  go_enter Tryz.func12, Tryz.ntmps12
  go_wp2_with fail
  refine QA.mono ?_
  rintro e w1 ⟨v, rfl, o1, n1⟩
  have hs := Spn.of o1
  obtain ⟨va, vc, rfl⟩ := ownsRow_form o1
  have HQ := QB.out _ w1 n1 hs
  have N1 : Hid (Nw w w1) := n1
  clear o1 hs n1 QA
  go_wp2_with fail
  refine HQ.mono ?_
  rintro e w2 ⟨v2, xs, rfl, p2, n2⟩
  obtain ⟨vb, vd, rfl⟩ := ownsRow_form p2.1
  have P2 : Hid (Pts w2 w1.heap.size (.slice vb (l.map cvr).length vd) xs (l.map cvr)) := p2
  have N2 : Hid (Nw w w2) := N1.out.tr n2
  clear p2 n2 HQ
  go_wp2
  exact bodyPost_ret (v := .tuple #[.slice vb (l.map cvr).length vd, .nilIface]) (by simp [results, Tryz.results12]) rfl ⟨_, xs, rfl, Pts.low P2.out N1.out.size, N2.out⟩

set_option maxHeartbeats 1000000 in
theorem pbatch_yes (x y n : Nat) (hxy : x < y) (hy : y ≤ n) (hn : n ≤ 9223372036854775808) (w : World) (hT : TabAt w) :
    Calls Tryz.prog 14 #[.int .u64 (x : Int), .int .u64 (y : Int), .int .u64 (n : Int)] w fun z w' => ∃ v xs, z = .returned (.tuple #[v, .nilIface]) ∧ Pts w' w.heap.size v xs ((bat x y 0 n).map cvr) ∧ Nw w w' := by
  have HT : Hid (TabAt w) := hT
  have QA := batch_yes x y n hxy hy hn w
  have QB : Hid (∀ u W, Nw w W → Spn W u (bat x y 0 n) → Calls Tryz.prog 33 #[u, .nilIface] W fun z w' => ∃ v xs, z = .returned (.tuple #[v, .nilIface]) ∧ Pts w' W.heap.size v xs ((bat x y 0 n).map cvr) ∧ Nw W w') := fun u W nW hu => pparts_yes u _ (Nat.le_trans (bat_len 63 x y 0 n (by rw [p63]; omega)) (by omega)) (fun s hs => by have := bat_mem n x y 0 n (by omega) (by omega) s hs; omega) W hu (HT.out.nw nW)
  obtain ⟨l, hL⟩ : ∃ l, l = bat x y 0 n := ⟨_, rfl⟩
  rw [← hL] at QA QB ⊢
  clear hL hT
  go_enter Tryz.func14, Tryz.ntmps14
  go_wp2_with fail
  refine QA.mono ?_
  rintro e w1 ⟨v, rfl, o1, n1⟩
  have hs := Spn.of o1
  obtain ⟨va, vc, rfl⟩ := ownsRow_form o1
  have HQ := QB.out _ w1 n1 hs
  have N1 : Hid (Nw w w1) := n1
  clear o1 hs n1 QA
  go_wp2_with fail
  refine HQ.mono ?_
  rintro e w2 ⟨v2, xs, rfl, p2, n2⟩
  obtain ⟨vb, vd, rfl⟩ := ownsRow_form p2.1
  have P2 : Hid (Pts w2 w1.heap.size (.slice vb (l.map cvr).length vd) xs (l.map cvr)) := p2
  have N2 : Hid (Nw w w2) := N1.out.tr n2
  clear p2 n2 HQ
  go_wp2
  exact bodyPost_ret (v := .tuple #[.slice vb (l.map cvr).length vd, .nilIface]) (by simp [results, Tryz.results14]) rfl ⟨_, xs, rfl, Pts.low P2.out N1.out.size, N2.out⟩

set_option maxHeartbeats 1000000 in
theorem ppath_no (i n : Nat) (h : ¬ (i < n ∧ n ≤ 9223372036854775808)) (hi : i < 18446744073709551616) (hn : n < 18446744073709551616) (w : World) {B : Nat} {a : Nat → Addr} (hS : Sent B w a) :
    Calls Tryz.prog 9 #[.int .u64 (i : Int), .int .u64 (n : Int)] w fun x w' => x = .returned (.tuple #[.slice none 0 0, sen (a 4)]) ∧ Nw w w' := by
  have QA := path_no i n h hi hn w hS
  have QB := fun W => pparts_no a W
  clear hS
  go_enter Tryz.func9, Tryz.ntmps9
  go_wp2_with fail
  refine QA.mono ?_
  rintro e w1 ⟨rfl, n1⟩
  have N1 : Hid (Nw w w1) := n1
  clear n1 QA
  go_wp2_with fail
  refine (QB _).mono ?_
  rintro e w2 ⟨rfl, rfl⟩
  go_wp2
  exact bodyPost_ret (v := .tuple #[.slice none 0 0, sen (a 4)]) (by simp [results, Tryz.results9]) rfl ⟨rfl, N1.out⟩

set_option maxHeartbeats 1000000 in
theorem pproof_no (i n : Nat) (h : ¬ (0 < i ∧ i ≤ n ∧ n ≤ 9223372036854775808)) (hi : i < 18446744073709551616) (hn : n < 18446744073709551616) (w : World) {B : Nat} {a : Nat → Addr} (hS : Sent B w a) :
    Calls Tryz.prog 12 #[.int .u64 (i : Int), .int .u64 (n : Int)] w fun x w' => x = .returned (.tuple #[.slice none 0 0, sen (a 4)]) ∧ Nw w w' := by
  have QA := proof_no i n h hi hn w hS
  have QB := fun W => pparts_no a W
  clear hS
  go_enter Tryz.func12, Tryz.ntmps12
  go_wp2_with fail
  refine QA.mono ?_
  rintro e w1 ⟨rfl, n1⟩
  have N1 : Hid (Nw w w1) := n1
  clear n1 QA
  go_wp2_with fail
  refine (QB _).mono ?_
  rintro e w2 ⟨rfl, rfl⟩
  go_wp2
  exact bodyPost_ret (v := .tuple #[.slice none 0 0, sen (a 4)]) (by simp [results, Tryz.results12]) rfl ⟨rfl, N1.out⟩

set_option maxHeartbeats 1000000 in
theorem pbatch_no (x y n : Nat) (h : ¬ (x < y ∧ y ≤ n ∧ n ≤ 9223372036854775808)) (hx : x < 18446744073709551616) (hy : y < 18446744073709551616) (hn : n < 18446744073709551616) (w : World) {B : Nat} {a : Nat → Addr} (hS : Sent B w a) :
    Calls Tryz.prog 14 #[.int .u64 (x : Int), .int .u64 (y : Int), .int .u64 (n : Int)] w fun x w' => x = .returned (.tuple #[.slice none 0 0, sen (a 4)]) ∧ Nw w w' := by
  have QA := batch_no x y n h hx hy hn w hS
  have QB := fun W => pparts_no a W
  clear hS
  go_enter Tryz.func14, Tryz.ntmps14
  go_wp2_with fail
  refine QA.mono ?_
  rintro e w1 ⟨rfl, n1⟩
  have N1 : Hid (Nw w w1) := n1
  clear n1 QA
  go_wp2_with fail
  refine (QB _).mono ?_
  rintro e w2 ⟨rfl, rfl⟩
  go_wp2
  exact bodyPost_ret (v := .tuple #[.slice none 0 0, sen (a 4)]) (by simp [results, Tryz.results14]) rfl ⟨rfl, N1.out⟩

end Go.Proofs.YtlaiomgebkeldaaGreatDoor
