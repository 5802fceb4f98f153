/- plan: Path, Proof, Batch. -/
import Derived.Test.YtjkhcplnedcmeaaGreatDoorYgb
namespace Go.Proofs.YtjkhcplnedcmeaaGreatDoor
open Go.RowKit
set_option linter.unusedVariables false
set_option linter.unusedSimpArgs false
theorem pth_mem : ∀ (n i b e : Nat), e - b ≤ n → ∀ s ∈ pth i b e, b ≤ s.1 ∧ s.1 < s.2 ∧ s.2 ≤ e
  | n, i, b, e, hn, s, hs => by
    by_cases h : 2 ≤ e - b
    · have h1 := spl_lt h
      have h2 := spl_pos (e - b)
      cases n with
      | zero => omega
      | succ n =>
        by_cases hi : i < b + spl (e - b)
        · rw [pth_left h hi] at hs
          rcases List.mem_append.1 hs with hs | hs
          · have := pth_mem n i b (b + spl (e - b)) (by omega) s hs
            omega
          · simp at hs; subst hs; simp only; omega
        · rw [pth_right h hi] at hs
          rcases List.mem_append.1 hs with hs | hs
          · have := pth_mem n i (b + spl (e - b)) e (by omega) s hs
            omega
          · simp at hs; subst hs; simp only; omega
    · rw [pth_one h] at hs
      simp at hs
theorem prf_mem : ∀ (n o b e : Nat) (known : Bool), e - b ≤ n → b < o → o ≤ e → ∀ s ∈ prf o b e known, b ≤ s.1 ∧ s.1 < s.2 ∧ s.2 ≤ e
  | n, o, b, e, known, hn, hb, he, s, hs => by
    by_cases hoe : o = e
    · subst hoe
      cases known with
      | true => rw [prf_known] at hs; simp at hs
      | false => rw [prf_whole] at hs; simp at hs; subst hs; simp only; omega
    · have h : 2 ≤ e - b := by omega
      have h1 := spl_lt h
      have h2 := spl_pos (e - b)
      cases n with
      | zero => omega
      | succ n =>
        by_cases hi : o ≤ b + spl (e - b)
        · rw [prf_left h hoe hi] at hs
          rcases List.mem_append.1 hs with hs | hs
          · have := prf_mem n o b (b + spl (e - b)) known (by omega) (by omega) (by omega) s hs
            omega
          · simp at hs; subst hs; simp only; omega
        · rw [prf_right h hoe hi] at hs
          rcases List.mem_append.1 hs with hs | hs
          · have := prf_mem n o (b + spl (e - b)) e false (by omega) (by omega) (by omega) s hs
            omega
          · simp at hs; subst hs; simp only; omega
theorem bat_mem : ∀ (n x y b e : Nat), e - b ≤ n → b < e → ∀ s ∈ bat x y b e, b ≤ s.1 ∧ s.1 < s.2 ∧ s.2 ≤ e
  | n, x, y, b, e, hn, hb, s, hs => by
    by_cases h1 : y ≤ b ∨ e ≤ x
    · rw [bat_out h1] at hs; simp at hs; subst hs; simp only; omega
    · by_cases h2 : x ≤ b ∧ e ≤ y
      · rw [bat_in h1 h2] at hs; simp at hs
      · have h : 2 ≤ e - b := by omega
        have h3 := spl_lt h
        have h4 := spl_pos (e - b)
        cases n with
        | zero => omega
        | succ n =>
          rw [bat_cut h1 h2] at hs
          rcases List.mem_append.1 hs with hs | hs
          · have := bat_mem n x y b (b + spl (e - b)) (by omega) (by omega) s hs
            omega
          · have := bat_mem n x y (b + spl (e - b)) e (by omega) (by omega) s hs
            omega
set_option maxHeartbeats 1000000 in
theorem ppath_yes (i n : Nat) (h : i < n) (hn : n ≤ 9223372036854775808) (w : World) (hT : TabAt w) :
    Calls Tryz.prog 93 #[.int .u64 (i : Int), .int .u64 (n : Int)] w fun z w' => ∃ v xs, z = .returned (.tuple #[v, .nilIface]) ∧ Pts w' w.heap.size v xs ((pth i 0 n).map cvr) ∧ Nw w w' := by
  have HT : Hid (TabAt w) := hT
  have QA := path_yes i n h hn w
  have QB : Hid (∀ u W, Nw w W → Spn W u (pth i 0 n) → Calls Tryz.prog 132 #[u, .nilIface] W fun z w' => ∃ v xs, z = .returned (.tuple #[v, .nilIface]) ∧ Pts w' W.heap.size v xs ((pth i 0 n).map cvr) ∧ Nw W w') := fun u W nW hu => pparts_yes u _ (Nat.le_trans (pth_len 63 i 0 n (by rw [p63]; omega)) (by omega)) (fun s hs => by have := pth_mem n i 0 n (by omega) s hs; omega) W hu (HT.out.nw nW)
  obtain ⟨l, hL⟩ : ∃ l, l = pth i 0 n := ⟨_, rfl⟩
  rw [← hL] at QA QB ⊢
  clear hL hT
  go_enter Tryz.func93, Tryz.ntmps93
  go_wp2_with fail
  refine QA.mono ?_
  rintro e w1 ⟨v, rfl, o1, n1⟩
  have hs := Spn.of o1
  obtain ⟨va, vc, rfl⟩ := ownsRow_form o1
  have HQ := QB.out _ w1 n1 hs
  have N1 : Hid (Nw w w1) := n1
  clear o1 hs n1 QA
  go_wp2_with fail
  refine HQ.mono ?_
  rintro e w2 ⟨v2, xs, rfl, p2, n2⟩
  obtain ⟨vb, vd, rfl⟩ := ownsRow_form p2.1
  have P2 : Hid (Pts w2 w1.heap.size (.slice vb (l.map cvr).length vd) xs (l.map cvr)) := p2
  have N2 : Hid (Nw w w2) := N1.out.tr n2
  clear p2 n2 HQ
  go_wp2
  exact bodyPost_ret (v := .tuple #[.slice vb (l.map cvr).length vd, .nilIface]) (by simp [results, Tryz.results93]) rfl ⟨_, xs, rfl, Pts.low P2.out N1.out.size, N2.out⟩

set_option maxHeartbeats 1000000 in
theorem pproof_yes (i n : Nat) (h0 : 0 < i) (h : i ≤ n) (hn : n ≤ 9223372036854775808) (w : World) (hT : TabAt w) :
    Calls Tryz.prog 107 #[.int .u64 (i : Int), .int .u64 (n : Int)] w fun z w' => ∃ v xs, z = .returned (.tuple #[v, .nilIface]) ∧ Pts w' w.heap.size v xs ((prf i 0 n true).map cvr) ∧ Nw w w' := by
  have HT : Hid (TabAt w) := hT
  have QA := proof_yes i n h0 h hn w
  have QB : Hid (∀ u W, Nw w W → Spn W u (prf i 0 n true) → Calls Tryz.prog 132 #[u, .nilIface] W fun z w' => ∃ v xs, z = .returned (.tuple #[v, .nilIface]) ∧ Pts w' W.heap.size v xs ((prf i 0 n true).map cvr) ∧ Nw W w') := fun u W nW hu => pparts_yes u _ (Nat.le_trans (prf_len 63 i 0 n true (by rw [p63]; omega) h0 h) (by omega)) (fun s hs => by have := prf_mem n i 0 n true (by omega) h0 h s hs; omega) W hu (HT.out.nw nW)
  obtain ⟨l, hL⟩ : ∃ l, l = prf i 0 n true := ⟨_, rfl⟩
  rw [← hL] at QA QB ⊢
  clear hL hT
  go_enter Tryz.func107, Tryz.ntmps107
  go_wp2_with fail
  refine QA.mono ?_
  rintro e w1 ⟨v, rfl, o1, n1⟩
  have hs := Spn.of o1
  obtain ⟨va, vc, rfl⟩ := ownsRow_form o1
  have HQ := QB.out _ w1 n1 hs
  have N1 : Hid (Nw w w1) := n1
  clear o1 hs n1 QA
  go_wp2_with fail
  refine HQ.mono ?_
  rintro e w2 ⟨v2, xs, rfl, p2, n2⟩
  obtain ⟨vb, vd, rfl⟩ := ownsRow_form p2.1
  have P2 : Hid (Pts w2 w1.heap.size (.slice vb (l.map cvr).length vd) xs (l.map cvr)) := p2
  have N2 : Hid (Nw w w2) := N1.out.tr n2
  clear p2 n2 HQ
  go_wp2
  exact bodyPost_ret (v := .tuple #[.slice vb (l.map cvr).length vd, .nilIface]) (by simp [results, Tryz.results107]) rfl ⟨_, xs, rfl, Pts.low P2.out N1.out.size, N2.out⟩

set_option maxHeartbeats 1000000 in
theorem pbatch_yes (x y n : Nat) (hxy : x < y) (hy : y ≤ n) (hn : n ≤ 9223372036854775808) (w : World) (hT : TabAt w) :
    Calls Tryz.prog 110 #[.int .u64 (x : Int), .int .u64 (y : Int), .int .u64 (n : Int)] w fun z w' => ∃ v xs, z = .returned (.tuple #[v, .nilIface]) ∧ Pts w' w.heap.size v xs ((bat x y 0 n).map cvr) ∧ Nw w w' := by
  have HT : Hid (TabAt w) := hT
  have QA := batch_yes x y n hxy hy hn w
  have QB : Hid (∀ u W, Nw w W → Spn W u (bat x y 0 n) → Calls Tryz.prog 132 #[u, .nilIface] W fun z w' => ∃ v xs, z = .returned (.tuple #[v, .nilIface]) ∧ Pts w' W.heap.size v xs ((bat x y 0 n).map cvr) ∧ Nw W w') := fun u W nW hu => pparts_yes u _ (Nat.le_trans (bat_len 63 x y 0 n (by rw [p63]; omega)) (by omega)) (fun s hs => by have := bat_mem n x y 0 n (by omega) (by omega) s hs; omega) W hu (HT.out.nw nW)
  obtain ⟨l, hL⟩ : ∃ l, l = bat x y 0 n := ⟨_, rfl⟩
  rw [← hL] at QA QB ⊢
  clear hL hT
  go_enter Tryz.func110, Tryz.ntmps110
  go_wp2_with fail
  refine QA.mono ?_
  rintro e w1 ⟨v, rfl, o1, n1⟩
  have hs := Spn.of o1
  obtain ⟨va, vc, rfl⟩ := ownsRow_form o1
  have HQ := QB.out _ w1 n1 hs
  have N1 : Hid (Nw w w1) := n1
  clear o1 hs n1 QA
  go_wp2_with fail
  refine HQ.mono ?_
  rintro e w2 ⟨v2, xs, rfl, p2, n2⟩
  obtain ⟨vb, vd, rfl⟩ := ownsRow_form p2.1
  have P2 : Hid (Pts w2 w1.heap.size (.slice vb (l.map cvr).length vd) xs (l.map cvr)) := p2
  have N2 : Hid (Nw w w2) := N1.out.tr n2
  clear p2 n2 HQ
  go_wp2
  exact bodyPost_ret (v := .tuple #[.slice vb (l.map cvr).length vd, .nilIface]) (by simp [results, Tryz.results110]) rfl ⟨_, xs, rfl, Pts.low P2.out N1.out.size, N2.out⟩

end Go.Proofs.YtjkhcplnedcmeaaGreatDoor
namespace Go.Proofs.YtjkhcplnedcmeaaGreatDoor
open Go.RowKit
set_option linter.unusedVariables false
set_option linter.unusedSimpArgs false
theorem cov_whole (c b : Nat) (hd : 2 ^ c ∣ b) : cov b (b + 2 ^ c) = [(c, b / 2 ^ c)] := by
  obtain ⟨I, rfl⟩ := hd
  have hp := Nat.two_pow_pos c
  have hw : IsW (2 ^ c * I) (2 ^ c * I + 2 ^ c) c := by
    have := isW_tree (L := c) (I := I)
    rw [Nat.add_mul, Nat.one_mul, Nat.mul_comm I] at this
    exact this
  rw [cov_step hw, cov_nil (by omega)]
theorem cov_al (c b e : Nat) (hd : 2 ^ c ∣ b) (hbe : b < e) (h : e - b ≤ 2 ^ c) : (cov b e).length ≤ max c 1 := by
  rcases Nat.lt_or_ge (e - b) (2 ^ c) with h1 | h1
  · have := cov_falls c b e hd h1
    omega
  · have e1 : e = b + 2 ^ c := by omega
    rw [e1, cov_whole c b hd]
    simp
    omega
/-- How many trees the covers of stretches have. -/
def tcn (l : List (Nat × Nat)) : Nat := ((l.map cvr).flatten).length
theorem tcn_app (l m : List (Nat × Nat)) : tcn (l ++ m) = tcn l + tcn m := by simp [tcn]
theorem tcn_one (b e : Nat) : tcn [(b, e)] = (cov b e).length := by simp [tcn]
theorem tcn_nil : tcn [] = 0 := rfl
theorem dvd_low {c j b : Nat} (hd : 2 ^ c ∣ b) (h : j ≤ c) : 2 ^ j ∣ b := Nat.dvd_trans (Nat.pow_dvd_pow 2 h) hd
theorem spl_pow (j : Nat) : spl (2 ^ (j + 1)) = 2 ^ j := spl_of (k := j) (by rw [Nat.pow_succ]; have := Nat.two_pow_pos j; omega) (by rw [Nat.pow_succ]; omega)
theorem pth_whole : ∀ (j i b : Nat), 2 ^ j ∣ b → tcn (pth i b (b + 2 ^ j)) ≤ j
  | 0, i, b, hd => by rw [pth_one (by simp), tcn_nil]; omega
  | j + 1, i, b, hd => by
    have hs : spl (b + 2 ^ (j + 1) - b) = 2 ^ j := by rw [show b + 2 ^ (j + 1) - b = 2 ^ (j + 1) by omega, spl_pow]
    have hp : 2 ^ (j + 1) = 2 ^ j + 2 ^ j := by rw [Nat.pow_succ]; omega
    have hp0 := Nat.two_pow_pos j
    have h2 : 2 ≤ b + 2 ^ (j + 1) - b := by omega
    have hd1 : 2 ^ j ∣ b := dvd_low hd (by omega)
    have hd2 : 2 ^ j ∣ b + 2 ^ j := Nat.dvd_add hd1 (Nat.dvd_refl _)
    have he : b + 2 ^ (j + 1) = b + 2 ^ j + 2 ^ j := by omega
    by_cases hi : i < b + spl (b + 2 ^ (j + 1) - b)
    · rw [pth_left h2 hi, tcn_app, tcn_one, hs, he, cov_whole j _ hd2]
      have := pth_whole j i b hd1
      simp
      omega
    · rw [pth_right h2 hi, tcn_app, tcn_one, hs, he, cov_whole j _ hd1]
      have := pth_whole j i (b + 2 ^ j) hd2
      simp
      omega
theorem pth_tcn : ∀ (c i b e : Nat), 2 ^ c ∣ b → e - b ≤ 2 ^ c → tcn (pth i b e) ≤ 2 * c
  | c, i, b, e, hd, h => by
    by_cases h2 : 2 ≤ e - b
    · obtain ⟨j, hj, hj1, hj2⟩ := spl_ex h2
      have hjc : j < c := (Nat.pow_lt_pow_iff_right (by decide)).1 (Nat.lt_of_lt_of_le hj1 h)
      have hd1 : 2 ^ j ∣ b := dvd_low hd (by omega)
      have hd2 : 2 ^ j ∣ b + 2 ^ j := Nat.dvd_add hd1 (Nat.dvd_refl _)
      cases c with
      | zero => omega
      | succ c =>
        by_cases hi : i < b + spl (e - b)
        · rw [pth_left h2 hi, tcn_app, tcn_one, hj]
          have h3 := pth_whole j i b hd1
          have h4 := cov_al j (b + 2 ^ j) e hd2 (by omega) (by omega)
          omega
        · rw [pth_right h2 hi, tcn_app, tcn_one, hj, cov_whole j b hd1]
          have h3 := pth_tcn j i (b + 2 ^ j) e hd2 (by omega)
          simp
          omega
    · rw [pth_one h2, tcn_nil]; omega
  termination_by c => c
theorem prf_wholeT : ∀ (j o b : Nat) (known : Bool), 2 ^ j ∣ b → b < o → o ≤ b + 2 ^ j → tcn (prf o b (b + 2 ^ j) known) ≤ j + 1
  | 0, o, b, known, hd, hb, ho => by
    have : o = b + 2 ^ 0 := by simp at ho ⊢; omega
    rw [this]
    cases known with
    | true => rw [prf_known, tcn_nil]; omega
    | false => rw [prf_whole, tcn_one, cov_whole 0 b hd]; simp
  | j + 1, o, b, known, hd, hb, ho => by
    have hs : spl (b + 2 ^ (j + 1) - b) = 2 ^ j := by rw [show b + 2 ^ (j + 1) - b = 2 ^ (j + 1) by omega, spl_pow]
    have hp : 2 ^ (j + 1) = 2 ^ j + 2 ^ j := by rw [Nat.pow_succ]; omega
    have hp0 := Nat.two_pow_pos j
    have h2 : 2 ≤ b + 2 ^ (j + 1) - b := by omega
    have hd1 : 2 ^ j ∣ b := dvd_low hd (by omega)
    have hd2 : 2 ^ j ∣ b + 2 ^ j := Nat.dvd_add hd1 (Nat.dvd_refl _)
    have he : b + 2 ^ (j + 1) = b + 2 ^ j + 2 ^ j := by omega
    by_cases hoe : o = b + 2 ^ (j + 1)
    · rw [hoe]
      cases known with
      | true => rw [prf_known, tcn_nil]; omega
      | false => rw [prf_whole, tcn_one, cov_whole _ b hd]; simp
    · by_cases hi : o ≤ b + spl (b + 2 ^ (j + 1) - b)
      · rw [prf_left h2 hoe hi, tcn_app, tcn_one, hs, he, cov_whole j _ hd2]
        rw [hs] at hi
        have := prf_wholeT j o b known hd1 hb hi
        simp
        omega
      · rw [prf_right h2 hoe hi, tcn_app, tcn_one, hs, he, cov_whole j _ hd1]
        rw [hs] at hi
        have := prf_wholeT j o (b + 2 ^ j) false hd2 (by omega) (by omega)
        simp
        omega
theorem prf_tcn : ∀ (c o b e : Nat) (known : Bool), 2 ^ c ∣ b → e - b ≤ 2 ^ c → b < o → o ≤ e → tcn (prf o b e known) ≤ 2 * c + 1
  | c, o, b, e, known, hd, h, hb, ho => by
    by_cases hoe : o = e
    · subst hoe
      cases known with
      | true => rw [prf_known, tcn_nil]; omega
      | false =>
        rw [prf_whole, tcn_one]
        have := cov_al c b o hd hb h
        omega
    · have h2 : 2 ≤ e - b := by omega
      obtain ⟨j, hj, hj1, hj2⟩ := spl_ex h2
      have hjc : j < c := (Nat.pow_lt_pow_iff_right (by decide)).1 (Nat.lt_of_lt_of_le hj1 h)
      have hd1 : 2 ^ j ∣ b := dvd_low hd (by omega)
      have hd2 : 2 ^ j ∣ b + 2 ^ j := Nat.dvd_add hd1 (Nat.dvd_refl _)
      cases c with
      | zero => omega
      | succ c =>
        by_cases hi : o ≤ b + spl (e - b)
        · rw [prf_left h2 hoe hi, tcn_app, tcn_one, hj]
          rw [hj] at hi
          have h3 := prf_wholeT j o b known hd1 hb hi
          have h4 := cov_al j (b + 2 ^ j) e hd2 (by omega) (by omega)
          omega
        · rw [prf_right h2 hoe hi, tcn_app, tcn_one, hj, cov_whole j b hd1]
          rw [hj] at hi
          have h3 := prf_tcn j o (b + 2 ^ j) e false hd2 (by omega) (by omega) ho
          simp
          omega
  termination_by c => c
theorem cov_gd : ∀ (n b e S : Nat), e - b ≤ n → e ≤ S → S ≤ 9223372036854775808 → ∀ c ∈ cov b e, gdT S c
  | n, b, e, S, hn, he, hS, c, hc => by
    by_cases h : b < e
    · have hw := lev_is h
      have hp := Nat.two_pow_pos (lev b e)
      have hf : 2 ^ (lev b e) ∣ b := hw.1.1
      have hf2 : b + 2 ^ (lev b e) ≤ e := hw.1.2
      rw [cov_step hw] at hc
      rcases List.mem_cons.1 hc with rfl | hc
      · refine ⟨isW_may hw (by rw [p63]; omega), ?_⟩
        simp only
        rw [Nat.add_mul, Nat.one_mul, Nat.div_mul_cancel hf]
        omega
      · cases n with
        | zero => omega
        | succ n => exact cov_gd n _ e S (by omega) he hS c hc
    · rw [cov_nil h] at hc; simp at hc
theorem flat_gd (S : Nat) (hS : S ≤ 9223372036854775808) (l : List (Nat × Nat)) (h : ∀ s ∈ l, s.2 ≤ S) : gdA S (l.map cvr).flatten := by
  intro c hc
  obtain ⟨m, hm, hcm⟩ := List.mem_flatten.1 hc
  obtain ⟨s, hs, rfl⟩ := List.mem_map.1 hm
  exact cov_gd _ s.1 s.2 S (Nat.le_refl _) (h s hs) hS c hcm
end Go.Proofs.YtjkhcplnedcmeaaGreatDoor
