/- What Cmp answers. -/
import Derived.Test.YtambfmohhflimabDoorS1
import Derived.ChangeKeysEq
import Derived.BigQuiet
namespace Go.Proofs.YtambfmohhflimabDoor
open Go.RowKit
set_option linter.unusedVariables false
set_option linter.unusedSimpArgs false

/-- The order, from byte k on. -/
def cmpF (A B : List UInt8) : Nat → Nat → Int
  | 0, _ => 0
  | n + 1, k => if (A.getD k 0).toNat < (B.getD k 0).toNat then -1 else if (B.getD k 0).toNat < (A.getD k 0).toNat then 1 else cmpF A B n (k + 1)
/-- The order of two hashes. -/
def cmpH (A B : List UInt8) : Int := cmpF A B 32 0
theorem cmp_skip (A B : List UInt8) : ∀ k, k ≤ 32 → (∀ i, i < k → A.getD i 0 = B.getD i 0) → cmpH A B = cmpF A B (32 - k) k
  | 0, _, _ => rfl
  | k + 1, hk, h => by
    rw [cmp_skip A B k (by omega) (fun i hi => h i (by omega)), show 32 - k = (32 - (k + 1)) + 1 by omega, cmpF, h k (by omega)]
    rw [if_neg (Nat.lt_irrefl _), if_neg (Nat.lt_irrefl _)]
theorem cmp_all (A B : List UInt8) (h : ∀ i, i < 32 → A.getD i 0 = B.getD i 0) : cmpH A B = 0 := cmp_skip A B 32 (Nat.le_refl _) h
theorem cmp_at (A B : List UInt8) (d : Nat) (hd : d < 32) (h : ∀ i, i < d → A.getD i 0 = B.getD i 0) (hne : A.getD d 0 ≠ B.getD d 0) : cmpH A B = if (A.getD d 0).toNat < (B.getD d 0).toNat then -1 else 1 := by
  rw [cmp_skip A B d (by omega) h, show 32 - d = (31 - d) + 1 by omega, cmpF]
  by_cases h1 : (A.getD d 0).toNat < (B.getD d 0).toNat
  · rw [if_pos h1, if_pos h1]
  · rw [if_neg h1, if_neg h1, if_pos]
    have : (A.getD d 0).toNat ≠ (B.getD d 0).toNat := fun e => hne (UInt8.toNat_inj.1 e)
    omega
theorem first_diff (A B : List UInt8) : ∀ n, (∀ i, i < n → A.getD i 0 = B.getD i 0) ∨ ∃ d, d < n ∧ (∀ i, i < d → A.getD i 0 = B.getD i 0) ∧ A.getD d 0 ≠ B.getD d 0
  | 0 => .inl fun i hi => by omega
  | n + 1 => by
    rcases first_diff A B n with h | ⟨d, h1, h2, h3⟩
    · by_cases he : A.getD n 0 = B.getD n 0
      · exact .inl fun i hi => by
          rcases Nat.lt_or_ge i n with h' | h'
          · exact h i h'
          · rw [show i = n by omega]; exact he
      · exact .inr ⟨n, by omega, h, he⟩
    · exact .inr ⟨d, by omega, h2, h3⟩
theorem same_all (A B : List UInt8) (hA : A.length = 32) (hB : B.length = 32) (h : ∀ i, i < 32 → A.getD i 0 = B.getD i 0) : A = B := by
  apply List.ext_getElem (by omega)
  intro i h1 h2
  have := h i (by omega)
  rw [List.getD_eq_getElem?_getD, List.getD_eq_getElem?_getD, List.getElem?_eq_getElem h1, List.getElem?_eq_getElem h2] at this
  exact this

theorem s_plain8 : Tryd.prog.plainKey 5 = true := by kernel_rfl
theorem s_cells5 : Tryd.prog.cellsOf 5 = 1 := by kernel_rfl
theorem s_info8 : (Tryd.prog.info? 5).map (fun i => (i.zero, i.size, i.bytes)) = some (some (.int .u8 0), 1, 1) := by kernel_rfl
theorem eqItems_dec (w : World) (X Y : Array Value) (x y : Nat → UInt8) (hX : ∀ i, i < 32 → X[i]? = some (.int .u8 ((x i).toNat : Nat))) (hY : ∀ i, i < 32 → Y[i]? = some (.int .u8 ((y i).toNat : Nat))) : ∀ (is : List Nat), (∀ i ∈ is, i < 32) → (Op.eqItems 9999 5 1 X Y is).run Tryd.prog w = .ok (decide (∀ i ∈ is, x i = y i)) w
  | [], _ => by simp [Op.eqItems]
  | i :: is, h => by
    have hi := h i (by simp)
    have hg : X[i * 1]? = some (.int .u8 ((x i).toNat : Nat)) := by rw [Nat.mul_one]; exact hX i hi
    have hg2 : Y[i * 1]? = some (.int .u8 ((y i).toNat : Nat)) := by rw [Nat.mul_one]; exact hY i hi
    have hp := run_part_plain w s_plain8 hg
    have hp2 := run_part_plain w s_plain8 hg2
    have ih := eqItems_dec w X Y x y hX hY is (fun j hj => h j (by simp [hj]))
    by_cases he : x i = y i
    · have hq : (Op.equalIn 9999 5 (.int .u8 ((x i).toNat : Nat)) (.int .u8 ((y i).toNat : Nat))).run Tryd.prog w = .ok true w := by
        rw [run_equalIn_int w 9998 5 .u8 .u8 _ _ Tryd.underlying5, he]; simp
      simp only [Op.eqItems, Sem.run_bind, hp, hp2, hq, Result.andThen_ok, Bool.not_true, Bool.false_eq_true, if_false, ih]
      simp [he]
    · have hq : (Op.equalIn 9999 5 (.int .u8 ((x i).toNat : Nat)) (.int .u8 ((y i).toNat : Nat))).run Tryd.prog w = .ok false w := by
        rw [run_equalIn_int w 9998 5 .u8 .u8 _ _ Tryd.underlying5]
        have h1 : (x i).toNat ≠ (y i).toNat := fun e => he (UInt8.toNat_inj.1 e)
        have : ¬ ((x i).toNat : Int) = ((y i).toNat : Int) := by omega
        simp [this]
      simp only [Op.eqItems, Sem.run_bind, hp, hp2, hq, Result.andThen_ok, Bool.not_false, if_true, Sem.run_pure]
      simp [he]
theorem hbs_dec (A B : List UInt8) (hA : A.length = 32) (hB : B.length = 32) (w : World) : (Op.equalIn 10000 23 (.agg (hbs A)) (.agg (hbs B))).run Tryd.prog w = .ok (decide (A = B)) w := by
  obtain ⟨i0, hi, _⟩ := Option.map_eq_some_iff.1 s_info8
  have he := eqItems_dec w (hbs A) (hbs B) (fun i => A.getD i 0) (fun i => B.getD i 0) (fun i hi => hbs_get A i (by omega)) (fun i hi => hbs_get B i (by omega)) (List.range 32) (fun i hi => List.mem_range.1 hi)
  have hd : decide (∀ i ∈ List.range 32, A.getD i 0 = B.getD i 0) = decide (A = B) := by
    rw [decide_eq_decide]
    constructor
    · intro h
      exact same_all A B hA hB (fun i hi => h i (List.mem_range.2 hi))
    · intro h i _
      rw [h]
  rw [run_equalIn_array w 9999 _ _ Tryd.underlying23 hi, s_cells5, ← hd]
  exact he
theorem nan_any (x : Int) (w : World) : Calls Tryd.prog 30 #[.int .u8 x] w fun e w' => e = .returned (.bool false) ∧ w' = w := by
  go_enter Tryd.func30, Tryd.ntmps30
  go_wp2
  go_ret
  exact ⟨rfl, rfl⟩
set_option maxRecDepth 100000 in
set_option maxHeartbeats 1000000 in
theorem compare_any (x y : Nat) (w : World) (h : x ≠ y) : Calls Tryd.prog 22 #[.int .u8 (x : Int), .int .u8 (y : Int)] w fun e w' => e = .returned (.int .i64 (if x < y then -1 else 1)) ∧ ∃ n, w' = w.drewN n := by
  by_cases hlt : x < y
  · have h1 : (x : Int) < (y : Int) := by omega
    rw [if_pos hlt]
    go_enter Tryd.func22, Tryd.ntmps22
    go_wp2_with (go_at_call 30; refine (nan_any _ _).mono ?_; rintro e1 w1 ⟨rfl, rfl⟩)
    go_ret
    exact ⟨rfl, 0, rfl⟩
  · have h1 : ¬ (x : Int) < (y : Int) := by omega
    have h2 : (x : Int) > (y : Int) := by omega
    rw [if_neg hlt]
    go_enter Tryd.func22, Tryd.ntmps22
    go_wp2_with (go_at_call 30; refine (nan_any _ _).mono ?_; rintro e1 w1 ⟨rfl, rfl⟩)
    go_ret
    exact ⟨rfl, 0, rfl⟩
set_option maxRecDepth 100000 in
set_option maxHeartbeats 1000000 in
theorem cmp_any (A B : List UInt8) (hA : A.length = 32) (hB : B.length = 32) (w : World) :
    Calls Tryd.prog 11 #[.agg (hbs A), .agg (hbs B)] w fun e w' => e = .returned (.int .i64 (cmpH A B)) ∧ Nw w w' := by
  have HA : Hid (A.length = 32) := hA
  have HB : Hid (B.length = 32) := hB
  have has : (hbs A).size = 32 := by rw [hbs_size, hA]
  have hbs' : (hbs B).size = 32 := by rw [hbs_size, hB]
  have hq := fun W => hbs_dec A B hA hB W
  obtain ⟨w0, hw0⟩ : ∃ w0, w0 = (w.alloc (.cells (hbs A) 23)).alloc (.cells (hbs B) 23) := ⟨_, rfl⟩
  have n0 : Nw w w0 := by rw [hw0]; exact ((Fr.refl _ _).alloc _).alloc _
  have ja : w0.heap[w.heap.size]? = some (.cells (hbs A) 23) := by rw [hw0]; exact (Below.heap_alloc _ _ _ (by simp)).trans (heap_new w _)
  have jb : w0.heap[w.heap.size + 1]? = some (.cells (hbs B) 23) := by rw [hw0]; exact heap_next w _ _
  have ja' := ja
  have jb' := jb
  rw [hw0] at ja' jb'
  rcases first_diff A B 32 with hall | ⟨d, hd, hpre, hne⟩
  · have he : A = B := same_all A B hA hB hall
    have hdt : decide (A = B) = true := decide_eq_true he
    rw [hdt] at hq
    rw [cmp_all A B hall]
    clear hA hB he hdt hall
    go_enter Tryd.func11, Tryd.ntmps11
    go_wp2_with first
      | (refine wp_load_agg rfl (.tmp 2) 23 32 rfl Tryd.isAgg23 Tryd.sizeOf23 w.heap.size 0 rfl (hbs A) 23 (0, 0) ja' (hbs A) has (fun j _ => by rw [Nat.zero_add]) ?_)
      | (refine wp_load_agg rfl (.tmp 3) 23 32 rfl Tryd.isAgg23 Tryd.sizeOf23 (w.heap.size + 1) 0 rfl (hbs B) 23 (0, 0) jb' (hbs B) hbs' (fun j _ => by rw [Nat.zero_add]) ?_)
    go_ret
    exact ⟨rfl, ((Fr.refl _ _).alloc _).alloc _⟩
  · have he : ¬ A = B := fun e => hne (by rw [e])
    have hdf : decide (A = B) = false := decide_eq_false he
    rw [hdf] at hq
    obtain ⟨Rv, hRv⟩ : ∃ Rv, Rv = cmpH A B := ⟨_, rfl⟩
    rw [← hRv]
    have HRv : Hid (Rv = if (A.getD d 0).toNat < (B.getD d 0).toNat then -1 else 1) := by unfold Hid; rw [hRv]; exact cmp_at A B d hd hpre hne
    clear hRv
    have HP : Hid (∀ i, i < d → A.getD i 0 = B.getD i 0) := hpre
    have HN : Hid (A.getD d 0 ≠ B.getD d 0) := hne
    clear hA hB he hdf hpre hne
    go_enter Tryd.func11, Tryd.ntmps11
    go_wp2_with first
      | (refine wp_load_agg rfl (.tmp 2) 23 32 rfl Tryd.isAgg23 Tryd.sizeOf23 w.heap.size 0 rfl (hbs A) 23 (0, 0) ja' (hbs A) has (fun j _ => by rw [Nat.zero_add]) ?_)
      | (refine wp_load_agg rfl (.tmp 3) 23 32 rfl Tryd.isAgg23 Tryd.sizeOf23 (w.heap.size + 1) 0 rfl (hbs B) 23 (0, 0) jb' (hbs B) hbs' (fun j _ => by rw [Nat.zero_add]) ?_)
    rw [← hw0]
    clear ja' jb' hw0 hq
    go_loopw [5] (fun i wr => ∃ k : Nat, k ≤ d ∧ i = .int .i64 k ∧ Nw w0 wr) (fun i _ => d - (intOf i).toNat)
    case atStart => exact ⟨0, by omega, rfl, Fr.refl _ _⟩
    case round =>
      obtain ⟨k, hk, rfl, hnw⟩ := hrel
      have hki : (k : Int) < 32 := by omega
      have hk0 : (0 : Int) ≤ (k : Int) := by omega
      have ca := (cell_of ((hnw.block _ (heap_lt ja) (fun f => f)).trans ja) k).trans (hbs_get A k (by have := HA.out; omega))
      have cb := (cell_of ((hnw.block _ (heap_lt jb) (fun f => f)).trans jb) k).trans (hbs_get B k (by have := HB.out; omega))
      by_cases hlt : k < d
      · have hee := HP.out k hlt
        rw [← hee] at cb
        generalize A.getD k 0 = c at ca cb
        clear hee
        go_wp2
        go_quiet (fail)
        go_wp2
        exact ⟨⟨k + 1, by omega, by go_num, hnw.drewN _⟩, by simp [intOf]; omega⟩
      · obtain rfl : k = d := by omega
        have hxy : (A.getD k 0).toNat ≠ (B.getD k 0).toNat := fun e => HN.out (UInt8.toNat_inj.1 e)
        have hxi : ¬ ((A.getD k 0).toNat : Int) = ((B.getD k 0).toNat : Int) := by omega
        have hqc := fun W => compare_any (A.getD k 0).toNat (B.getD k 0).toNat W hxy
        rw [← HRv.out] at hqc
        clear HRv
        generalize (A.getD k 0).toNat = x at ca hxi hqc
        generalize (B.getD k 0).toNat = y at cb hxi hqc
        clear hxy
        go_wp2
        go_quiet (fail)
        have HQ : Hid (∀ n, Nw wr (wr.drewN n)) := fun n => (Fr.refl _ wr).drewN n
        generalize hwq : wr.drewN _ = wq
        have nq : Nw wr wq := by rw [← hwq]; exact HQ.out _
        clear hwq HQ
        have ca := nq.cellOf ca
        have cb := nq.cellOf cb
        have hnw := hnw.tr nq
        clear nq
        go_wp2
        go_quiet ((go_at_call 22; refine Calls.quiet_of (hqc _)))
        go_wp2
        go_ret
        exact ⟨rfl, n0.tr (hnw.drewN _)⟩
end Go.Proofs.YtambfmohhflimabDoor
