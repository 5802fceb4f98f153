/- Parent, Sibling, Children of package coord. -/
import Derived.Test.YtaeocbdphfkflaaDoorCg
import Derived.Deep.RegionHeld3
import Derived.Maps.AppendAt
namespace Go.Proofs.YtaeocbdphfkflaaDoor
open Go.RowKit
set_option linter.unusedVariables false
set_option linter.unusedSimpArgs false

/-- The other half. -/
def sib (I : Nat) : Nat := if I % 2 = 0 then I + 1 else I - 1
theorem xor_one (I : Nat) (h : I < 18446744073709551616) : bits BinOp.xor IntKind.u64 (I : Int) 1 = ((sib I : Nat) : Int) := by
  have e1 : (1 : Int) = ((1 : Nat) : Int) := rfl
  rw [e1, bits_xor_u64_nat I 1 h (by omega)]
  congr 1
  unfold sib
  have h1 : (I ^^^ 1) / 2 = I / 2 := by
    have := Nat.xor_div_two_pow (a := I) (b := 1) (n := 1)
    simpa using this
  have h2 : (I ^^^ 1) % 2 = (I + 1) % 2 := by
    have h3 := Nat.xor_mod_two_pow (a := I) (b := 1) (n := 1)
    simp only [Nat.pow_one] at h3
    rw [h3]
    rcases Nat.mod_two_eq_zero_or_one I with h4 | h4 <;> rw [h4] <;> simp <;> omega
  split <;> omega
theorem or_one (I : Nat) (h : I < 9223372036854775808) : bits BinOp.or IntKind.u64 ((I : Int) * 2) 1 = ((2 * I + 1 : Nat) : Int) := by
  have e1 : (1 : Int) = ((1 : Nat) : Int) := rfl
  have e2 : (I : Int) * 2 = ((2 * I : Nat) : Int) := by omega
  rw [e1, e2, bits_or_u64_nat (2 * I) 1 (by omega) (by omega)]
  congr 1
  have h1 : (2 * I ||| 1) / 2 = I := by
    have := Nat.or_div_two_pow (a := 2 * I) (b := 1) (n := 1)
    simpa using this
  have h2 : (2 * I ||| 1) % 2 = 1 := by rw [Nat.or_mod_two_eq_one]; simp
  omega

theorem mul2 (I : Nat) : ((I : Int) * 2) = ((2 * I : Nat) : Int) := by omega
theorem results_cells_slot {P : Program} {w : World} {fn : Func} {i j s : Nat} {t : TypeId} {n g k : Nat} {tmps : Array Value} {V U : Array Value} {ty tz : TypeId} {f f2 : Nat × Nat} (hr : fn.results = #[.cell i t, .cell j t, .tmp s]) (hagg : ∀ W : World, (isAgg t).run P W = .ok true W) (hsz : ∀ W : World, (sizeOf t).run P W = .ok n W)
    (hx : tmps.getD i undef = .pointer (some ⟨g, 0, none⟩)) (hy : tmps.getD j undef = .pointer (some ⟨k, 0, none⟩)) (v : Value) (hv : tmps.getD s undef = v) (hg : w.heap[g]? = some (.cells V ty f)) (hV : V.size = n) (hk : w.heap[k]? = some (.cells U tz f2)) (hU : U.size = n) : (results fn tmps).run P w = .ok (.tuple #[.agg V, .agg U, v]) w := by
  have hl : (loadCells ⟨g, 0, none⟩ n).run P w = .ok V w := by
    have := run_loadCells_list (P := P) w ⟨g, 0, none⟩ V.toList (fun j v hv => by
      rw [addZ, cell_of hg]
      simpa using hv)
    simpa [hV] using this
  have hl2 : (loadCells ⟨k, 0, none⟩ n).run P w = .ok U w := by
    have := run_loadCells_list (P := P) w ⟨k, 0, none⟩ U.toList (fun j v hv => by
      rw [addZ, cell_of hk]
      simpa using hv)
    simpa [hU] using this
  have ha : ∀ (g : Nat) (W : World), (asAddr (.pointer (some ⟨g, 0, none⟩))).run P W = .ok ⟨g, 0, none⟩ W := fun g W => by simp [asAddr]
  have hx2 : tmps[i]?.getD undef = .pointer (some ⟨g, 0, none⟩) := by rw [← hx]; simp [Array.getD]; split <;> simp_all
  have hy2 : tmps[j]?.getD undef = .pointer (some ⟨k, 0, none⟩) := by rw [← hy]; simp [Array.getD]; split <;> simp_all
  have hv2 : tmps[s]?.getD undef = v := by rw [← hv]; simp [Array.getD]; split <;> simp_all
  simp [results, hr, hx2, hy2, hv2, ha, loadVar, hagg, hsz, hl, hl2]
/-- Three blocks that were made ahead of a call, behind it. -/
theorem three_made {w w1 : World} {o p q : Obj} (n1 : Nw (((w.alloc o).alloc p).alloc q) w1) : (w.heap.size < w1.heap.size ∧ w.heap.size + 1 < w1.heap.size ∧ w.heap.size + 1 + 1 < w1.heap.size) ∧ w1.heap[w.heap.size]? = some o ∧ w1.heap[w.heap.size + 1]? = some p ∧ w1.heap[w.heap.size + 1 + 1]? = some q ∧ Nw w w1 := by
  have h := two_made (w := w.alloc o) n1
  simp only [World.size_alloc] at h
  obtain ⟨⟨l1, l2⟩, b1, b2, n2⟩ := h
  obtain ⟨l0, b0, n3⟩ := one_made n2
  exact ⟨⟨l0, l1, l2⟩, b0, b1, b2, n3⟩

end Go.Proofs.YtaeocbdphfkflaaDoor
namespace Go.Proofs.YtaeocbdphfkflaaDoor
open Go.RowKit
set_option linter.unusedVariables false
set_option linter.unusedSimpArgs false

theorem ones_pow : ∀ (f a : Nat), a < 2 ^ f → ∀ k, k ≤ ones f (2 ^ f - 1 - a) ↔ k ≤ f ∧ 2 ^ k ∣ a
  | 0, a, h, k => by
    have : a = 0 := by simpa using h
    subst this
    simp [ones]
  | f + 1, a, h, k => by
    have hs : 2 ^ (f + 1) = 2 * 2 ^ f := Nat.pow_succ'
    have hp := Nat.two_pow_pos f
    rw [hs] at h ⊢
    have ih := ones_pow f (a / 2) (by omega)
    have e : (2 * 2 ^ f - 1 - a) / 2 = 2 ^ f - 1 - a / 2 := by omega
    cases k with
    | zero => simp
    | succ k =>
      by_cases h1 : a % 2 = 0
      · have r : ones (f + 1) (2 * 2 ^ f - 1 - a) = 1 + ones f ((2 * 2 ^ f - 1 - a) / 2) := if_pos (by omega)
        rw [r, e]
        have := ih k
        have hd : 2 ^ (k + 1) ∣ a ↔ 2 ^ k ∣ a / 2 := by
          have ha : a = 2 * (a / 2) := by omega
          rw [Nat.pow_succ', ha, Nat.mul_div_cancel_left _ (by decide : 0 < 2)]
          exact Nat.mul_dvd_mul_iff_left (by decide)
        rw [hd]
        omega
      · have r : ones (f + 1) (2 * 2 ^ f - 1 - a) = 0 := if_neg (by omega)
        rw [r]
        constructor
        · intro hk; omega
        · rintro ⟨_, hk⟩
          exfalso
          have : 2 ^ 1 ∣ a := Nat.dvd_trans (Nat.pow_dvd_pow 2 (by omega)) hk
          omega
/-- The level, as the program reckons it. -/
theorem isW_min (b e k : Nat) (hb : b < e) (he : e ≤ 9223372036854775808) (h1 : 2 ^ k ≤ e - b) (h2 : e - b < 2 * 2 ^ k) : IsW b e (min (ones 64 (18446744073709551615 - b)) k) := by
  have hones := ones_pow 64 b (by have : (2 : Nat) ^ 64 = 18446744073709551616 := by decide
                                  omega)
  have e64 : 2 ^ 64 - 1 - b = 18446744073709551615 - b := rfl
  rw [e64] at hones
  have hk63 : k ≤ 63 := pow_le_inv (by rw [p63]; omega)
  have hs2 : 2 ^ (k + 1) = 2 * 2 ^ k := Nat.pow_succ'
  obtain ⟨o, ho⟩ : ∃ o, o = ones 64 (18446744073709551615 - b) := ⟨_, rfl⟩
  rw [← ho] at hones ⊢
  refine ⟨⟨((hones _).1 (Nat.min_le_left _ _)).2, ?_⟩, ?_⟩
  · have := pow_le2 (Nat.min_le_right o k)
    omega
  · rintro ⟨d1, d2⟩
    rcases Nat.le_total o k with h | h
    · rw [Nat.min_eq_left h] at d1 d2
      have := (hones (o + 1)).2 ⟨by omega, d1⟩
      omega
    · rw [Nat.min_eq_right h] at d2
      omega

theorem isW_tree {L I : Nat} : IsW (I * 2 ^ L) ((I + 1) * 2 ^ L) L := by
  have e : (I + 1) * 2 ^ L = I * 2 ^ L + 2 ^ L := by rw [Nat.add_mul, Nat.one_mul]
  rw [e]
  have hp := Nat.two_pow_pos L
  refine ⟨⟨⟨I, Nat.mul_comm _ _⟩, Nat.le_refl _⟩, fun h => ?_⟩
  have := h.2
  have : 2 ^ (L + 1) = 2 * 2 ^ L := Nat.pow_succ'
  omega
theorem sp_ne {a b c d : Int} (h : ¬ (a = c ∧ b = d)) : (a == c && b == d) = false := by
  rw [Bool.and_eq_false_iff]
  simp only [beq_eq_false_iff_ne, ne_eq]
  omega

end Go.Proofs.YtaeocbdphfkflaaDoor
namespace Go.Proofs.YtaeocbdphfkflaaDoor
open Go.RowKit
set_option linter.unusedVariables false
set_option linter.unusedSimpArgs false

/-- The level that lies in a block. -/
def lvl (W : World) (b : Nat) : Nat := match W.cell? ⟨b, 0, none⟩ with
  | some v => (intOf v).toNat
  | none => 0
theorem lvl_of {W : World} {b L : Nat} {y : Value} {t : TypeId} {f : Nat × Nat} (h : W.heap[b]? = some (.cells #[.int .u8 (L : Int), y] t f)) : lvl W b = L := by
  unfold lvl
  rw [cell2a h]
  simp [intOf]

/-- Both on their way upward, either way round. -/
def Up (La Ia Lb Ib m x y X Y : Nat) : Prop := x ≤ m ∧ y ≤ m ∧ ((La ≤ x ∧ Lb ≤ y ∧ X = Ia / 2 ^ (x - La) ∧ Y = Ib / 2 ^ (y - Lb)) ∨ (Lb ≤ x ∧ La ≤ y ∧ X = Ib / 2 ^ (x - Lb) ∧ Y = Ia / 2 ^ (y - La)))
theorem Up.symm {La Ia Lb Ib m x y X Y : Nat} (h : Up La Ia Lb Ib m x y X Y) : Up La Ia Lb Ib m y x Y X := by
  obtain ⟨h1, h2, h3⟩ := h
  refine ⟨h2, h1, ?_⟩
  rcases h3 with ⟨a, b, c, d⟩ | ⟨a, b, c, d⟩
  · exact .inr ⟨b, a, d, c⟩
  · exact .inl ⟨b, a, d, c⟩
theorem Up.meet {La Ia Lb Ib m x y X Y : Nat} (hC : IsC La Ia Lb Ib m) (h : Up La Ia Lb Ib m x y X Y) (e : x = y) (e2 : X = Y) : x = m ∧ X = Ia / 2 ^ (m - La) := by
  obtain ⟨h1, h2, h3⟩ := h
  rcases h3 with ⟨a, b, c, d⟩ | ⟨a, b, c, d⟩
  · have := hC.meets a b h1 h2 e (by rw [← c, ← d]; exact e2)
    subst this
    exact ⟨rfl, c⟩
  · have := hC.meets b a h2 h1 e.symm (by rw [← c, ← d]; exact e2.symm)
    subst this
    exact ⟨e, by rw [e2]; exact d⟩
theorem Up.up {La Ia Lb Ib m x y X Y : Nat} (hC : IsC La Ia Lb Ib m) (h : Up La Ia Lb Ib m x y X Y) (hne : ¬ (x = y ∧ X = Y)) (hle : x ≤ y) : x < m ∧ Up La Ia Lb Ib m (x + 1) y (X / 2) Y := by
  have hlt : x < m := by
    rcases Nat.lt_or_ge x m with k | k
    · exact k
    · exfalso
      obtain ⟨h1, h2, h3⟩ := h
      have e1 : x = m := by omega
      have e2 : y = m := by omega
      subst e1 e2
      rcases h3 with ⟨a, b, c, d⟩ | ⟨a, b, c, d⟩
      · exact hne ⟨rfl, by rw [c, d]; exact hC.eq⟩
      · exact hne ⟨rfl, by rw [c, d]; exact hC.eq.symm⟩
  refine ⟨hlt, ?_⟩
  obtain ⟨h1, h2, h3⟩ := h
  refine ⟨hlt, h2, ?_⟩
  rcases h3 with ⟨a, b, c, d⟩ | ⟨a, b, c, d⟩
  · exact .inl ⟨by omega, b, by rw [c, anc_up a], d⟩
  · exact .inr ⟨by omega, b, by rw [c, anc_up a], d⟩
theorem Up.bd {La Ia Lb Ib m x y X Y : Nat} (ha : may La Ia) (hb : may Lb Ib) (hm : m ≤ 63) (h : Up La Ia Lb Ib m x y X Y) : X < 9223372036854775808 ∧ Y < 9223372036854775808 := by
  have h1 := may_bd ha
  have h2 := may_bd hb
  rw [p63] at h1 h2
  obtain ⟨_, _, h3⟩ := h
  have d1 : ∀ k, Ia / k ≤ Ia := fun k => Nat.div_le_self _ _
  have d2 : ∀ k, Ib / k ≤ Ib := fun k => Nat.div_le_self _ _
  rcases h3 with ⟨_, _, c, d⟩ | ⟨_, _, c, d⟩
  · have := d1 (2 ^ (x - La)); have := d2 (2 ^ (y - Lb)); omega
  · have := d2 (2 ^ (x - Lb)); have := d1 (2 ^ (y - La)); omega

end Go.Proofs.YtaeocbdphfkflaaDoor
namespace Go.Proofs.YtaeocbdphfkflaaDoor
open Go.RowKit
set_option linter.unusedVariables false
set_option linter.unusedSimpArgs false

/-- Trees as cells. -/
def fl : List (Nat × Nat) → List Value
  | [] => []
  | t :: r => .int .u8 (t.1 : Int) :: .int .u64 (t.2 : Int) :: fl r
theorem fl_len : ∀ l, (fl l).length = l.length * 2
  | [] => rfl
  | t :: r => by simp only [fl, List.length_cons, fl_len r]; omega
theorem fl_app : ∀ l m, fl (l ++ m) = fl l ++ fl m
  | [], m => rfl
  | t :: r, m => by simp only [List.cons_append, fl, fl_app r m]
theorem fl_get : ∀ (l : List (Nat × Nat)) (k : Nat) (t : Nat × Nat), l[k]? = some t → (fl l)[k * 2]? = some (.int .u8 (t.1 : Int)) ∧ (fl l)[k * 2 + 1]? = some (.int .u64 (t.2 : Int))
  | [], k, t, h => by simp at h
  | u :: r, 0, t, h => by simp at h; subst h; exact ⟨rfl, rfl⟩
  | u :: r, k + 1, t, h => by
    have := fl_get r k t (by simpa using h)
    have e : (k + 1) * 2 = k * 2 + 1 + 1 := by omega
    rw [e]
    simpa [fl] using this
theorem fl_one : ∀ (l : List (Nat × Nat)), ∀ u ∈ fl l, u.oneCell' = true
  | [], u, h => by cases h
  | t :: r, u, h => by
    simp only [fl, List.mem_cons] at h
    rcases h with rfl | rfl | h
    · rfl
    · rfl
    · exact fl_one r u h
/-- A row of trees in memory. -/
def Crd (w : World) (v : Value) (l : List (Nat × Nat)) : Prop :=
  ∃ ad cap, v = .slice ad l.length cap ∧ ∀ k t, l[k]? = some t → ∃ g off, ad = some ⟨g, off, none⟩ ∧ g < w.heap.size ∧ w.cell? ⟨g, off + k * 2, none⟩ = some (.int .u8 (t.1 : Int)) ∧ w.cell? ⟨g, off + k * 2 + 1, none⟩ = some (.int .u64 (t.2 : Int))
theorem Crd.nw {w w' : World} {v : Value} {l : List (Nat × Nat)} (h : Crd w v l) (n : Nw w w') : Crd w' v l := by
  obtain ⟨ad, cap, rfl, h⟩ := h
  refine ⟨ad, cap, rfl, fun k t ht => ?_⟩
  obtain ⟨g, off, rfl, h1, h2, h3⟩ := h k t ht
  exact ⟨g, off, rfl, Nat.lt_of_lt_of_le h1 n.size, n.cellOf h2, n.cellOf h3⟩
theorem Crd.len {w : World} {v : Value} {l : List (Nat × Nat)} (h : Crd w v l) : ∃ ad cap, v = .slice ad l.length cap := by
  obtain ⟨ad, cap, rfl, _⟩ := h; exact ⟨ad, cap, rfl⟩

end Go.Proofs.YtaeocbdphfkflaaDoor
namespace Go.Proofs.YtaeocbdphfkflaaDoor
open Go.RowKit
set_option linter.unusedVariables false
set_option linter.unusedSimpArgs false

/-- Where what lies in a block begins. -/
def bgn (W : World) (b : Nat) : Nat := match W.cell? ⟨b, 0, none⟩ with
  | some v => (intOf v).toNat
  | none => 0
theorem bgn_of {W : World} {b x : Nat} {y : Value} {t : TypeId} {f : Nat × Nat} (h : W.heap[b]? = some (.cells #[.int .u64 (x : Int), y] t f)) : bgn W b = x := by
  unfold bgn
  rw [cell2a h]
  simp [intOf]
theorem ownsRow_form {w : World} {base : Nat} {e : TypeId} {size : Nat} {v : Value} {n : Nat} {xs : List Value} (h : w.ownsRow base e size v n xs) : ∃ ad cap, v = .slice ad n cap := by
  rcases h.2 with ⟨rfl, rfl⟩ | ⟨g, cap, cur, rfl, _⟩
  · exact ⟨none, 0, rfl⟩
  · exact ⟨_, _, rfl⟩
theorem ownsRow_base {w : World} {base base' : Nat} {e : TypeId} {size : Nat} {v : Value} {n : Nat} {xs : List Value} (h : w.ownsRow base e size v n xs) (hb : base' ≤ base) : w.ownsRow base' e size v n xs := by
  obtain ⟨h1, h2⟩ := h
  refine ⟨h1, ?_⟩
  rcases h2 with h2 | ⟨g, cap, cur, rfl, hg, h3⟩
  · exact .inl h2
  · exact .inr ⟨g, cap, cur, rfl, Nat.le_trans hb hg, h3⟩
theorem cd_new {w : World} (L I : Int) (t : TypeId) : ∀ j u, [Value.int .u8 L, .int .u64 I][j]? = some u → (w.alloc (.cells #[.int .u8 L, .int .u64 I] t)).cell? ((⟨w.heap.size, 0, none⟩ : Addr).add j) = some u := by
  intro j u h
  rw [addZ, cell_of (heap_new w _)]
  match j, h with
  | 0, h => exact h
  | 1, h => exact h
theorem two_le {L : Nat} (h : L ≤ 63) : 2 ^ L ≤ 9223372036854775808 := by rw [← p63]; exact pow_le2 h

end Go.Proofs.YtaeocbdphfkflaaDoor
