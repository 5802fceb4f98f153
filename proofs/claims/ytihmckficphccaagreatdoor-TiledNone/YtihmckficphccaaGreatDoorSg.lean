/- Split of package shape; the two parts of a stretch. -/
import Derived.Test.YtihmckficphccaaGreatDoorCg
import Derived.Test.YtihmckficphccaaGreatDoorN1
import Derived.Deep.RegionHeld3
namespace Go.Proofs.YtihmckficphccaaGreatDoor
open Go.RowKit
set_option linter.unusedVariables false
set_option linter.unusedSimpArgs false

theorem isC_spl {n k : Nat} (h1 : 2 ^ k < n) (h2 : n ≤ 2 * 2 ^ k) : IsC 0 0 0 (n - 1) (k + 1) := by
  refine ⟨by omega, by omega, ?_, fun j _ _ hj => ?_⟩
  · rw [Nat.zero_div, Nat.sub_zero]
    refine (Nat.div_eq_of_lt ?_).symm
    rw [Nat.pow_succ']
    have := Nat.two_pow_pos k
    omega
  · rw [Nat.zero_div, Nat.sub_zero]
    have h3 : 2 ^ j ≤ 2 ^ k := pow_le2 (by omega)
    have h4 := Nat.two_pow_pos j
    have : 0 < (n - 1) / 2 ^ j := Nat.div_pos (by omega) h4
    omega

set_option maxHeartbeats 2000000 in
theorem split_yes (n : Nat) (h1 : 2 ≤ n) (h2 : n ≤ 9223372036854775808) (w : World) :
    Calls Tryz.prog 86 #[.int .u64 (n : Int)] w fun x w' => x = .returned (.tuple #[.int .u64 (spl n : Int), .bool true]) ∧ Nw w w' := by
  obtain ⟨k, e, k1, k2⟩ := spl_ex h1
  have hk : k < 63 := pow_lt_inv (by rw [p63]; omega)
  have q := common_yes 0 0 0 (n - 1) (k + 1) ⟨by omega, by simp⟩ ⟨by omega, by rw [p63]; simp; omega⟩ (isC_spl k1 k2)
  simp only [Nat.zero_div] at q
  have Q := show Hid _ from q
  have hs : IntKind.u64.wrap (2 ^ k) = ((2 ^ k : Nat) : Int) := by
    rw [w64, ← pow_cast]
    have := two_le (L := k) (by omega)
    omega
  rw [e]
  have hn1 : ((n : Int) - 1) = ((n - 1 : Nat) : Int) := by omega
  clear q e k1 k2
  go_enter Tryz.func86, Tryz.ntmps86
  go_wp2_with fail
  refine (Q.out _).mono ?_
  rintro x w1 ⟨rfl, n1⟩
  obtain ⟨⟨l0, l1⟩, b0, b1, n2⟩ := two_made n1
  clear n1
  have e1 : ((k + 1 : Nat) : Int) - 1 = (k : Int) := by omega
  go_wp2
  go_ret2
  refine ⟨?_, (by repeat first | with_reducible exact n2 | with_reducible refine Fr.alloc ?_ _ | with_reducible refine Fr.drew ?_ | (with_reducible refine Fr.setCell ?_ _ _ (fun h => ?_); rotate_left; focus (simp only at h; omega)))⟩
  rw [pow_cast]; rfl
theorem split_no (n : Nat) (h1 : ¬ (2 ≤ n ∧ n ≤ 9223372036854775808)) (h2 : n < 18446744073709551616) (w : World) :
    Calls Tryz.prog 86 #[.int .u64 (n : Int)] w fun x w' => x = .returned (.tuple #[.int .u64 0, .bool false]) ∧ Nw w w' := by
  by_cases h : n < 2
  · go_enter Tryz.func86, Tryz.ntmps86
    go_wp2
    go_ret2
    exact ⟨rfl, nwr w⟩
  · have h3 : 9223372036854775808 < n := by omega
    clear h1
    go_enter Tryz.func86, Tryz.ntmps86
    go_wp2
    go_ret2
    exact ⟨rfl, nwr w⟩

theorem results_two {P : Program} {w : World} {fn : Func} {i j : Nat} {t : TypeId} {n g k : Nat} {tmps : Array Value} {V U : Array Value} {ty tz : TypeId} {f f2 : Nat × Nat} (hr : fn.results = #[.cell i t, .cell j t]) (hagg : ∀ W : World, (isAgg t).run P W = .ok true W) (hsz : ∀ W : World, (sizeOf t).run P W = .ok n W)
    (hx : tmps.getD i undef = .pointer (some ⟨g, 0, none⟩)) (hy : tmps.getD j undef = .pointer (some ⟨k, 0, none⟩)) (hg : w.heap[g]? = some (.cells V ty f)) (hV : V.size = n) (hk : w.heap[k]? = some (.cells U tz f2)) (hU : U.size = n) : (results fn tmps).run P w = .ok (.tuple #[.agg V, .agg U]) w := by
  have hl : (loadCells ⟨g, 0, none⟩ n).run P w = .ok V w := by
    have := run_loadCells_list (P := P) w ⟨g, 0, none⟩ V.toList (fun j v hv => by
      rw [addZ, cell_of hg]
      simpa using hv)
    simpa [hV] using this
  have hl2 : (loadCells ⟨k, 0, none⟩ n).run P w = .ok U w := by
    have := run_loadCells_list (P := P) w ⟨k, 0, none⟩ U.toList (fun j v hv => by
      rw [addZ, cell_of hk]
      simpa using hv)
    simpa [hU] using this
  have ha : ∀ (g : Nat) (W : World), (asAddr (.pointer (some ⟨g, 0, none⟩))).run P W = .ok ⟨g, 0, none⟩ W := fun g W => by simp [asAddr]
  have hx2 : tmps[i]?.getD undef = .pointer (some ⟨g, 0, none⟩) := by rw [← hx]; simp [Array.getD]; split <;> simp_all
  have hy2 : tmps[j]?.getD undef = .pointer (some ⟨k, 0, none⟩) := by rw [← hy]; simp [Array.getD]; split <;> simp_all
  simp [results, hr, hx2, hy2, ha, loadVar, hagg, hsz, hl, hl2]
set_option maxRecDepth 100000 in
set_option maxHeartbeats 2000000 in
theorem cut_any (b e : Nat) (h1 : 2 ≤ e - b) (h2 : e ≤ 9223372036854775808) (w : World) :
    Calls Tryz.prog 97 #[sp b e] w fun x w' => x = .returned (.tuple #[sp b (b + spl (e - b)), sp (b + spl (e - b)) e]) ∧ Nw w w' := by
  have q := split_yes (e - b) h1 (by omega)
  have Q := show Hid _ from q
  have h3 := spl_lt h1
  have he : (e : Int) - (b : Int) = ((e - b : Nat) : Int) := by omega
  obtain ⟨k, hk⟩ : ∃ k, k = spl (e - b) := ⟨_, rfl⟩
  rw [← hk] at h3 Q ⊢
  have hk0 : 0 < k := by rw [hk]; exact spl_pos _
  clear q hk
  go_enter Tryz.func97, Tryz.ntmps97
  go_wp2_with fail
  refine (Q.out _).mono ?_
  rintro x w1 ⟨rfl, n1⟩
  obtain ⟨⟨l0, l1, l2⟩, b0, b1, b2, n2⟩ := three_made n1
  have c0 := cell2a b0
  have c1 := cell2b b0
  have d0 := cell2a b1
  have d1 := cell2b b1
  have z0 := frozen_of b1 0
  have z1 := frozen_of b1 1
  have g0 := cell2a b2
  have g1 := cell2b b2
  have x0 := frozen_of b2 0
  have x1 := frozen_of b2 1
  clear n1
  go_wp2
  go_region
  go_wp2
  (refine bodyPost_ret (results_two (V := #[.int .u64 (b : Int), .int .u64 ((b : Int) + (k : Int))]) (ty := 89) (f := (0, 0)) (U := #[.int .u64 ((b : Int) + (k : Int)), .int .u64 (e : Int)]) (tz := 89) (f2 := (0, 0)) Tryz.results97 Tryz.isAgg89 Tryz.sizeOf89 rfl rfl ?hg rfl ?hk rfl) rfl ⟨rfl, (by repeat first | with_reducible exact n2 | with_reducible refine Fr.alloc ?_ _ | with_reducible refine Fr.drew ?_ | (with_reducible refine Fr.setCell ?_ _ _ (fun h => ?_); rotate_left; focus (simp only at h; omega)))⟩; (case hg => ((repeat first | with_reducible exact b1 | with_reducible exact heap_new _ _ | with_reducible exact heap_next _ _ _ | with_reducible exact heap_third _ _ _ _ | with_reducible refine hp_dr ?_ | (with_reducible refine hp_ne ?_ ?_; focus omega) | (with_reducible refine hp_al ?_ ?_; focus (first | omega | (simp <;> omega))) | with_reducible apply hp_set) <;> rfl)); (case hk => ((repeat first | with_reducible exact b2 | with_reducible exact heap_new _ _ | with_reducible exact heap_next _ _ _ | with_reducible exact heap_third _ _ _ _ | with_reducible refine hp_dr ?_ | (with_reducible refine hp_ne ?_ ?_; focus omega) | (with_reducible refine hp_al ?_ ?_; focus (first | omega | (simp <;> omega))) | with_reducible apply hp_set) <;> rfl)))
end Go.Proofs.YtihmckficphccaaGreatDoor
namespace Go.Proofs.YtihmckficphccaaGreatDoor
open Go.RowKit
set_option linter.unusedVariables false
set_option linter.unusedSimpArgs false

/-- Stretches as cells. -/
def fs : List (Nat × Nat) → List Value
  | [] => []
  | t :: r => .int .u64 (t.1 : Int) :: .int .u64 (t.2 : Int) :: fs r
theorem fs_len : ∀ l, (fs l).length = l.length * 2
  | [] => rfl
  | t :: r => by simp only [fs, List.length_cons, fs_len r]; omega
theorem fs_app : ∀ l m, fs (l ++ m) = fs l ++ fs m
  | [], m => rfl
  | t :: r, m => by simp only [List.cons_append, fs, fs_app r m]
theorem fs_get : ∀ (l : List (Nat × Nat)) (k : Nat) (t : Nat × Nat), l[k]? = some t → (fs l)[k * 2]? = some (.int .u64 (t.1 : Int)) ∧ (fs l)[k * 2 + 1]? = some (.int .u64 (t.2 : Int))
  | [], k, t, h => by simp at h
  | u :: r, 0, t, h => by simp at h; subst h; exact ⟨rfl, rfl⟩
  | u :: r, k + 1, t, h => by
    have := fs_get r k t (by simpa using h)
    have e : (k + 1) * 2 = k * 2 + 1 + 1 := by omega
    rw [e]
    simpa [fs] using this
theorem fs_one : ∀ (l : List (Nat × Nat)), ∀ u ∈ fs l, u.oneCell' = true
  | [], u, h => by cases h
  | t :: r, u, h => by
    simp only [fs, List.mem_cons] at h
    rcases h with rfl | rfl | h
    · rfl
    · rfl
    · exact fs_one r u h
/-- A row of stretches in memory. -/
def Spn (w : World) (v : Value) (l : List (Nat × Nat)) : Prop :=
  ∃ ad cap, v = .slice ad l.length cap ∧ ∀ k t, l[k]? = some t → ∃ g off, ad = some ⟨g, off, none⟩ ∧ g < w.heap.size ∧ w.cell? ⟨g, off + k * 2, none⟩ = some (.int .u64 (t.1 : Int)) ∧ w.cell? ⟨g, off + k * 2 + 1, none⟩ = some (.int .u64 (t.2 : Int))
theorem Spn.nw {w w' : World} {v : Value} {l : List (Nat × Nat)} (h : Spn w v l) (n : Nw w w') : Spn w' v l := by
  obtain ⟨ad, cap, rfl, h⟩ := h
  refine ⟨ad, cap, rfl, fun k t ht => ?_⟩
  obtain ⟨g, off, rfl, h1, h2, h3⟩ := h k t ht
  exact ⟨g, off, rfl, Nat.lt_of_lt_of_le h1 n.size, n.cellOf h2, n.cellOf h3⟩
theorem Spn.of {w : World} {base : Nat} {v : Value} {l : List (Nat × Nat)} (h : w.ownsRow base 89 2 v l.length (fs l)) : Spn w v l := by
  have hlt := h.lt
  rcases h.2 with ⟨rfl, hn⟩ | ⟨g, cap, cur, rfl, _⟩
  · have : l = [] := List.length_eq_zero_iff.1 hn
    subst this
    exact ⟨none, 0, rfl, fun k t ht => by simp at ht⟩
  · refine ⟨_, _, rfl, fun k t ht => ⟨g, 0, rfl, (hlt g rfl).2, ?_, ?_⟩⟩
    · have := h.cells (g := g) rfl (k * 2) _ (fs_get l k t ht).1
      rw [addZ] at this
      rw [Nat.zero_add]; exact this
    · have := h.cells (g := g) rfl (k * 2 + 1) _ (fs_get l k t ht).2
      rw [addZ] at this
      rw [Nat.zero_add]; exact this
theorem Spn.len {w : World} {v : Value} {l : List (Nat × Nat)} (h : Spn w v l) : ∃ ad cap, v = .slice ad l.length cap := by
  obtain ⟨ad, cap, rfl, _⟩ := h; exact ⟨ad, cap, rfl⟩

end Go.Proofs.YtihmckficphccaaGreatDoor
