/- Rows of stretches: whether two are the same. -/
import Derived.Test.YtigbjpphmbmbiaaDoorC8
import Derived.Deep.RegionHeld3
namespace Go.Proofs.YtigbjpphmbmbiaaDoor
open Go.RowKit
set_option linter.unusedVariables false
set_option linter.unusedSimpArgs false

/-- Stretches as cells. -/
def fs : List (Nat × Nat) → List Value
  | [] => []
  | t :: r => .int .u64 (t.1 : Int) :: .int .u64 (t.2 : Int) :: fs r
theorem fs_len : ∀ l, (fs l).length = l.length * 2
  | [] => rfl
  | t :: r => by simp only [fs, List.length_cons, fs_len r]; omega
theorem fs_app : ∀ l m, fs (l ++ m) = fs l ++ fs m
  | [], m => rfl
  | t :: r, m => by simp only [List.cons_append, fs, fs_app r m]
theorem fs_get : ∀ (l : List (Nat × Nat)) (k : Nat) (t : Nat × Nat), l[k]? = some t → (fs l)[k * 2]? = some (.int .u64 (t.1 : Int)) ∧ (fs l)[k * 2 + 1]? = some (.int .u64 (t.2 : Int))
  | [], k, t, h => by simp at h
  | u :: r, 0, t, h => by simp at h; subst h; exact ⟨rfl, rfl⟩
  | u :: r, k + 1, t, h => by
    have := fs_get r k t (by simpa using h)
    have e : (k + 1) * 2 = k * 2 + 1 + 1 := by omega
    rw [e]
    simpa [fs] using this
theorem fs_one : ∀ (l : List (Nat × Nat)), ∀ u ∈ fs l, u.oneCell' = true
  | [], u, h => by cases h
  | t :: r, u, h => by
    simp only [fs, List.mem_cons] at h
    rcases h with rfl | rfl | h
    · rfl
    · rfl
    · exact fs_one r u h
/-- A row of stretches in memory. -/
def Spn (w : World) (v : Value) (l : List (Nat × Nat)) : Prop :=
  ∃ ad cap, v = .slice ad l.length cap ∧ ∀ k t, l[k]? = some t → ∃ g off, ad = some ⟨g, off, none⟩ ∧ g < w.heap.size ∧ w.cell? ⟨g, off + k * 2, none⟩ = some (.int .u64 (t.1 : Int)) ∧ w.cell? ⟨g, off + k * 2 + 1, none⟩ = some (.int .u64 (t.2 : Int))
theorem Spn.nw {w w' : World} {v : Value} {l : List (Nat × Nat)} (h : Spn w v l) (n : Nw w w') : Spn w' v l := by
  obtain ⟨ad, cap, rfl, h⟩ := h
  refine ⟨ad, cap, rfl, fun k t ht => ?_⟩
  obtain ⟨g, off, rfl, h1, h2, h3⟩ := h k t ht
  exact ⟨g, off, rfl, Nat.lt_of_lt_of_le h1 n.size, n.cellOf h2, n.cellOf h3⟩
theorem Spn.of {w : World} {base : Nat} {v : Value} {l : List (Nat × Nat)} (h : w.ownsRow base 34 2 v l.length (fs l)) : Spn w v l := by
  have hlt := h.lt
  rcases h.2 with ⟨rfl, hn⟩ | ⟨g, cap, cur, rfl, _⟩
  · have : l = [] := List.length_eq_zero_iff.1 hn
    subst this
    exact ⟨none, 0, rfl, fun k t ht => by simp at ht⟩
  · refine ⟨_, _, rfl, fun k t ht => ⟨g, 0, rfl, (hlt g rfl).2, ?_, ?_⟩⟩
    · have := h.cells (g := g) rfl (k * 2) _ (fs_get l k t ht).1
      rw [addZ] at this
      rw [Nat.zero_add]; exact this
    · have := h.cells (g := g) rfl (k * 2 + 1) _ (fs_get l k t ht).2
      rw [addZ] at this
      rw [Nat.zero_add]; exact this
theorem Spn.len {w : World} {v : Value} {l : List (Nat × Nat)} (h : Spn w v l) : ∃ ad cap, v = .slice ad l.length cap := by
  obtain ⟨ad, cap, rfl, _⟩ := h; exact ⟨ad, cap, rfl⟩

set_option maxHeartbeats 2000000 in
theorem sames_ne (u v : Value) (l m : List (Nat × Nat)) (w : World) (hu : Spn w u l) (hv : Spn w v m) (h : l.length ≠ m.length) (hl : l.length < 4611686018427387904) (hm : m.length < 4611686018427387904) :
    Calls Tryd.prog 17 #[u, v] w fun e w' => e = .returned (.bool false) ∧ w' = w := by
  obtain ⟨ad, ca, rfl, _⟩ := hu
  obtain ⟨bd, cb, rfl, _⟩ := hv
  have hne : ((l.length : Int) == (m.length : Int)) = false := by simp; omega
  go_enter Tryd.func17, Tryd.ntmps17
  go_wp2
  go_ret
  exact ⟨rfl, rfl⟩

set_option maxHeartbeats 2000000 in
theorem sames_yes (u v : Value) (l : List (Nat × Nat)) (w : World) (hu : Spn w u l) (hv : Spn w v l) (hl : l.length < 4611686018427387904) :
    Calls Tryd.prog 17 #[u, v] w fun e w' => e = .returned (.bool true) ∧ Nw w w' := by
  obtain ⟨ad, ca, rfl, hu⟩ := hu
  obtain ⟨bd, cb, rfl, hv⟩ := hv
  have HU : Hid (∀ k t, l[k]? = some t → ∃ g off, ad = some ⟨g, off, none⟩ ∧ g < w.heap.size ∧ w.cell? ⟨g, off + k * 2, none⟩ = some (.int .u64 (t.1 : Int)) ∧ w.cell? ⟨g, off + k * 2 + 1, none⟩ = some (.int .u64 (t.2 : Int))) := hu
  have HV : Hid (∀ k t, l[k]? = some t → ∃ g off, bd = some ⟨g, off, none⟩ ∧ g < w.heap.size ∧ w.cell? ⟨g, off + k * 2, none⟩ = some (.int .u64 (t.1 : Int)) ∧ w.cell? ⟨g, off + k * 2 + 1, none⟩ = some (.int .u64 (t.2 : Int))) := hv
  clear hu hv
  obtain ⟨n, hn⟩ : ∃ n, n = l.length := ⟨_, rfl⟩
  have HN : Hid (n = l.length) := hn
  rw [← hn] at hl ⊢
  clear hn
  go_enter Tryd.func17, Tryd.ntmps17
  go_wp2
  go_loopw [5] (fun i wr => ∃ k : Nat, k ≤ n ∧ i = .int .i64 k ∧ Nw w wr) (fun i _ => n - (intOf i).toNat)
  case atStart => exact ⟨0, by omega, rfl, nwr w⟩
  case round =>
    obtain ⟨k, hk, rfl, hnw⟩ := hrel
    by_cases hlt : k < n
    · obtain ⟨t, ht⟩ : ∃ t, l[k]? = some t := ⟨_, List.getElem?_eq_getElem (by rw [← HN.out]; exact hlt)⟩
      obtain ⟨g, off, rfl, g1, g2, g3⟩ := HU.out k t ht
      obtain ⟨p, off2, rfl, p1, p2, p3⟩ := HV.out k t ht
      obtain ⟨L, I⟩ := t
      have g2' := hnw.cellOf g2
      have g3' := hnw.cellOf g3
      have p2' := hnw.cellOf p2
      have p3' := hnw.cellOf p3
      clear g2 g3 p2 p3 ht
      have hki : (k : Int) < (n : Int) := by omega
      go_wp2
      go_quiet (fail)
      go_wp2
      exact ⟨⟨k + 1, by omega, by go_num, hnw.drewN nq⟩, by simp [intOf]; omega⟩
    · obtain rfl : k = n := by omega
      go_wp2
      go_ret
      exact ⟨rfl, hnw⟩
end Go.Proofs.YtigbjpphmbmbiaaDoor
