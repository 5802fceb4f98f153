/- The words as bytes: what asHash answers. -/
import Derived.Test.YthkkjpefealdgaaDoorP5
namespace Go.Proofs.YthkkjpefealdgaaDoor
open Go.RowKit
set_option linter.unusedVariables false
set_option linter.unusedSimpArgs false

def wl (s : V8) : List Nat := [s.a, s.b, s.c, s.d, s.e, s.f, s.g, s.h]
/-- A byte of a hash. -/
def hby (s : V8) (i : Nat) : Nat := (wl s).getD (i / 4) 0 / 2 ^ (8 * (3 - i % 4)) % 256
theorem hby_lt (s : V8) (i : Nat) : hby s i < 256 := Nat.mod_lt _ (by decide)
def hcs (s : V8) (t : Nat) : Array Value := Array.ofFn (n := 32) fun i => .int .u8 ((if i.val < t then hby s i.val else 0 : Nat) : Int)
/-- A hash as a value. -/
def hsh (s : V8) : Value := .agg (hcs s 32)
def z32 : Array Value := Array.replicate 32 (.int .u8 0)
theorem hcs_size (s : V8) (t : Nat) : (hcs s t).size = 32 := by simp [hcs]
theorem hcs_0 (s : V8) : hcs s 0 = z32 := by
  apply Array.ext
  · simp [hcs, z32]
  · intro i h1 h2
    simp [hcs, z32]
theorem hcs_set (s : V8) (t : Nat) (ht : t < 32) : (hcs s t).setIfInBounds t (.int .u8 ((hby s t : Nat) : Int)) = hcs s (t + 1) := by
  apply Array.ext
  · simp [hcs]
  · intro i h1 h2
    rw [Array.getElem_setIfInBounds (by simpa using h1)]
    simp only [hcs, Array.getElem_ofFn]
    by_cases h : t = i
    · subst h; simp
    · rw [if_neg h]
      have : (i < t + 1) = (i < t) := by apply propext; omega
      simp only [this]
theorem hcs_one (s : V8) (t : Nat) : ∀ u ∈ (hcs s t).toList, u.oneCell' = true := by
  intro u hu
  have hu2 : u ∈ hcs s t := by simpa using hu
  obtain ⟨i, hi, rfl⟩ := Array.mem_iff_getElem.1 hu2
  simp [hcs, Value.oneCell']
theorem z32_drop : z32.toList.drop (0 + 32) = [] := by rw [z32]; simp
theorem vals_at (s : V8) (j : Nat) (hj : j < 8) : (vals s)[j]? = some (u32v ((wl s).getD j 0)) := by
  have : j = 0 ∨ j = 1 ∨ j = 2 ∨ j = 3 ∨ j = 4 ∨ j = 5 ∨ j = 6 ∨ j = 7 := by omega
  rcases this with rfl | rfl | rfl | rfl | rfl | rfl | rfl | rfl <;> rfl
theorem wl_lt (s : V8) (hs : s.ok) (j : Nat) : Wd ((wl s).getD j 0) := by
  rcases Nat.lt_or_ge j 8 with h | h
  · have : j = 0 ∨ j = 1 ∨ j = 2 ∨ j = 3 ∨ j = 4 ∨ j = 5 ∨ j = 6 ∨ j = 7 := by omega
    rcases this with rfl | rfl | rfl | rfl | rfl | rfl | rfl | rfl
    · exact hs.a
    · exact hs.b
    · exact hs.c
    · exact hs.d
    · exact hs.e
    · exact hs.f
    · exact hs.g
    · exact hs.h
  · rw [List.getD_eq_getElem?_getD, List.getElem?_eq_none (by simpa [wl] using h)]; decide

set_option maxRecDepth 100000 in
set_option maxHeartbeats 1000000 in
theorem asHash_any (s : V8) (hs : s.ok) (w : World) :
    Calls Tryd.prog 58 #[.agg (vals s)] w fun e w' => e = .returned (hsh s) ∧ Nw w w' := by
  have HS : Hid s.ok := hs
  clear hs
  obtain ⟨R, hR⟩ : ∃ R, R = hsh s := ⟨_, rfl⟩
  rw [← hR]
  have HR : Hid (R = hsh s) := hR
  clear hR
  obtain ⟨V, hV⟩ : ∃ V, V = vals s := ⟨_, rfl⟩
  have HV : Hid (V = vals s) := hV
  have hVs : V.size = 8 := by rw [hV]; rfl
  rw [← hV]
  go_enter Tryd.func58, Tryd.ntmps58
  clear hV
  go_wp2
  go_loopw [5] (fun i wr => ∃ k : Nat, k ≤ 32 ∧ i = .int .i64 k ∧ Nw w wr ∧ wr.heap[w.heap.size]? = some (.cells V 93 (0, 0)) ∧ wr.heap[w.heap.size + 1]? = some (.cells z32 32 (0, 0)) ∧ wr.heap[w.heap.size + 1 + 1]? = some (.cells (hcs s k) 32 (0, 0))) (fun i _ => 32 - (intOf i).toNat)
  case atStart =>
    refine ⟨0, by omega, rfl, (((Fr.refl _ _).alloc _).alloc _).alloc _, ?_, ?_, ?_⟩
    · exact (Below.heap_alloc _ _ _ (by simp; omega)).trans ((Below.heap_alloc _ _ _ (by simp)).trans (heap_new w _))
    · exact (Below.heap_alloc _ _ _ (by simp)).trans ((heap_next w _ _).trans (by kernel_rfl))
    · rw [hcs_0]
      have := heap_next (w.alloc (.cells V 93)) (.cells z32 32) (.cells z32 32)
      rw [World.size_alloc] at this
      have hz : (#[Value.int .u8 0, .int .u8 0, .int .u8 0, .int .u8 0, .int .u8 0, .int .u8 0, .int .u8 0, .int .u8 0, .int .u8 0, .int .u8 0, .int .u8 0, .int .u8 0, .int .u8 0, .int .u8 0, .int .u8 0, .int .u8 0, .int .u8 0, .int .u8 0, .int .u8 0, .int .u8 0, .int .u8 0, .int .u8 0, .int .u8 0, .int .u8 0, .int .u8 0, .int .u8 0, .int .u8 0, .int .u8 0, .int .u8 0, .int .u8 0, .int .u8 0, .int .u8 0] : Array Value) = z32 := by kernel_rfl
      rw [← hz] at this ⊢
      exact this
  case round =>
    obtain ⟨k, hk, rfl, hnw, hv, hz, hc⟩ := hrel
    by_cases hlt : k < 32
    · have hki : (k : Int) < 32 := by omega
      obtain ⟨j, r, hkj, hr⟩ : ∃ j r, k = 4 * j + r ∧ r < 4 := ⟨k / 4, k % 4, by omega, by omega⟩
      have h4 : (k : Int) / 4 = (j : Int) := by omega
      have h4m : (k : Int) % 4 = (r : Int) := by omega
      have hj8 : (j : Int) < 8 := by omega
      have hcw : wr.cell? ⟨w.heap.size, j, none⟩ = some (u32v ((wl s).getD j 0)) := (cell_of hv j).trans (by rw [HV.out]; exact vals_at s j (by omega))
      have hwl := wl_lt s HS.out j
      have HB : Hid (hby s k = (wl s).getD j 0 / 2 ^ (8 * (3 - r)) % 256) := by
        unfold Hid hby
        rw [show k / 4 = j by omega, show k % 4 = r by omega]
      generalize (wl s).getD j 0 = x at hcw hwl HB
      have hcs : wr.cell? ⟨w.heap.size + 1 + 1, k, none⟩ = some (.int .u8 0) := (cell_of hc k).trans (by rw [hcs, Array.getElem?_ofFn, dif_pos (by omega), if_neg (by simp)]; rfl)
      have hfz : wr.frozen? ⟨w.heap.size + 1 + 1, k, none⟩ = false := frozen_of hc k
      clear hkj
      go_wp2
      have hvl : (x : Int) / 2 ^ (8 * (3 - r)) % 256 = ((hby s k : Nat) : Int) := by rw [HB.out]; simp
      rw [hvl]
      refine ⟨⟨k + 1, by omega, by go_num, hnw.setCell _ _ (fun h => absurd h (by simp; omega)), (heap_set_ne (by omega) _).trans hv, (heap_set_ne (by omega) _).trans hz, ?_⟩, by simp [intOf]; omega⟩
      rw [← hcs_set s k hlt]
      exact heap_set hc _
    · obtain rfl : k = 32 := by omega
      go_wp2_with first
        | (refine wp_load_agg rfl (.tmp 3) 32 32 rfl Tryd.isAgg32 Tryd.sizeOf32 (w.heap.size + 1 + 1) 0 rfl (hcs s 32) 32 (0, 0) hc (hcs s 32) (hcs_size _ _) (fun j _ => by rw [Nat.zero_add]) ?_)
        | (refine wp_store_agg rfl (.tmp 2) (.tmp 21) 32 32 rfl Tryd.sizeOf32 (w.heap.size + 1) 0 rfl z32 32 hz (hcs s 32) rfl (hcs_size _ _) (hcs_one s 32) (by decide) (hcs s 32) (by rw [z32_drop]; simp) ?_; intro w4 j4 f4 z4)
      exact bodyPost_ret (results_cell Tryd.results58 Tryd.isAgg32 Tryd.sizeOf32 rfl j4 (hcs_size _ _)) rfl ⟨by rw [HR.out]; rfl, hnw.trans f4 (fun k hk q => by omega)⟩
end Go.Proofs.YthkkjpefealdgaaDoor
