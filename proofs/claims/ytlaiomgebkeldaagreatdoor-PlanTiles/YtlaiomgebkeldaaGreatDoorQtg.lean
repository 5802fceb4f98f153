/- A Book that keeps rows of tiles: what lies in memory; marks; one more row is kept. -/
import Derived.Test.YtlaiomgebkeldaaGreatDoorUo
import Derived.Test.YtlaiomgebkeldaaGreatDoorB1
import Derived.Test.YtlaiomgebkeldaaGreatDoorTw
import Derived.Deep.RegionLaw
import Derived.Deep.RegionHeld3
import Derived.Test.YtlaiomgebkeldaaGreatDoorGq
namespace Go.Proofs.YtlaiomgebkeldaaGreatDoor
namespace QB
open Go.RowKit
set_option linter.unusedVariables false
set_option linter.unusedSimpArgs false

/-- What a Book keeps of one row: the row, what it is grown to, its number. -/
abbrev Held := Value × Value × Nat
/-- As cells. -/
def hc : List Held → List Value
  | [] => []
  | h :: r => h.1 :: h.2.1 :: .int .i64 (h.2.2 : Int) :: hc r
theorem hc_len : ∀ l, (hc l).length = l.length * 3
  | [] => rfl
  | t :: r => by simp only [hc, List.length_cons, hc_len r]; omega
theorem hc_app : ∀ l m, hc (l ++ m) = hc l ++ hc m
  | [], m => rfl
  | t :: r, m => by simp only [List.cons_append, hc, hc_app r m]
theorem hc_get : ∀ (l : List Held) (k : Nat) (t : Held), l[k]? = some t → (hc l)[k * 3]? = some t.1 ∧ (hc l)[k * 3 + 1]? = some t.2.1 ∧ (hc l)[k * 3 + 2]? = some (.int .i64 (t.2.2 : Int))
  | [], k, t, h => by simp at h
  | u :: r, 0, t, h => by simp at h; subst h; exact ⟨rfl, rfl, rfl⟩
  | u :: r, k + 1, t, h => by
    have := hc_get r k t (by simpa using h)
    have e : (k + 1) * 3 = k * 3 + 1 + 1 + 1 := by omega
    rw [e]
    simpa [hc] using this
abbrev nilS : Value := .slice none 0 0
/-- A Book's cells. -/
def bkc (N : Nat) (v : Value) : Array Value := #[.int .i64 (N : Int), nilS, nilS, nilS, nilS, nilS, nilS, nilS, nilS, v, nilS, nilS, nilS, nilS, nilS, nilS, nilS]
/-- A Book in memory: all of it from its block on. -/
structure Bk (w : World) (bk : Nat) (N : Nat) (v : Value) (H : List Held) : Prop where
  blk : w.heap[bk]? = some (.cells (bkc N v) 63)
  own : w.ownsRow (bk + 1) 168 3 v H.length (hc H)
theorem Bk.fr {S : Nat → Prop} {w w' : World} {bk N : Nat} {v : Value} {H : List Held} (h : Bk w bk N v H) (hf : Fr S w w') (hS : ∀ k, bk ≤ k → ¬ S k) : Bk w' bk N v H :=
  ⟨(hf.block _ (heap_lt h.blk) (hS _ (Nat.le_refl _))).trans h.blk, ownsRow_keep h.own (fun g hg => hf.block g (h.own.lt g hg).2 (hS g (by have := (h.own.lt g hg).1; omega)))⟩

/-- Tiles, as cells. -/
def qs : List (Nat × Nat × Int) → List Value
  | [] => []
  | t :: r => .int .u8 (t.1 : Int) :: .int .u64 (t.2.1 : Int) :: .int .i64 t.2.2 :: qs r
theorem qs_len : ∀ l, (qs l).length = l.length * 3
  | [] => rfl
  | t :: r => by simp only [qs, List.length_cons, qs_len r]; omega
theorem qs_app : ∀ l m, qs (l ++ m) = qs l ++ qs m
  | [], m => rfl
  | t :: r, m => by simp only [List.cons_append, qs, qs_app r m]
theorem qs_get : ∀ (l : List (Nat × Nat × Int)) (k : Nat) (t : Nat × Nat × Int), l[k]? = some t → (qs l)[k * 3]? = some (.int .u8 (t.1 : Int)) ∧ (qs l)[k * 3 + 1]? = some (.int .u64 (t.2.1 : Int)) ∧ (qs l)[k * 3 + 2]? = some (.int .i64 t.2.2)
  | [], k, t, h => by simp at h
  | u :: r, 0, t, h => by simp at h; subst h; exact ⟨rfl, rfl, rfl⟩
  | u :: r, k + 1, t, h => by
    have := qs_get r k t (by simpa using h)
    have e : (k + 1) * 3 = k * 3 + 1 + 1 + 1 := by omega
    rw [e]
    simpa [qs] using this
theorem qt_new {w : World} (a b c : Int) (t : TypeId) : ∀ j u, [Value.int .u8 a, .int .u64 b, .int .i64 c][j]? = some u → (w.alloc (.cells #[.int .u8 a, .int .u64 b, .int .i64 c] t)).cell? ((⟨w.heap.size, 0, none⟩ : Addr).add j) = some u := by
  intro j u h
  rw [addZ, cell_of (heap_new w _)]
  match j, h with
  | 0, h => exact h
  | 1, h => exact h
  | 2, h => exact h
theorem infoTi3 : (Tryz.prog.info? 104).map (fun i => (i.zero, i.size, i.bytes)) = some (some (tl 0 0 0), 3, 24) := by kernel_rfl
theorem mark_m (m : Nat) (hm : m ≤ 100) (w : World) : Calls Tryz.prog 122 #[.int .i64 (m : Int)] w fun e w' => e = .returned (.agg #[.int .u8 201, .int .u64 0, .int .i64 (-(m : Int))]) ∧ Nw w w' := by
  have nwr := Fr.refl (fun _ => False) w
  go_enter Tryz.func122, Tryz.ntmps122
  go_wp2
  (refine bodyPost_ret (results_cell (V := #[.int .u8 201, .int .u64 0, .int .i64 (-(m : Int))]) (ty := 104) (f := (0, 0)) Tryz.results122 Tryz.isAgg104 Tryz.sizeOf104 rfl ?_ rfl) rfl ⟨rfl, (by repeat first | with_reducible exact nwr | with_reducible refine Fr.alloc ?_ _ | with_reducible refine Fr.drew ?_ | (with_reducible refine Fr.setCell ?_ _ _ (fun h => ?_); rotate_left; focus (simp only at h; omega)))⟩; (repeat first | with_reducible exact heap_new _ _ | with_reducible exact heap_new _ _ | with_reducible exact heap_next _ _ _ | with_reducible exact heap_third _ _ _ _ | with_reducible refine hp_dr ?_ | (with_reducible refine hp_ne ?_ ?_; focus omega) | (with_reducible refine hp_al ?_ ?_; focus (first | omega | (simp <;> omega))) | with_reducible apply hp_set) <;> rfl)
theorem infoH : (Tryz.prog.info? 168).map (fun i => (i.zero, i.size, i.bytes)) = some (some (.agg #[nilS, nilS, .int .i64 0]), 3, 56) := by kernel_rfl
theorem held_new (w : World) (a b c : Value) (t : TypeId) : ∀ j u, [a, b, c][j]? = some u → (w.alloc (.cells #[a, b, c] t)).cell? ((⟨w.heap.size, 0, none⟩ : Addr).add j) = some u := by
  intro j u h
  rw [addZ, cell_of (heap_new w _)]
  match j, h with
  | 0, h => exact h
  | 1, h => exact h
  | 2, h => exact h
set_option maxRecDepth 100000 in
set_option maxHeartbeats 2000000 in
theorem keep_any (bk N : Nat) (v : Value) (H : List Held) (ad : Option Addr) (n cap : Nat) (w : World) (hB : Bk w bk N v H) (hN : N ≤ 100) (hH : H.length ≤ 100) :
    Calls Tryz.prog 102 #[.pointer (some ⟨bk, 0, none⟩), .slice ad n cap] w fun e w' => e = .returned (.tuple #[]) ∧ (∃ v', Bk w' bk (N + 1) v' (H ++ [(.slice ad n cap, nilS, N + 1)])) ∧ Fr (fun k => bk ≤ k) w w' := by
  obtain ⟨i0, hi, hz0, hz1, hz2⟩ := info_parts infoH
  have b0 := hB.blk
  have c0 : w.cell? ⟨bk, 0, none⟩ = some (.int .i64 (N : Int)) := (cell_of b0 0).trans rfl
  have c6 : w.cell? ⟨bk, 9, none⟩ = some v := (cell_of b0 9).trans rfl
  have f0 := frozen_of b0 0
  have f6 := frozen_of b0 9
  have lb := heap_lt b0
  have HB : Hid (Bk w bk N v H) := hB
  have HG : Hid (∀ g, v.ownBlock = some g → bk + 1 ≤ g ∧ g < w.heap.size) := hB.own.lt
  clear hB
  obtain ⟨va, vc, rfl⟩ := ownsRow_form HB.out.own
  obtain ⟨w1, hw1⟩ : ∃ w1, w.setCell ⟨bk, 0, none⟩ (.int .i64 ((N : Int) + 1)) = w1 := ⟨_, rfl⟩
  have b1 : w1.heap[bk]? = some (.cells (bkc (N + 1) (.slice va H.length vc)) 63) := by
    rw [← hw1, heap_set b0]
    simp [bkc]
  have fr1 : Fr (fun k => k = bk) w w1 := by rw [← hw1]; exact (Fr.refl _ w).setCell _ _ (fun _ => rfl)
  have s1 : w1.heap.size = w.heap.size := by rw [← hw1]; simp [World.setCell]
  have c16 : w1.cell? ⟨bk, 9, none⟩ = some (.slice va H.length vc) := (cell_of b1 9).trans rfl
  have c10 : w1.cell? ⟨bk, 0, none⟩ = some (.int .i64 ((N : Int) + 1)) := (cell_of b1 0).trans (by simp [bkc])
  have f16 := frozen_of b1 9
  have own1 : Hid (((w1.alloc (.cells #[.slice ad n cap, nilS, .int .i64 ((N : Int) + 1)] 168)).drew).ownsRow (bk + 1) 168 3 (.slice va H.length vc) H.length (hc H)) :=
    ((ownsRow_keep HB.out.own (fun g hg => fr1.block g (HG.out g hg).2 (by have := (HG.out g hg).1; show ¬ (g = bk); omega))).alloc _)
  have HNew : Hid (∀ j u, [Value.slice ad n cap, nilS, .int .i64 ((N : Int) + 1)][j]? = some u → ((w1.alloc (.cells #[.slice ad n cap, nilS, .int .i64 ((N : Int) + 1)] 168)).drew).cell? ((⟨w.heap.size, 0, none⟩ : Addr).add j) = some u) := by rw [← s1]; exact held_new w1 _ _ _ _
  have HW1 : Hid (w.setCell ⟨bk, 0, none⟩ (.int .i64 ((N : Int) + 1)) = w1) := hw1
  have HB1 : Hid (w1.heap[bk]? = some (.cells (bkc (N + 1) (.slice va H.length vc)) 63)) := b1
  have hfin : ∀ v' w', w'.ownsRow (bk + 1) 168 3 v' (H.length + 1) (hc H ++ [Value.slice ad n cap, nilS, .int .i64 ((N : Int) + 1)]) → ((w1.alloc (.cells #[.slice ad n cap, nilS, .int .i64 ((N : Int) + 1)] 168)).drew).grownBy w' (Value.slice va H.length vc).ownBlock → Bk (w'.setCell ⟨bk, 9, none⟩ v') bk (N + 1) v' (H ++ [(.slice ad n cap, nilS, N + 1)]) ∧ Fr (fun k => bk ≤ k) w (w'.setCell ⟨bk, 9, none⟩ v') := by
    intro v' w' ho hg
    have fr2 : Fr (fun k => bk < k) w1 w' := (((Fr.refl _ w1).alloc _).drew).grown hg (fun k q hk => by have := (HG.out k q).1; omega)
    have b2 := (fr2.block bk (by omega) (by simp)).trans b1
    refine ⟨⟨?_, ?_⟩, ?_⟩
    · rw [heap_set b2]
      simp [bkc]
    · rw [hc_app, List.length_append]
      refine ownsRow_keep (by simpa [hc] using ho) (fun g hg => heap_set_ne (by have := (ho.lt g hg).1; omega) _)
    · exact (((fr1.mono (S' := fun k => bk ≤ k) (fun j _ h => Nat.le_of_eq h.symm)).trans fr2 (fun j _ h => Nat.le_of_lt h)).setCell _ _ (fun _ => Nat.le_refl _))
  have HF := show Hid _ from hfin
  clear b1 hw1 hfin b0
  go_enter Tryz.func102, Tryz.ntmps102
  go_wp2
  rw [HW1.out]
  go_region_law (refine step_append_own rfl (.tmp 15) (.tmp 22) 54 rfl (bk + 1) 168 i0 (.agg #[nilS, nilS, .int .i64 0]) 3 56 Tryz.underlying54 hi hz0 hz1 hz2 rfl (by decide) (.slice va H.length vc) H.length (hc H) rfl own1.out ⟨w.heap.size, 0, none⟩ 1 1 [.slice ad n cap, nilS, .int .i64 ((N : Int) + 1)] rfl rfl HNew.out (by simp [Value.oneCell']) (by unfold maxLen; omega) (by omega) (by simp; omega) ?_; intro v9 w9 o9 g9; have HF9 := HF.out v9 w9 o9 g9; have hb9 : w9.heap[bk]? = some (.cells (bkc (N + 1) (.slice va H.length vc)) 63) := ((g9.block bk (by simp; omega) (fun e => by have := (HG.out bk e.symm).1; omega)).trans (Below.heap_alloc _ _ _ (by omega))).trans HB1.out; have c96 : w9.cell? ⟨bk, 9, none⟩ = some (.slice va H.length vc) := (cell_of hb9 9).trans rfl; have f96 := frozen_of hb9 9; obtain ⟨vx, vy, rfl⟩ := ownsRow_form o9; have HFF : Hid _ := HF9; clear HF9 o9 g9 hb9)
  all_goals
    try simp only [List.getElem_toArray, List.getElem_cons_succ, List.getElem_cons_zero, Act.put, List.setIfInBounds_toArray, List.set_cons_succ, List.set_cons_zero]
    go_wp2
    go_end0
    exact ⟨rfl, ⟨_, HFF.out.1⟩, HFF.out.2⟩
end QB
end Go.Proofs.YtlaiomgebkeldaaGreatDoor
namespace Go.Proofs.YtlaiomgebkeldaaGreatDoor
namespace QB
open Go.RowKit
set_option linter.unusedVariables false
set_option linter.unusedSimpArgs false

theorem qs_set : ∀ (l : List (Nat × Nat × Int)) (k L I : Nat) (W : Int), qs (l.set k (L, I, W)) = (((qs l).set (k * 3) (.int .u8 (L : Int))).set (k * 3 + 1) (.int .u64 (I : Int))).set (k * 3 + 2) (.int .i64 W)
  | [], k, L, I, W => rfl
  | u :: r, 0, L, I, W => rfl
  | u :: r, k + 1, L, I, W => by
    have e : (k + 1) * 3 = k * 3 + 1 + 1 + 1 := by omega
    rw [e]
    simp only [List.set_cons_succ, qs, qs_set r k L I W]
theorem own_set3 {w : World} {base : Nat} {e : TypeId} {g n cap : Nat} {xs : List (Nat × Nat × Int)} (h : w.ownsRow base e 3 (.slice (some ⟨g, 0, none⟩) n cap) n (qs xs)) (k L I : Nat) (W : Int) :
    (((w.setCell ⟨g, k * 3, none⟩ (.int .u8 (L : Int))).setCell ⟨g, k * 3 + 1, none⟩ (.int .u64 (I : Int))).setCell ⟨g, k * 3 + 2, none⟩ (.int .i64 W)).ownsRow base e 3 (.slice (some ⟨g, 0, none⟩) n cap) n (qs (xs.set k (L, I, W))) := by
  obtain ⟨h1, h2⟩ := h
  rcases h2 with ⟨h2, _⟩ | ⟨g', cap', cur, hv, hb, hh, h3, h4, h5, h6⟩
  · cases h2
  · cases hv
    refine ⟨?_, .inr ⟨g, cap, _, rfl, hb, heap_set (heap_set (heap_set hh _) _) _, h3, h4, by simpa using h5, ?_⟩⟩
    · rw [qs_set]; simpa using h1
    · rw [qs_set, ← h6]
      simp [Array.toList_setIfInBounds, List.take_set]
theorem own_block {w : World} {base : Nat} {e : TypeId} {g n cap : Nat} {xs : List (Nat × Nat × Int)} (h : w.ownsRow base e 3 (.slice (some ⟨g, 0, none⟩) n cap) n (qs xs)) : ∃ cur : Array Value, w.heap[g]? = some (.cells cur e (0, 0)) ∧ ∀ k t, xs[k]? = some t → cur[k * 3]? = some (.int .u8 (t.1 : Int)) ∧ cur[k * 3 + 1]? = some (.int .u64 (t.2.1 : Int)) ∧ cur[k * 3 + 2]? = some (.int .i64 t.2.2) := by
  obtain ⟨h1, h2⟩ := h
  rcases h2 with ⟨h2, _⟩ | ⟨g', cap', cur, hv, hb, hh, h3, h4, h5, h6⟩
  · cases h2
  · cases hv
    refine ⟨cur, hh, fun k t ht => ?_⟩
    have hq := qs_get xs k t ht
    rw [← h6] at hq
    have ha := hq.1
    have hb := hq.2.1
    have hc := hq.2.2
    rw [List.getElem?_take] at ha hb hc
    split at ha
    · split at hb
      · split at hc
        · exact ⟨by simpa using ha, by simpa using hb, by simpa using hc⟩
        · cases hc
      · cases hb
    · cases ha
/-- The rows that a Book keeps: each in a block of its own, from B0 on and ahead of the Book. -/
structure Rws (w : World) (B0 bk : Nat) (H : List Held) (X : Nat → List (Nat × Nat × Int)) : Prop where
  own : ∀ (i : Nat) (h : Held), H[i]? = some h → w.ownsRow B0 104 3 h.1 (X i).length (qs (X i))
  lt : ∀ (i : Nat) (h : Held), H[i]? = some h → ∀ g, h.1.ownBlock = some g → g < bk
  apart : ∀ (i j : Nat) (h h' : Held) (g : Nat), i ≠ j → H[i]? = some h → H[j]? = some h' → h.1.ownBlock = some g → h'.1.ownBlock ≠ some g
  lng : ∀ (i : Nat) (h : Held), H[i]? = some h → ∃ a n c, h.2.1 = .slice a n c
/-- A row's number. -/
def num (H : List Held) (i : Nat) : Nat := (H[i]?.map (fun h => h.2.2)).getD 0
theorem num_at {H : List Held} {i : Nat} {h : Held} (e : H[i]? = some h) : num H i = h.2.2 := by simp [num, e]
/-- Row i is another now, its length as it was. -/
theorem Rws.upd {w w' : World} {B0 bk : Nat} {H : List Held} {X : Nat → List (Nat × Nat × Int)} (h : Rws w B0 bk H X) (i : Nat) (t : Held) (ht : H[i]? = some t) (y : List (Nat × Nat × Int)) (hy : w'.ownsRow B0 104 3 t.1 y.length (qs y)) (hf : Fr (fun k => t.1.ownBlock = some k) w w') :
    Rws w' B0 bk H (fun j => if j = i then y else X j) := by
  refine ⟨fun j u hu => ?_, h.lt, h.apart, h.lng⟩
  by_cases hj : j = i
  · subst hj
    rw [ht] at hu
    cases hu
    simpa using hy
  · simp only [hj, if_false]
    refine ownsRow_keep (h.own j u hu) (fun g hg => hf.block g ((h.own j u hu).lt g hg).2 (h.apart j i u t g hj hu ht hg))
theorem Bk.cells {w : World} {bk N : Nat} {v : Value} {H : List Held} (h : Bk w bk N v H) (i : Nat) (t : Held) (ht : H[i]? = some t) : ∃ g cap, v = .slice (some ⟨g, 0, none⟩) H.length cap ∧ bk < g ∧ g < w.heap.size ∧ w.cell? ⟨g, i * 3, none⟩ = some t.1 ∧ w.cell? ⟨g, i * 3 + 1, none⟩ = some t.2.1 ∧ w.cell? ⟨g, i * 3 + 2, none⟩ = some (.int .i64 (t.2.2 : Int)) := by
  have hlt := h.own.lt
  rcases h.own.2 with ⟨rfl, hn⟩ | ⟨g, cap, cur, rfl, hb, _⟩
  · have : H = [] := List.length_eq_zero_iff.1 hn
    subst this
    simp at ht
  · have q := hc_get H i t ht
    have a := h.own.cells (g := g) rfl _ _ q.1
    have b := h.own.cells (g := g) rfl _ _ q.2.1
    have c := h.own.cells (g := g) rfl _ _ q.2.2
    rw [addZ] at a b c
    exact ⟨g, cap, rfl, hb, (hlt g rfl).2, a, b, c⟩
theorem cell_far {w : World} {p b o q : Nat} {u v : Value} (hne : b ≠ p) (h : w.cell? ⟨b, q, none⟩ = some v) : (w.setCell ⟨p, o, none⟩ u).cell? ⟨b, q, none⟩ = some v :=
  (World.cell?_of_block (w := w) (a := ⟨b, q, none⟩) (heap_set_ne (w := w) (o := o) hne u)).trans h
set_option maxRecDepth 100000 in
set_option maxHeartbeats 2000000 in
theorem fill_any (B0 bk N : Nat) (v : Value) (H : List Held) (X : Nat → List (Nat × Nat × Int)) (w : World) (hB : Bk w bk N v H) (hR : Rws w B0 bk H X) (hB0 : B0 ≤ bk) (hH : H.length ≤ 100) (hX : ∀ i, (X i).length ≤ 1100000) (hn : ∀ i, num H i ≤ 100) :
    Calls Tryz.prog 51 #[.pointer (some ⟨bk, 0, none⟩)] w fun e w' => e = .returned (.tuple #[]) ∧ Bk w' bk N v H ∧ Rws w' B0 bk H (fun i => List.replicate (X i).length (201, 0, -(num H i : Int))) ∧ Fr (fun k => B0 ≤ k) w w' := by
  have HB : Hid (Bk w bk N v H) := hB
  have HR : Hid (Rws w B0 bk H X) := hR
  have HX : Hid (∀ i, (X i).length ≤ 1100000) := hX
  have HN : Hid (∀ i, num H i ≤ 100) := hn
  obtain ⟨va, vc, rfl⟩ := ownsRow_form hB.own
  clear hB hR hX hn
  go_enter Tryz.func51, Tryz.ntmps51
  go_wp2
  go_loopw [2] (fun i wr => ∃ (k : Nat) (Y : Nat → List (Nat × Nat × Int)), k ≤ H.length ∧ i = .int .i64 k ∧ Rws wr B0 bk H Y ∧ (∀ j, (Y j).length = (X j).length) ∧ (∀ j, j < k → Y j = List.replicate (X j).length (201, 0, -(num H j : Int))) ∧ Bk wr bk N (.slice va H.length vc) H ∧ Fr (fun k => B0 ≤ k) w wr) (fun i _ => H.length - (intOf i).toNat)
  case atStart => exact ⟨0, X, by omega, rfl, HR.out, fun _ => rfl, fun j h => by omega, HB.out, Fr.refl _ _⟩
  case round =>
    obtain ⟨k, Y, hk, rfl, hRw, hYl, hYk, hBk, hfr⟩ := hrel
    have b0 := hBk.blk
    have c6 : wr.cell? ⟨bk, 9, none⟩ = some (.slice va H.length vc) := (cell_of b0 9).trans rfl
    have HBk : Hid (Bk wr bk N (.slice va H.length vc) H) := hBk
    have HRw : Hid (Rws wr B0 bk H Y) := hRw
    have HYl : Hid (∀ j, (Y j).length = (X j).length) := hYl
    have HYk : Hid (∀ j, j < k → Y j = List.replicate (X j).length (201, 0, -(num H j : Int))) := hYk
    have HFr : Hid (Fr (fun k => B0 ≤ k) w wr) := hfr
    clear hBk hRw hYl hYk hfr b0
    by_cases hlt : k < H.length
    · obtain ⟨t, ht⟩ : ∃ t, H[k]? = some t := ⟨_, List.getElem?_eq_getElem hlt⟩
      obtain ⟨g, cap, hv, hg1, hg2, d0, d1, d2⟩ := HBk.out.cells k t ht
      cases hv
      obtain ⟨h1, h2, m⟩ := t
      simp only at d0 d1 d2
      have hki : (k : Int) < (H.length : Int) := by omega
      obtain ⟨ra, rc, rfl⟩ := ownsRow_form (HRw.out.own k _ ht)
      obtain ⟨la, ln, lc, hlg⟩ := HRw.out.lng k _ ht
      simp only at hlg
      subst hlg
      obtain ⟨l, hl⟩ : ∃ l, l = (Y k).length := ⟨_, rfl⟩
      have hl1 : l ≤ 1100000 := by rw [hl, HYl.out]; exact HX.out k
      have hm : m ≤ 100 := by have := HN.out k; rw [num_at ht] at this; exact this
      have HO : Hid (wr.ownsRow B0 104 3 (.slice ra l rc) l (qs (Y k))) := by have := HRw.out.own k _ ht; simp only [← hl] at this; exact this
      have HLB : Hid (∀ p, (Value.slice ra l rc).ownBlock = some p → p < bk) := by have := HRw.out.lt k _ ht; simp only [← hl] at this; exact this
      have HL : Hid (l = (Y k).length) := hl
      have HT : Hid (H[k]? = some (.slice ra l rc, .slice la ln lc, m)) := by have := ht; rw [← hl] at this; exact this
      rw [← hl] at d0
      clear hl ht
      go_wp2
      obtain ⟨w1, hw1⟩ : ∃ w1, wr.alloc (.cells #[.slice ra l rc, .slice la ln lc, .int .i64 (m : Int)] 168) = w1 := ⟨_, rfl⟩
      have n1 : Nw wr w1 := by rw [← hw1]; exact (Fr.refl _ _).alloc _
      have k1 : w1.heap[wr.heap.size]? = some (.cells #[.slice ra l rc, .slice la ln lc, .int .i64 (m : Int)] 168) := by rw [← hw1]; exact heap_new _ _
      rw [hw1]
      obtain ⟨hb, hhb⟩ : ∃ b, b = wr.heap.size := ⟨_, rfl⟩
      rw [← hhb] at k1 ⊢
      have HHB : Hid (hb = wr.heap.size) := hhb
      have hbk : bk < hb := by rw [hhb]; exact heap_lt HBk.out.blk
      clear hw1 hhb d0 d1 d2 c6
      go_loopw [4] (fun i w2 => ∃ (j : Nat) (xs : List (Nat × Nat × Int)), j ≤ l ∧ i = .int .i64 j ∧ xs.length = l ∧ (∀ q, q < j → xs[q]? = some (201, 0, -(m : Int))) ∧ w2.ownsRow B0 104 3 (.slice ra l rc) l (qs xs) ∧ Fr (fun q => (Value.slice ra l rc).ownBlock = some q) w1 w2) (fun i _ => l - (intOf i).toNat)
      case atStart => exact ⟨0, Y k, by omega, rfl, HL.out.symm, fun q h => by omega, ownsRow_keep HO.out (fun p hp => n1.block p (HO.out.lt p hp).2 (fun f => f)), Fr.refl _ _⟩
      case round =>
        obtain ⟨j, xs, hj, rfl, hxl, hxq, hown, hfr2⟩ := hrel
        have k2 := (hfr2.block hb (heap_lt k1) (fun e => by have := HLB.out hb e; omega)).trans k1
        have e0 : wr.cell? ⟨hb, 0, none⟩ = some (.slice ra l rc) := (cell_of k2 0).trans rfl
        have e2 : wr.cell? ⟨hb, 2, none⟩ = some (.int .i64 (m : Int)) := (cell_of k2 2).trans rfl
        have HXL : Hid (xs.length = l) := hxl
        have HXQ : Hid (∀ q, q < j → xs[q]? = some (201, 0, -(m : Int))) := hxq
        have HOW : Hid (wr.ownsRow B0 104 3 (.slice ra l rc) l (qs xs)) := hown
        have HF2 : Hid (Fr (fun q => (Value.slice ra l rc).ownBlock = some q) w1 wr) := hfr2
        clear k2 hxl hxq hown hfr2
        by_cases hjl : j < l
        · obtain ⟨p, rfl⟩ : ∃ p, ra = some ⟨p, 0, none⟩ := by
            rcases HOW.out.2 with ⟨hv, hn⟩ | ⟨p, cap, cur, hv, _⟩
            · omega
            · cases hv; exact ⟨p, rfl⟩
          obtain ⟨cur, hcur, hat⟩ := own_block HOW.out
          obtain ⟨t, ht⟩ : ∃ t, xs[j]? = some t := ⟨_, List.getElem?_eq_getElem (by rw [HXL.out]; exact hjl)⟩
          have a1 := (cell_of hcur (j * 3)).trans (hat j t ht).1
          have a2 := (cell_of hcur (j * 3 + 1)).trans (hat j t ht).2.1
          have a3 := (cell_of hcur (j * 3 + 2)).trans (hat j t ht).2.2
          have HCU : Hid (wr.heap[p]? = some (.cells cur 104 (0, 0))) := hcur
          have hpb : p < bk := HLB.out p rfl
          have hne : hb ≠ p := by omega
          have QM : Hid (∀ W, Calls Tryz.prog 122 #[.int .i64 (m : Int)] W fun e w' => e = .returned (.agg #[.int .u8 201, .int .u64 0, .int .i64 (-(m : Int))]) ∧ Nw W w') := fun W => mark_m m hm W
          have A1 := show Hid _ from a1
          have A2 := show Hid _ from a2
          have A3 := show Hid _ from a3
          have nd : Nw wr wr.drew := (Fr.refl _ _).drew
          have hji : (j : Int) < (l : Int) := by omega
          clear hcur hat ht a1 a2 a3
          go_wp2
          go_region_held3 (fun w' => w'.cell? ⟨hb, 0, none⟩ = some (.slice (some ⟨p, 0, none⟩) l rc) ∧ w'.cell? ⟨hb, 2, none⟩ = some (.int .i64 (m : Int))) (first | exact ⟨nd.cellOf e0, nd.cellOf e2⟩ | exact ⟨m2.cellOf e0, m2.cellOf e2⟩ | exact ⟨cell_far hne (cell_far hne (cell_far hne (m2.cellOf e0))), cell_far hne (cell_far hne (cell_far hne (m2.cellOf e2)))⟩) ((go_at_call 122; refine (QM.out _).mono ?_; rintro e3 w2 ⟨rfl, n2⟩; have m2 := nd.tr n2; have p2 := (m2.block p (heap_lt HCU.out) (fun f => f)).trans HCU.out; have a1 := m2.cellOf A1.out; have a2 := m2.cellOf A2.out; have a3 := m2.cellOf A3.out; have f1 := frozen_of p2 (j * 3); have f2 := frozen_of p2 (j * 3 + 1); have f3 := frozen_of p2 (j * 3 + 2)))
          all_goals
            go_wp2
            refine ⟨⟨j + 1, xs.set j (201, 0, -(m : Int)), by omega, by go_num, by rw [List.length_set]; exact HXL.out, fun q hq => ?_, own_set3 (ownsRow_keep HOW.out (fun p' hp => m2.block p' (HOW.out.lt p' hp).2 (fun f => f))) j 201 0 (-(m : Int)), (((HF2.out.trans m2 (fun _ _ f => f.elim)).setCell ⟨p, j * 3, none⟩ _ (fun _ => rfl)).setCell ⟨p, j * 3 + 1, none⟩ _ (fun _ => rfl)).setCell ⟨p, j * 3 + 2, none⟩ _ (fun _ => rfl)⟩, by simp [intOf]; omega⟩
            rw [List.getElem?_set]
            by_cases hqj : j = q
            · subst hqj
              rw [if_pos rfl, if_pos (by rw [HXL.out]; exact hjl)]
            · rw [if_neg hqj]
              exact HXQ.out q (by omega)
        · have hjl2 : (j : Int) = (l : Int) := by omega
          have fr : Hid (Fr (fun q => (Value.slice ra l rc).ownBlock = some q) _ wr) := (n1.mono (fun _ _ f => f.elim)).trans HF2.out (fun _ _ h => h)
          have hnl : ¬ (j : Int) < (l : Int) := by omega
          go_wp2
          refine ⟨⟨k + 1, _, by omega, by go_num, HRw.out.upd k _ HT.out xs (by rw [HXL.out]; exact HOW.out) fr.out, fun i => ?_, fun i hi => ?_, HBk.out.fr fr.out (fun q hq e => by have := HLB.out q e; omega), HFr.out.trans fr.out (fun q _ h => (HOW.out.lt q h).1)⟩, by simp [intOf]; omega⟩
          · by_cases hik : i = k
            · subst hik
              simp only [if_true]
              rw [HXL.out, HL.out]
              exact HYl.out i
            · simp only [hik, if_false]
              exact HYl.out i
          · by_cases hik : i = k
            · subst hik
              simp only [if_true]
              rw [num_at HT.out, ← HYl.out i, ← HL.out]
              apply List.ext_getElem?
              intro q
              by_cases hq : q < l
              · rw [HXQ.out q (by omega), List.getElem?_replicate, if_pos hq]
              · rw [List.getElem?_eq_none (by rw [HXL.out]; omega), List.getElem?_eq_none (by rw [List.length_replicate]; omega)]
            · simp only [hik, if_false]
              exact HYk.out i (by omega)
    · obtain rfl : k = H.length := by omega
      go_wp2
      go_end0
      refine ⟨rfl, HBk.out, ⟨fun i h hi => ?_, HRw.out.lt, HRw.out.apart, HRw.out.lng⟩, HFr.out⟩
      have := HRw.out.own i h hi
      rw [HYk.out i (List.getElem?_eq_some_iff.1 hi).1] at this
      exact this
end QB
end Go.Proofs.YtlaiomgebkeldaaGreatDoor
namespace Go.Proofs.YtlaiomgebkeldaaGreatDoor
namespace QB
open Go.RowKit
set_option linter.unusedVariables false
set_option linter.unusedSimpArgs false

theorem qs_take : ∀ (l : List (Nat × Nat × Int)) (k : Nat), (qs l).take (k * 3) = qs (l.take k)
  | [], k => by simp [qs]
  | t :: r, 0 => by simp [qs]
  | t :: r, k + 1 => by
    have e : (k + 1) * 3 = k * 3 + 1 + 1 + 1 := by omega
    rw [e]
    simp only [qs, List.take_succ_cons, qs_take r k]
/-- So many marks. -/
abbrev mks (n m : Nat) : List Value := qs (List.replicate n (201, 0, -(m : Int)))
theorem mks_take (n k m : Nat) (h : k ≤ n) : (mks n m).take (k * 3) = mks k m := by rw [qs_take, List.take_replicate, Nat.min_eq_left h]
theorem mks_more (n m : Nat) : mks n m ++ [.int .u8 201, .int .u64 0, .int .i64 (-(m : Int))] = mks (n + 1) m := by
  show qs (List.replicate n (201, 0, -(m : Int))) ++ qs [(201, 0, -(m : Int))] = _
  rw [← qs_app, ← List.replicate_succ']
/-- A row of l marks that is grown by j. -/
structure Gl (w1 w : World) (B0 : Nat) (ra : Option Addr) (l rc m j : Nat) (v : Value) : Prop where
  lng : w.ownsRow B0 104 3 v (l + j) (mks (l + j) m)
  row : w.ownsRow B0 104 3 (.slice ra l rc) l (mks l m)
  at_ : v = .slice ra (l + j) rc ∨ (∃ q, v.ownBlock = some q ∧ w1.heap.size ≤ q)
  fr : Fr (fun q => (Value.slice ra l rc).ownBlock = some q) w1 w
theorem Gl.nw {w1 w w' : World} {B0 : Nat} {ra : Option Addr} {l rc m j : Nat} {v : Value} (h : Gl w1 w B0 ra l rc m j v) (n : Nw w w') : Gl w1 w' B0 ra l rc m j v :=
  ⟨ownsRow_keep h.lng (fun g hg => n.block g (h.lng.lt g hg).2 (fun f => f)), ownsRow_keep h.row (fun g hg => n.block g (h.row.lt g hg).2 (fun f => f)), h.at_, h.fr.trans n (fun _ _ f => f.elim)⟩
theorem Gl.step {w1 w w' : World} {B0 : Nat} {ra : Option Addr} {l rc m j : Nat} {v v' : Value} (h : Gl w1 w B0 ra l rc m j v)
    (ho : w'.ownsRow B0 104 3 v' (l + j + 1) (mks (l + j) m ++ [.int .u8 201, .int .u64 0, .int .i64 (-(m : Int))])) (ht : Two w w' 104 3 v v' (l + j) 1 (mks (l + j) m ++ [.int .u8 201, .int .u64 0, .int .i64 (-(m : Int))])) : Gl w1 w' B0 ra l rc m (j + 1) v' := by
  rw [mks_more] at ho ht
  rcases ht with ⟨g, cap, rfl, rfl, hg⟩ | ⟨hn, hg⟩
  · rcases h.at_ with he | ⟨q, hq, hq1⟩
    · cases he
      refine ⟨ho, ?_, .inl rfl, h.fr.grown hg (fun k hk _ => hk)⟩
      have := own_shrink ho l (by omega)
      rw [mks_take _ _ _ (by omega)] at this
      exact this
    · have hqg : g = q := by simpa [Value.ownBlock] using hq
      subst hqg
      refine ⟨ho, ?_, .inr ⟨g, rfl, hq1⟩, h.fr.grown hg (fun k hk hlt => by cases hk; omega)⟩
      by_cases hgr : (Value.slice ra l rc).ownBlock = some g
      · have := own_shrink ho l (by omega)
        rw [mks_take _ _ _ (by omega)] at this
        rcases h.row.2 with ⟨h2, _⟩ | ⟨g', cap', cur, hv, hb, hh, h3, h4, h5, h6⟩
        · rw [h2] at hgr; cases hgr
        · cases hv
          have : g' = g := by simpa [Value.ownBlock] using hgr
          subst this
          rcases this with _
          rcases h.lng.2 with ⟨k2, _⟩ | ⟨g2, cap2, cur2, hv2, hb2, hh2, k3, k4, k5, k6⟩
          · cases k2
          · cases hv2
            rw [hh] at hh2
            cases hh2
            obtain rfl : cap = rc := by omega
            assumption
      · exact ownsRow_keep h.row (fun p hp => hg.block p (h.row.lt p hp).2 (fun e => hgr (by rw [hp, e])))
  · refine ⟨ho, ?_, .inr ?_, h.fr.grown hg (fun k hk _ => by cases hk)⟩
    · exact ownsRow_keep h.row (fun p hp => hg.block p (h.row.lt p hp).2 (fun e => by cases e))
    · rcases hn.2 with ⟨_, h0⟩ | ⟨g, cap, cur, rfl, hb, _⟩
      · omega
      · exact ⟨g, rfl, Nat.le_trans h.fr.size hb⟩
theorem Gl.start {w : World} {B0 : Nat} {ra : Option Addr} {l rc m : Nat} (h : w.ownsRow B0 104 3 (.slice ra l rc) l (mks l m)) : Gl w w B0 ra l rc m 0 (.slice ra l rc) := ⟨h, h, .inl rfl, Fr.refl _ _⟩
end QB
end Go.Proofs.YtlaiomgebkeldaaGreatDoor
namespace Go.Proofs.YtlaiomgebkeldaaGreatDoor
namespace QB
open Go.RowKit
set_option linter.unusedVariables false
set_option linter.unusedSimpArgs false

theorem hc_set : ∀ (H : List Held) (k : Nat) (h : Held) (u : Value), H[k]? = some h → hc (H.set k (h.1, u, h.2.2)) = (hc H).set (k * 3 + 1) u
  | [], k, h, u, e => by simp at e
  | x :: r, 0, h, u, e => by simp at e; subst e; rfl
  | x :: r, k + 1, h, u, e => by
    have i := hc_set r k h u (by simpa using e)
    have q : (k + 1) * 3 + 1 = k * 3 + 1 + 1 + 1 + 1 := by omega
    rw [q]
    simp only [List.set_cons_succ, hc, i]
theorem own_set1 {w : World} {base : Nat} {e : TypeId} {size g n cap : Nat} {xs : List Value} (h : w.ownsRow base e size (.slice (some ⟨g, 0, none⟩) n cap) n xs) (o : Nat) (u : Value) :
    (w.setCell ⟨g, o, none⟩ u).ownsRow base e size (.slice (some ⟨g, 0, none⟩) n cap) n (xs.set o u) := by
  obtain ⟨h1, h2⟩ := h
  rcases h2 with ⟨h2, _⟩ | ⟨g', cap', cur, hv, hb, hh, h3, h4, h5, h6⟩
  · cases h2
  · cases hv
    refine ⟨by simpa using h1, .inr ⟨g, cap, _, rfl, hb, heap_set hh _, h3, h4, by simpa using h5, ?_⟩⟩
    rw [← h6]
    simp [Array.toList_setIfInBounds, List.take_set]
theorem Bk.set {w : World} {bk N g n cap : Nat} {H : List Held} (h : Bk w bk N (.slice (some ⟨g, 0, none⟩) n cap) H) (hg : bk < g) (k : Nat) (t : Held) (ht : H[k]? = some t) (u : Value) :
    Bk (w.setCell ⟨g, k * 3 + 1, none⟩ u) bk N (.slice (some ⟨g, 0, none⟩) n cap) (H.set k (t.1, u, t.2.2)) := by
  refine ⟨(heap_set_ne (by omega) _).trans h.blk, ?_⟩
  obtain ⟨ad, c, e⟩ := ownsRow_form h.own
  cases e
  rw [hc_set H k t u ht]
  simp only [List.length_set]
  exact own_set1 h.own _ _
/-- The same rows with the same numbers. -/
def Sm (H H' : List Held) : Prop := H'.length = H.length ∧ ∀ (i : Nat) (h : Held), H[i]? = some h → ∃ v, H'[i]? = some (h.1, v, h.2.2)
theorem Sm.refl (H : List Held) : Sm H H := ⟨rfl, fun i h e => ⟨h.2.1, e⟩⟩
theorem Sm.back {H H' : List Held} (s : Sm H H') {i : Nat} {h : Held} (e : H'[i]? = some h) : ∃ v, H[i]? = some (h.1, v, h.2.2) := by
  have hi : i < H.length := by rw [← s.1]; exact (List.getElem?_eq_some_iff.1 e).1
  obtain ⟨v, q⟩ := s.2 i _ (List.getElem?_eq_getElem hi)
  rw [e] at q
  cases q
  exact ⟨_, List.getElem?_eq_getElem hi⟩
theorem Sm.set {H H' : List Held} (s : Sm H H') (k : Nat) (t : Held) (ht : H'[k]? = some t) (u : Value) : Sm H (H'.set k (t.1, u, t.2.2)) := by
  refine ⟨by rw [List.length_set]; exact s.1, fun i h e => ?_⟩
  obtain ⟨v, q⟩ := s.2 i h e
  by_cases hik : k = i
  · subst hik
    rw [ht] at q
    cases q
    exact ⟨u, by rw [List.getElem?_set_self (List.getElem?_eq_some_iff.1 ht).1]⟩
  · exact ⟨v, by rw [List.getElem?_set_ne hik]; exact q⟩
theorem Rws.set {w : World} {B0 bk : Nat} {H : List Held} {X : Nat → List (Nat × Nat × Int)} (h : Rws w B0 bk H X) (k : Nat) (t : Held) (ht : H[k]? = some t) (a : Option Addr) (n c : Nat) : Rws w B0 bk (H.set k (t.1, .slice a n c, t.2.2)) X := by
  have hs := (Sm.refl H).set k t ht (.slice a n c)
  refine ⟨fun i u hu => ?_, fun i u hu => ?_, fun i j u u' g hij hu hu' => ?_, fun i u hu => ?_⟩
  · obtain ⟨v, q⟩ := hs.back hu
    exact h.own i (u.1, v, u.2.2) q
  · obtain ⟨v, q⟩ := hs.back hu
    exact h.lt i (u.1, v, u.2.2) q
  · obtain ⟨v, q⟩ := hs.back hu
    obtain ⟨v', q'⟩ := hs.back hu'
    exact h.apart i j (u.1, v, u.2.2) (u'.1, v', u'.2.2) g hij q q'
  · by_cases hik : k = i
    · subst hik
      rw [List.getElem?_set_self (List.getElem?_eq_some_iff.1 ht).1] at hu
      cases hu
      exact ⟨a, n, c, rfl⟩
    · rw [List.getElem?_set_ne hik] at hu
      exact h.lng i u hu
theorem Rws.keep {w w' : World} {B0 bk : Nat} {H : List Held} {X : Nat → List (Nat × Nat × Int)} (h : Rws w B0 bk H X) (i : Nat) (t : Held) (ht : H[i]? = some t) (hy : w'.ownsRow B0 104 3 t.1 (X i).length (qs (X i))) (hf : Fr (fun k => t.1.ownBlock = some k) w w') : Rws w' B0 bk H X := by
  have := h.upd i t ht (X i) hy hf
  have e : (fun j => if j = i then X i else X j) = X := by
    funext j
    by_cases hj : j = i
    · subst hj; simp
    · simp [hj]
  rw [e] at this
  exact this
theorem Rws.fr {S : Nat → Prop} {w w' : World} {B0 bk : Nat} {H : List Held} {X : Nat → List (Nat × Nat × Int)} (h : Rws w B0 bk H X) (hf : Fr S w w') (hS : ∀ k, k < bk → ¬ S k) : Rws w' B0 bk H X :=
  ⟨fun i t ht => ownsRow_keep (h.own i t ht) (fun g hg => hf.block g ((h.own i t ht).lt g hg).2 (hS g (h.lt i t ht g hg))), h.lt, h.apart, h.lng⟩
theorem Bk.list {w : World} {bk N g n cap : Nat} {H : List Held} (h : Bk w bk N (.slice (some ⟨g, 0, none⟩) n cap) H) : ∃ cur, w.heap[g]? = some (.cells cur 168 (0, 0)) := by
  rcases h.own.2 with ⟨h2, _⟩ | ⟨g', cap', cur, hv, hb, hh, _⟩
  · cases h2
  · cases hv
    exact ⟨cur, hh⟩
/-- The first k rows are grown: in their own blocks, or in new ones behind the Book. -/
def Lg (w : World) (B0 bk gl : Nat) (H : List Held) (L : Nat → Nat) (k : Nat) : Prop :=
  ∀ (i : Nat) (h : Held), i < k → H[i]? = some h → w.ownsRow B0 104 3 h.2.1 (L i + 70) (mks (L i + 70) h.2.2) ∧ (h.2.1.ownBlock = h.1.ownBlock ∨ ∃ q, h.2.1.ownBlock = some q ∧ bk < q ∧ q ≠ gl)

set_option maxRecDepth 100000 in
set_option maxHeartbeats 2000000 in
theorem grow_any (B0 bk N gl vc : Nat) (H : List Held) (L : Nat → Nat) (w : World) (hB : Bk w bk N (.slice (some ⟨gl, 0, none⟩) H.length vc) H) (hgl : bk < gl) (hR : Rws w B0 bk H (fun i => List.replicate (L i) (201, 0, -(num H i : Int)))) (hB0 : B0 ≤ bk) (hH : H.length ≤ 100) (hX : ∀ i, L i ≤ 1100000) (hn : ∀ i, num H i ≤ 100) :
    Calls Tryz.prog 67 #[.pointer (some ⟨bk, 0, none⟩)] w fun e w' => e = .returned (.tuple #[]) ∧ ∃ H', Sm H H' ∧ Bk w' bk N (.slice (some ⟨gl, 0, none⟩) H.length vc) H' ∧ Rws w' B0 bk H' (fun i => List.replicate (L i) (201, 0, -(num H i : Int))) ∧ Lg w' B0 bk gl H' L H.length ∧ Fr (fun k => B0 ≤ k) w w' := by
  obtain ⟨i0, hi, hz0, hz1, hz2⟩ := info_parts infoTi3
  have HB : Hid (Bk w bk N (.slice (some ⟨gl, 0, none⟩) H.length vc) H) := hB
  have HR : Hid (Rws w B0 bk H (fun i => List.replicate (L i) (201, 0, -(num H i : Int)))) := hR
  have HX : Hid (∀ i, L i ≤ 1100000) := hX
  have HN : Hid (∀ i, num H i ≤ 100) := hn
  clear hB hR hX hn
  go_enter Tryz.func67, Tryz.ntmps67
  go_wp2
  go_loopw [2] (fun i wr => ∃ (k : Nat) (H' : List Held), k ≤ H.length ∧ i = .int .i64 k ∧ Sm H H' ∧ Bk wr bk N (.slice (some ⟨gl, 0, none⟩) H.length vc) H' ∧ Rws wr B0 bk H' (fun i => List.replicate (L i) (201, 0, -(num H i : Int))) ∧ Lg wr B0 bk gl H' L k ∧ Fr (fun k => B0 ≤ k) w wr) (fun i _ => H.length - (intOf i).toNat)
  case atStart => exact ⟨0, H, by omega, rfl, Sm.refl H, HB.out, HR.out, fun i h hi => by omega, Fr.refl _ _⟩
  case round =>
    obtain ⟨k, H', hk, rfl, hS, hBk, hRw, hLg, hfr⟩ := hrel
    have b0 := hBk.blk
    have c6 : wr.cell? ⟨bk, 9, none⟩ = some (.slice (some ⟨gl, 0, none⟩) H.length vc) := (cell_of b0 9).trans rfl
    have HS : Hid (Sm H H') := hS
    have HBk : Hid (Bk wr bk N (.slice (some ⟨gl, 0, none⟩) H.length vc) H') := hBk
    have HRw : Hid (Rws wr B0 bk H' (fun i => List.replicate (L i) (201, 0, -(num H i : Int)))) := hRw
    have HLg : Hid (Lg wr B0 bk gl H' L k) := hLg
    have HFr : Hid (Fr (fun k => B0 ≤ k) w wr) := hfr
    clear hS hBk hRw hLg hfr b0
    by_cases hlt : k < H.length
    · obtain ⟨t, ht⟩ : ∃ t, H'[k]? = some t := ⟨_, List.getElem?_eq_getElem (by rw [HS.out.1]; exact hlt)⟩
      obtain ⟨g, cap, hv, hg1, hg2, d0, d1, d2⟩ := HBk.out.cells k t ht
      injection hv with e1 e2 e3
      injection e1 with e1
      injection e1 with e1
      subst e1
      subst e3
      clear e2
      obtain ⟨h1, h2, m⟩ := t
      simp only at d0 d1 d2
      have hki : (k : Int) < (H.length : Int) := by omega
      have own0 := HRw.out.own k _ ht
      simp only [List.length_replicate] at own0
      have lt0 := HRw.out.lt k _ ht
      obtain ⟨v0, hv0⟩ := HS.out.back ht
      have hnum : num H k = m := num_at hv0
      have hm : m ≤ 100 := by rw [← hnum]; exact HN.out k
      rw [hnum] at own0
      clear hv0
      have HNum : Hid (num H k = m) := hnum
      obtain ⟨lx, hlx⟩ : ∃ l, l = L k := ⟨_, rfl⟩
      have hl1 : lx ≤ 1100000 := by rw [hlx]; exact HX.out k
      obtain ⟨ra, rc, rfl⟩ := ownsRow_form own0
      obtain ⟨la, ln, lc, hlg⟩ := HRw.out.lng k _ ht
      simp only at hlg
      subst hlg
      rw [← hlx] at own0 lt0 ht d0
      have HLX : Hid (lx = L k) := hlx
      have HO : Hid (wr.ownsRow B0 104 3 (.slice ra lx rc) lx (mks lx m)) := own0
      have HLB : Hid (∀ p, (Value.slice ra lx rc).ownBlock = some p → p < bk) := lt0
      have HT : Hid (H'[k]? = some (.slice ra lx rc, .slice la ln lc, m)) := ht
      clear own0 lt0 ht hnum hlx
      go_wp2
      obtain ⟨w1, hw1⟩ : ∃ w1, wr.alloc (.cells #[.slice ra lx rc, .slice la ln lc, .int .i64 (m : Int)] 168) = w1 := ⟨_, rfl⟩
      have n1 : Nw wr w1 := by rw [← hw1]; exact (Fr.refl _ _).alloc _
      have k1 : w1.heap[wr.heap.size]? = some (.cells #[.slice ra lx rc, .slice la ln lc, .int .i64 (m : Int)] 168) := by rw [← hw1]; exact heap_new _ _
      have HS1 : Hid (wr.heap.size ≤ w1.heap.size) := n1.size
      rw [hw1]
      obtain ⟨hb, hhb⟩ : ∃ b, b = wr.heap.size := ⟨_, rfl⟩
      rw [← hhb] at k1 ⊢
      have hbk : bk < hb := by rw [hhb]; exact heap_lt HBk.out.blk
      have HB0 : Hid (B0 ≤ w1.heap.size) := by have := HS1.out; show B0 ≤ w1.heap.size; omega
      have HG2 : Hid (gl < w1.heap.size) := by have := HS1.out; show gl < w1.heap.size; omega
      have HBF : Hid (Bk w1 bk N (.slice (some ⟨gl, 0, none⟩) H.length vc) H') := HBk.out.fr n1 (fun _ _ f => f)
      have HN1 := show Hid _ from n1
      clear hw1 hhb d0 d1 d2 c6 hg2
      go_loopw [4, 5] (fun lv i w2 => ∃ j : Nat, j ≤ 70 ∧ i = .int .i64 j ∧ Gl w1 w2 B0 ra lx rc m j lv) (fun _ i _ => 70 - (intOf i).toNat)
      case atStart => exact ⟨0, by omega, rfl, Gl.start (ownsRow_keep HO.out (fun p hp => n1.block p (HO.out.lt p hp).2 (fun f => f)))⟩
      case round =>
        obtain ⟨j, hj, rfl, hgl2⟩ := hrel
        obtain ⟨xa, xc, hx⟩ := ownsRow_form hgl2.lng
        subst hx
        have k2 := (hgl2.fr.block hb (heap_lt k1) (fun e => by have := HLB.out hb e; omega)).trans k1
        have e2 : wr.cell? ⟨hb, 2, none⟩ = some (.int .i64 (m : Int)) := (cell_of k2 2).trans rfl
        have HGL : Hid (Gl w1 wr B0 ra lx rc m j (.slice xa (lx + j) xc)) := hgl2
        clear k2 hgl2
        by_cases hj70 : j < 70
        · have hji : (j : Int) < 70 := by omega
          go_wp2_with fail
          refine (mark_m m hm _).mono ?_
          rintro e3 w3 ⟨rfl, n3⟩
          have own5 : Hid ((w3.alloc (.cells #[.int .u8 201, .int .u64 0, .int .i64 (-(m : Int))] 104)).ownsRow B0 104 3 (.slice xa (lx + j) xc) (lx + j) (mks (lx + j) m)) := (HGL.out.nw n3).lng.alloc _
          have HNew : Hid (∀ q u, [Value.int .u8 201, .int .u64 0, .int .i64 (-(m : Int))][q]? = some u → (w3.alloc (.cells #[.int .u8 201, .int .u64 0, .int .i64 (-(m : Int))] 104)).cell? ((⟨w3.heap.size, 0, none⟩ : Addr).add q) = some u) := qt_new (w := w3) 201 0 (-(m : Int)) 104
          have HG3 : Hid (Gl w1 (w3.alloc (.cells #[.int .u8 201, .int .u64 0, .int .i64 (-(m : Int))] 104)) B0 ra lx rc m j (.slice xa (lx + j) xc)) := (HGL.out.nw n3).nw ((Fr.refl _ _).alloc _)
          have HB3 : Hid (B0 ≤ (w3.alloc (.cells #[.int .u8 201, .int .u64 0, .int .i64 (-(m : Int))] 104)).heap.size) := Nat.le_trans HB0.out HG3.out.fr.size
          clear n3 e2
          go_wp2_with (at_builtin; refine wpList_two _ rfl (.tmp 28) (.tmp 32) 71 rfl B0 104 i0 (tl 0 0 0) 3 24 Tryz.underlying71 hi hz0 hz1 hz2 rfl (by decide) (.slice xa (lx + j) xc) (lx + j) (mks (lx + j) m) rfl own5.out ⟨w3.heap.size, 0, none⟩ 1 1 [.int .u8 201, .int .u64 0, .int .i64 (-(m : Int))] rfl rfl HNew.out (by simp [Value.oneCell']) (by unfold maxLen; omega) (by omega) HB3.out ?_; intro v' w5 o5 t5; have HG5 := show Hid _ from HG3.out.step o5 t5; obtain ⟨va', vc', rfl⟩ := ownsRow_form o5; clear o5 t5)
          exact ⟨⟨j + 1, by omega, by go_num, HG5.out⟩, by simp [intOf]; omega⟩
        · obtain rfl : j = 70 := by omega
          have frT : Hid (Fr (fun q => (Value.slice ra lx rc).ownBlock = some q) w1 wr) := HGL.out.fr
          have HBx : Hid (Bk wr bk N (.slice (some ⟨gl, 0, none⟩) H.length vc) H') := HBF.out.fr frT.out (fun q hq e => by have := HLB.out q e; omega)
          have c6 : wr.cell? ⟨bk, 9, none⟩ = some (.slice (some ⟨gl, 0, none⟩) H.length vc) := (cell_of HBx.out.blk 9).trans rfl
          obtain ⟨cur, hcur⟩ := HBx.out.list
          have f1 := frozen_of hcur (k * 3 + 1)
          obtain ⟨gx, capx, hvx, _, _, _, d1, _⟩ := HBx.out.cells k _ HT.out
          injection hvx with e1 _ _
          injection e1 with e1
          injection e1 with e1
          subst e1
          clear hcur
          go_wp2
          have frA := (HN1.out.mono (S' := fun q => (Value.slice ra lx rc).ownBlock = some q) (fun _ _ f => f.elim)).trans frT.out (fun _ _ h => h)
          refine ⟨⟨k + 1, H'.set k (.slice ra lx rc, .slice xa (lx + 70) xc, m), by omega, by go_num, HS.out.set k _ HT.out _, HBx.out.set hgl k _ HT.out _, ?_, ?_, ?_⟩, by simp [intOf]; omega⟩
          · have r1 := HRw.out.keep k _ HT.out (by simp only [List.length_replicate, ← HLX.out, HNum.out]; exact HGL.out.row) frA
            exact ((r1.fr (S := fun q => q = gl) ((Fr.refl _ wr).setCell _ _ (fun _ => rfl)) (fun q hq e => by omega)).set k _ HT.out _ _ _)
          · intro i h hik hi
            by_cases hke : k = i
            · subst hke
              rw [List.getElem?_set_self (List.getElem?_eq_some_iff.1 HT.out).1] at hi
              cases hi
              rw [← HLX.out]
              rcases HGL.out.at_ with e | ⟨q, hq, hq1⟩
              · have eb : (Value.slice xa (lx + 70) xc).ownBlock = (Value.slice ra lx rc).ownBlock := by rw [e]; cases ra <;> rfl
                refine ⟨ownsRow_keep HGL.out.lng (fun p hp => heap_set_ne ?_ _), .inl eb⟩
                have := HLB.out p (by rw [← eb]; exact hp)
                omega
              · have := HG2.out
                refine ⟨ownsRow_keep HGL.out.lng (fun p hp => heap_set_ne ?_ _), .inr ⟨q, hq, by omega, by omega⟩⟩
                have hpq : p = q := by rw [hq] at hp; exact (Option.some.inj hp).symm
                omega
            · rw [List.getElem?_set_ne hke] at hi
              obtain ⟨o, lcn⟩ := HLg.out i h (by omega) hi
              have hblk : ∀ p, h.2.1.ownBlock = some p → (Value.slice ra lx rc).ownBlock ≠ some p ∧ p ≠ gl := by
                intro p hp
                rcases lcn with e | ⟨q, hq, hq1, hq2⟩
                · rw [e] at hp
                  have := HRw.out.lt i h hi p hp
                  exact ⟨HRw.out.apart i k h _ p (fun q => hke q.symm) hi HT.out hp, by omega⟩
                · have hpq : p = q := by rw [hq] at hp; exact (Option.some.inj hp).symm
                  subst hpq
                  exact ⟨fun e => by have := HLB.out p e; omega, hq2⟩
              exact ⟨ownsRow_keep o (fun p hp => (heap_set_ne (hblk p hp).2 _).trans (frA.block p (o.lt p hp).2 (hblk p hp).1)), lcn⟩
          · exact (HFr.out.trans frA (fun q _ h => (HO.out.lt q h).1)).setCell _ _ (fun _ => by show B0 ≤ gl; omega)
    · obtain rfl : k = H.length := by omega
      go_wp2
      go_end0
      exact ⟨rfl, H', HS.out, HBk.out, HRw.out, HLg.out, HFr.out⟩
end QB
end Go.Proofs.YtlaiomgebkeldaaGreatDoor
namespace Go.Proofs.YtlaiomgebkeldaaGreatDoor
namespace QB
open Go.RowKit
set_option linter.unusedVariables false
set_option linter.unusedSimpArgs false

set_option maxHeartbeats 1000000 in
theorem is_mark (m : Nat) (hm : m ≤ 100) (w : World) : Calls Tryz.prog 137 #[.agg #[.int .u8 201, .int .u64 0, .int .i64 (-(m : Int))], .int .i64 (m : Int)] w fun e w' => e = .returned (.bool true) ∧ Nw w w' := by
  have n0 := (Fr.refl (fun _ => False) w).alloc (.cells #[.int .u8 201, .int .u64 0, .int .i64 (-(m : Int))] 104)
  go_enter Tryz.func137, Tryz.ntmps137
  go_wp2
  go_ret
  exact ⟨rfl, n0⟩
theorem mks_at {w : World} {base n m : Nat} {g cap : Nat} (h : w.ownsRow base 104 3 (.slice (some ⟨g, 0, none⟩) n cap) n (mks n m)) (j : Nat) (hj : j < n) : w.cell? ⟨g, j * 3, none⟩ = some (.int .u8 201) ∧ w.cell? ⟨g, j * 3 + 1, none⟩ = some (.int .u64 0) ∧ w.cell? ⟨g, j * 3 + 2, none⟩ = some (.int .i64 (-(m : Int))) := by
  obtain ⟨cur, hh, hat⟩ := own_block h
  have := hat j (201, 0, -(m : Int)) (by rw [List.getElem?_replicate, if_pos hj])
  exact ⟨(cell_of hh _).trans this.1, (cell_of hh _).trans this.2.1, (cell_of hh _).trans this.2.2⟩
theorem own_there {w : World} {base n m : Nat} {a : Option Addr} {cap : Nat} (h : w.ownsRow base 104 3 (.slice a n cap) n (mks n m)) (hn : 0 < n) : ∃ g, a = some ⟨g, 0, none⟩ := by
  rcases h.2 with ⟨e, h0⟩ | ⟨g, c, cur, e, _⟩
  · omega
  · cases e; exact ⟨g, rfl⟩

set_option maxRecDepth 100000 in
set_option maxHeartbeats 4000000 in
theorem look_any (B0 bk N gl vc : Nat) (H : List Held) (L : Nat → Nat) (w : World) (hB : Bk w bk N (.slice (some ⟨gl, 0, none⟩) H.length vc) H) (hR : Rws w B0 bk H (fun i => List.replicate (L i) (201, 0, -(num H i : Int)))) (hLg : Lg w B0 bk gl H L H.length) (hH : H.length ≤ 100) (hX : ∀ i, L i ≤ 1100000) (hn : ∀ i, num H i ≤ 100) :
    Calls Tryz.prog 83 #[.pointer (some ⟨bk, 0, none⟩)] w fun e w' => e = .returned (.bool true) ∧ Nw w w' := by
  have HB : Hid (Bk w bk N (.slice (some ⟨gl, 0, none⟩) H.length vc) H) := hB
  have HR : Hid (Rws w B0 bk H (fun i => List.replicate (L i) (201, 0, -(num H i : Int)))) := hR
  have HLg : Hid (Lg w B0 bk gl H L H.length) := hLg
  have HX : Hid (∀ i, L i ≤ 1100000) := hX
  have HN : Hid (∀ i, num H i ≤ 100) := hn
  clear hB hR hX hn hLg
  go_enter Tryz.func83, Tryz.ntmps83
  go_wp2
  go_loopw [3] (fun i wr => ∃ k : Nat, k ≤ H.length ∧ i = .int .i64 k ∧ Nw w wr) (fun i _ => H.length - (intOf i).toNat)
  case atStart => exact ⟨0, by omega, rfl, nwr w⟩
  case round =>
    obtain ⟨k, hk, rfl, hnw⟩ := hrel
    have c6 : wr.cell? ⟨bk, 9, none⟩ = some (.slice (some ⟨gl, 0, none⟩) H.length vc) := hnw.cellOf ((cell_of HB.out.blk 9).trans rfl)
    have HNW : Hid (Nw w wr) := hnw
    clear hnw
    by_cases hlt : k < H.length
    · obtain ⟨t, ht⟩ : ∃ t, H[k]? = some t := ⟨_, List.getElem?_eq_getElem hlt⟩
      obtain ⟨g, cap, hv, hg1, hg2, d0, d1, d2⟩ := HB.out.cells k t ht
      cases hv
      obtain ⟨h1, h2, m⟩ := t
      simp only at d0 d1 d2
      have hki : (k : Int) < (H.length : Int) := by omega
      have own0 := HR.out.own k _ ht
      obtain ⟨own1, _⟩ := HLg.out k _ hlt ht
      simp only [List.length_replicate, num_at ht] at own0 own1
      have hm : m ≤ 100 := by have := HN.out k; rw [num_at ht] at this; exact this
      obtain ⟨lx, hlx⟩ : ∃ l, l = L k := ⟨_, rfl⟩
      have hl1 : lx ≤ 1100000 := by rw [hlx]; exact HX.out k
      obtain ⟨ra, rc, rfl⟩ := ownsRow_form own0
      obtain ⟨la, lc, rfl⟩ := ownsRow_form own1
      obtain ⟨p, rfl⟩ := own_there own1 (by omega)
      rw [← hlx] at own0 own1 d0 d1
      have HO0 : Hid (w.ownsRow B0 104 3 (.slice ra lx rc) lx (mks lx m)) := own0
      have HO1 : Hid (w.ownsRow B0 104 3 (.slice (some ⟨p, 0, none⟩) (lx + 70) lc) (lx + 70) (mks (lx + 70) m)) := own1
      clear own0 own1 ht hlx
      replace d0 := HNW.out.cellOf d0
      replace d1 := HNW.out.cellOf d1
      replace d2 := HNW.out.cellOf d2
      go_wp2
      obtain ⟨w1, hw1⟩ : ∃ w1, wr.alloc (.cells #[.slice ra lx rc, .slice (some ⟨p, 0, none⟩) (lx + 70) lc, .int .i64 (m : Int)] 168) = w1 := ⟨_, rfl⟩
      have n1 : Nw w w1 := by rw [← hw1]; exact HNW.out.alloc _
      have k1 : w1.heap[wr.heap.size]? = some (.cells #[.slice ra lx rc, .slice (some ⟨p, 0, none⟩) (lx + 70) lc, .int .i64 (m : Int)] 168) := by rw [← hw1]; exact heap_new _ _
      rw [hw1]
      obtain ⟨hb, hhb⟩ : ∃ b, b = wr.heap.size := ⟨_, rfl⟩
      rw [← hhb] at k1 ⊢
      have HN1 : Hid (Nw w w1) := n1
      have HK1 := show Hid _ from k1
      clear hw1 hhb d0 d1 d2 c6 n1 k1
      go_loopw [5] (fun i w2 => ∃ j : Nat, j ≤ lx + 70 ∧ i = .int .i64 j ∧ Nw w1 w2) (fun i _ => lx + 70 - (intOf i).toNat)
      case atStart => exact ⟨0, by omega, rfl, nwr w1⟩
      case round =>
        obtain ⟨j, hj, rfl, hn2⟩ := hrel
        have k2 := (hn2.block hb (heap_lt HK1.out) (fun f => f)).trans HK1.out
        have e1 : wr.cell? ⟨hb, 1, none⟩ = some (.slice (some ⟨p, 0, none⟩) (lx + 70) lc) := (cell_of k2 1).trans rfl
        have HE0 : Hid (wr.cell? ⟨hb, 0, none⟩ = some (.slice ra lx rc)) := (cell_of k2 0).trans rfl
        have HE1 : Hid (wr.cell? ⟨hb, 1, none⟩ = some (.slice (some ⟨p, 0, none⟩) (lx + 70) lc)) := e1
        have HE2 : Hid (wr.cell? ⟨hb, 2, none⟩ = some (.int .i64 (m : Int))) := (cell_of k2 2).trans rfl
        have HN2 : Hid (Nw w1 wr) := hn2
        clear k2 hn2
        by_cases hjl : j < lx + 70
        · have hji : (j : Int) < (lx : Int) + 70 := by omega
          have qc : ∀ W, Calls Tryz.prog 137 #[.agg #[.int .u8 201, .int .u64 0, .int .i64 (-(m : Int))], .int .i64 (m : Int)] W fun e w' => e = .returned (.bool true) ∧ Nw W w' := fun W => is_mark m hm W
          have HA := show Hid _ from mks_at HO1.out j hjl
          go_wp2
          clear e1
          haveI : Nonempty (Grw wr) := ⟨⟨wr, nwr wr⟩⟩
          have hex := fun x : Grw wr => (⟨x, rfl⟩ : ∃ y : Grw wr, x.val = y.val)
          have z0 := fun x : Grw wr => x.nw.cellOf HE0.out
          have z1 := fun x : Grw wr => x.nw.cellOf HE1.out
          have z2 := fun x : Grw wr => x.nw.cellOf HE2.out
          have z3 := fun x : Grw wr => x.nw.cellOf (HN2.out.cellOf (HN1.out.cellOf HA.out.1))
          have z4 := fun x : Grw wr => x.nw.cellOf (HN2.out.cellOf (HN1.out.cellOf HA.out.2.1))
          have z7 := fun x : Grw wr => x.nw.cellOf (HN2.out.cellOf (HN1.out.cellOf HA.out.2.2))
          by_cases hjx : j < lx
          · obtain ⟨p0, rfl⟩ := own_there HO0.out (by omega)
            have HA0 := show Hid _ from mks_at HO0.out j hjx
            have z5 := fun x : Grw wr => x.nw.cellOf (HN2.out.cellOf (HN1.out.cellOf HA0.out.1))
            have z6 := fun x : Grw wr => x.nw.cellOf (HN2.out.cellOf (HN1.out.cellOf HA0.out.2.1))
            have z8 := fun x : Grw wr => x.nw.cellOf (HN2.out.cellOf (HN1.out.cellOf HA0.out.2.2))
            have hji0 : (j : Int) < (lx : Int) := by omega
            refine wp_region_grown (by kernel_rfl) (by kernel_rfl) ?_
            repeat (go_big_quiet_step (exact grown_call (qc _)))
            refine wpQuiet_nil ?_
            rintro wx ⟨⟨wx, nx⟩, rfl⟩
            go_wp2_with fail
            exact ⟨⟨j + 1, by omega, by go_num, HN2.out.tr nx⟩, by simp [intOf]; omega⟩
          · have hji0 : ¬ (j : Int) < (lx : Int) := by omega
            have hji1 : decide ((j : Int) < (lx : Int)) = false := by simp; omega
            refine wp_region_grown (by kernel_rfl) (by kernel_rfl) ?_
            repeat (go_big_quiet_step (exact grown_call (qc _)))
            refine wpQuiet_nil ?_
            rintro wx ⟨⟨wx, nx⟩, rfl⟩
            go_wp2_with fail
            exact ⟨⟨j + 1, by omega, by go_num, HN2.out.tr nx⟩, by simp [intOf]; omega⟩
        · obtain rfl : j = lx + 70 := by omega
          go_wp2
          exact ⟨⟨k + 1, by omega, by go_num, HN1.out.tr HN2.out⟩, by simp [intOf]; omega⟩
    · obtain rfl : k = H.length := by omega
      go_wp2
      go_ret
      exact ⟨rfl, HNW.out⟩
end QB
end Go.Proofs.YtlaiomgebkeldaaGreatDoor
namespace Go.Proofs.YtlaiomgebkeldaaGreatDoor
namespace QB
open Go.RowKit
set_option linter.unusedVariables false
set_option linter.unusedSimpArgs false

theorem num_sm {H H' : List Held} (s : Sm H H') (i : Nat) : num H' i = num H i := by
  rcases h : H[i]? with _ | t
  · have h1 := List.getElem?_eq_none_iff.1 h
    have h2 : H'[i]? = none := List.getElem?_eq_none_iff.2 (by rw [s.1]; exact h1)
    simp [num, h, h2]
  · obtain ⟨v, q⟩ := s.2 i t h
    simp [num, h, q]

set_option maxRecDepth 100000 in
set_option maxHeartbeats 4000000 in
theorem apart_any (B0 bk N gl vc : Nat) (H : List Held) (X : Nat → List (Nat × Nat × Int)) (w : World) (hB : Bk w bk N (.slice (some ⟨gl, 0, none⟩) H.length vc) H) (hgl : bk < gl) (hR : Rws w B0 bk H X) (hB0 : B0 ≤ bk) (hH : H.length ≤ 100) (hX : ∀ i, (X i).length ≤ 1100000) (hn : ∀ i, num H i ≤ 100) :
    Calls Tryz.prog 18 #[.pointer (some ⟨bk, 0, none⟩)] w fun e w' => e = .returned (.bool true) ∧ Fr (fun k => B0 ≤ k) w w' := by
  have HB : Hid (Bk w bk N (.slice (some ⟨gl, 0, none⟩) H.length vc) H) := hB
  have HR : Hid (Rws w B0 bk H X) := hR
  have HX : Hid (∀ i, (X i).length ≤ 1100000) := hX
  have HN : Hid (∀ i, num H i ≤ 100) := hn
  clear hB hR hX hn
  go_enter Tryz.func18, Tryz.ntmps18
  go_wp2_with fail
  refine (fillInt_none bk _ ((cell_of HB.out.blk 1).trans rfl)).mono ?_
  rintro e1 w' ⟨rfl, hw⟩
  rw [hw]
  clear hw
  go_wp2_with fail
  refine (fillByte_none bk _ ((cell_of HB.out.blk 2).trans rfl)).mono ?_
  rintro e1 w' ⟨rfl, hw⟩
  rw [hw]
  clear hw
  go_wp2_with fail
  refine (fillText_none bk _ ((cell_of HB.out.blk 3).trans rfl)).mono ?_
  rintro e1 w' ⟨rfl, hw⟩
  rw [hw]
  clear hw
  go_wp2_with fail
  refine (fillNumber_none bk _ ((cell_of HB.out.blk 4).trans rfl)).mono ?_
  rintro e1 w' ⟨rfl, hw⟩
  rw [hw]
  clear hw
  go_wp2_with fail
  refine (fillHash_none bk _ ((cell_of HB.out.blk 5).trans rfl)).mono ?_
  rintro e1 w' ⟨rfl, hw⟩
  rw [hw]
  clear hw
  go_wp2_with fail
  refine (fillCoord_none bk _ ((cell_of HB.out.blk 6).trans rfl)).mono ?_
  rintro e1 w' ⟨rfl, hw⟩
  rw [hw]
  clear hw
  go_wp2_with fail
  refine (fillSpan_none bk _ ((cell_of HB.out.blk 7).trans rfl)).mono ?_
  rintro e1 w' ⟨rfl, hw⟩
  rw [hw]
  clear hw
  go_wp2_with fail
  refine (fillNode_none bk _ ((cell_of HB.out.blk 8).trans rfl)).mono ?_
  rintro e1 w' ⟨rfl, hw⟩
  rw [hw]
  clear hw
  go_wp2_with fail
  refine (fill_any B0 bk N _ H X _ HB.out HR.out hB0 hH HX.out HN.out).mono ?_
  rintro e1 w1 ⟨rfl, hB1, hR1, hF1⟩
  have HB1 : Hid (Bk w1 bk N (.slice (some ⟨gl, 0, none⟩) H.length vc) H) := hB1
  have HR1 : Hid (Rws w1 B0 bk H (fun i => List.replicate (X i).length (201, 0, -(num H i : Int)))) := hR1
  have HF1 : Hid (Fr (fun k => B0 ≤ k) w w1) := hF1
  clear hB1 hR1 hF1
  go_wp2_with fail
  refine (fillEntry_none bk _ ((cell_of HB1.out.blk 10).trans rfl)).mono ?_
  rintro e1 w' ⟨rfl, hw⟩
  rw [hw]
  clear hw
  go_wp2_with fail
  refine (fillFound_none bk _ ((cell_of HB1.out.blk 11).trans rfl)).mono ?_
  rintro e1 w' ⟨rfl, hw⟩
  rw [hw]
  clear hw
  go_wp2_with fail
  refine (fillKnown_none bk _ ((cell_of HB1.out.blk 12).trans rfl)).mono ?_
  rintro e1 w' ⟨rfl, hw⟩
  rw [hw]
  clear hw
  go_wp2_with fail
  refine (fillVote_none bk _ ((cell_of HB1.out.blk 13).trans rfl)).mono ?_
  rintro e1 w' ⟨rfl, hw⟩
  rw [hw]
  clear hw
  go_wp2_with fail
  refine (fillPart_none bk _ ((cell_of HB1.out.blk 14).trans rfl)).mono ?_
  rintro e1 w' ⟨rfl, hw⟩
  rw [hw]
  clear hw
  go_wp2_with fail
  refine (fillHashList_none bk _ ((cell_of HB1.out.blk 15).trans rfl)).mono ?_
  rintro e1 w' ⟨rfl, hw⟩
  rw [hw]
  clear hw
  go_wp2_with fail
  refine (fillQuery_none bk _ ((cell_of HB1.out.blk 16).trans rfl)).mono ?_
  rintro e1 w' ⟨rfl, hw⟩
  rw [hw]
  clear hw
  go_wp2_with fail
  refine (growInt_none bk _ ((cell_of HB1.out.blk 1).trans rfl)).mono ?_
  rintro e1 w' ⟨rfl, hw⟩
  rw [hw]
  clear hw
  go_wp2_with fail
  refine (growByte_none bk _ ((cell_of HB1.out.blk 2).trans rfl)).mono ?_
  rintro e1 w' ⟨rfl, hw⟩
  rw [hw]
  clear hw
  go_wp2_with fail
  refine (growText_none bk _ ((cell_of HB1.out.blk 3).trans rfl)).mono ?_
  rintro e1 w' ⟨rfl, hw⟩
  rw [hw]
  clear hw
  go_wp2_with fail
  refine (growNumber_none bk _ ((cell_of HB1.out.blk 4).trans rfl)).mono ?_
  rintro e1 w' ⟨rfl, hw⟩
  rw [hw]
  clear hw
  go_wp2_with fail
  refine (growHash_none bk _ ((cell_of HB1.out.blk 5).trans rfl)).mono ?_
  rintro e1 w' ⟨rfl, hw⟩
  rw [hw]
  clear hw
  go_wp2_with fail
  refine (growCoord_none bk _ ((cell_of HB1.out.blk 6).trans rfl)).mono ?_
  rintro e1 w' ⟨rfl, hw⟩
  rw [hw]
  clear hw
  go_wp2_with fail
  refine (growSpan_none bk _ ((cell_of HB1.out.blk 7).trans rfl)).mono ?_
  rintro e1 w' ⟨rfl, hw⟩
  rw [hw]
  clear hw
  go_wp2_with fail
  refine (growNode_none bk _ ((cell_of HB1.out.blk 8).trans rfl)).mono ?_
  rintro e1 w' ⟨rfl, hw⟩
  rw [hw]
  clear hw
  go_wp2_with fail
  refine (grow_any B0 bk N gl vc H (fun i => (X i).length) _ HB1.out hgl HR1.out hB0 hH HX.out HN.out).mono ?_
  rintro e1 w2 ⟨rfl, H', hS2, hB2, hR2, hL2, hF2⟩
  have hHl : H'.length = H.length := hS2.1
  have HB2 : Hid (Bk w2 bk N (.slice (some ⟨gl, 0, none⟩) H.length vc) H') := hB2
  have hnum : num H' = num H := funext (num_sm hS2)
  have QL : Hid (Calls Tryz.prog 83 #[.pointer (some ⟨bk, 0, none⟩)] w2 fun e w' => e = .returned (.bool true) ∧ Nw w2 w') := look_any B0 bk N gl vc H' (fun i => (X i).length) w2 (by rw [hHl]; exact hB2) (by rw [hnum]; exact hR2) (by rw [hHl]; exact hL2) (by omega) HX.out (by rw [hnum]; exact HN.out)
  have HF2 : Hid (Fr (fun k => B0 ≤ k) w w2) := HF1.out.trans hF2 (fun _ _ h => h)
  clear hB2 hR2 hF2 hL2 hS2 hnum hHl
  go_wp2_with fail
  refine (growEntry_none bk _ ((cell_of HB2.out.blk 10).trans rfl)).mono ?_
  rintro e1 w' ⟨rfl, hw⟩
  rw [hw]
  clear hw
  go_wp2_with fail
  refine (growFound_none bk _ ((cell_of HB2.out.blk 11).trans rfl)).mono ?_
  rintro e1 w' ⟨rfl, hw⟩
  rw [hw]
  clear hw
  go_wp2_with fail
  refine (growKnown_none bk _ ((cell_of HB2.out.blk 12).trans rfl)).mono ?_
  rintro e1 w' ⟨rfl, hw⟩
  rw [hw]
  clear hw
  go_wp2_with fail
  refine (growVote_none bk _ ((cell_of HB2.out.blk 13).trans rfl)).mono ?_
  rintro e1 w' ⟨rfl, hw⟩
  rw [hw]
  clear hw
  go_wp2_with fail
  refine (growPart_none bk _ ((cell_of HB2.out.blk 14).trans rfl)).mono ?_
  rintro e1 w' ⟨rfl, hw⟩
  rw [hw]
  clear hw
  go_wp2_with fail
  refine (growHashList_none bk _ ((cell_of HB2.out.blk 15).trans rfl)).mono ?_
  rintro e1 w' ⟨rfl, hw⟩
  rw [hw]
  clear hw
  go_wp2_with fail
  refine (growQuery_none bk _ ((cell_of HB2.out.blk 16).trans rfl)).mono ?_
  rintro e1 w' ⟨rfl, hw⟩
  rw [hw]
  clear hw
  go_wp2_with fail
  refine (lookInt_none bk _ ((cell_of HB2.out.blk 1).trans rfl)).mono ?_
  rintro e1 w' ⟨rfl, hw⟩
  rw [hw]
  clear hw
  go_wp2_with fail
  refine (lookByte_none bk _ ((cell_of HB2.out.blk 2).trans rfl)).mono ?_
  rintro e1 w' ⟨rfl, hw⟩
  rw [hw]
  clear hw
  go_wp2_with fail
  refine (lookText_none bk _ ((cell_of HB2.out.blk 3).trans rfl)).mono ?_
  rintro e1 w' ⟨rfl, hw⟩
  rw [hw]
  clear hw
  go_wp2_with fail
  refine (lookNumber_none bk _ ((cell_of HB2.out.blk 4).trans rfl)).mono ?_
  rintro e1 w' ⟨rfl, hw⟩
  rw [hw]
  clear hw
  go_wp2_with fail
  refine (lookHash_none bk _ ((cell_of HB2.out.blk 5).trans rfl)).mono ?_
  rintro e1 w' ⟨rfl, hw⟩
  rw [hw]
  clear hw
  go_wp2_with fail
  refine (lookCoord_none bk _ ((cell_of HB2.out.blk 6).trans rfl)).mono ?_
  rintro e1 w' ⟨rfl, hw⟩
  rw [hw]
  clear hw
  go_wp2_with fail
  refine (lookSpan_none bk _ ((cell_of HB2.out.blk 7).trans rfl)).mono ?_
  rintro e1 w' ⟨rfl, hw⟩
  rw [hw]
  clear hw
  go_wp2_with fail
  refine (lookNode_none bk _ ((cell_of HB2.out.blk 8).trans rfl)).mono ?_
  rintro e1 w' ⟨rfl, hw⟩
  rw [hw]
  clear hw
  go_wp2_with fail
  refine QL.out.mono ?_
  rintro e1 w3 ⟨rfl, n3⟩
  have HB3 : Hid (w3.heap[bk]? = _) := (n3.block bk (heap_lt HB2.out.blk) (fun f => f)).trans HB2.out.blk
  have HF3 : Hid (Fr (fun k => B0 ≤ k) w w3) := HF2.out.trans n3 (fun _ _ f => f.elim)
  clear n3
  go_wp2_with fail
  refine (lookEntry_none bk _ ((cell_of HB3.out 10).trans rfl)).mono ?_
  rintro e1 w' ⟨rfl, hw⟩
  rw [hw]
  clear hw
  go_wp2_with fail
  refine (lookFound_none bk _ ((cell_of HB3.out 11).trans rfl)).mono ?_
  rintro e1 w' ⟨rfl, hw⟩
  rw [hw]
  clear hw
  go_wp2_with fail
  refine (lookKnown_none bk _ ((cell_of HB3.out 12).trans rfl)).mono ?_
  rintro e1 w' ⟨rfl, hw⟩
  rw [hw]
  clear hw
  go_wp2_with fail
  refine (lookVote_none bk _ ((cell_of HB3.out 13).trans rfl)).mono ?_
  rintro e1 w' ⟨rfl, hw⟩
  rw [hw]
  clear hw
  go_wp2_with fail
  refine (lookPart_none bk _ ((cell_of HB3.out 14).trans rfl)).mono ?_
  rintro e1 w' ⟨rfl, hw⟩
  rw [hw]
  clear hw
  go_wp2_with fail
  refine (lookHashList_none bk _ ((cell_of HB3.out 15).trans rfl)).mono ?_
  rintro e1 w' ⟨rfl, hw⟩
  rw [hw]
  clear hw
  go_wp2_with fail
  refine (lookQuery_none bk _ ((cell_of HB3.out 16).trans rfl)).mono ?_
  rintro e1 w' ⟨rfl, hw⟩
  rw [hw]
  clear hw
  go_wp2_with fail
  go_ret
  exact ⟨rfl, HF3.out⟩
end QB
end Go.Proofs.YtlaiomgebkeldaaGreatDoor
