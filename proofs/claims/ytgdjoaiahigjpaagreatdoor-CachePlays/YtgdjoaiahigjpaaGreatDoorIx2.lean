/- A Book that keeps rows of texts: what lies in memory; marks; one more row is kept. -/
import Derived.Test.YtgdjoaiahigjpaaGreatDoorAg
import Derived.Test.YtgdjoaiahigjpaaGreatDoorIx1
import Derived.Test.YtgdjoaiahigjpaaGreatDoorB1
import Derived.Test.YtgdjoaiahigjpaaGreatDoorTq
import Derived.Deep.RegionLaw
import Derived.Deep.RegionHeld3
namespace Go.Proofs.YtgdjoaiahigjpaaGreatDoor
namespace IB
open Go.RowKit
set_option linter.unusedVariables false
set_option linter.unusedSimpArgs false

/-- What a Book keeps of one row: the row, what it is grown to, its number. -/
abbrev Held := Value × Value × Nat
/-- As cells. -/
def hc : List Held → List Value
  | [] => []
  | h :: r => h.1 :: h.2.1 :: .int .i64 (h.2.2 : Int) :: hc r
theorem hc_len : ∀ l, (hc l).length = l.length * 3
  | [] => rfl
  | t :: r => by simp only [hc, List.length_cons, hc_len r]; omega
theorem hc_app : ∀ l m, hc (l ++ m) = hc l ++ hc m
  | [], m => rfl
  | t :: r, m => by simp only [List.cons_append, hc, hc_app r m]
theorem hc_get : ∀ (l : List Held) (k : Nat) (t : Held), l[k]? = some t → (hc l)[k * 3]? = some t.1 ∧ (hc l)[k * 3 + 1]? = some t.2.1 ∧ (hc l)[k * 3 + 2]? = some (.int .i64 (t.2.2 : Int))
  | [], k, t, h => by simp at h
  | u :: r, 0, t, h => by simp at h; subst h; exact ⟨rfl, rfl, rfl⟩
  | u :: r, k + 1, t, h => by
    have := hc_get r k t (by simpa using h)
    have e : (k + 1) * 3 = k * 3 + 1 + 1 + 1 := by omega
    rw [e]
    simpa [hc] using this
abbrev nilS : Value := .slice none 0 0
/-- A Book's cells. -/
def bkc (N : Nat) (v : Value) : Array Value := #[.int .i64 (N : Int), v, nilS, nilS, nilS, nilS, nilS, nilS, nilS, nilS, nilS, nilS, nilS, nilS, nilS, nilS, nilS]
/-- A Book in memory: all of it from its block on. -/
structure Bk (w : World) (bk : Nat) (N : Nat) (v : Value) (H : List Held) : Prop where
  blk : w.heap[bk]? = some (.cells (bkc N v) 77)
  own : w.ownsRow (bk + 1) 94 3 v H.length (hc H)
theorem Bk.fr {S : Nat → Prop} {w w' : World} {bk N : Nat} {v : Value} {H : List Held} (h : Bk w bk N v H) (hf : Fr S w w') (hS : ∀ k, bk ≤ k → ¬ S k) : Bk w' bk N v H :=
  ⟨(hf.block _ (heap_lt h.blk) (hS _ (Nat.le_refl _))).trans h.blk, ownsRow_keep h.own (fun g hg => hf.block g (h.own.lt g hg).2 (hS g (by have := (h.own.lt g hg).1; omega)))⟩

theorem infoH : (Tryz.prog.info? 94).map (fun i => (i.zero, i.size, i.bytes)) = some (some (.agg #[nilS, nilS, .int .i64 0]), 3, 56) := by kernel_rfl
theorem held_new (w : World) (a b c : Value) (t : TypeId) : ∀ j u, [a, b, c][j]? = some u → (w.alloc (.cells #[a, b, c] t)).cell? ((⟨w.heap.size, 0, none⟩ : Addr).add j) = some u := by
  intro j u h
  rw [addZ, cell_of (heap_new w _)]
  match j, h with
  | 0, h => exact h
  | 1, h => exact h
  | 2, h => exact h
set_option maxRecDepth 100000 in
set_option maxHeartbeats 2000000 in
theorem keep_any (bk N : Nat) (v : Value) (H : List Held) (ad : Option Addr) (n cap : Nat) (w : World) (hB : Bk w bk N v H) (hN : N ≤ 100) (hH : H.length ≤ 100) :
    Calls Tryz.prog 31 #[.pointer (some ⟨bk, 0, none⟩), .slice ad n cap] w fun e w' => e = .returned (.tuple #[]) ∧ (∃ v', Bk w' bk (N + 1) v' (H ++ [(.slice ad n cap, nilS, N + 1)])) ∧ Fr (fun k => bk ≤ k) w w' := by
  obtain ⟨i0, hi, hz0, hz1, hz2⟩ := info_parts infoH
  have b0 := hB.blk
  have c0 : w.cell? ⟨bk, 0, none⟩ = some (.int .i64 (N : Int)) := (cell_of b0 0).trans rfl
  have c6 : w.cell? ⟨bk, 1, none⟩ = some v := (cell_of b0 1).trans rfl
  have f0 := frozen_of b0 0
  have f6 := frozen_of b0 1
  have lb := heap_lt b0
  have HB : Hid (Bk w bk N v H) := hB
  have HG : Hid (∀ g, v.ownBlock = some g → bk + 1 ≤ g ∧ g < w.heap.size) := hB.own.lt
  clear hB
  obtain ⟨va, vc, rfl⟩ := ownsRow_form HB.out.own
  obtain ⟨w1, hw1⟩ : ∃ w1, w.setCell ⟨bk, 0, none⟩ (.int .i64 ((N : Int) + 1)) = w1 := ⟨_, rfl⟩
  have b1 : w1.heap[bk]? = some (.cells (bkc (N + 1) (.slice va H.length vc)) 77) := by
    rw [← hw1, heap_set b0]
    simp [bkc]
  have fr1 : Fr (fun k => k = bk) w w1 := by rw [← hw1]; exact (Fr.refl _ w).setCell _ _ (fun _ => rfl)
  have s1 : w1.heap.size = w.heap.size := by rw [← hw1]; simp [World.setCell]
  have c16 : w1.cell? ⟨bk, 1, none⟩ = some (.slice va H.length vc) := (cell_of b1 1).trans rfl
  have c10 : w1.cell? ⟨bk, 0, none⟩ = some (.int .i64 ((N : Int) + 1)) := (cell_of b1 0).trans (by simp [bkc])
  have f16 := frozen_of b1 1
  have own1 : Hid (((w1.alloc (.cells #[.slice ad n cap, nilS, .int .i64 ((N : Int) + 1)] 94)).drew).ownsRow (bk + 1) 94 3 (.slice va H.length vc) H.length (hc H)) :=
    ((ownsRow_keep HB.out.own (fun g hg => fr1.block g (HG.out g hg).2 (by have := (HG.out g hg).1; show ¬ (g = bk); omega))).alloc _)
  have HNew : Hid (∀ j u, [Value.slice ad n cap, nilS, .int .i64 ((N : Int) + 1)][j]? = some u → ((w1.alloc (.cells #[.slice ad n cap, nilS, .int .i64 ((N : Int) + 1)] 94)).drew).cell? ((⟨w.heap.size, 0, none⟩ : Addr).add j) = some u) := by rw [← s1]; exact held_new w1 _ _ _ _
  have HW1 : Hid (w.setCell ⟨bk, 0, none⟩ (.int .i64 ((N : Int) + 1)) = w1) := hw1
  have HB1 : Hid (w1.heap[bk]? = some (.cells (bkc (N + 1) (.slice va H.length vc)) 77)) := b1
  have hfin : ∀ v' w', w'.ownsRow (bk + 1) 94 3 v' (H.length + 1) (hc H ++ [Value.slice ad n cap, nilS, .int .i64 ((N : Int) + 1)]) → ((w1.alloc (.cells #[.slice ad n cap, nilS, .int .i64 ((N : Int) + 1)] 94)).drew).grownBy w' (Value.slice va H.length vc).ownBlock → Bk (w'.setCell ⟨bk, 1, none⟩ v') bk (N + 1) v' (H ++ [(.slice ad n cap, nilS, N + 1)]) ∧ Fr (fun k => bk ≤ k) w (w'.setCell ⟨bk, 1, none⟩ v') := by
    intro v' w' ho hg
    have fr2 : Fr (fun k => bk < k) w1 w' := (((Fr.refl _ w1).alloc _).drew).grown hg (fun k q hk => by have := (HG.out k q).1; omega)
    have b2 := (fr2.block bk (by omega) (by simp)).trans b1
    refine ⟨⟨?_, ?_⟩, ?_⟩
    · rw [heap_set b2]
      simp [bkc]
    · rw [hc_app, List.length_append]
      refine ownsRow_keep (by simpa [hc] using ho) (fun g hg => heap_set_ne (by have := (ho.lt g hg).1; omega) _)
    · exact (((fr1.mono (S' := fun k => bk ≤ k) (fun j _ h => Nat.le_of_eq h.symm)).trans fr2 (fun j _ h => Nat.le_of_lt h)).setCell _ _ (fun _ => Nat.le_refl _))
  have HF := show Hid _ from hfin
  clear b1 hw1 hfin b0
  go_enter Tryz.func31, Tryz.ntmps31
  go_wp2
  rw [HW1.out]
  go_region_law (refine step_append_own rfl (.tmp 15) (.tmp 22) 60 rfl (bk + 1) 94 i0 (.agg #[nilS, nilS, .int .i64 0]) 3 56 Tryz.underlying60 hi hz0 hz1 hz2 rfl (by decide) (.slice va H.length vc) H.length (hc H) rfl own1.out ⟨w.heap.size, 0, none⟩ 1 1 [.slice ad n cap, nilS, .int .i64 ((N : Int) + 1)] rfl rfl HNew.out (by simp [Value.oneCell']) (by unfold maxLen; omega) (by omega) (by simp; omega) ?_; intro v9 w9 o9 g9; have HF9 := HF.out v9 w9 o9 g9; have hb9 : w9.heap[bk]? = some (.cells (bkc (N + 1) (.slice va H.length vc)) 77) := ((g9.block bk (by simp; omega) (fun e => by have := (HG.out bk e.symm).1; omega)).trans (Below.heap_alloc _ _ _ (by omega))).trans HB1.out; have c96 : w9.cell? ⟨bk, 1, none⟩ = some (.slice va H.length vc) := (cell_of hb9 1).trans rfl; have f96 := frozen_of hb9 1; obtain ⟨vx, vy, rfl⟩ := ownsRow_form o9; have HFF : Hid _ := HF9; clear HF9 o9 g9 hb9)
  all_goals
    try simp only [List.getElem_toArray, List.getElem_cons_succ, List.getElem_cons_zero, Act.put, List.setIfInBounds_toArray, List.set_cons_succ, List.set_cons_zero]
    go_wp2
    go_end0
    exact ⟨rfl, ⟨_, HFF.out.1⟩, HFF.out.2⟩
end IB
end Go.Proofs.YtgdjoaiahigjpaaGreatDoor
