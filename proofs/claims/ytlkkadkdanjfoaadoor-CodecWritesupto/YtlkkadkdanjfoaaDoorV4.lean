/- Two writers, none, one that nobody made, and what each should have: in memory. -/
import Derived.Test.YtlkkadkdanjfoaaDoorV3
import Derived.Test.YtlkkadkdanjfoaaDoorT4
import Derived.Test.YtlkkadkdanjfoaaDoorB1
namespace Go.Proofs.YtlkkadkdanjfoaaDoor
open Go.RowKit
set_option linter.unusedVariables false
set_option linter.unusedSimpArgs false

structure Cw (W : World) (B : Nat) (v0 v1 : Value) (l0 l1 m0 m1 : List UInt8) : Prop where
  h0 : Wr W B v0 l0
  h1 : Wr W (B + 1) v1 l1
  h3 : W.heap[B + 1 + 1]? = some (.cells #[.bool false, .slice none 0 0] 27 (0, 0))
  hr : W.heap[B + 1 + 1 + 1]? = some (.cells #[.pointer (some ⟨B, 0, none⟩), .pointer (some ⟨B + 1, 0, none⟩), .pointer none, .pointer (some ⟨B + 1 + 1, 0, none⟩)] 23 (0, 0))
  hq : W.heap[B + 1 + 1 + 1 + 1]? = some (.cells #[.string ⟨m0.toArray⟩, .string ⟨m1.toArray⟩, .string ⟨#[]⟩, .string ⟨#[]⟩] 29 (0, 0))
  g0 : ∀ g, v0.ownBlock = some g → B + 1 + 1 + 1 + 1 < g
  g1 : ∀ g, v1.ownBlock = some g → B + 1 + 1 + 1 + 1 < g
  ap : ∀ g, v0.ownBlock = some g → v1.ownBlock ≠ some g

theorem Cw.fr {S : Nat → Prop} {W W' : World} {B : Nat} {v0 v1 : Value} {l0 l1 m0 m1 : List UInt8} (h : Cw W B v0 v1 l0 l1 m0 m1) (hf : Fr S W W') (hS : ∀ k, k < W.heap.size → ¬ S k) : Cw W' B v0 v1 l0 l1 m0 m1 :=
  ⟨h.h0.fr hf (hS _ (heap_lt h.h0.blk)) (fun g e => hS g (h.h0.gt g e).2), h.h1.fr hf (hS _ (heap_lt h.h1.blk)) (fun g e => hS g (h.h1.gt g e).2),
   (hf.block _ (heap_lt h.h3) (hS _ (heap_lt h.h3))).trans h.h3, (hf.block _ (heap_lt h.hr) (hS _ (heap_lt h.hr))).trans h.hr, (hf.block _ (heap_lt h.hq) (hS _ (heap_lt h.hq))).trans h.hq, h.g0, h.g1, h.ap⟩
theorem Cw.put0 {W W' : World} {B : Nat} {v0 v1 v0' : Value} {l0 l1 m0 m1 l0' : List UInt8} (h : Cw W B v0 v1 l0 l1 m0 m1) (hf : Fr (WP B v0) W W') (h0' : Wr W' B v0' l0') (hn : WN W v0 v0') : Cw W' B v0' v1 l0' l1 m0 m1 := by
  have hq := heap_lt h.hq
  have nb : ∀ k, B < k → k ≤ B + 1 + 1 + 1 + 1 → ¬ WP B v0 k := fun k hk hk2 q => by
    rcases q with q | q
    · omega
    · have := h.g0 k q; omega
  refine ⟨h0', h.h1.fr hf (nb _ (by omega) (by omega)) (fun g e q => ?_), (hf.block _ (heap_lt h.h3) (nb _ (by omega) (by omega))).trans h.h3, (hf.block _ (heap_lt h.hr) (nb _ (by omega) (by omega))).trans h.hr, (hf.block _ hq (nb _ (by omega) (by omega))).trans h.hq, fun g e => ?_, h.g1, fun g e e1 => ?_⟩
  · rcases q with q | q
    · have := h.g1 g e; omega
    · exact h.ap g q e
  · rcases hn with hn | hn
    · exact h.g0 g (by rw [← hn]; exact e)
    · have := hn g e; omega
  · rcases hn with hn | hn
    · exact h.ap g (by rw [← hn]; exact e) e1
    · have := hn g e; have := (h.h1.gt g e1).2; omega
theorem Cw.put1 {W W' : World} {B : Nat} {v0 v1 v1' : Value} {l0 l1 m0 m1 l1' : List UInt8} (h : Cw W B v0 v1 l0 l1 m0 m1) (hf : Fr (WP (B + 1) v1) W W') (h1' : Wr W' (B + 1) v1' l1') (hn : WN W v1 v1') : Cw W' B v0 v1' l0 l1' m0 m1 := by
  have hq := heap_lt h.hq
  have nb : ∀ k, k ≠ B + 1 → k ≤ B + 1 + 1 + 1 + 1 → ¬ WP (B + 1) v1 k := fun k hk hk2 q => by
    rcases q with q | q
    · omega
    · have := h.g1 k q; omega
  refine ⟨h.h0.fr hf (nb _ (by omega) (by omega)) (fun g e q => ?_), h1', (hf.block _ (heap_lt h.h3) (nb _ (by omega) (by omega))).trans h.h3, (hf.block _ (heap_lt h.hr) (nb _ (by omega) (by omega))).trans h.hr, (hf.block _ hq (nb _ (by omega) (by omega))).trans h.hq, h.g0, fun g e => ?_, fun g e e1 => ?_⟩
  · rcases q with q | q
    · have := h.g0 g e; omega
    · exact h.ap g e q
  · rcases hn with hn | hn
    · exact h.g1 g (by rw [← hn]; exact e)
    · have := hn g e; omega
  · rcases hn with hn | hn
    · exact h.ap g e (by rw [← hn]; exact e1)
    · have := hn g e1; have := (h.h0.gt g e).2; omega
theorem Cw.want {W : World} {B : Nat} {v0 v1 : Value} {l0 l1 m0 m1 m0' m1' : List UInt8} (h : Cw W B v0 v1 l0 l1 m0 m1) (k : Nat) (x : Value) (hx : (#[.string ⟨m0.toArray⟩, .string ⟨m1.toArray⟩, .string ⟨#[]⟩, .string ⟨#[]⟩] : Array Value).setIfInBounds k x = #[.string ⟨m0'.toArray⟩, .string ⟨m1'.toArray⟩, .string ⟨#[]⟩, .string ⟨#[]⟩]) : Cw (W.setCell ⟨B + 1 + 1 + 1 + 1, k, none⟩ x) B v0 v1 l0 l1 m0' m1' := by
  have hf : Fr (fun j => j = B + 1 + 1 + 1 + 1) W (W.setCell ⟨B + 1 + 1 + 1 + 1, k, none⟩ x) := (Fr.refl _ _).setCell _ _ (fun _ => rfl)
  refine ⟨h.h0.fr hf (by omega) (fun g e => by have := h.g0 g e; omega), h.h1.fr hf (by omega) (fun g e => by have := h.g1 g e; omega), (hf.block _ (heap_lt h.h3) (by omega)).trans h.h3, (hf.block _ (heap_lt h.hr) (by omega)).trans h.hr, ?_, h.g0, h.g1, h.ap⟩
  rw [heap_set h.hq, hx]

/-- The memory as it is ahead of the first step. -/
theorem start4 (w w1 w2 : World) (h1 : Wr w1 w.heap.size (.slice none 0 0) []) (f1 : Fr (fun _ => False) w w1) (z1 : w1.heap.size = w.heap.size + 1) (h2 : Wr w2 w1.heap.size (.slice none 0 0) []) (f2 : Fr (fun _ => False) w1 w2) (z2 : w2.heap.size = w1.heap.size + 1) :
    ∃ W, W = (((w2.alloc (.cells #[.bool false, .slice none 0 0] 27)).alloc (.cells #[.pointer (some ⟨w.heap.size, 0, none⟩), .pointer (some ⟨w.heap.size + 1, 0, none⟩), .pointer none, .pointer (some ⟨w.heap.size + 1 + 1, 0, none⟩)] 23)).alloc (.cells #[.string ⟨#[]⟩, .string ⟨#[]⟩, .string ⟨#[]⟩, .string ⟨#[]⟩] 29)) ∧ Cw W w.heap.size (.slice none 0 0) (.slice none 0 0) [] [] [] [] ∧ Fr (fun _ => False) w W := by
  rw [z1] at h2 z2
  have fa := (Fr.refl (fun _ => False) w2).alloc (.cells #[.bool false, .slice none 0 0] 27)
  have a1 := heap_alloc_new w2 (.cells #[.bool false, .slice none 0 0] 27)
  rw [z2] at a1
  obtain ⟨wa, hwa⟩ : ∃ wa, wa = w2.alloc (.cells #[.bool false, .slice none 0 0] 27) := ⟨_, rfl⟩
  have za : wa.heap.size = w.heap.size + 1 + 1 + 1 := by rw [hwa]; simp [z2]
  rw [← hwa] at fa a1 ⊢
  have fb := (Fr.refl (fun _ => False) wa).alloc (.cells #[.pointer (some ⟨w.heap.size, 0, none⟩), .pointer (some ⟨w.heap.size + 1, 0, none⟩), .pointer none, .pointer (some ⟨w.heap.size + 1 + 1, 0, none⟩)] 23)
  have b1 := heap_alloc_new wa (.cells #[.pointer (some ⟨w.heap.size, 0, none⟩), .pointer (some ⟨w.heap.size + 1, 0, none⟩), .pointer none, .pointer (some ⟨w.heap.size + 1 + 1, 0, none⟩)] 23)
  rw [za] at b1
  obtain ⟨wb, hwb⟩ : ∃ wb, wb = wa.alloc (.cells #[.pointer (some ⟨w.heap.size, 0, none⟩), .pointer (some ⟨w.heap.size + 1, 0, none⟩), .pointer none, .pointer (some ⟨w.heap.size + 1 + 1, 0, none⟩)] 23) := ⟨_, rfl⟩
  have zb : wb.heap.size = w.heap.size + 1 + 1 + 1 + 1 := by rw [hwb]; simp [za]
  rw [← hwb] at fb b1 ⊢
  have fc := (Fr.refl (fun _ => False) wb).alloc (.cells #[.string ⟨#[]⟩, .string ⟨#[]⟩, .string ⟨#[]⟩, .string ⟨#[]⟩] 29)
  have c1 := heap_alloc_new wb (.cells #[.string ⟨#[]⟩, .string ⟨#[]⟩, .string ⟨#[]⟩, .string ⟨#[]⟩] 29)
  rw [zb] at c1
  have nf : ∀ k : Nat, ¬ (fun (_ : Nat) => False) k := fun _ f => f
  have f12 := f1.trans f2 (fun _ _ q => q)
  have fabc := (fa.trans fb (fun _ _ q => q)).trans fc (fun _ _ q => q)
  refine ⟨_, rfl, ⟨(h1.fr f2 (fun f => f) (fun _ _ f => f)).fr fabc (fun f => f) (fun _ _ f => f), h2.fr fabc (fun f => f) (fun _ _ f => f), ?_, ?_, c1, fun g e => (by cases e), fun g e => (by cases e), fun g e => (by cases e)⟩, f12.trans fabc (fun _ _ q => q)⟩
  · exact (((fb.trans fc (fun _ _ q => q)).block _ (by omega) (fun f => f))).trans a1
  · exact (fc.block _ (by omega) (fun f => f)).trans b1
end Go.Proofs.YtlkkadkdanjfoaaDoor
