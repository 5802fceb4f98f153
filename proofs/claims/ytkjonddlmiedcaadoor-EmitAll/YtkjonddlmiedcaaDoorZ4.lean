/- Builders that lie apart: what Add does to one of several. -/
import Derived.Test.YtkjonddlmiedcaaDoorZ3
namespace Go.Proofs.YtkjonddlmiedcaaDoor
open Go.RowKit Go.Shelf
set_option linter.unusedVariables false
set_option linter.unusedSimpArgs false
/-- The hashes behind one more leaf. -/
def addL (n : Nat) (L : List (List UInt8)) (x : List UInt8) : List (List UInt8) := L.take (L.length - ones 64 n) ++ [nhs L x (ones 64 n)]
/-- A builder whose blocks are among P. -/
structure Bp (w : World) (P : Nat → Prop) (b : Nat) (v : Value) (n : Nat) (L : List (List UInt8)) : Prop where
  bd : ∃ base, Bd w b base v n L
  pb : P b
  pv : ∀ g, v.ownBlock = some g → P g
  plt : ∀ g, P g → g < w.heap.size
  cnt : L.length = Lib.popAux 64 n
theorem Bp.fr {S P : Nat → Prop} {w w' : World} {b : Nat} {v : Value} {n : Nat} {L : List (List UInt8)} (h : Bp w P b v n L) (f : Fr S w w') (hd : ∀ g, P g → ¬ S g) : Bp w' P b v n L := by
  obtain ⟨base, hb⟩ := h.bd
  exact ⟨⟨base, hb.fr f (hd b h.pb) (fun g hg => hd g (h.pv g hg))⟩, h.pb, h.pv, fun g hg => Nat.lt_of_lt_of_le (h.plt g hg) f.size, h.cnt⟩
theorem Bp.nw {P : Nat → Prop} {w w' : World} {b : Nat} {v : Value} {n : Nat} {L : List (List UInt8)} (h : Bp w P b v n L) (f : Nw w w') : Bp w' P b v n L := h.fr f (fun _ _ q => q)
theorem Bp.ok {P : Nat → Prop} {w : World} {b : Nat} {v : Value} {n : Nat} {L : List (List UInt8)} (h : Bp w P b v n L) : ∀ x ∈ L, x.length = 32 := by
  obtain ⟨base, hb⟩ := h.bd
  exact hb.ok
theorem Bp.len {P : Nat → Prop} {w : World} {b : Nat} {v : Value} {n : Nat} {L : List (List UInt8)} (h : Bp w P b v n L) : L.length ≤ 64 := by rw [h.cnt]; exact popAux_le 64 n
theorem addL_len (n : Nat) (hn : n < 9223372036854775808) (L : List (List UInt8)) (h : L.length = Lib.popAux 64 n) (x : List UInt8) : (addL n L x).length = Lib.popAux 64 (n + 1) := by
  have h1 := ones_pop 64 n
  have h2 := pop_next 64 n (by omega)
  unfold addL
  rw [List.length_append, List.length_take, h]
  simp only [List.length_singleton]
  omega
theorem padd {P : Nat → Prop} {w : World} {b : Nat} {v : Value} {n : Nat} {L : List (List UInt8)} (h : Bp w P b v n L) (hn : n < 9223372036854775808) (x : List UInt8) (hx : x.length = 32) (hL : Laid w) (hT : TabAt w) :
    Calls Tryd.prog 6 #[.pointer (some ⟨b, 0, none⟩), .agg (hbs x)] w fun e w' => ∃ ta tc v' P', e = .returned (.tuple #[.slice ta (ones 64 n + 1) tc, .nilIface]) ∧ w'.ownsRow w.heap.size 38 34 (.slice ta (ones 64 n + 1) tc) (ones 64 n + 1) (tsc (nds n L x (ones 64 n + 1))) ∧ Bp w' P' b v' (n + 1) (addL n L x) ∧ (∀ g, P' g → P g ∨ w.heap.size ≤ g) ∧ (∀ g, (Value.slice ta (ones 64 n + 1) tc).ownBlock = some g → ¬ P' g) ∧ Fr P w w' := by
  obtain ⟨base, hb⟩ := h.bd
  have hop := ones_pop 64 n
  refine (eadd_any hb hn x hx (ones 64 n) (ctz_succ n).symm (by rw [h.cnt]; exact hop) (ones_may n hn) (by have := h.len; omega) hL hT).mono ?_
  rintro e w' ⟨tv, v', rfl, o, b', s, f⟩
  obtain ⟨ta, tc, rfl⟩ := ownsRow_form o
  have hf : Fr P w w' := f.mono (fun k _ q => q.elim (fun e => e ▸ h.pb) (fun e => h.pv k e))
  refine ⟨ta, tc, v', fun g => P g ∨ (w.heap.size ≤ g ∧ v'.ownBlock = some g), rfl, o, ⟨⟨base, b'⟩, .inl h.pb, fun g hg => ?_, fun g hg => ?_, addL_len n hn L h.cnt x⟩, fun g hg => hg.imp id (fun q => q.1), fun g hg hP => ?_, hf⟩
  · rcases s with e | ⟨g', e, hl⟩
    · exact .inl (h.pv g (by rw [← e]; exact hg))
    · rw [e] at hg; cases hg; exact .inr ⟨hl, e⟩
  · rcases hg with hg | hg
    · exact Nat.lt_of_lt_of_le (h.plt g hg) hf.size
    · exact (b'.own.lt g hg.2).2
  · rcases hP with hP | ⟨_, hP⟩
    · have := h.plt g hP
      have := (o.lt g hg).1
      omega
    · exact row_ne o b'.own (by decide) g hg hP
theorem proot {P : Nat → Prop} {w : World} {b : Nat} {v : Value} {n : Nat} {L : List (List UInt8)} (h : Bp w P b v n L) (hL : Laid w) :
    Calls Tryd.prog 14 #[.pointer (some ⟨b, 0, none⟩)] w fun e w' => e = .returned (.agg (hbs (fde L))) ∧ Nw w w' := by
  obtain ⟨base, hb⟩ := h.bd
  by_cases hnil : L = []
  · rw [hnil] at hb ⊢
    exact eroot_empty hb hL
  · exact eroot_some hb hnil (by have := h.len; omega) hL
theorem psize {P : Nat → Prop} {w : World} {b : Nat} {v : Value} {n : Nat} {L : List (List UInt8)} (h : Bp w P b v n L) :
    Calls Tryd.prog 13 #[.pointer (some ⟨b, 0, none⟩)] w fun e w' => e = .returned (.int .u64 (n : Int)) ∧ Nw w w' := by
  obtain ⟨base, hb⟩ := h.bd
  exact (esize_any hb).mono (by rintro e w' ⟨rfl, rfl⟩; exact ⟨rfl, nwr _⟩)
theorem pload {w : World} {base0 : Nat} (n : Nat) (hn : n ≤ 9223372036854775808) (v : Value) (L : List (List UInt8)) (ho : w.ownsRow base0 32 32 v L.length (hsc L)) (hok : ∀ t ∈ L, t.length = 32) (hm : L.length = Lib.popAux 64 n) (hL : Laid w) :
    Calls Tryd.prog 18 #[.int .u64 (n : Int), v] w fun e w' => ∃ b v' P, e = .returned (.tuple #[.pointer (some ⟨b, 0, none⟩), .nilIface]) ∧ Bp w' P b v' n L ∧ (∀ g, P g → w.heap.size ≤ g) ∧ Nw w w' := by
  refine (eload_any n hn v L ho hok hm hL).mono ?_
  rintro e w' ⟨b, v', rfl, h1, hB, nw⟩
  refine ⟨b, v', fun g => g = b ∨ v'.ownBlock = some g, rfl, ⟨⟨_, hB⟩, .inl rfl, fun g hg => .inr hg, fun g hg => ?_, hm⟩, fun g hg => ?_, nw⟩
  · rcases hg with rfl | hg
    · exact heap_lt hB.blk
    · exact (hB.own.lt g hg).2
  · rcases hg with rfl | hg
    · exact h1
    · exact (hB.own.lt g hg).1
theorem pnew (w : World) (hL : Laid w) :
    Calls Tryd.prog 5 #[] w fun e w' => ∃ P, e = .returned (.pointer (some ⟨w.heap.size, 0, none⟩)) ∧ Bp w' P w.heap.size (.slice none 0 0) 0 [] ∧ (∀ g, P g → w.heap.size ≤ g) ∧ Nw w w' := by
  refine (enew_any w hL).mono ?_
  rintro e w' ⟨rfl, hB, hs, nw⟩
  refine ⟨fun g => g = w.heap.size, rfl, ⟨⟨_, hB⟩, rfl, fun g hg => by simp [Value.ownBlock] at hg, fun g hg => by omega, by rw [pop_zero]; rfl⟩, fun g hg => by omega, nw⟩
theorem getD_two (n m : Nat) (h : n < 4611686018427387904) (h' : m < 4611686018427387904) : ∀ j, [n, m].getD j 0 < 4611686018427387904 := fun j => by
  match j with
  | 0 => exact h
  | 1 => exact h'
  | j + 2 => simp
end Go.Proofs.YtkjonddlmiedcaaDoor
