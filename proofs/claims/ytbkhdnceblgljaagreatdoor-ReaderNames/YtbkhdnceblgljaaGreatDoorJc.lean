/- reader: a store in which the tiles of a log lie. -/
import Derived.Test.YtbkhdnceblgljaaGreatDoorJgx
import Derived.Test.YtbkhdnceblgljaaGreatDoorJd
import Derived.Test.YtbkhdnceblgljaaGreatDoorTh
import Derived.Test.YtbkhdnceblgljaaGreatDoorUgx
import Derived.Test.YtbkhdnceblgljaaGreatDoorFgx
import Derived.Test.YtbkhdnceblgljaaGreatDoorOgx
namespace Go.Proofs.YtbkhdnceblgljaaGreatDoor
open Go.RowKit
set_option linter.unusedVariables false
set_option linter.unusedSimpArgs false
/-- A store that was made behind w, never reads wrong, and holds M. -/
def Lt (w w' : World) (b bm g T : Nat) (M : Tx) : Prop := w.heap.size ≤ b ∧ w.heap.size ≤ bm ∧ (w.heap.size ≤ g ∧ g < w'.heap.size) ∧ Sr w' b bm T M (some ⟨g, 0, none⟩) 0 [] 0 0 (T : Int) false
theorem Lt.fr {w w1 w2 : World} {b bm g T : Nat} {M : Tx} {S : Nat → Prop} (h : Lt w w1 b bm g T M) (f : Fr S w1 w2) (hS : ∀ k, S k → k ≠ b ∧ k ≠ bm) : Lt w w2 b bm g T M :=
  ⟨h.1, h.2.1, ⟨h.2.2.1.1, Nat.lt_of_lt_of_le h.2.2.1.2 f.size⟩, ⟨(f.block _ (heap_lt h.2.2.2.blk) (fun q => (hS _ q).1 rfl)).trans h.2.2.2.blk, h.2.2.2.mp.fr f (fun q => (hS _ q).2 rfl), fun j hj => by simp at hj, h.2.2.2.ne, h.2.2.2.nb⟩⟩
theorem Lt.nw {w w1 w2 : World} {b bm g T : Nat} {M : Tx} (h : Lt w w1 b bm g T M) (f : Nw w1 w2) : Lt w w2 b bm g T M := h.fr f (fun _ q => q.elim)
/-- A row of hashes is neither the store nor its map. -/
theorem Lt.row {w w1 : World} {b bm g T : Nat} {M : Tx} (h : Lt w w1 b bm g T M) {base n : Nat} {v : Value} {xs : List Value} (ho : w1.ownsRow base 42 32 v n xs) : ∀ k, v.ownBlock = some k → k ≠ b ∧ k ≠ bm := fun k hk => by
  rcases ho.2 with ⟨rfl, _⟩ | ⟨g', cap, cur, rfl, hg, hb, _⟩
  · simp [Value.ownBlock] at hk
  · simp only [Value.ownBlock, Option.some.injEq] at hk
    subst hk
    refine ⟨fun e => ?_, fun e => ?_⟩
    · have := h.2.2.2.blk
      rw [← e, hb] at this
      simp at this
    · obtain ⟨D, ⟨es, ck, hm, _⟩, _⟩ := h.2.2.2.mp
      rw [← e, hb] at hm
      simp at hm
/-- What holds at the head of the outer loop. -/
def Onl (l : List (List UInt8)) (M : Tx) : Prop := ∀ s t, M s = some t → ∃ q i W, wid q i l.length = W ∧ 0 < W ∧ s = ⟨(nm q i W).toArray⟩ ∧ t = tlB l q i W
theorem Onl.zero (l : List (List UInt8)) : Onl l (fun _ => none) := fun s t h => by cases h
theorem Onl.put {l : List (List UInt8)} {M : Tx} {Q J W : Nat} (h : Onl l M) (hw : wid Q J l.length = W) (h0 : 0 < W) : Onl l (putT M ⟨(nm Q J W).toArray⟩ (tlB l Q J W)) := fun s t hs => by
  by_cases e : s = ⟨(nm Q J W).toArray⟩
  · rw [e, putT_same] at hs
    injection hs with hs
    exact ⟨Q, J, W, hw, h0, e, hs.symm⟩
  · rw [putT_other _ _ _ e] at hs
    exact h s t hs
theorem wr0 (M : Tx) (s t : ByteArray) (T : Nat) : wrT M s t 0 ((T : Int) + 1) = putT M s t := by
  unfold wrT
  rw [if_neg (by omega)]
theorem pv0 (a : Nat → Addr) (T : Nat) : putV a 0 ((T : Int) + 1) = .nilIface := by
  have h1 : ((0 : Int) == (T : Int) + 1) = false := by simp; omega
  have h2 : ((0 : Int) == -((T : Int) + 1)) = false := by simp; omega
  unfold putV dies
  rw [h1, h2]; rfl
theorem dies0 (T : Nat) : dies 0 ((T : Int) + 1) = false := by
  have h1 : ((0 : Int) == (T : Int) + 1) = false := by simp; omega
  have h2 : ((0 : Int) == -((T : Int) + 1)) = false := by simp; omega
  unfold dies
  rw [h1, h2]; rfl
/-- A text is put into such a store. -/
theorem Lt.put {w W : World} {b bm g T : Nat} {M : Tx} (h : Lt w W b bm g T M) (s t : ByteArray) (hs : okN s) (ht : t.size ≤ 281474976710656) {B : Nat} {a : Nat → Addr} (hS : Sent B W a) (hB : B ≤ w.heap.size) (hT : T ≤ 1000000) :
    Calls Tryz.prog 21 #[.pointer (some ⟨b, 0, none⟩), .string s, .string t] W fun e w' => e = .returned .nilIface ∧ Lt w w' b bm g (T + 1) (putT M s t) ∧ Fr (fun k => k = b ∨ k = bm) W w' := by
  have q := sput_any h.2.2.2 s t hs ht hS (by omega) (by omega) (by omega) (by have := h.1; omega) (by have := h.2.1; omega)
  rw [wr0, pv0, dies0] at q
  exact q.mono fun e w' ⟨e1, e2, e3⟩ => ⟨e1, ⟨h.1, h.2.1, ⟨h.2.2.1.1, Nat.lt_of_lt_of_le h.2.2.1.2 e3.size⟩, e2⟩, e3⟩
end Go.Proofs.YtbkhdnceblgljaaGreatDoor
