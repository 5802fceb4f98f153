/- A row of one's own is appended to: in its own block, or moved into a new one; what a Book's rows are grown to. -/
import Derived.Test.YtgdjoaiahigjpaaGreatDoorIx3
import Derived.Test.YtgdjoaiahigjpaaGreatDoorTq
namespace Go.Proofs.YtgdjoaiahigjpaaGreatDoor
namespace IB
open Go.RowKit
set_option linter.unusedVariables false
set_option linter.unusedSimpArgs false

/-- So many marks. -/
abbrev mks (n m : Nat) : List Value := List.replicate n (mkt m)
theorem mks_take (n k m : Nat) (h : k ≤ n) : (mks n m).take (k * 1) = mks k m := by rw [Nat.mul_one, List.take_replicate, Nat.min_eq_left h]
theorem mks_more (n m : Nat) : mks n m ++ [mkt m] = mks (n + 1) m := (List.replicate_succ' ..).symm
/-- A row of l marks that is grown by j. -/
structure Gl (w1 w : World) (B0 : Nat) (ra : Option Addr) (l rc m j : Nat) (v : Value) : Prop where
  lng : w.ownsRow B0 3 1 v (l + j) (mks (l + j) m)
  row : w.ownsRow B0 3 1 (.slice ra l rc) l (mks l m)
  at_ : v = .slice ra (l + j) rc ∨ (∃ q, v.ownBlock = some q ∧ w1.heap.size ≤ q)
  fr : Fr (fun q => (Value.slice ra l rc).ownBlock = some q) w1 w
theorem Gl.nw {w1 w w' : World} {B0 : Nat} {ra : Option Addr} {l rc m j : Nat} {v : Value} (h : Gl w1 w B0 ra l rc m j v) (n : Nw w w') : Gl w1 w' B0 ra l rc m j v :=
  ⟨ownsRow_keep h.lng (fun g hg => n.block g (h.lng.lt g hg).2 (fun f => f)), ownsRow_keep h.row (fun g hg => n.block g (h.row.lt g hg).2 (fun f => f)), h.at_, h.fr.trans n (fun _ _ f => f.elim)⟩
theorem Gl.step {w1 w w' : World} {B0 : Nat} {ra : Option Addr} {l rc m j : Nat} {v v' : Value} (h : Gl w1 w B0 ra l rc m j v)
    (ho : w'.ownsRow B0 3 1 v' (l + j + 1) (mks (l + j) m ++ [mkt m])) (ht : Two w w' 3 1 v v' (l + j) 1 (mks (l + j) m ++ [mkt m])) : Gl w1 w' B0 ra l rc m (j + 1) v' := by
  rw [mks_more] at ho ht
  rcases ht with ⟨g, cap, rfl, rfl, hg⟩ | ⟨hn, hg⟩
  · rcases h.at_ with he | ⟨q, hq, hq1⟩
    · cases he
      refine ⟨ho, ?_, .inl rfl, h.fr.grown hg (fun k hk _ => hk)⟩
      have := own_shrink ho l (by omega)
      rw [mks_take _ _ _ (by omega)] at this
      exact this
    · have hqg : g = q := by simpa [Value.ownBlock] using hq
      subst hqg
      refine ⟨ho, ?_, .inr ⟨g, rfl, hq1⟩, h.fr.grown hg (fun k hk hlt => by cases hk; omega)⟩
      by_cases hgr : (Value.slice ra l rc).ownBlock = some g
      · have := own_shrink ho l (by omega)
        rw [mks_take _ _ _ (by omega)] at this
        rcases h.row.2 with ⟨h2, _⟩ | ⟨g', cap', cur, hv, hb, hh, h3, h4, h5, h6⟩
        · rw [h2] at hgr; cases hgr
        · cases hv
          have : g' = g := by simpa [Value.ownBlock] using hgr
          subst this
          rcases this with _
          rcases h.lng.2 with ⟨k2, _⟩ | ⟨g2, cap2, cur2, hv2, hb2, hh2, k3, k4, k5, k6⟩
          · cases k2
          · cases hv2
            rw [hh] at hh2
            cases hh2
            obtain rfl : cap = rc := by omega
            assumption
      · exact ownsRow_keep h.row (fun p hp => hg.block p (h.row.lt p hp).2 (fun e => hgr (by rw [hp, e])))
  · refine ⟨ho, ?_, .inr ?_, h.fr.grown hg (fun k hk _ => by cases hk)⟩
    · exact ownsRow_keep h.row (fun p hp => hg.block p (h.row.lt p hp).2 (fun e => by cases e))
    · rcases hn.2 with ⟨_, h0⟩ | ⟨g, cap, cur, rfl, hb, _⟩
      · omega
      · exact ⟨g, rfl, Nat.le_trans h.fr.size hb⟩
theorem Gl.start {w : World} {B0 : Nat} {ra : Option Addr} {l rc m : Nat} (h : w.ownsRow B0 3 1 (.slice ra l rc) l (mks l m)) : Gl w w B0 ra l rc m 0 (.slice ra l rc) := ⟨h, h, .inl rfl, Fr.refl _ _⟩
end IB
end Go.Proofs.YtgdjoaiahigjpaaGreatDoor
