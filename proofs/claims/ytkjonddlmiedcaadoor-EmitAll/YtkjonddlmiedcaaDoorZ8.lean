/- EmitAll: the walk. -/
import Derived.Test.YtkjonddlmiedcaaDoorZ7
namespace Go.Proofs.YtkjonddlmiedcaaDoor
open Go.RowKit Go.Shelf
set_option linter.unusedVariables false
set_option linter.unusedSimpArgs false
theorem cpop_any (n : Nat) (w : World) (h : n < 18446744073709551616) :
    Calls Tryd.prog 9 #[.int .u64 (n : Int)] w fun e w' => e = .returned (.int .i64 (Lib.popAux 64 n : Int)) ∧ w' = w := by
  have q := oc_any (n : Int) w (by omega) (by omega)
  rw [Int.toNat_natCast] at q
  go_enter Tryd.func9, Tryd.ntmps9
  go_wp2_with fail
  refine q.mono ?_
  rintro e w1 ⟨rfl, rfl⟩
  go_wp2
  go_ret
  exact ⟨rfl, rfl⟩
theorem tsc_ones {l : List Tre} : ∀ u ∈ tsc l, u.oneCell' = true := fun u hu => by
  obtain ⟨t, _, h⟩ := List.mem_flatMap.1 hu
  exact Tre.one t u h
/-- The builder and all that was told, behind k leaves. -/
structure Eb (w : World) (rb : Nat) (f : Nat → List UInt8) (wr : World) (k : Nat) (va : Option Addr) (vc : Nat) : Prop where
  bp : ∃ bv P, Bp wr P rb bv k (stE f k) ∧ (∀ g, P g → rb ≤ g) ∧ (∀ g, (Value.slice va (allE f k).length vc).ownBlock = some g → ¬ P g)
  own : wr.ownsRow rb 38 34 (.slice va (allE f k).length vc) (allE f k).length (tsc (allE f k))
  nw : Nw w wr
theorem Eb.go {w : World} {rb : Nat} {f : Nat → List UInt8} {wr wx : World} {k : Nat} {va : Option Addr} {vc : Nat} (h : Eb w rb f wr k va vc) (n : Nw wr wx) : Eb w rb f wx k va vc := by
  obtain ⟨bv, P, h1, h2, h3⟩ := h.bp
  exact ⟨⟨bv, P, h1.nw n, h2, h3⟩, ownsRow_keep h.own (fun g hg => n.block g (h.own.lt g hg).2 (fun q => q)), h.nw.tr n⟩
theorem Eb.add {w : World} {rb : Nat} {f : Nat → List UInt8} {wr : World} {k : Nat} {va : Option Addr} {vc : Nat} (h : Eb w rb f wr k va vc) (hrb : w.heap.size ≤ rb) (hf : ∀ i, (f i).length = 32) (hk : k < 1000) (hL : Laid w) (hT : TabAt w) {y : List UInt8} (hy : y = f k) {o : Nat} (ho : o = ones 64 k) :
    Calls Tryd.prog 6 #[.pointer (some ⟨rb, 0, none⟩), .agg (hbs y)] wr fun e w' => ∃ g tc bv P, e = .returned (.tuple #[.slice (some ⟨g, 0, none⟩) (o + 1) tc, .nilIface]) ∧ w'.ownsRow wr.heap.size 38 34 (.slice (some ⟨g, 0, none⟩) (o + 1) tc) (o + 1) (tsc (ndE f k)) ∧ Bp w' P rb bv (k + 1) (stE f (k + 1)) ∧ (∀ g, P g → rb ≤ g) ∧ (∀ g, (Value.slice va (allE f k).length vc).ownBlock = some g → ¬ P g) ∧ w'.ownsRow rb 38 34 (.slice va (allE f k).length vc) (allE f k).length (tsc (allE f k)) ∧ Nw w w' := by
  subst hy ho
  obtain ⟨bv, P, h1, h2, h3⟩ := h.bp
  refine (padd h1 (by omega) (f k) (hf k) (hL.nw h.nw) (hT.nw h.nw)).mono ?_
  rintro e w' ⟨ta, tc, v', P', rfl, o4, b4, p4, t4, f4⟩
  rw [ndE_nds f k (by omega)] at o4
  rw [stE_add f k (by omega)] at b4
  have hw := h.nw.size
  have hr : rb < wr.heap.size := h1.plt rb h1.pb
  rcases o4.2 with ⟨hv, h0⟩ | ⟨g, cap, cur, hv, _⟩
  · omega
  · cases hv
    refine ⟨g, tc, v', P', rfl, o4, b4, fun g hg => (p4 g hg).elim (h2 g) (fun q => by omega), fun g hg q => ?_, ownsRow_keep h.own (fun g hg => f4.block g (h.own.lt g hg).2 (h3 g hg)), h.nw.trans f4 (fun j hj q => by have := h2 j q; omega)⟩
    rcases p4 g q with q | q
    · exact h3 g hg q
    · have := (h.own.lt g hg).2; omega
theorem Eb.app {w : World} {rb : Nat} {f : Nat → List UInt8} {k : Nat} {va : Option Addr} {vc : Nat} {w1 w2 : World} {bv : Value} {P : Nat → Prop} (hrb : w.heap.size ≤ rb) (hb : Bp w1 P rb bv (k + 1) (stE f (k + 1))) (hp : ∀ g, P g → rb ≤ g) (hd : ∀ g, (Value.slice va (allE f k).length vc).ownBlock = some g → ¬ P g) (hr : ∀ g, (Value.slice va (allE f k).length vc).ownBlock = some g → rb ≤ g) (hn : Nw w w1) {o : Nat} (ho : o = ones 64 k) {v' : Value} (o2 : w2.ownsRow rb 38 34 v' ((allE f k).length + (o + 1)) (tsc (allE f k) ++ tsc (ndE f k))) (t2 : Two w1 w2 38 34 (.slice va (allE f k).length vc) v' (allE f k).length (o + 1) (tsc (allE f k) ++ tsc (ndE f k))) :
    ∃ xa xc, v' = .slice xa (allE f (k + 1)).length xc ∧ Eb w rb f w2 (k + 1) xa xc := by
  have e1 : (allE f (k + 1)).length = (allE f k).length + (o + 1) := by simp only [allE, List.length_append, ndE_len]; omega
  have e2 : tsc (allE f (k + 1)) = tsc (allE f k) ++ tsc (ndE f k) := by simp only [allE]; exact tsc_app _ _
  rw [← e1, ← e2] at o2
  obtain ⟨xa, xc, rfl⟩ := ownsRow_form o2
  have st := t2.stays (by omega)
  have fr := t2.fr
  refine ⟨xa, xc, rfl, ⟨bv, P, hb.fr fr (fun g hg q => hd g q hg), hp, fun g hg q => ?_⟩, o2, hn.trans fr (fun j hj q => by have := hr j q; omega)⟩
  rcases st with e | ⟨g', e, hl⟩
  · exact hd g (by rw [← e]; exact hg) q
  · rw [hg] at e
    cases e
    have := hb.plt g q
    omega
end Go.Proofs.YtkjonddlmiedcaaDoor
