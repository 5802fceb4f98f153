/- A statement whose order is drawn, that reads what was there and calls what makes memory of its own: walked once, in the text's order. -/
import Derived.Test.YtihmckficphccaaGreatDoorBase
namespace Go.Proofs.YtihmckficphccaaGreatDoor
open Go.RowKit
set_option linter.unusedVariables false

/-- A world in which nothing that was there has turned. -/
structure Grw (w : World) where
  val : World
  nw : Nw w val
theorem wp_region_grown {P : Program} {id : Nat} {Q : Exit → Act → World → Prop} {a : Act} {w : World} {l : List Oper} (hm : P.follows .mixedOrders = true) (hB : Region.lexB .any l.toArray = true)
    (h : wpQuiet P l.toArray (fun w' => ∃ x : Grw w, w' = x.val) (fun a' => ∀ w', (∃ x : Grw w, w' = x.val) → Q .normal a' w') l a) : (Code.region id l.toArray true).wp P Q a w :=
  wp_region_quiet (C := fun w' => ∃ x : Grw w, w' = x.val) hm hB ⟨⟨w.drew, (Fr.refl _ _).drew⟩, rfl⟩ (by simpa using h)
theorem grown_call {P : Program} {f : FuncId} {args : Array Value} {w : World} {x : Grw w} {v : Value} (h : Calls P f args x.val fun e w' => e = .returned v ∧ Nw x.val w') :
    Calls P f args x.val fun e w'' => e = .returned v ∧ ∃ y : Grw w, w'' = y.val :=
  h.mono fun _ w' ⟨he, hn⟩ => ⟨he, ⟨w', x.nw.tr hn⟩, rfl⟩
theorem grown_same {P : Program} {f : FuncId} {args : Array Value} {w : World} {x : Grw w} {v : Value} (h : Calls P f args x.val fun e w' => e = .returned v ∧ w' = x.val) :
    Calls P f args x.val fun e w'' => e = .returned v ∧ ∃ y : Grw w, w'' = y.val :=
  h.mono fun _ w' ⟨he, hn⟩ => ⟨he, x, hn⟩
theorem Grw.cell {w : World} (x : Grw w) {p : Addr} {v : Value} (h : w.cell? p = some v) : x.val.cell? p = some v := x.nw.cellOf h
end Go.Proofs.YtihmckficphccaaGreatDoor
