/- What put does with a thing. -/
import Derived.Test.YtebbgpnhkpbefaaDoorcS3
import Derived.Test.YtebbgpnhkpbefaaDoorcM1
namespace Go.Proofs.YtebbgpnhkpbefaaDoor
open Go.RowKit
set_option linter.unusedVariables false
set_option linter.unusedSimpArgs false

/-- What is put to a writer at block b, whatever comes of it. -/
def Pt (f : Nat) (args : Array Value) (b : Nat) (w : World) (PF : Value → World → Prop) : Prop :=
  ∀ w1, Fr (fun _ => False) w w1 → Calls Tryd.prog f args w1 fun e w' => ∃ ev, e = .returned ev ∧ PF ev w' ∧ Fr (WS b) w1 w'

theorem boxed {w : World} {V : Array Value} {t : TypeId} {i : Nat} {u : Value} (h : V[i]? = some u) : (w.alloc (.cells V t)).cell? ⟨w.heap.size, i, none⟩ = some u := (cell_of (heap_alloc_new w _) i).trans h

end Go.Proofs.YtebbgpnhkpbefaaDoor
