/- What is laid: the powers of ten; the library's own variable, whatever it holds; a call's contract that is told the world's shape besides. -/
import Derived.Test.YtjkhcplnedcmeaaGreatDoorLg2
import Derived.Test.YtjkhcplnedcmeaaGreatDoorUgx
import Derived.Lib.LaidTab
import Derived.Shelf.Vars
import Derived.HandedShaped
import Derived.Test.YtjkhcplnedcmeaaGreatDoorCg
namespace Go.Proofs.YtjkhcplnedcmeaaGreatDoor
open Go.RowKit
set_option linter.unusedVariables false
def keepP (x : String × DataW Unit) : Bool := x.1 == "internal/strconv.uint64pow10"
theorem gP : Tryz.prog.globalNamed "internal/strconv.uint64pow10" = some 19 := by kernel_rfl
theorem tP : (Tryz.prog.globals[19]?).map (·.type) = some 355 := by kernel_rfl
theorem cP : Tryz.prog.cellsOf 41 = 1 := by kernel_rfl
theorem cPs : Tryz.prog.cellsOf 355 = 20 := by kernel_rfl
theorem pow_of {l : List (String × DataW Unit)} {W : World} (h : laidMetH Tryz.prog l W) (e : l.filter keepP = [("internal/strconv.uint64pow10", Rows.laid_internal_strconv_uint64pow10)]) : TX.Pow W := by
  have h1 := h.filter keepP
  rw [e, MakeChecks.laidMetH_plain _ _ _ (by kernel_rfl)] at h1
  have h2 : laidMet Tryz.prog (("internal/strconv.uint64pow10", Lib.tabData .u64 Lib.pow10Tab) :: []) W := by
    have ed : (Rows.laid_internal_strconv_uint64pow10 : DataW Unit) = Lib.tabData .u64 Lib.pow10Tab := by kernel_rfl
    rw [← ed]; exact h1
  exact Lib.tabIs_of_head gP tP Tryz.underlying355 Tryz.underlying41 cP cPs h2
/-- A contract that is told of the world, besides what the row asks, that each variable's cells hold values of their kinds. -/
theorem handed_shaped {H : Type} {enc : TypeId × Value → H} {a : Assume} {C : Checked} {os : Os} {f : FuncId} {fn : Func} {s : ChangeSpec} {conds : List PathCond} {apart fresh handsOn again : Bool} {X : World → Array Value → Prop}
    (hX : ∀ (w w' : World) (args : Array Value), w.heap = w'.heap → X w args → X w' args) (own : ownKnob C.prog.godebug = none) (started : os.Started) (noInit : C.prog.inits.idxOf? f = none) (hfn : C.prog.funcs[f]? = some fn)
    (witness : ∃ (w : World) (tape : Tape) (i : Input), w.os = os ∧ (w.forCall tape i).Shaped C.prog ∧ i.vars = [] ∧ Input.okWide C.prog (w.forCall tape i) .any w.heap.size f i ∧
      ((s.pre enc C.prog fn conds apart (w.forCall tape i).memory i.args ∧ X (w.forCall tape i).memory i.args) ∧ sizedMet enc C.prog fn (OpenSpec.ofChange s) apart (w.forCall tape i).memory i.args) ∧ a.holds C.prog (lone (Frame.enter C.prog f i.args .normal) [] (w.forCall tape i)))
    (contract : ∀ (W : World) (base : Nat) (args : Array Value) (ds gs : List (DataW H)) (before : List MemPlace),
      (∀ (j : Nat) t v, fn.params[j]? = some t → args[j]? = some v → Value.okWide C.prog W .any base t v) → DataW.Whole enc C.prog fn.params.toList s.vars apart W args.toList ds gs before →
      (DataW.weightsEach C.prog (fn.params.toList ++ s.plain.varTypes C.prog) (ds ++ gs)).all (· ≤ reachBytes) = true → X W args → W.ShapedOpen C.prog →
      Calls C.prog f args W fun e W' => ∃ v, e = .returned v ∧ s.post enc C.prog fn apart fresh handsOn again W args v W') :
    ReturnsInHanded a C os f .any (fun w args => (s.pre enc C.prog fn conds apart w args ∧ X w args) ∧ sizedMet enc C.prog fn (OpenSpec.ofChange s) apart w args) (s.post enc C.prog fn apart fresh handsOn again) := by
  refine returnsInHanded_of_calls own started noInit witness fun w tape i _ hsh _ hok hpre _ => ?_
  obtain ⟨_, _, _, g, hg, _, _, _, _, hval⟩ := hok
  obtain rfl : g = fn := Option.some.inj (hg.symm.trans hfn)
  obtain ⟨⟨⟨ds, gs, before, hw, hc⟩, hx⟩, hz⟩ := hpre
  have hw' : DataW.Whole enc C.prog g.params.toList s.vars apart (w.forCall tape i) i.args.toList ds gs before := DataW.Whole.of_heap (by rfl) hw
  refine (contract _ _ i.args ds gs before hval hw' (hz.weights hw) (hX _ _ _ (by rfl) hx) hsh).mono ?_
  rintro e W' ⟨v, rfl, hp⟩
  exact ChangeSpec.post_blind hp
end Go.Proofs.YtjkhcplnedcmeaaGreatDoor
namespace Go.Proofs.YtjkhcplnedcmeaaGreatDoor
open Go.RowKit
set_option linter.unusedVariables false
theorem gTabI : Tryz.prog.globalNamed "math/bits.deBruijn64tab" = some 20 := by kernel_rfl
theorem tTabI : (Tryz.prog.globals[20]?).map (·.type) = some 219 := by kernel_rfl
theorem cG64I : Tryz.prog.cellsOf 219 = 64 := by kernel_rfl
theorem c8I : Tryz.prog.cellsOf 5 = 1 := by kernel_rfl
def keepTI (x : String × DataW Unit) : Bool := x.1 == "math/bits.deBruijn64tab"
def tabII : List Int := (List.range 64).map fun j => ((Lib.deBruijn64tab.getD j 0 : Nat) : Int)
theorem dataTI : (Rows.laid_math_bits_deBruijn64tab : DataW Unit) = Lib.tabData .u8 tabII := by kernel_rfl
theorem tab_ofI {l : List (String × DataW Unit)} {W : World} (h : laidMetH Tryz.prog l W) (e1 : l.filter keepTI = [("math/bits.deBruijn64tab", Rows.laid_math_bits_deBruijn64tab)]) : TabAt W := by
  have h1 := h.filter keepTI
  rw [e1, MakeChecks.laidMetH_plain _ _ _ (by kernel_rfl), dataTI] at h1
  have t1 := Lib.tabIs_of_head gTabI tTabI Tryz.underlying219 Tryz.underlying5 c8I cG64I h1
  intro j hj
  rw [t1.cell gTabI j hj]
  have e : ∀ j : Fin 64, tabII.getD j.val 0 = ((Lib.deBruijn64tab.getD j.val 0 : Nat) : Int) := by decide +kernel
  rw [e ⟨j, hj⟩]
end Go.Proofs.YtjkhcplnedcmeaaGreatDoor
