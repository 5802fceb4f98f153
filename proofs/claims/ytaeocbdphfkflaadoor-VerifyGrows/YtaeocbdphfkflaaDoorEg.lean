/- errors.Is and errors.As at what the program hands them: nil, an error of package api, a Fault that is of one. -/
import Derived.Test.YtaeocbdphfkflaaDoorBpl
import Derived.LaidEql
import Derived.Stop.Asserts
import Derived.RowKitTokens
namespace Go.Proofs.YtaeocbdphfkflaaDoor
open Go.RowKit Go.Extern.Stop Go.Stop Go.Extern
set_option linter.unusedVariables false
set_option linter.unusedSimpArgs false
/-! errors.errorString: 153; *api.Fault: 90; error: 31 -/
theorem isTypeOf (v : Value) (w : World) : (Extern.ReflectliteType.typeOf #[.iface 153 v]).run Tryd.prog w = .ok (.iface 132 (.agg #[.pointer (some ⟨19, 153, none⟩)])) w := by kernel_rfl
/-- What the model has for (rtype).Comparable. -/
def cmpE : Array Value → Sem Value := Extern.ReflectliteType.method fun t => do Extern.Rtype.noPackHeld "Comparable" t; pure (.bool (← typeInfo t).comparable)
theorem isComparable (w : World) : (cmpE #[.agg #[.pointer (some ⟨19, 153, none⟩)]]).run Tryd.prog w = .ok (.bool true) w := by kernel_rfl
theorem isMethodComparable (v : Value) (w : World) : (Go.method 285 132 v "Comparable").run Tryd.prog w = .ok (100, v) w := by kernel_rfl
theorem isComp : (Tryd.prog.info? 153).map (·.comparable) = some true := by kernel_rfl
theorem isSize : (Tryd.prog.info? 173).map (·.size) = some 1 := by kernel_rfl
theorem noIsE (v : Value) (xT : TypeId) (w : World) : (Instr.typeAssert (.iface 153 v) xT 144 true).run Tryd.prog w = .ok (.tuple #[.nilIface, .bool false]) w := run_typeAssert_lacksB Tryd.underlying144 (by kernel_rfl) (by kernel_rfl) v xT w
theorem noUnwrapE (v : Value) (xT : TypeId) (w : World) : (Instr.typeAssert (.iface 153 v) xT 139 true).run Tryd.prog w = .ok (.tuple #[.nilIface, .bool false]) w := run_typeAssert_lacksB Tryd.underlying139 (by kernel_rfl) (by kernel_rfl) v xT w
theorem noUnwrapsE (v : Value) (xT : TypeId) (w : World) : (Instr.typeAssert (.iface 153 v) xT 141 true).run Tryd.prog w = .ok (.tuple #[.nilIface, .bool false]) w := run_typeAssert_lacksB Tryd.underlying141 (by kernel_rfl) (by kernel_rfl) v xT w
theorem noAsE (v : Value) (xT : TypeId) (w : World) : (Instr.typeAssert (.iface 153 v) xT 136 true).run Tryd.prog w = .ok (.tuple #[.nilIface, .bool false]) w := run_typeAssert_lacksB Tryd.underlying136 (by kernel_rfl) (by kernel_rfl) v xT w
theorem noIsW (v : Value) (xT : TypeId) (w : World) : (Instr.typeAssert (.iface 90 v) xT 144 true).run Tryd.prog w = .ok (.tuple #[.nilIface, .bool false]) w := run_typeAssert_lacksB Tryd.underlying144 (by kernel_rfl) (by kernel_rfl) v xT w
theorem hasUnwrapW (v : Value) (xT : TypeId) (w : World) : (Instr.typeAssert (.iface 90 v) xT 139 true).run Tryd.prog w = .ok (.tuple #[.iface 90 v, .bool true]) w := run_typeAssert_hasB Tryd.underlying139 (by kernel_rfl) v xT w
theorem methodUnwrap (v : Value) (w : World) : (Go.method 285 90 v "Unwrap").run Tryd.prog w = .ok (94, v) w := by kernel_rfl

set_option maxRecDepth 100000 in
set_option maxHeartbeats 2000000 in
theorem is_same (a : Addr) (w : World) :
    Calls Tryd.prog 49 #[.iface 153 (.pointer (some a)), .iface 153 (.pointer (some a))] w fun e w' => e = .returned (.bool true) ∧ w' = w := by
  obtain ⟨i, hi, hcmp⟩ := Option.map_eq_some_iff.1 isComp
  obtain ⟨j, hj, hjs⟩ := Option.map_eq_some_iff.1 isSize
  have h8 := @run_callFunc_extern Tryd.prog 58 _ Extern.ReflectliteType.typeOf Tryd.func58 (by kernel_rfl) (by kernel_rfl) (by kernel_rfl) (by kernel_rfl)
  have h32 := @run_callFunc_extern Tryd.prog 100 _ cmpE Tryd.func100 (by kernel_rfl) (by kernel_rfl) (by kernel_rfl) (by kernel_rfl)
  have tT := isTypeOf
  have cT := isComparable
  have mR := isMethodComparable
  have heq := run_eql_iface_ptr_same (P := Tryd.prog) w a Tryd.underlying31 Tryd.underlying153 hi hcmp hj
  go_enter Tryd.func49, Tryd.ntmps49
  go_wp2
  refine wp_loop_rounds 1 ?_
  rw [rounds_succ]
  go_wp2
  go_ret
  exact ⟨rfl, rfl⟩

set_option maxRecDepth 100000 in
set_option maxHeartbeats 2000000 in
theorem is_other (a b : Addr) (ca cb : Array Value) (ta tb : TypeId) (w : World) (hne : a ≠ b) (ha : w.heap[a.block]? = some (.cells ca ta (0, 0))) (hb : w.heap[b.block]? = some (.cells cb tb (0, 0))) :
    Calls Tryd.prog 49 #[.iface 153 (.pointer (some a)), .iface 153 (.pointer (some b))] w fun e w' => e = .returned (.bool false) ∧ w' = w := by
  obtain ⟨i, hi, hcmp⟩ := Option.map_eq_some_iff.1 isComp
  obtain ⟨j, hj, hjs⟩ := Option.map_eq_some_iff.1 isSize
  have h8 := @run_callFunc_extern Tryd.prog 58 _ Extern.ReflectliteType.typeOf Tryd.func58 (by kernel_rfl) (by kernel_rfl) (by kernel_rfl) (by kernel_rfl)
  have h32 := @run_callFunc_extern Tryd.prog 100 _ cmpE Tryd.func100 (by kernel_rfl) (by kernel_rfl) (by kernel_rfl) (by kernel_rfl)
  have tT := isTypeOf
  have cT := isComparable
  have mR := isMethodComparable
  have nE := noIsE
  have uE := noUnwrapE
  have vE := noUnwrapsE
  have heq := run_eql_iface_ptr_other (P := Tryd.prog) w Tryd.underlying31 Tryd.underlying153 hi hcmp hj (by rw [hjs]; decide) hne ha hb
  go_enter Tryd.func49, Tryd.ntmps49
  go_wp2
  refine wp_loop_rounds 1 ?_
  rw [rounds_succ]
  go_wp2
  go_ret
  exact ⟨rfl, rfl⟩

set_option maxRecDepth 100000 in
set_option maxHeartbeats 2000000 in
theorem is_wrap_same (pb po : Nat) (b : Addr) (w : World) (h1 : w.cell? ⟨pb, po, none⟩ = some (.iface 153 (.pointer (some b)))) :
    Calls Tryd.prog 49 #[.iface 90 (.pointer (some ⟨pb, po, none⟩)), .iface 153 (.pointer (some b))] w fun e w' => e = .returned (.bool true) ∧ w' = w := by
  obtain ⟨i, hi, hcmp⟩ := Option.map_eq_some_iff.1 isComp
  obtain ⟨j, hj, hjs⟩ := Option.map_eq_some_iff.1 isSize
  have h8 := @run_callFunc_extern Tryd.prog 58 _ Extern.ReflectliteType.typeOf Tryd.func58 (by kernel_rfl) (by kernel_rfl) (by kernel_rfl) (by kernel_rfl)
  have h32 := @run_callFunc_extern Tryd.prog 100 _ cmpE Tryd.func100 (by kernel_rfl) (by kernel_rfl) (by kernel_rfl) (by kernel_rfl)
  have tT := isTypeOf
  have cT := isComparable
  have mR := isMethodComparable
  have nW := noIsW
  have uW := hasUnwrapW
  have mU := methodUnwrap
  have heq := run_eql_iface_ptr_same (P := Tryd.prog) w b Tryd.underlying31 Tryd.underlying153 hi hcmp hj
  have hty := run_eql_iface_types (P := Tryd.prog) 90 153 (.pointer (some ⟨pb, po, none⟩)) (.pointer (some b)) Tryd.underlying31 (by decide) w
  go_enter Tryd.func49, Tryd.ntmps49
  go_wp2
  refine wp_loop_rounds 2 ?_
  rw [rounds_succ]
  go_wp2
  rw [rounds_succ]
  go_wp2
  go_ret
  exact ⟨rfl, rfl⟩

set_option maxRecDepth 100000 in
set_option maxHeartbeats 2000000 in
theorem is_wrap_other (pb po : Nat) (b a : Addr) (ca cb : Array Value) (ta tb : TypeId) (w : World) (h1 : w.cell? ⟨pb, po, none⟩ = some (.iface 153 (.pointer (some a)))) (hne : a ≠ b) (ha : w.heap[a.block]? = some (.cells ca ta (0, 0))) (hb : w.heap[b.block]? = some (.cells cb tb (0, 0))) :
    Calls Tryd.prog 49 #[.iface 90 (.pointer (some ⟨pb, po, none⟩)), .iface 153 (.pointer (some b))] w fun e w' => e = .returned (.bool false) ∧ w' = w := by
  obtain ⟨i, hi, hcmp⟩ := Option.map_eq_some_iff.1 isComp
  obtain ⟨j, hj, hjs⟩ := Option.map_eq_some_iff.1 isSize
  have h8 := @run_callFunc_extern Tryd.prog 58 _ Extern.ReflectliteType.typeOf Tryd.func58 (by kernel_rfl) (by kernel_rfl) (by kernel_rfl) (by kernel_rfl)
  have h32 := @run_callFunc_extern Tryd.prog 100 _ cmpE Tryd.func100 (by kernel_rfl) (by kernel_rfl) (by kernel_rfl) (by kernel_rfl)
  have tT := isTypeOf
  have cT := isComparable
  have mR := isMethodComparable
  have nE := noIsE
  have uE := noUnwrapE
  have vE := noUnwrapsE
  have nW := noIsW
  have uW := hasUnwrapW
  have mU := methodUnwrap
  have heq := run_eql_iface_ptr_other (P := Tryd.prog) w Tryd.underlying31 Tryd.underlying153 hi hcmp hj (by rw [hjs]; decide) hne ha hb
  have hty := run_eql_iface_types (P := Tryd.prog) 90 153 (.pointer (some ⟨pb, po, none⟩)) (.pointer (some b)) Tryd.underlying31 (by decide) w
  go_enter Tryd.func49, Tryd.ntmps49
  go_wp2
  refine wp_loop_rounds 2 ?_
  rw [rounds_succ]
  go_wp2
  rw [rounds_succ]
  go_wp2
  go_ret
  exact ⟨rfl, rfl⟩
end Go.Proofs.YtaeocbdphfkflaaDoor
namespace Go.Proofs.YtaeocbdphfkflaaDoor
open Go.RowKit Go.Extern.Stop Go.Stop Go.Extern
set_option linter.unusedVariables false
set_option linter.unusedSimpArgs false
theorem as_nil (t : Value) (w : World) :
    Calls Tryd.prog 48 #[.nilIface, t] w fun e w' => e = .returned (.bool false) ∧ w' = w := by
  go_enter Tryd.func48, Tryd.ntmps48
  go_wp2
  go_ret
  exact ⟨rfl, rfl⟩
theorem valueOfT (t : Addr) (w : World) : (ReflectliteValue.unpack (.iface 92 (.pointer (some t)))).run Tryd.prog w
    = .ok (.agg #[.pointer (some ⟨19, 92, none⟩), .pointer (some ⟨w.heap.size, 0, none⟩), .int .u64 150]) (w.alloc (.cells #[.pointer (some t)] 92)) := by kernel_rfl
theorem typeT (a : Addr) (w : World) : (ReflectliteValue.methodAny (ReflectliteValue.valueError "reflectlite.Value.Type" 0) (fun t _ _ _ => ReflectliteType.toType t) #[.agg #[.pointer (some ⟨19, 92, none⟩), .pointer (some a), .int .u64 150]]).run Tryd.prog w
    = .ok (.iface 132 (.agg #[.pointer (some ⟨19, 92, none⟩)])) w := by kernel_rfl
theorem methodKind (h : Value) (w : World) : (Go.method 285 132 (.agg #[h]) "Kind").run Tryd.prog w = .ok (90, h) w := by kernel_rfl
/-- What the model has for (*abi.Type).Kind. -/
def kindE : Array Value → Sem Value := ReflectliteType.abiMethod fun t => do pure (.int .u8 (← Rtype.kind t))
theorem kindT (w : World) : (kindE #[.pointer (some ⟨19, 92, none⟩)]).run Tryd.prog w = .ok (.int .u8 22) w := by kernel_rfl
theorem kindF (w : World) : (kindE #[.pointer (some ⟨19, 90, none⟩)]).run Tryd.prog w = .ok (.int .u8 22) w := by kernel_rfl
theorem rlm (z : Sem Value) (f : TypeId → Addr → Nat → Nat → Sem Value) (v : Value) :
    ReflectliteValue.method z f #[v] = (do match ← ReflectliteValue.parts v with | none => z | some (t, a, fl) => f t a fl (fl % 32)) := rfl
theorem partsT (a : Addr) (w : World) : (ReflectliteValue.parts (.agg #[.pointer (some ⟨19, 92, none⟩), .pointer (some a), .int .u64 150])).run Tryd.prog w = .ok (some (92, a, 150)) w := by kernel_rfl
theorem isNilT (a p : Addr) (W : World) (ha : W.cell? a = some (.pointer (some p))) :
    (ReflectliteValue.method (ReflectliteValue.valueError "reflectlite.Value.IsNil" 0) ReflectliteValue.isNil #[.agg #[.pointer (some ⟨19, 92, none⟩), .pointer (some a), .int .u64 150]]).run Tryd.prog W = .ok (.bool false) W := by
  rw [rlm]
  simp only [Sem.run_bind, partsT, Result.andThen]
  simp [ReflectliteValue.isNil, loadVar, isAgg, underlying, Tryd.underlying92, ha, Result.andThen]
theorem methodElem (h : Value) (w : World) : (Go.method 285 132 (.agg #[h]) "Elem").run Tryd.prog w = .ok (101, .agg #[h]) w := by kernel_rfl
theorem methodImplements (h : Value) (w : World) : (Go.method 285 132 (.agg #[h]) "Implements").run Tryd.prog w = .ok (102, .agg #[h]) w := by kernel_rfl
theorem methodAssignableTo (h : Value) (w : World) : (Go.method 285 132 (.agg #[h]) "AssignableTo").run Tryd.prog w = .ok (99, .agg #[h]) w := by kernel_rfl
theorem elemT (w : World) : (ReflectliteType.method ReflectliteType.elem #[.agg #[.pointer (some ⟨19, 92, none⟩)]]).run Tryd.prog w = .ok (.iface 132 (.agg #[.pointer (some ⟨19, 90, none⟩)])) w := by kernel_rfl
theorem implementsF (w : World) : (ReflectliteType.relation "Implements" ReflectliteType.implements_ #[.agg #[.pointer (some ⟨19, 90, none⟩)], .iface 132 (.agg #[.pointer (some ⟨19, 31, none⟩)])]).run Tryd.prog w = .ok (.bool true) w := by kernel_rfl
theorem typeOfF (v : Value) (w : World) : (ReflectliteType.typeOf #[.iface 90 v]).run Tryd.prog w = .ok (.iface 132 (.agg #[.pointer (some ⟨19, 90, none⟩)])) w := by kernel_rfl
theorem assignableF (w : World) : (ReflectliteType.relation "AssignableTo" ReflectliteType.assignableTo #[.agg #[.pointer (some ⟨19, 90, none⟩)], .iface 132 (.agg #[.pointer (some ⟨19, 90, none⟩)])]).run Tryd.prog w = .ok (.bool true) w := by kernel_rfl
theorem assignableE (w : World) : (ReflectliteType.relation "AssignableTo" ReflectliteType.assignableTo #[.agg #[.pointer (some ⟨19, 153, none⟩)], .iface 132 (.agg #[.pointer (some ⟨19, 90, none⟩)])]).run Tryd.prog w = .ok (.bool false) w := by kernel_rfl
theorem valueOfF (e : Addr) (w : World) : (ReflectliteValue.unpack (.iface 90 (.pointer (some e)))).run Tryd.prog w
    = .ok (.agg #[.pointer (some ⟨19, 90, none⟩), .pointer (some ⟨w.heap.size, 0, none⟩), .int .u64 150]) (w.alloc (.cells #[.pointer (some e)] 90)) := by kernel_rfl
theorem elemOfT (w : World) : (Rtype.elem? 92).run Tryd.prog w = .ok (some 90) w := by kernel_rfl
theorem mkF (p : Addr) (w : World) : (ReflectliteValue.mk 90 p ReflectliteValue.flagAddr).run Tryd.prog w = .ok (.agg #[.pointer (some ⟨19, 90, none⟩), .pointer (some p), .int .u64 406]) w := by kernel_rfl
theorem elemVT (a p : Addr) (W : World) (ha : W.cell? a = some (.pointer (some p))) :
    (ReflectliteValue.method (ReflectliteValue.valueError "reflectlite.Value.Elem" 0) ReflectliteValue.elem #[.agg #[.pointer (some ⟨19, 92, none⟩), .pointer (some a), .int .u64 150]]).run Tryd.prog W
      = .ok (.agg #[.pointer (some ⟨19, 90, none⟩), .pointer (some p), .int .u64 406]) W := by
  rw [rlm]
  simp only [Sem.run_bind, partsT, Result.andThen]
  simp [ReflectliteValue.elem, loadVar, isAgg, underlying, Tryd.underlying92, ha, Result.andThen, elemOfT, mkF]
theorem rls (v x : Value) : ReflectliteValue.set #[v, x] = (do
    let (some (dst, a, fl), some (src, b, _)) := (← ReflectliteValue.parts v, ← ReflectliteValue.parts x)
      | unsupported (.noEntry "extern/(internal/reflectlite.Value).Set.zeroValue")
    if fl / ReflectliteValue.flagAddr % 2 == 0 then unsupported (.noEntry "extern/(internal/reflectlite.Value).Set.unaddressable")
    let val ← loadVar src b
    if ← Rtype.directlyAssignable dst src then storeVar dst a val
    else if ← Rtype.implements dst src then
      if (← Rtype.kind src) == 20 then
        match val with
        | .nilIface => unsupported (.noEntry "extern/reflectlite: a nil value of one interface type handed on as a value of another")
        | _ => storeVar dst a val
      else storeVar dst a (.iface src val)
    else panicString ("reflectlite.Set: value of type " ++ (← Rtype.spelt src) ++ " is not assignable to type " ++ (← Rtype.spelt dst))
    pure (.tuple #[])) := rfl
theorem partsFa (a : Addr) (w : World) : (ReflectliteValue.parts (.agg #[.pointer (some ⟨19, 90, none⟩), .pointer (some a), .int .u64 406])).run Tryd.prog w = .ok (some (90, a, 406)) w := by kernel_rfl
theorem partsF (a : Addr) (w : World) : (ReflectliteValue.parts (.agg #[.pointer (some ⟨19, 90, none⟩), .pointer (some a), .int .u64 150])).run Tryd.prog w = .ok (some (90, a, 150)) w := by kernel_rfl
theorem directF (w : World) : (Rtype.directlyAssignable 90 90).run Tryd.prog w = .ok true w := by kernel_rfl
theorem setF (ta b e : Addr) (old : Value) (W : World) (hb : W.cell? b = some (.pointer (some e))) (ht : W.cell? ta = some old) (hf : W.frozen? ta = false) :
    (ReflectliteValue.set #[.agg #[.pointer (some ⟨19, 90, none⟩), .pointer (some ta), .int .u64 406], .agg #[.pointer (some ⟨19, 90, none⟩), .pointer (some b), .int .u64 150]]).run Tryd.prog W
      = .ok (.tuple #[]) (W.setCell ta (.pointer (some e))) := by
  rw [rls]
  simp only [Sem.run_bind, partsFa, partsF, Result.andThen]
  simp [ReflectliteValue.flagAddr, loadVar, isAgg, underlying, Tryd.underlying90, hb, Result.andThen, directF, storeVar, Value.cells, storeCells, Addr.add]
  rw [run_store Tryd.prog W ta _ _ (by rfl)]
  simp [ht, hf]
end Go.Proofs.YtaeocbdphfkflaaDoor
namespace Go.Proofs.YtaeocbdphfkflaaDoor
open Go.RowKit Go.Extern.Stop Go.Stop Go.Extern
set_option linter.unusedVariables false
set_option linter.unusedSimpArgs false

set_option maxRecDepth 100000 in
set_option maxHeartbeats 4000000 in
theorem as_hit (e t : Addr) (old : Value) (w : World) (hg : w.cell? ⟨17, 0, none⟩ = some (.iface 132 (.agg #[.pointer (some ⟨19, 31, none⟩)]))) (hlt : 17 < w.heap.size) (ht0 : w.cell? t = some old) (hf0 : w.frozen? t = false) :
    Calls Tryd.prog 48 #[.iface 90 (.pointer (some e)), .iface 92 (.pointer (some t))] w fun ev w' => ev = .returned (.bool true) ∧ w' = ((((w.alloc (.cells #[.pointer (some t)] 92)).alloc (.cells #[.pointer (some ⟨19, 92, none⟩), .pointer (some ⟨w.heap.size, 0, none⟩), .int .u64 150] 110)).alloc (.cells #[.pointer (some ⟨19, 92, none⟩), .pointer (some ⟨w.heap.size, 0, none⟩), .int .u64 150] 110)).alloc (.cells #[.pointer (some e)] 90)).setCell t (.pointer (some e)) := by
  have h6 := @run_callFunc_extern Tryd.prog 54 _ (fun args => ReflectliteValue.unpack (args.getD 0 (.tuple #[]))) Tryd.func54 (by kernel_rfl) (by kernel_rfl) (by kernel_rfl) (by kernel_rfl)
  have h7 := @run_callFunc_extern Tryd.prog 55 _ (ReflectliteValue.methodAny (ReflectliteValue.valueError "reflectlite.Value.Type" 0) (fun t _ _ _ => ReflectliteType.toType t)) Tryd.func55 (by kernel_rfl) (by kernel_rfl) (by kernel_rfl) (by kernel_rfl)
  have h8 := @run_callFunc_extern Tryd.prog 56 _ (ReflectliteValue.method (ReflectliteValue.valueError "reflectlite.Value.IsNil" 0) ReflectliteValue.isNil) Tryd.func56 (by kernel_rfl) (by kernel_rfl) (by kernel_rfl) (by kernel_rfl)
  have h27 := @run_callFunc_extern Tryd.prog 90 _ kindE Tryd.func90 (by kernel_rfl) (by kernel_rfl) (by kernel_rfl) (by kernel_rfl)
  have h37 := @run_callFunc_extern Tryd.prog 101 _ (ReflectliteType.method ReflectliteType.elem) Tryd.func101 (by kernel_rfl) (by kernel_rfl) (by kernel_rfl) (by kernel_rfl)
  have h38 := @run_callFunc_extern Tryd.prog 102 _ (ReflectliteType.relation "Implements" ReflectliteType.implements_) Tryd.func102 (by kernel_rfl) (by kernel_rfl) (by kernel_rfl) (by kernel_rfl)
  have h10 := @run_callFunc_extern Tryd.prog 58 _ ReflectliteType.typeOf Tryd.func58 (by kernel_rfl) (by kernel_rfl) (by kernel_rfl) (by kernel_rfl)
  have h35 := @run_callFunc_extern Tryd.prog 99 _ (ReflectliteType.relation "AssignableTo" ReflectliteType.assignableTo) Tryd.func99 (by kernel_rfl) (by kernel_rfl) (by kernel_rfl) (by kernel_rfl)
  have h11 := @run_callFunc_extern Tryd.prog 68 _ (ReflectliteValue.method (ReflectliteValue.valueError "reflectlite.Value.Elem" 0) ReflectliteValue.elem) Tryd.func68 (by kernel_rfl) (by kernel_rfl) (by kernel_rfl) (by kernel_rfl)
  have h12 := @run_callFunc_extern Tryd.prog 69 _ ReflectliteValue.set Tryd.func69 (by kernel_rfl) (by kernel_rfl) (by kernel_rfl) (by kernel_rfl)
  have tO := typeOfF
  have mA := methodAssignableTo
  have a25 := assignableF
  have v25 := valueOfF
  have f6 := valueOfT
  have f7 := typeT
  have mK := methodKind
  have mE := methodElem
  have mI := methodImplements
  have k27 := kindT
  have k25 := kindF
  have e27 := elemT
  have i25 := implementsF
  have n8 := isNilT ⟨w.heap.size, 0, none⟩ t ((w.alloc (.cells #[.pointer (some t)] 92)).alloc (.cells #[.pointer (some ⟨19, 92, none⟩), .pointer (some ⟨w.heap.size, 0, none⟩), .int .u64 150] 110)) (by simp)
  have hg2 : ((w.alloc (.cells #[.pointer (some t)] 92)).alloc (.cells #[.pointer (some ⟨19, 92, none⟩), .pointer (some ⟨w.heap.size, 0, none⟩), .int .u64 150] 110)).cell? ⟨17, 0, none⟩ = some (.iface 132 (.agg #[.pointer (some ⟨19, 31, none⟩)])) := by
    rw [World.cell?_alloc_lt _ _ ⟨17, 0, none⟩ (by simp; omega), World.cell?_alloc_lt _ _ ⟨17, 0, none⟩ hlt]; exact hg
  have htl : t.block < w.heap.size := by
    rcases Nat.lt_or_ge t.block w.heap.size with h | h
    · exact h
    · simp [World.cell?, Array.getElem?_eq_none h] at ht0
  have el := elemVT ⟨w.heap.size, 0, none⟩ t (((w.alloc (.cells #[.pointer (some t)] 92)).alloc (.cells #[.pointer (some ⟨19, 92, none⟩), .pointer (some ⟨w.heap.size, 0, none⟩), .int .u64 150] 110)).alloc (.cells #[.pointer (some ⟨19, 92, none⟩), .pointer (some ⟨w.heap.size, 0, none⟩), .int .u64 150] 110)) (by rw [World.cell?_alloc_lt _ _ ⟨w.heap.size, 0, none⟩ (by simp; omega)]; simp)
  have st := setF t ⟨w.heap.size + 1 + 1 + 1, 0, none⟩ e old ((((w.alloc (.cells #[.pointer (some t)] 92)).alloc (.cells #[.pointer (some ⟨19, 92, none⟩), .pointer (some ⟨w.heap.size, 0, none⟩), .int .u64 150] 110)).alloc (.cells #[.pointer (some ⟨19, 92, none⟩), .pointer (some ⟨w.heap.size, 0, none⟩), .int .u64 150] 110)).alloc (.cells #[.pointer (some e)] 90))
    (by rw [World.cell?_alloc_at _ _ _ _ (by simp)]; rfl)
    (by rw [World.cell?_alloc_lt _ _ t (by simp; omega), World.cell?_alloc_lt _ _ t (by simp; omega), World.cell?_alloc_lt _ _ t (by simp; omega), World.cell?_alloc_lt _ _ t htl]; exact ht0)
    (by rw [World.frozen?_alloc_old _ _ t (by simp; omega), World.frozen?_alloc_old _ _ t (by simp; omega), World.frozen?_alloc_old _ _ t (by simp; omega), World.frozen?_alloc_old _ _ t (Nat.ne_of_lt htl)]; exact hf0)
  go_enter Tryd.func48, Tryd.ntmps48
  go_wp2
  refine wp_loop_rounds 1 ?_
  rw [rounds_succ]
  go_wp2
  go_ret
  exact ⟨rfl, rfl⟩
set_option maxRecDepth 100000 in
set_option maxHeartbeats 4000000 in
theorem as_miss (e t : Addr) (w : World) (hg : w.cell? ⟨17, 0, none⟩ = some (.iface 132 (.agg #[.pointer (some ⟨19, 31, none⟩)]))) (hlt : 17 < w.heap.size) :
    Calls Tryd.prog 48 #[.iface 153 (.pointer (some e)), .iface 92 (.pointer (some t))] w fun ev w' => ev = .returned (.bool false) ∧ Fr (fun _ => False) w w' := by
  have h6 := @run_callFunc_extern Tryd.prog 54 _ (fun args => ReflectliteValue.unpack (args.getD 0 (.tuple #[]))) Tryd.func54 (by kernel_rfl) (by kernel_rfl) (by kernel_rfl) (by kernel_rfl)
  have h7 := @run_callFunc_extern Tryd.prog 55 _ (ReflectliteValue.methodAny (ReflectliteValue.valueError "reflectlite.Value.Type" 0) (fun t _ _ _ => ReflectliteType.toType t)) Tryd.func55 (by kernel_rfl) (by kernel_rfl) (by kernel_rfl) (by kernel_rfl)
  have h8 := @run_callFunc_extern Tryd.prog 56 _ (ReflectliteValue.method (ReflectliteValue.valueError "reflectlite.Value.IsNil" 0) ReflectliteValue.isNil) Tryd.func56 (by kernel_rfl) (by kernel_rfl) (by kernel_rfl) (by kernel_rfl)
  have h27 := @run_callFunc_extern Tryd.prog 90 _ kindE Tryd.func90 (by kernel_rfl) (by kernel_rfl) (by kernel_rfl) (by kernel_rfl)
  have h37 := @run_callFunc_extern Tryd.prog 101 _ (ReflectliteType.method ReflectliteType.elem) Tryd.func101 (by kernel_rfl) (by kernel_rfl) (by kernel_rfl) (by kernel_rfl)
  have h38 := @run_callFunc_extern Tryd.prog 102 _ (ReflectliteType.relation "Implements" ReflectliteType.implements_) Tryd.func102 (by kernel_rfl) (by kernel_rfl) (by kernel_rfl) (by kernel_rfl)
  have h10 := @run_callFunc_extern Tryd.prog 58 _ ReflectliteType.typeOf Tryd.func58 (by kernel_rfl) (by kernel_rfl) (by kernel_rfl) (by kernel_rfl)
  have h35 := @run_callFunc_extern Tryd.prog 99 _ (ReflectliteType.relation "AssignableTo" ReflectliteType.assignableTo) Tryd.func99 (by kernel_rfl) (by kernel_rfl) (by kernel_rfl) (by kernel_rfl)
  have tO := isTypeOf
  have mA := methodAssignableTo
  have a25 := assignableE
  have f6 := valueOfT
  have f7 := typeT
  have mK := methodKind
  have mE := methodElem
  have mI := methodImplements
  have k27 := kindT
  have k25 := kindF
  have e27 := elemT
  have i25 := implementsF
  have nA := noAsE
  have uE := noUnwrapE
  have vE := noUnwrapsE
  have n8 := isNilT ⟨w.heap.size, 0, none⟩ t ((w.alloc (.cells #[.pointer (some t)] 92)).alloc (.cells #[.pointer (some ⟨19, 92, none⟩), .pointer (some ⟨w.heap.size, 0, none⟩), .int .u64 150] 110)) (by simp)
  have hg2 : ((w.alloc (.cells #[.pointer (some t)] 92)).alloc (.cells #[.pointer (some ⟨19, 92, none⟩), .pointer (some ⟨w.heap.size, 0, none⟩), .int .u64 150] 110)).cell? ⟨17, 0, none⟩ = some (.iface 132 (.agg #[.pointer (some ⟨19, 31, none⟩)])) := by
    rw [World.cell?_alloc_lt _ _ ⟨17, 0, none⟩ (by simp; omega), World.cell?_alloc_lt _ _ ⟨17, 0, none⟩ hlt]; exact hg
  go_enter Tryd.func48, Tryd.ntmps48
  go_wp2
  refine wp_loop_rounds 1 ?_
  rw [rounds_succ]
  go_wp2
  go_ret
  exact ⟨rfl, (((Fr.refl _ _).alloc _).alloc _).alloc _⟩
end Go.Proofs.YtaeocbdphfkflaaDoor
namespace Go.Proofs.YtaeocbdphfkflaaDoor
open Go.RowKit
set_option linter.unusedVariables false
set_option linter.unusedSimpArgs false

/-- The errors of package api lie in memory below block B: the one of number i + 1 at a i. -/
structure Sent (B : Nat) (w : World) (a : Nat → Addr) : Prop where
  c0 : w.cell? ⟨2, 0, none⟩ = some (sen (a 0))
  c1 : w.cell? ⟨3, 0, none⟩ = some (sen (a 1))
  c2 : w.cell? ⟨4, 0, none⟩ = some (sen (a 2))
  c3 : w.cell? ⟨5, 0, none⟩ = some (sen (a 3))
  c4 : w.cell? ⟨0, 0, none⟩ = some (sen (a 4))
  c5 : w.cell? ⟨6, 0, none⟩ = some (sen (a 5))
  c6 : w.cell? ⟨7, 0, none⟩ = some (sen (a 6))
  c7 : w.cell? ⟨8, 0, none⟩ = some (sen (a 7))
  c8 : w.cell? ⟨9, 0, none⟩ = some (sen (a 8))
  c9 : w.cell? ⟨1, 0, none⟩ = some (sen (a 9))
  c10 : w.cell? ⟨10, 0, none⟩ = some (sen (a 10))
  c11 : w.cell? ⟨11, 0, none⟩ = some (sen (a 11))
  c12 : w.cell? ⟨12, 0, none⟩ = some (sen (a 12))
  c13 : w.cell? ⟨13, 0, none⟩ = some (sen (a 13))
  c14 : w.cell? ⟨14, 0, none⟩ = some (sen (a 14))
  c15 : w.cell? ⟨15, 0, none⟩ = some (sen (a 15))
  et : w.cell? ⟨17, 0, none⟩ = some (.iface 132 (.agg #[.pointer (some ⟨19, 31, none⟩)]))
  blk : ∀ i, i < 16 → (a i).block < B ∧ ∃ c t, w.heap[(a i).block]? = some (.cells c t (0, 0))
  ne : ∀ i j, i < 16 → j < 16 → i ≠ j → a i ≠ a j
  hB : 17 + 1 ≤ B
  hsz : B ≤ w.heap.size
theorem Sent.fr {B : Nat} {w w' : World} {a : Nat → Addr} {S : Nat → Prop} (h : Sent B w a) (hf : Fr S w w') (hS : ∀ k, k < B → ¬ S k) : Sent B w' a := by
  have hc : ∀ k, k < 17 + 1 → w'.cell? ⟨k, 0, none⟩ = w.cell? ⟨k, 0, none⟩ := fun k hk => hf.cell (p := ⟨k, 0, none⟩) (by have := h.hB; have := h.hsz; show k < w.heap.size; omega) (hS k (by have := h.hB; omega))
  exact ⟨(hc _ (by decide)).trans h.c0, (hc _ (by decide)).trans h.c1, (hc _ (by decide)).trans h.c2, (hc _ (by decide)).trans h.c3, (hc _ (by decide)).trans h.c4, (hc _ (by decide)).trans h.c5, (hc _ (by decide)).trans h.c6, (hc _ (by decide)).trans h.c7, (hc _ (by decide)).trans h.c8, (hc _ (by decide)).trans h.c9, (hc _ (by decide)).trans h.c10, (hc _ (by decide)).trans h.c11, (hc _ (by decide)).trans h.c12, (hc _ (by decide)).trans h.c13, (hc _ (by decide)).trans h.c14, (hc _ (by decide)).trans h.c15, (hc _ (by decide)).trans h.et,
    fun i hi => ⟨(h.blk i hi).1, by obtain ⟨hb, c, t, hh⟩ := h.blk i hi; exact ⟨c, t, (hf.block _ (by have := h.hsz; omega) (hS _ hb)).trans hh⟩⟩, h.ne, h.hB, Nat.le_trans h.hsz hf.size⟩

/-- v is the error of that number (0: none), at that place. -/
def EV (w : World) (a : Nat → Addr) (v : Value) (code : Nat) (pl : Option Int) : Prop :=
  (v = .nilIface ∧ code = 0 ∧ pl = none) ∨ (∃ i, i < 16 ∧ v = sen (a i) ∧ code = i + 1 ∧ pl = none) ∨
  (∃ i pb q, i < 16 ∧ v = .iface 90 (.pointer (some ⟨pb, 0, none⟩)) ∧ Flt w pb (a i) q ∧ code = i + 1 ∧ pl = some q)
theorem EV.fr {w w' : World} {a : Nat → Addr} {v : Value} {code : Nat} {pl : Option Int} (h : EV w a v code pl) (hf : Fr (fun _ => False) w w') : EV w' a v code pl := by
  rcases h with h | h | ⟨i, pb, q, hi, hv, ⟨h0, h1⟩, hc, hp⟩
  · exact .inl h
  · exact .inr (.inl h)
  · have hl : pb < w.heap.size := World.block_lt_of_cell? w ⟨pb, 0, none⟩ h0
    exact .inr (.inr ⟨i, pb, q, hi, hv, ⟨(hf.cell (p := ⟨pb, 0, none⟩) hl (fun f => f)).trans h0, (hf.cell (p := ⟨pb, 1, none⟩) hl (fun f => f)).trans h1⟩, hc, hp⟩)

theorem is_any {B : Nat} {w : World} {a : Nat → Addr} {v : Value} {code : Nat} {pl : Option Int} (hS : Sent B w a) (hv : EV w a v code pl) (h0 : code ≠ 0) (j : Nat) (hj : j < 16) :
    Calls Tryd.prog 49 #[v, sen (a j)] w fun e w' => e = .returned (.bool (decide (code = j + 1))) ∧ w' = w := by
  rcases hv with ⟨_, h, _⟩ | ⟨i, hi, rfl, rfl, _⟩ | ⟨i, pb, q, hi, rfl, ⟨hc0, hc1⟩, rfl, _⟩
  · exact absurd h h0
  · by_cases hij : i = j
    · subst hij
      simpa using is_same (a i) w
    · obtain ⟨_, ci, ti, hbi⟩ := hS.blk i hi
      obtain ⟨_, cj, tj, hbj⟩ := hS.blk j hj
      have hd : decide (i + 1 = j + 1) = false := decide_eq_false (by omega)
      rw [hd]
      exact is_other (a i) (a j) ci cj ti tj w (hS.ne i j hi hj hij) hbi hbj
  · by_cases hij : i = j
    · subst hij
      simpa using is_wrap_same pb 0 (a i) w hc0
    · obtain ⟨_, ci, ti, hbi⟩ := hS.blk i hi
      obtain ⟨_, cj, tj, hbj⟩ := hS.blk j hj
      have hd : decide (i + 1 = j + 1) = false := decide_eq_false (by omega)
      rw [hd]
      exact is_wrap_other pb 0 (a j) (a i) ci cj ti tj w hc0 (hS.ne i j hi hj hij) hbi hbj

theorem code_nil (w : World) : Calls Tryd.prog 43 #[.nilIface] w fun e w' => e = .returned (.int .i64 0) ∧ Fr (fun _ => False) w w' := by
  go_enter Tryd.func43, Tryd.ntmps43
  go_wp2
  go_ret
  exact ⟨rfl, Fr.refl _ _⟩
/-- An interface value that is not nil. -/
def NN (v : Value) : Prop := ∃ t u, v = .iface t u
set_option maxRecDepth 100000 in
set_option maxHeartbeats 4000000 in
theorem code_some {B : Nat} {w : World} {a : Nat → Addr} {t : TypeId} {u : Value} {code : Nat} {pl : Option Int} (hS : Sent B w a) (hv : EV w a (.iface t u) code pl) (h0 : 1 ≤ code) (h16 : code ≤ 16) :
    Calls Tryd.prog 43 #[.iface t u] w fun e w' => e = .returned (.int .i64 code) ∧ Fr (fun _ => False) w w' := by
  obtain ⟨c0, c1, c2, c3, c4, c5, c6, c7, c8, c9, c10, c11, c12, c13, c14, c15, et, blk, ne, hB, hsz⟩ := hS
  have hS : Sent B w a := ⟨c0, c1, c2, c3, c4, c5, c6, c7, c8, c9, c10, c11, c12, c13, c14, c15, et, blk, ne, hB, hsz⟩
  obtain ⟨W1, hW1⟩ : ∃ W1, W1 = w.alloc (.cells #[sen (a 0), sen (a 1), sen (a 2), sen (a 3), sen (a 4), sen (a 5), sen (a 6), sen (a 7), sen (a 8), sen (a 9), sen (a 10), sen (a 11), sen (a 12), sen (a 13), sen (a 14), sen (a 15)] 95) := ⟨_, rfl⟩
  have hfr : Fr (fun _ => False) w W1 := by rw [hW1]; exact (Fr.refl _ _).alloc _
  have hS1 : Sent B W1 a := hS.fr hfr (fun _ _ f => f)
  have hv1 := hv.fr hfr
  have hcell : ∀ k, k < 16 → W1.cell? ⟨w.heap.size, k, none⟩ = some (sen (a k)) := by
    intro k hk
    rw [hW1, cell_of (heap_alloc_new w _)]
    match k, hk with
    | 0, _ => rfl
    | 1, _ => rfl
    | 2, _ => rfl
    | 3, _ => rfl
    | 4, _ => rfl
    | 5, _ => rfl
    | 6, _ => rfl
    | 7, _ => rfl
    | 8, _ => rfl
    | 9, _ => rfl
    | 10, _ => rfl
    | 11, _ => rfl
    | 12, _ => rfl
    | 13, _ => rfl
    | 14, _ => rfl
    | 15, _ => rfl
    | n + 16, h => exact absurd h (by omega)
  have HW : Hid (w.alloc (.cells #[sen (a 0), sen (a 1), sen (a 2), sen (a 3), sen (a 4), sen (a 5), sen (a 6), sen (a 7), sen (a 8), sen (a 9), sen (a 10), sen (a 11), sen (a 12), sen (a 13), sen (a 14), sen (a 15)] 95) = W1) := hW1.symm
  clear hW1
  go_enter Tryd.func43, Tryd.ntmps43
  go_wp2
  rw [HW.out]
  clear HW c0 c1 c2 c3 c4 c5 c6 c7 c8 c9 c10 c11 c12 c13 c14 c15
  go_loop [4, 5] (fun n i => ∃ k : Nat, k ≤ 16 ∧ i = .int .i64 k ∧ n = .int .i64 (if code ≤ k then (code : Int) else -1)) (fun _ i => 16 - (intOf i).toNat)
  case atStart => exact ⟨0, by omega, rfl, by rw [if_neg (by omega)]⟩
  case round =>
    obtain ⟨k, hk, rfl, rfl⟩ := hrel
    by_cases hlt : k < 16
    · have hc := hcell k hlt
      have his := is_any hS1 hv1 (by omega) k hlt
      by_cases hck : code = k + 1
      · have hd : decide (code = k + 1) = true := decide_eq_true hck
        rw [hd] at his
        have HC : Hid (code = k + 1) := hck
        have hif : (if code ≤ k then (code : Int) else -1) = -1 := if_neg (by omega)
        rw [hif]
        clear hck hd hif
        go_wp2_with (go_at_call 49; refine his.mono ?_; rintro e w2 ⟨rfl, rfl⟩)
        go_round
        case rel => exact ⟨k + 1, by omega, by go_num, by rw [if_pos (Nat.le_of_eq HC.out), HC.out]; go_num⟩
        case measure => simp [intOf]; omega
      · have hd : decide (code = k + 1) = false := decide_eq_false hck
        rw [hd] at his
        have HC : Hid (¬ code = k + 1) := hck
        obtain ⟨n, hn⟩ : ∃ n : Int, n = if code ≤ k then (code : Int) else -1 := ⟨_, rfl⟩
        rw [← hn]
        have HN : Hid (n = if code ≤ k then (code : Int) else -1) := hn
        clear hck hd hn
        go_wp2_with (go_at_call 49; refine his.mono ?_; rintro e w2 ⟨rfl, rfl⟩)
        go_round
        case rel =>
          refine ⟨k + 1, by omega, by go_num, ?_⟩
          rw [HN.out]
          have := HC.out
          by_cases h : code ≤ k
          · rw [if_pos h, if_pos (by omega)]
          · rw [if_neg h, if_neg (by omega)]
        case measure => simp [intOf]; omega
    · obtain rfl : k = 16 := by omega
      rw [if_pos h16]
      go_wp2
      go_ret
      exact ⟨rfl, hfr⟩
end Go.Proofs.YtaeocbdphfkflaaDoor
namespace Go.Proofs.YtaeocbdphfkflaaDoor
open Go.RowKit
set_option linter.unusedVariables false
set_option linter.unusedSimpArgs false

theorem as_hit' (e t : Addr) (old : Value) (w : World) (hg : w.cell? ⟨17, 0, none⟩ = some (.iface 132 (.agg #[.pointer (some ⟨19, 31, none⟩)]))) (hlt : 17 < w.heap.size) (ht0 : w.cell? t = some old) (hf0 : w.frozen? t = false) (hsp : t.spot = none) :
    Calls Tryd.prog 48 #[.iface 90 (.pointer (some e)), .iface 92 (.pointer (some t))] w fun ev w' => ev = .returned (.bool true) ∧ w'.cell? t = some (.pointer (some e)) ∧ Fr (fun k => k = t.block) w w' := by
  refine (as_hit e t old w hg hlt ht0 hf0).mono ?_
  rintro ev w' ⟨rfl, rfl⟩
  have htl : t.block < w.heap.size := World.block_lt_of_cell? w t ht0
  refine ⟨rfl, ?_, (((((Fr.refl _ _).alloc _).alloc _).alloc _).alloc _).setCell _ _ (fun _ => rfl)⟩
  have hc : ((((w.alloc (.cells #[.pointer (some t)] 92)).alloc (.cells #[.pointer (some ⟨19, 92, none⟩), .pointer (some ⟨w.heap.size, 0, none⟩), .int .u64 150] 110)).alloc (.cells #[.pointer (some ⟨19, 92, none⟩), .pointer (some ⟨w.heap.size, 0, none⟩), .int .u64 150] 110)).alloc (.cells #[.pointer (some e)] 90)).cell? t = some old := by
    rw [World.cell?_alloc_lt _ _ t (by simp; omega), World.cell?_alloc_lt _ _ t (by simp; omega), World.cell?_alloc_lt _ _ t (by simp; omega), World.cell?_alloc_lt _ _ t htl]; exact ht0
  generalize ((((w.alloc (.cells #[.pointer (some t)] 92)).alloc (.cells #[.pointer (some ⟨19, 92, none⟩), .pointer (some ⟨w.heap.size, 0, none⟩), .int .u64 150] 110)).alloc (.cells #[.pointer (some ⟨19, 92, none⟩), .pointer (some ⟨w.heap.size, 0, none⟩), .int .u64 150] 110)).alloc (.cells #[.pointer (some e)] 90)) = W at hc
  obtain ⟨tb, to, ts⟩ := t
  simp only at hsp
  subst hsp
  unfold World.cell? at hc
  rcases hh : W.heap[tb]? with _ | o
  · rw [hh] at hc; cases hc
  · rw [hh] at hc
    cases o with
    | cells c ty fr =>
      rw [cell_of (heap_set hh _)]
      simp at hc
      rw [Array.getElem?_setIfInBounds]
      obtain ⟨hl, _⟩ := Array.getElem?_eq_some_iff.1 hc
      simp [hl]
    | _ => simp at hc

theorem at_nil (w : World) : Calls Tryd.prog 42 #[.nilIface] w fun e w' => e = .returned (.tuple #[.int .i64 0, .bool false]) ∧ Fr (fun _ => False) w w' := by
  go_enter Tryd.func42, Tryd.ntmps42
  go_wp2_with (go_at_call 48; refine (as_nil _ _).mono ?_; rintro e w2 ⟨rfl, rfl⟩)
  go_ret2
  exact ⟨rfl, (Fr.refl _ _).alloc _⟩
set_option maxHeartbeats 1000000 in
theorem at_sen {B : Nat} {w : World} {a : Nat → Addr} (hS : Sent B w a) (x : Addr) : Calls Tryd.prog 42 #[sen x] w fun e w' => e = .returned (.tuple #[.int .i64 0, .bool false]) ∧ Fr (fun _ => False) w w' := by
  have hfr : Fr (fun _ => False) w (w.alloc (.cells #[.pointer none] 90)) := (Fr.refl _ _).alloc _
  have hS1 := hS.fr hfr (fun _ _ f => f)
  have het := hS1.et
  have hlt : 17 < (w.alloc (.cells #[.pointer none] 90)).heap.size := by have := hS1.hB; have := hS1.hsz; omega
  have has := as_miss x ⟨w.heap.size, 0, none⟩ _ het hlt
  clear het hlt
  go_enter Tryd.func42, Tryd.ntmps42
  go_wp2_with (go_at_call 48; refine has.mono ?_; rintro e w2 ⟨rfl, hf2⟩)
  go_ret2
  exact ⟨rfl, hfr.trans hf2 (fun _ _ q => q)⟩
set_option maxHeartbeats 1000000 in
theorem at_flt {B : Nat} {w : World} {a : Nat → Addr} (hS : Sent B w a) (x : Addr) (pb : Nat) (q : Int) (hF : Flt w pb x q) : Calls Tryd.prog 42 #[.iface 90 (.pointer (some ⟨pb, 0, none⟩))] w fun e w' => e = .returned (.tuple #[.int .i64 q, .bool true]) ∧ Fr (fun _ => False) w w' := by
  have hpl : pb < w.heap.size := World.block_lt_of_cell? w ⟨pb, 0, none⟩ hF.1
  have hfr : Fr (fun _ => False) w (w.alloc (.cells #[.pointer none] 90)) := (Fr.refl _ _).alloc _
  have hS1 := hS.fr hfr (fun _ _ f => f)
  have het := hS1.et
  have hlt : 17 < (w.alloc (.cells #[.pointer none] 90)).heap.size := by have := hS1.hB; have := hS1.hsz; omega
  have hc1 := (hfr.cell (p := ⟨pb, 1, none⟩) hpl (fun f => f)).trans hF.2
  have has := as_hit' ⟨pb, 0, none⟩ ⟨w.heap.size, 0, none⟩ (.pointer none) _ het hlt (by simp) (by simp) rfl
  clear het hlt
  go_enter Tryd.func42, Tryd.ntmps42
  go_wp2_with (go_at_call 48; refine has.mono ?_; rintro e w2 ⟨rfl, hct, hf2⟩; have hc2 := (hf2.cell (p := ⟨pb, 1, none⟩) (by simp; omega) (by intro (hh : pb = w.heap.size); omega)).trans hc1)
  go_ret2
  exact ⟨rfl, hfr.trans (hf2.mono (S' := fun k => k = w.heap.size) (fun _ _ q => q)) (fun k hk q => by omega)⟩

theorem at_any {B : Nat} {w : World} {a : Nat → Addr} {v : Value} {code : Nat} {pl : Option Int} (hS : Sent B w a) (hv : EV w a v code pl) :
    Calls Tryd.prog 42 #[v] w fun e w' => e = .returned (.tuple #[.int .i64 (pl.getD 0), .bool pl.isSome]) ∧ Fr (fun _ => False) w w' := by
  rcases hv with ⟨rfl, _, rfl⟩ | ⟨i, hi, rfl, rfl, rfl⟩ | ⟨i, pb, q, hi, rfl, hF, rfl, rfl⟩
  · exact at_nil w
  · exact at_sen hS (a i)
  · exact at_flt hS (a i) pb q hF
theorem code_any {B : Nat} {w : World} {a : Nat → Addr} {v : Value} {code : Nat} {pl : Option Int} (hS : Sent B w a) (hv : EV w a v code pl) :
    Calls Tryd.prog 43 #[v] w fun e w' => e = .returned (.int .i64 code) ∧ Fr (fun _ => False) w w' := by
  have hv' := hv
  rcases hv with ⟨rfl, rfl, rfl⟩ | ⟨i, hi, rfl, rfl, rfl⟩ | ⟨i, pb, q, hi, rfl, hF, rfl, rfl⟩
  · exact code_nil w
  · exact code_some hS hv' (by omega) (by omega)
  · exact code_some hS hv' (by omega) (by omega)

/-- What Same answers of such an error. -/
def sameB (code : Nat) (pl : Option Int) (c p : Int) : Bool := if p = -1 then decide ((code : Int) = c) && decide (pl.getD 0 = 0) else if c = 0 then decide (code = 0) else decide ((code : Int) = c) && (pl.isSome && decide (pl.getD 0 = p))

/-- What IsAt answers of such an error. -/
def atB (code : Nat) (pl : Option Int) (c p : Int) : Bool := if c = 0 then decide (code = 0) else decide ((code : Int) = c) && (pl.isSome && decide (pl.getD 0 = p))
theorem sameB_at (code : Nat) (pl : Option Int) (c p : Int) (h : p ≠ -1) : sameB code pl c p = atB code pl c p := by unfold sameB atB; rw [if_neg h]
theorem EV.form {w : World} {a : Nat → Addr} {v : Value} {code : Nat} {pl : Option Int} (hv : EV w a v code pl) : (v = .nilIface ∧ code = 0) ∨ (∃ t u, v = .iface t u ∧ code ≠ 0) := by
  rcases hv with ⟨rfl, rfl, _⟩ | ⟨i, hi, rfl, rfl, rfl⟩ | ⟨i, pb, q, hi, rfl, hF, rfl, rfl⟩
  · exact .inl ⟨rfl, rfl⟩
  · exact .inr ⟨_, _, rfl, by omega⟩
  · exact .inr ⟨_, _, rfl, by omega⟩

set_option maxHeartbeats 1000000 in
theorem isAt_any {B : Nat} {w : World} {a : Nat → Addr} {v : Value} {code : Nat} {pl : Option Int} (hS : Sent B w a) (hv : EV w a v code pl) (c p : Int) :
    Calls Tryd.prog 35 #[v, .int .i64 c, .int .i64 p] w fun e w' => e = .returned (.bool (atB code pl c p)) ∧ Fr (fun _ => False) w w' := by
  by_cases hc0 : c = 0
  · subst hc0
    rcases hv.form with ⟨rfl, rfl⟩ | ⟨t, u, rfl, hne⟩
    all_goals
      go_enter Tryd.func35, Tryd.ntmps35
      go_wp2
      go_ret
      refine ⟨?_, Fr.refl _ _⟩
      first
        | rfl
        | (simp [atB, hne])
  · have hcode := code_any hS hv
    by_cases hc : (code : Int) = c
    · obtain ⟨n, hn⟩ : ∃ n, n = pl.getD 0 := ⟨_, rfl⟩
      obtain ⟨o, ho⟩ : ∃ o, o = pl.isSome := ⟨_, rfl⟩
      have HS : Hid (atB code pl c p = (o && decide (n = p))) := by unfold Hid atB; rw [if_neg hc0, hn, ho, decide_eq_true hc]; simp
      have HAT : Hid (∀ w2, Fr (fun _ => False) w w2 → Calls Tryd.prog 42 #[v] w2 fun e w' => e = .returned (.tuple #[.int .i64 n, .bool o]) ∧ Fr (fun _ => False) w2 w') := by
        intro w2 hf2; rw [hn, ho]; exact at_any (hS.fr hf2 (fun _ _ f => f)) (hv.fr hf2)
      clear hn ho
      cases o
      all_goals
        go_enter Tryd.func35, Tryd.ntmps35
        go_wp2_with (first
          | (go_at_call 43; refine hcode.mono ?_; rintro e w2 ⟨rfl, hf2⟩; have hat := HAT.out w2 hf2)
          | (go_at_call 42; refine hat.mono ?_; rintro e w3 ⟨rfl, hf3⟩))
        go_ret
        refine ⟨?_, hf2.trans hf3 (fun _ _ q => q)⟩
        rw [HS.out]
        first
          | rfl
          | (simp; done)
          | (simp; rw [Bool.eq_iff_iff]; simp)
    · have HS : Hid (atB code pl c p = false) := by unfold Hid atB; rw [if_neg hc0, decide_eq_false hc]; rfl
      have hne : (((code : Int)) != c) = true := by simp [hc]
      go_enter Tryd.func35, Tryd.ntmps35
      go_wp2_with (go_at_call 43; refine hcode.mono ?_; rintro e w2 ⟨rfl, hf2⟩)
      go_ret
      refine ⟨?_, hf2⟩
      rw [HS.out]
      first
        | rfl
        | (simp; done)
        | (simp [hc0])

end Go.Proofs.YtaeocbdphfkflaaDoor
namespace Go.Proofs.YtaeocbdphfkflaaDoor
open Go.RowKit
set_option linter.unusedVariables false
set_option linter.unusedSimpArgs false

set_option maxHeartbeats 1000000 in
theorem isE_any {B : Nat} {w : World} {a : Nat → Addr} {v : Value} {code : Nat} {pl : Option Int} (hS : Sent B w a) (hv : EV w a v code pl) (c : Int) :
    Calls Tryd.prog 21 #[v, .int .i64 c] w fun e w' => e = .returned (.bool (sameB code pl c (-1))) ∧ Fr (fun _ => False) w w' := by
  have hat := at_any hS hv
  obtain ⟨n, hn⟩ : ∃ n, n = pl.getD 0 := ⟨_, rfl⟩
  obtain ⟨o, ho⟩ : ∃ o, o = pl.isSome := ⟨_, rfl⟩
  have hno : o = false → n = 0 := by rw [hn, ho]; cases pl <;> simp
  have HS : Hid (sameB code pl c (-1) = (decide ((code : Int) = c) && decide (n = 0))) := by unfold Hid sameB; rw [if_pos rfl, hn]
  rw [← hn, ← ho] at hat
  clear hn ho
  have Hno : Hid (o = false → n = 0) := hno
  clear hno
  cases o
  all_goals
    by_cases hc : (code : Int) = c
    all_goals
      go_enter Tryd.func21, Tryd.ntmps21
      go_wp2_with (first
        | (go_at_call 42; refine hat.mono ?_; rintro e w2 ⟨rfl, hf2⟩; have hco := code_any (hS.fr hf2 (fun _ _ f => f)) (hv.fr hf2))
        | (go_at_call 43; refine hco.mono ?_; rintro e w3 ⟨rfl, hf3⟩))
      go_ret
      refine ⟨?_, hf2.trans hf3 (fun _ _ q => q)⟩
      rw [HS.out]
      first
        | (have h0 := Hno.out trivial; simp [hc, h0]; done)
        | (simp [hc]; done)
        | (simp [hc]; rw [Bool.eq_iff_iff]; simp)

set_option maxHeartbeats 1000000 in
theorem same_any {B : Nat} {w : World} {a : Nat → Addr} {v : Value} {code : Nat} {pl : Option Int} (hS : Sent B w a) (hv : EV w a v code pl) (c p : Int) :
    Calls Tryd.prog 12 #[v, .agg #[.int .i64 c, .int .i64 p]] w fun e w' => e = .returned (.bool (sameB code pl c p)) ∧ Fr (fun _ => False) w w' := by
  have hfr : Fr (fun _ => False) w (w.alloc (.cells #[.int .i64 c, .int .i64 p] 35)) := (Fr.refl _ _).alloc _
  have hS1 := hS.fr hfr (fun _ _ f => f)
  have hv1 := hv.fr hfr
  by_cases hp : p = -1
  · subst hp
    have h1 := isE_any hS1 hv1 c
    clear hS1 hv1
    go_enter Tryd.func12, Tryd.ntmps12
    go_wp2_with (go_at_call 21; refine h1.mono ?_; rintro e w2 ⟨rfl, hf2⟩)
    go_ret
    exact ⟨rfl, hfr.trans hf2 (fun _ _ q => q)⟩
  · have h1 := isAt_any hS1 hv1 c p
    rw [sameB_at code pl c p hp]
    clear hS1 hv1
    go_enter Tryd.func12, Tryd.ntmps12
    go_wp2_with (go_at_call 35; refine h1.mono ?_; rintro e w2 ⟨rfl, hf2⟩)
    go_ret
    exact ⟨rfl, hfr.trans hf2 (fun _ _ q => q)⟩

theorem plain_any (c : Int) (w : World) (h : c ≠ 0) : Calls Tryd.prog 32 #[.int .i64 c] w fun e w' => e = .returned (.agg #[.int .i64 c, .int .i64 (-1)]) ∧ Fr (fun _ => False) w w' := by
  go_enter Tryd.func32, Tryd.ntmps32
  go_wp2
  exact bodyPost_ret (v := .agg #[.int .i64 c, .int .i64 (-1)]) (by simp [results, Tryd.results32, go_sem]) rfl ⟨rfl, (Fr.refl _ _).alloc _⟩

end Go.Proofs.YtaeocbdphfkflaaDoor
