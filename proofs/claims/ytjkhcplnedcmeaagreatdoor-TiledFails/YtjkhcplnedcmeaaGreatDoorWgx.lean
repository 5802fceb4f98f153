/- cache: a cache in memory: the row of its things, the map of their places. -/
import Derived.Test.YtjkhcplnedcmeaaGreatDoorKa
import Derived.Test.YtjkhcplnedcmeaaGreatDoorUg2
import Derived.Maps.OwnSet
import Derived.Maps.RangeWalk
import Derived.DeepKeys4
import Derived.Test.YtjkhcplnedcmeaaGreatDoorGHq
import Derived.Deep.DeepCutAuto
import Derived.Laws.MakeOwn
namespace Go.Proofs.YtjkhcplnedcmeaaGreatDoor.CT
open Go.RowKit Go.Maps Go.WideMaps Go.Proofs.YtjkhcplnedcmeaaGreatDoor
set_option linter.unusedVariables false
set_option linter.unusedSimpArgs false
/-- A key: a tile as three numbers. -/
abbrev KT := {k : Nat × Nat × Int // k.1 ≤ 255 ∧ k.2.1 < 18446744073709551616 ∧ -9223372036854775808 ≤ k.2.2 ∧ k.2.2 ≤ 9223372036854775807}
abbrev k1 (k : KT) : Value := .int .u8 (k.1.1 : Int)
abbrev k2 (k : KT) : Value := .int .u64 (k.1.2.1 : Int)
abbrev k3 (k : KT) : Value := .int .i64 k.1.2.2
abbrev kv (k : KT) : Value := .agg #[k1 k, k2 k, k3 k]
def kl (k : KT) : Lit := .string (keyBytes [.int .u8 (k.1.1 : Int), .int .u64 (k.1.2.1 : Int), .int .i64 k.1.2.2])
abbrev kok (k : KT) : Prop := True
def kz : KT := ⟨(0, 0, 0), by decide⟩
abbrev VT := Option Addr × Nat × Nat
abbrev vv (v : VT) : Value := .slice v.1 v.2.1 v.2.2
abbrev vz : VT := (none, 0, 0)
theorem mapM_fields {α β : Type} (n : List β) (a : β → String) (t : β → TypeId) (o : β → Nat) (F : TypeId → Nat → Option α) : n.mapM (fun f => F (t f) (o f)) = (n.map fun f => (a f, t f, o f)).mapM (fun x => F x.2.1 x.2.2) := by
  induction n with
  | nil => rfl
  | cons x r ih => simp only [List.mapM_cons, List.map_cons, ih]
theorem kty : Tryz.prog.types.size + 1 = Tryz.prog.types.size - 1 + 1 + 1 := by kernel_rfl
theorem kcl : Tryz.prog.cellsOf 120 = 3 ∧ Tryz.prog.cellsOf 5 = 1 ∧ Tryz.prog.cellsOf 41 = 1 ∧ Tryz.prog.cellsOf 3 = 1 := ⟨by kernel_rfl, by kernel_rfl, by kernel_rfl, by kernel_rfl⟩
set_option maxRecDepth 100000 in
theorem key_of {k : KT} (h : kok k) : keyOf Tryz.prog 120 (kv k) = some (kl k) := by
  obtain ⟨⟨L, I, W⟩, h1, h2, h3, h4⟩ := k
  simp only at h1 h2 h3 h4
  have w1 : (Lit.int .u8 (L : Int)).wf = true := by simp [Lit.wf, IntKind.min, IntKind.max, IntKind.signed, IntKind.bits]; omega
  have w2 : (Lit.int .u64 (I : Int)).wf = true := by simp [Lit.wf, IntKind.min, IntKind.max, IntKind.signed, IntKind.bits]; omega
  have w3 : (Lit.int .i64 W).wf = true := by simp [Lit.wf, IntKind.min, IntKind.max, IntKind.signed, IntKind.bits]; omega
  obtain ⟨c3, c1, c2, c4⟩ := kcl
  have l1 : Tryz.prog.keyLits (Tryz.prog.types.size - 1 + 1) 5 [.int .u8 (L : Int)] = some [.int .u8 (L : Int)] := by simp only [Program.keyLits, Tryz.underlying5]; rw [if_pos ⟨trivial, w1⟩]
  have l2 : Tryz.prog.keyLits (Tryz.prog.types.size - 1 + 1) 41 [.int .u64 (I : Int)] = some [.int .u64 (I : Int)] := by simp only [Program.keyLits, Tryz.underlying41]; rw [if_pos ⟨trivial, w2⟩]
  have l3 : Tryz.prog.keyLits (Tryz.prog.types.size - 1 + 1) 3 [.int .i64 W] = some [.int .i64 W] := by simp only [Program.keyLits, Tryz.underlying3]; rw [if_pos ⟨trivial, w3⟩]
  obtain ⟨fs, hu, hfs⟩ : ∃ fs, Tryz.prog.underlying 120 = some (.struct fs) ∧ fs.toList.map (fun f => (f.name, f.type, f.offset)) = [("Level", 5, 0), ("Index", 41, 1), ("Width", 3, 2)] := ⟨_, Tryz.underlying120, by kernel_rfl⟩
  have hall : fs.all (·.name != "_") = true := by
    rw [← Array.all_toList]
    have : (fs.toList.map (fun f => (f.name, f.type, f.offset))).all (fun x => x.1 != "_") = true := by rw [hfs]; decide
    simpa [List.all_map] using this
  have hm : (fs.toList.mapM fun f => Tryz.prog.keyLits (Tryz.prog.types.size - 1 + 1) f.type (([Value.int .u8 (L : Int), .int .u64 (I : Int), .int .i64 W].drop f.offset).take (Tryz.prog.cellsOf f.type))) = some [[.int .u8 (L : Int)], [.int .u64 (I : Int)], [.int .i64 W]] := by
    rw [mapM_fields fs.toList (·.name) (·.type) (·.offset) (fun t o => Tryz.prog.keyLits (Tryz.prog.types.size - 1 + 1) t (([Value.int .u8 (L : Int), .int .u64 (I : Int), .int .i64 W].drop o).take (Tryz.prog.cellsOf t))), hfs]
    simp only [List.mapM_cons, List.mapM_nil, List.drop_zero, List.drop_succ_cons, c1, c2, c4, List.take_succ_cons, List.take_zero]
    rw [l1, l2, l3]
    rfl
  have hL : Tryz.prog.keyLits (Tryz.prog.types.size + 1) 120 [.int .u8 (L : Int), .int .u64 (I : Int), .int .i64 W] = some [.int .u8 (L : Int), .int .u64 (I : Int), .int .i64 W] := by
    rw [kty, Program.keyLits.eq_def]
    dsimp only
    rw [hu]
    dsimp only
    rw [c3, if_pos ⟨rfl, hall⟩, hm]
    rfl
  have hkt : Tryz.prog.keyType 120 = true := by kernel_rfl
  have hfm : Value.formed Tryz.prog 120 (.agg #[.int .u8 (L : Int), .int .u64 (I : Int), .int .i64 W]) = true := by
    unfold Value.formed
    rw [hu]
    dsimp only
    rw [c3]
    rfl
  unfold keyOf kl
  rw [hu]
  dsimp only
  rw [hkt]
  rw [Bool.true_and]
  refine (if_pos hfm).trans ?_
  show (Tryz.prog.keyLits (Tryz.prog.types.size + 1) 120 [.int .u8 (L : Int), .int .u64 (I : Int), .int .i64 W]).map _ = _
  rw [hL]
  rfl
theorem lawK : Keyed Tryz.prog 120 := Keyed.of_law (deep_law_laid (by kernel_rfl) (m := 2) (by omega) (of_decide_eq_true (by kernel_rfl)) (by kernel_rfl) (by kernel_rfl))
theorem kl_inj {a b : KT} (h : kl a = kl b) : a = b := by
  have e := lawK.inj (key_of (k := a) trivial) (by rw [h]; exact key_of (k := b) trivial)
  simp only [kv, Value.agg.injEq, k1, k2, k3] at e
  simp at e
  obtain ⟨e1, e2, e3⟩ := e
  exact Subtype.ext (Prod.ext (by omega) (Prod.ext (by omega) e3))
theorem kl_key (k : KT) : WideAt.IsKeyLit (kl k) := lawK.key (key_of (k := k) trivial)
/-- Places by keys. -/
abbrev Pm := KT → Option Nat
open Classical in
noncomputable def putP (M : Pm) (k : KT) (p : Nat) : Pm := fun x => if x = k then some p else M x
open Classical in
noncomputable def delP (M : Pm) (k : KT) : Pm := fun x => if x = k then none else M x
theorem putP_same (M : Pm) (k : KT) (p : Nat) : putP M k p k = some p := by simp [putP]
theorem putP_other (M : Pm) {k x : KT} (p : Nat) (h : x ≠ k) : putP M k p x = M x := by simp [putP, h]
theorem delP_same (M : Pm) (k : KT) : delP M k k = none := by simp [delP]
theorem delP_other (M : Pm) {k x : KT} (h : x ≠ k) : delP M k x = M x := by simp [delP, h]
def elP (o : Option Nat) (zd : DataW Unit) : DataW Unit := match o with | some p => .lit (.int .i64 p) | none => zd
/-- Block b is a map of n things at most, that holds the places M. -/
def Mp (w : World) (b n : Nat) (M : Pm) : Prop :=
  ∃ D : DataW Unit, w.ownsMap Tryz.prog 120 (plainElem Tryz.prog 3) b n D ∧ ∀ (k : KT) zd, D.atKey (kl k) zd = elP (M k) zd
theorem Mp.lt {w : World} {b n : Nat} {M : Pm} (h : Mp w b n M) : b < w.heap.size := let ⟨_, h1, _⟩ := h; h1.lt
theorem Mp.fr {S : Nat → Prop} {w w' : World} {b n : Nat} {M : Pm} (h : Mp w b n M) (f : Fr S w w') (hS : ¬ S b) : Mp w' b n M := by
  obtain ⟨D, ⟨es, clock, hb, r⟩, h2⟩ := h
  exact ⟨D, ⟨es, clock, (f.block b (heap_lt hb) hS).trans hb, r⟩, h2⟩
theorem Mp.more {w : World} {b n m : Nat} {M : Pm} (h : Mp w b n M) (hm : n ≤ m) : Mp w b m M := by
  obtain ⟨D, h1, h2⟩ := h
  exact ⟨D, h1.mono hm, h2⟩
theorem Mp.made (w : World) : Mp (w.alloc (.map #[] 0)) w.heap.size 0 (fun _ => none) :=
  ⟨.map [], World.ownsMap_made w _ _ _, fun k zd => rfl⟩
theorem has_elP {D : DataW Unit} {k : Lit} {o : Option Nat} (h : ∀ zd, D.atKey k zd = elP o zd) : Maps.has D k = o.isSome := by
  cases o with
  | none => exact Maps.has_false_of_atKey h
  | some s => exact Maps.has_true_of_atKey (y := .lit (.int .i64 s)) h
theorem Mp.look {w : World} {b n : Nat} {M : Pm} (h : Mp w b n M) (k : KT) (hk : kok k) :
    (Instr.lookup 194 (.map (some b)) (kv k) true).run Tryz.prog w = .ok (.tuple #[.int .i64 (((M k).getD 0 : Nat) : Int), .bool (M k).isSome]) w := by
  obtain ⟨D, h1, h2⟩ := h
  obtain ⟨v, ps, hr, hv⟩ := h1.look_ok lawK Tryz.underlying194 (Tryz.zeroValue3 w) (zd := .lit (.int .i64 0)) (zp := []) (plainElem_int Tryz.underlying3 (by decide)) (key_of hk)
  obtain ⟨c, rfl, hz, hs⟩ := plainElem_int_inv Tryz.underlying3 hv
  rw [has_elP (h2 k)] at hr
  have e1 := congrArg Prod.fst hz
  simp only at e1
  rw [h2 k] at e1
  have e2 : c = (((M k).getD 0 : Nat) : Int) := by
    cases hM : M k with
    | none => rw [hM] at e1; simpa [elP] using e1.symm
    | some t => rw [hM] at e1; simpa [elP] using e1.symm
  rw [← e2]
  exact hr
theorem Mp.put {w : World} {b n : Nat} {M : Pm} (h : Mp w b n M) (k : KT) (p : Nat) (hk : kok k) (hp : p < 4611686018427387904) (hn : n < 4611686018427387904) :
    ∃ w', (Instr.mapUpdate 194 (.map (some b)) (kv k) (.int .i64 (p : Int))).run Tryz.prog w = .ok () w' ∧ Mp w' b (n + 1) (putP M k p) ∧ Fr (fun j => j = b) w w' := by
  obtain ⟨D, h1, h2⟩ := h
  obtain ⟨w', hr, ho, hg⟩ := h1.update lawK Tryz.underlying194 (by unfold maxLen; omega) (key_of hk) (plainElem_int (a := (p : Int)) Tryz.underlying3 (by simp [Lit.wf, IntKind.min, IntKind.max, IntKind.signed, IntKind.bits]; omega))
  refine ⟨w', hr, ⟨_, ho, fun x zd => ?_⟩, ⟨hg.os, hg.tape, hg.output, hg.size, fun j hj hne => hg.block j hj (by simpa using hne)⟩⟩
  by_cases hx : x = k
  · subst hx
    rw [Maps.atKey_put_same h1.isMap (kl_key _), putP_same]
    rfl
  · rw [Maps.atKey_put_other (fun e => hx (kl_inj (by simpa using e))), putP_other _ _ hx]
    exact h2 x zd
theorem Mp.del {w : World} {b n : Nat} {M : Pm} (h : Mp w b n M) (k : KT) (hk : kok k) (ty : TypeId) :
    ∃ w', (Builtin.delete_ #[194, 120] ty #[.map (some b), kv k]).run Tryz.prog w = .ok (.tuple #[]) w' ∧ Mp w' b n (delP M k) ∧ Fr (fun j => j = b) w w' := by
  obtain ⟨D, h1, h2⟩ := h
  obtain ⟨w', hr, ho, hg⟩ := h1.drop lawK Tryz.underlying194 (key_of hk) ty
  have hg := hg.grown
  refine ⟨w', hr, ⟨_, ho, fun x zd => ?_⟩, ⟨hg.os, hg.tape, hg.output, hg.size, fun j hj hne => hg.block j hj (by simpa using hne)⟩⟩
  by_cases hx : x = k
  · subst hx
    rw [Maps.atKey_del_same, delP_same]
    rfl
  · rw [Maps.atKey_del_other (fun e => hx (kl_inj (by simpa using e))), delP_other _ hx]
    exact h2 x zd
/-- The row of the things: block g, with room for c; n are there. -/
def Row (w : World) (g c n : Nat) (ks : Nat → KT) (vs : Nat → VT) (nw od : Nat → Nat) : Prop :=
  ∃ cur : Array Value, w.heap[g]? = some (.cells cur 338) ∧ n ≤ c ∧ c ≤ maxLen ∧ cur.size = c * 6 ∧
    ∀ i, i < n → (cur[i * 6]? = some (k1 (ks i)) ∧ cur[i * 6 + 1]? = some (k2 (ks i)) ∧ cur[i * 6 + 2]? = some (k3 (ks i))) ∧ cur[i * 6 + 3]? = some (vv (vs i)) ∧ cur[i * 6 + 4]? = some (.int .i64 (nw i : Int)) ∧ cur[i * 6 + 5]? = some (.int .i64 (od i : Int))
theorem Row.lt {w : World} {g c n : Nat} {ks : Nat → KT} {vs : Nat → VT} {nw od : Nat → Nat} (h : Row w g c n ks vs nw od) : g < w.heap.size := let ⟨_, h1, _⟩ := h; heap_lt h1
theorem Row.fr {S : Nat → Prop} {w w' : World} {g c n : Nat} {ks : Nat → KT} {vs : Nat → VT} {nw od : Nat → Nat} (h : Row w g c n ks vs nw od) (f : Fr S w w') (hS : ¬ S g) : Row w' g c n ks vs nw od := by
  obtain ⟨cur, h1, h2⟩ := h
  exact ⟨cur, (f.block g (heap_lt h1) hS).trans h1, h2⟩
theorem Row.cell {w : World} {g c n : Nat} {ks : Nat → KT} {vs : Nat → VT} {nw od : Nat → Nat} (h : Row w g c n ks vs nw od) {i : Nat} (hi : i < n) :
    (w.cell? ⟨g, i * 6, none⟩ = some (k1 (ks i)) ∧ w.cell? ⟨g, i * 6 + 1, none⟩ = some (k2 (ks i)) ∧ w.cell? ⟨g, i * 6 + 2, none⟩ = some (k3 (ks i))) ∧ w.cell? ⟨g, i * 6 + 3, none⟩ = some (vv (vs i)) ∧ w.cell? ⟨g, i * 6 + 4, none⟩ = some (.int .i64 (nw i : Int)) ∧ w.cell? ⟨g, i * 6 + 5, none⟩ = some (.int .i64 (od i : Int)) := by
  obtain ⟨cur, h1, _, _, _, h2⟩ := h
  obtain ⟨⟨a0, b0, c0⟩, a1, a2, a3⟩ := h2 i hi
  exact ⟨⟨(cell_of h1 _).trans a0, (cell_of h1 _).trans b0, (cell_of h1 _).trans c0⟩, (cell_of h1 _).trans a1, (cell_of h1 _).trans a2, (cell_of h1 _).trans a3⟩
theorem Row.frozen {w : World} {g c n : Nat} {ks : Nat → KT} {vs : Nat → VT} {nw od : Nat → Nat} (h : Row w g c n ks vs nw od) (o : Nat) : w.frozen? ⟨g, o, none⟩ = false := by
  obtain ⟨cur, h1, _⟩ := h
  exact frozen_of h1 o
theorem Row.setV {w : World} {g c n : Nat} {ks : Nat → KT} {vs : Nat → VT} {nw od : Nat → Nat} (h : Row w g c n ks vs nw od) {i : Nat} (hi : i < n) (x : VT) : Row (w.setCell ⟨g, i * 6 + 3, none⟩ (vv x)) g c n ks (up vs i x) nw od := by
  obtain ⟨cur, h1, h2, h3, h4, h5⟩ := h
  refine ⟨_, heap_set h1 _, h2, h3, by simpa using h4, fun j hj => ?_⟩
  obtain ⟨⟨a0, b0, c0⟩, a1, a2, a3⟩ := h5 j hj
  have hs : i * 6 + 3 < cur.size := by omega
  simp only [Array.getElem?_setIfInBounds]
  refine ⟨⟨by rw [if_neg (by omega)]; exact a0, by rw [if_neg (by omega)]; exact b0, by rw [if_neg (by omega)]; exact c0⟩, ?_, by rw [if_neg (by omega)]; exact a2, by rw [if_neg (by omega)]; exact a3⟩
  by_cases e : j = i
  · subst e; simp [hs, up_same]
  · rw [if_neg (by omega), up_ne _ _ e]; exact a1
theorem Row.setN {w : World} {g c n : Nat} {ks : Nat → KT} {vs : Nat → VT} {nw od : Nat → Nat} (h : Row w g c n ks vs nw od) {i : Nat} (hi : i < n) (x : Nat) : Row (w.setCell ⟨g, i * 6 + 4, none⟩ (.int .i64 (x : Int))) g c n ks vs (up nw i x) od := by
  obtain ⟨cur, h1, h2, h3, h4, h5⟩ := h
  refine ⟨_, heap_set h1 _, h2, h3, by simpa using h4, fun j hj => ?_⟩
  obtain ⟨⟨a0, b0, c0⟩, a1, a2, a3⟩ := h5 j hj
  have hs : i * 6 + 4 < cur.size := by omega
  simp only [Array.getElem?_setIfInBounds]
  refine ⟨⟨by rw [if_neg (by omega)]; exact a0, by rw [if_neg (by omega)]; exact b0, by rw [if_neg (by omega)]; exact c0⟩, by rw [if_neg (by omega)]; exact a1, ?_, by rw [if_neg (by omega)]; exact a3⟩
  by_cases e : j = i
  · subst e; simp [hs, up_same]
  · rw [if_neg (by omega), up_ne _ _ e]; exact a2
theorem Row.setO {w : World} {g c n : Nat} {ks : Nat → KT} {vs : Nat → VT} {nw od : Nat → Nat} (h : Row w g c n ks vs nw od) {i : Nat} (hi : i < n) (x : Nat) : Row (w.setCell ⟨g, i * 6 + 5, none⟩ (.int .i64 (x : Int))) g c n ks vs nw (up od i x) := by
  obtain ⟨cur, h1, h2, h3, h4, h5⟩ := h
  refine ⟨_, heap_set h1 _, h2, h3, by simpa using h4, fun j hj => ?_⟩
  obtain ⟨⟨a0, b0, c0⟩, a1, a2, a3⟩ := h5 j hj
  have hs : i * 6 + 5 < cur.size := by omega
  simp only [Array.getElem?_setIfInBounds]
  refine ⟨⟨by rw [if_neg (by omega)]; exact a0, by rw [if_neg (by omega)]; exact b0, by rw [if_neg (by omega)]; exact c0⟩, by rw [if_neg (by omega)]; exact a1, by rw [if_neg (by omega)]; exact a2, ?_⟩
  by_cases e : j = i
  · subst e; simp [hs, up_same]
  · rw [if_neg (by omega), up_ne _ _ e]; exact a3
theorem Row.setK {w : World} {g c n : Nat} {ks : Nat → KT} {vs : Nat → VT} {nw od : Nat → Nat} (h : Row w g c n ks vs nw od) {i : Nat} (hi : i < n) (x : KT) : Row (((w.setCell ⟨g, i * 6, none⟩ (k1 x)).setCell ⟨g, i * 6 + 1, none⟩ (k2 x)).setCell ⟨g, i * 6 + 2, none⟩ (k3 x)) g c n (up ks i x) vs nw od := by
  obtain ⟨cur, h1, h2, h3, h4, h5⟩ := h
  refine ⟨_, heap_set (heap_set (heap_set h1 _) _) _, h2, h3, by simpa using h4, fun j hj => ?_⟩
  obtain ⟨⟨a0, b0, c0⟩, a1, a2, a3⟩ := h5 j hj
  have hs : i * 6 + 2 < cur.size := by omega
  simp only [Array.getElem?_setIfInBounds, Array.size_setIfInBounds]
  by_cases e : j = i
  · subst e
    refine ⟨⟨?_, ?_, ?_⟩, ?_, ?_, ?_⟩
    · rw [if_neg (by omega), if_neg (by omega), if_pos rfl, if_pos (by omega), up_same]
    · rw [if_neg (by omega), if_pos rfl, if_pos (by omega), up_same]
    · rw [if_pos rfl, if_pos (by omega), up_same]
    · rw [if_neg (by omega), if_neg (by omega), if_neg (by omega)]; exact a1
    · rw [if_neg (by omega), if_neg (by omega), if_neg (by omega)]; exact a2
    · rw [if_neg (by omega), if_neg (by omega), if_neg (by omega)]; exact a3
  · rw [up_ne _ _ e]
    refine ⟨⟨?_, ?_, ?_⟩, ?_, ?_, ?_⟩
    · rw [if_neg (by omega), if_neg (by omega), if_neg (by omega)]; exact a0
    · rw [if_neg (by omega), if_neg (by omega), if_neg (by omega)]; exact b0
    · rw [if_neg (by omega), if_neg (by omega), if_neg (by omega)]; exact c0
    · rw [if_neg (by omega), if_neg (by omega), if_neg (by omega)]; exact a1
    · rw [if_neg (by omega), if_neg (by omega), if_neg (by omega)]; exact a2
    · rw [if_neg (by omega), if_neg (by omega), if_neg (by omega)]; exact a3
theorem Row.setO0 {w : World} {g c n : Nat} {ks : Nat → KT} {vs : Nat → VT} {nw od : Nat → Nat} (h : Row w g c n ks vs nw od) (hi : 0 < n) (x : Nat) : Row (w.setCell ⟨g, 5, none⟩ (.int .i64 (x : Int))) g c n ks vs nw (up od 0 x) := by
  have := h.setO hi x
  rw [Nat.zero_mul, Nat.zero_add] at this
  exact this
theorem Row.setN0 {w : World} {g c n : Nat} {ks : Nat → KT} {vs : Nat → VT} {nw od : Nat → Nat} (h : Row w g c n ks vs nw od) {i : Nat} (hi : i < n) : Row (w.setCell ⟨g, i * 6 + 4, none⟩ (.int .i64 0)) g c n ks vs (up nw i 0) od := by
  have := h.setN hi 0
  rw [Int.natCast_zero] at this
  exact this
/-- Behind those that are there. -/
theorem Row.setB {w : World} {g c n : Nat} {ks : Nat → KT} {vs : Nat → VT} {nw od : Nat → Nat} (h : Row w g c n ks vs nw od) {o : Nat} (ho : n * 6 ≤ o) (x : Value) : Row (w.setCell ⟨g, o, none⟩ x) g c n ks vs nw od := by
  obtain ⟨cur, h1, h2, h3, h4, h5⟩ := h
  refine ⟨_, heap_set h1 _, h2, h3, by simpa using h4, fun j hj => ?_⟩
  obtain ⟨⟨a0, b0, c0⟩, a1, a2, a3⟩ := h5 j hj
  simp only [Array.getElem?_setIfInBounds]
  exact ⟨⟨by rw [if_neg (by omega)]; exact a0, by rw [if_neg (by omega)]; exact b0, by rw [if_neg (by omega)]; exact c0⟩, by rw [if_neg (by omega)]; exact a1, by rw [if_neg (by omega)]; exact a2, by rw [if_neg (by omega)]; exact a3⟩
theorem Row.less {w : World} {g c n m : Nat} {ks : Nat → KT} {vs : Nat → VT} {nw od : Nat → Nat} (h : Row w g c n ks vs nw od) (hm : m ≤ n) : Row w g c m ks vs nw od := by
  obtain ⟨cur, h1, h2, h3, h4, h5⟩ := h
  exact ⟨cur, h1, by omega, h3, h4, fun j hj => h5 j (by omega)⟩
/-- A cache's cells. -/
abbrev cac (cap : Int) (t m : Value) : Obj := .cells #[.int .i64 cap, t, m] 196
/-- A cache in memory. -/
structure Ca (w : World) (b bm g c nm n : Nat) (cap : Int) (ks : Nat → KT) (vs : Nat → VT) (nw od : Nat → Nat) (M : Pm) : Prop where
  blk : w.heap[b]? = some (cac cap (.slice (some ⟨g, 0, none⟩) n c) (.map (some bm)))
  row : Row w g c n ks vs nw od
  mp : Mp w bm nm M
  n1 : g ≠ b
  n2 : bm ≠ b
  n3 : g ≠ bm
theorem Ca.fr {S : Nat → Prop} {w w' : World} {b bm g c nm n : Nat} {cap : Int} {ks : Nat → KT} {vs : Nat → VT} {nw od : Nat → Nat} {M : Pm} (h : Ca w b bm g c nm n cap ks vs nw od M) (f : Fr S w w') (h1 : ¬ S b) (h2 : ¬ S bm) (h3 : ¬ S g) : Ca w' b bm g c nm n cap ks vs nw od M :=
  ⟨(f.block _ (heap_lt h.blk) h1).trans h.blk, h.row.fr f h3, h.mp.fr f h2, h.n1, h.n2, h.n3⟩
theorem Ca.nw {w w' : World} {b bm g c nm n : Nat} {cap : Int} {ks : Nat → KT} {vs : Nat → VT} {nw od : Nat → Nat} {M : Pm} (h : Ca w b bm g c nm n cap ks vs nw od M) (f : Nw w w') : Ca w' b bm g c nm n cap ks vs nw od M := h.fr f id id id
/-- A row is turned, all else stays. -/
theorem Ca.turn {w w' : World} {b bm g c nm n : Nat} {cap : Int} {ks ks' : Nat → KT} {vs vs' : Nat → VT} {nw od nw' od' : Nat → Nat} {M : Pm} (h : Ca w b bm g c nm n cap ks vs nw od M) (f : Fr (fun k => k = g) w w') (r : Row w' g c n ks' vs' nw' od') : Ca w' b bm g c nm n cap ks' vs' nw' od' M :=
  ⟨(f.block _ (heap_lt h.blk) (fun e => h.n1 e.symm)).trans h.blk, r, h.mp.fr f (fun e => h.n3 e.symm), h.n1, h.n2, h.n3⟩
theorem frS {w : World} {g o : Nat} (x : Value) : Fr (fun k => k = g) w (w.setCell ⟨g, o, none⟩ x) := (Fr.refl _ w).setCell _ _ (fun _ => rfl)
theorem cac_cs {w : World} {b : Nat} {cap : Int} {t m : Value} (h : w.heap[b]? = some (cac cap t m)) : w.cell? ⟨b, 0, none⟩ = some (.int .i64 cap) ∧ w.cell? ⟨b, 1, none⟩ = some t ∧ w.cell? ⟨b, 2, none⟩ = some m :=
  ⟨(cell_of h 0).trans rfl, (cell_of h 1).trans rfl, (cell_of h 2).trans rfl⟩
theorem binm_none (w : World) : (binOp .neq 194 (.map none) (.map none)).run Tryz.prog w = .ok (.bool false) w := by kernel_rfl
theorem binm_some (b : Nat) (w : World) : (binOp .neq 194 (.map (some b)) (.map none)).run Tryz.prog w = .ok (.bool true) w := by kernel_rfl
end Go.Proofs.YtjkhcplnedcmeaaGreatDoor.CT
namespace Go.Proofs.YtjkhcplnedcmeaaGreatDoor.CT
open Go.RowKit Go.Maps Go.WideMaps Go.Proofs.YtjkhcplnedcmeaaGreatDoor
set_option linter.unusedVariables false
set_option linter.unusedSimpArgs false
theorem there_any {w : World} {b bm : Nat} {cap : Int} {t : Value} (h : w.heap[b]? = some (cac cap t (.map (some bm)))) :
    Calls Tryz.prog 203 #[.pointer (some ⟨b, 0, none⟩)] w fun e w' => e = .returned (.bool true) ∧ w' = w := by
  obtain ⟨_, _, c0⟩ := cac_cs h
  have lb := heap_lt h
  clear h
  have m0 := binm_none
  have m1 := binm_some
  go_enter Tryz.func203, Tryz.ntmps203
  go_wp2
  go_ret
  exact ⟨rfl, rfl⟩
/-- A cache that is not there, or that no call made. -/
def NoC (w : World) (p : Value) : Prop := p = .pointer none ∨ ∃ b cap t, p = .pointer (some ⟨b, 0, none⟩) ∧ w.heap[b]? = some (cac cap t (.map none))
theorem NoC.nw {w w' : World} {p : Value} (h : NoC w p) (n : Nw w w') : NoC w' p := by
  rcases h with h | ⟨b, cap, t, h, hb⟩
  · exact .inl h
  · exact .inr ⟨b, cap, t, h, (n.block _ (heap_lt hb) (fun f => f)).trans hb⟩
set_option maxHeartbeats 1000000 in
theorem find_any {w : World} {b bm nm : Nat} {cap : Int} {t : Value} {M : Pm} (h : w.heap[b]? = some (cac cap t (.map (some bm)))) (hm : Mp w bm nm M) (k : KT) (hk : kok k) :
    Calls Tryz.prog 200 #[.pointer (some ⟨b, 0, none⟩), kv k] w fun e w' => e = .returned (.tuple #[.int .i64 (((M k).getD 0 : Nat) : Int), .bool (M k).isSome]) ∧ Nw w w' := by
  have n0 := nwa w (.cells #[k1 k, k2 k, k3 k] 120)
  have h' := (n0.block _ (heap_lt h) (fun f => f)).trans h
  have hm' := hm.fr n0 (fun f => f)
  have b0 := heap_new w (.cells #[k1 k, k2 k, k3 k] 120)
  have q := there_any h'
  obtain ⟨w1, hw1⟩ : ∃ q, q = w.alloc (.cells #[k1 k, k2 k, k3 k] 120) := ⟨_, rfl⟩
  rw [← hw1] at q h' hm' n0 b0
  have HW1 : Hid (w1 = w.alloc (.cells #[k1 k, k2 k, k3 k] 120)) := hw1
  have hlk := (hm'.fr (Fr.refl (fun _ => False) w1).drew (fun f => f)).look k hk
  obtain ⟨_, _, c0⟩ := cac_cs h'
  have lb := heap_lt h'
  have lw := heap_lt b0
  obtain ⟨x0, x1, x2⟩ := cell3 b0
  generalize (M k).isSome = ok at hlk ⊢
  generalize (M k).getD 0 = p at hlk ⊢
  clear h hm hk h' hm' hw1
  go_enter Tryz.func200, Tryz.ntmps200
  go_wp2_with fail
  rw [← HW1.out]
  refine q.mono ?_
  rintro e w2 ⟨rfl, rfl⟩
  go_wp2
  go_region
  all_goals
    go_wp2
    go_ret2
    exact ⟨rfl, n0.drew⟩
set_option maxRecDepth 100000 in
set_option maxHeartbeats 1000000 in
theorem unlink_any {w : World} {b bm g c nm n : Nat} {cap : Int} {ks : Nat → KT} {vs : Nat → VT} {nw od : Nat → Nat} {M : Pm} (h : Ca w b bm g c nm n cap ks vs nw od M) (hn : n ≤ 2000) {p x y : Nat} (hp : p < n) (hx : nw p = x) (hy : od p = y) (h1 : x < n) (h2 : y < n) :
    Calls Tryz.prog 221 #[.pointer (some ⟨b, 0, none⟩), .int .i64 (p : Int)] w fun e w' => e = .returned (.tuple #[]) ∧ Ca w' b bm g c nm n cap ks vs (up nw y x) (up od x y) M ∧ Fr (fun k => k = g) w w' := by
  obtain ⟨_, c1, _⟩ := cac_cs h.blk
  have lb := heap_lt h.blk
  have lg := h.row.lt
  obtain ⟨_, _, r2, r3⟩ := h.row.cell hp
  obtain ⟨_, _, _, x3⟩ := h.row.cell h1
  obtain ⟨_, _, y2, _⟩ := h.row.cell h2
  have H : Hid (Ca w b bm g c nm n cap ks vs nw od M) := h
  have hgb : ¬ g = b := h.n1
  have fz : ∀ o, w.frozen? ⟨g, o, none⟩ = false := fun o => h.row.frozen o
  rw [hx] at r2
  rw [hy] at r3
  clear h hx hy
  go_enter Tryz.func221, Tryz.ntmps221
  go_wp2_with fail
  go_quiet (fail)
  go_wp2
  go_end0
  have hd := H.out.nw ((Fr.refl (fun _ => False) w).drewN nq)
  have hd1 := hd.turn (frS _) (hd.row.setO h1 y)
  have hd2 := hd1.turn (frS _) (hd1.row.setN h2 x)
  exact ⟨rfl, hd2, (((Fr.refl _ w).drewN nq).trans (frS _) (fun _ _ e => e)).trans (frS _) (fun _ _ e => e)⟩
set_option maxRecDepth 100000 in
set_option maxHeartbeats 1000000 in
theorem lead_any {w : World} {b bm g c nm n : Nat} {cap : Int} {ks : Nat → KT} {vs : Nat → VT} {nw od : Nat → Nat} {M : Pm} (h : Ca w b bm g c nm n cap ks vs nw od M) (hn : n ≤ 2000) {p y : Nat} (hp : p < n) (hp0 : p ≠ 0) (hpy : p ≠ y) (hy : od 0 = y) (h2 : y < n) :
    Calls Tryz.prog 222 #[.pointer (some ⟨b, 0, none⟩), .int .i64 (p : Int)] w fun e w' => e = .returned (.tuple #[]) ∧ Ca w' b bm g c nm n cap ks vs (up (up nw p 0) y p) (up (up od p y) 0 p) M ∧ Fr (fun k => k = g) w w' := by
  obtain ⟨_, c1, _⟩ := cac_cs h.blk
  have lb := heap_lt h.blk
  have lg := h.row.lt
  obtain ⟨_, _, r2, r3⟩ := h.row.cell hp
  obtain ⟨_, _, _, z3⟩ := h.row.cell (i := 0) (by omega)
  have hq0 : ¬ p = 0 := hp0
  have hq1 : ¬ p = y := hpy
  have hq2 : ¬ y = p := fun e => hpy e.symm
  have hn0 : 0 < n := by omega
  obtain ⟨_, _, y2, _⟩ := h.row.cell h2
  have H : Hid (Ca w b bm g c nm n cap ks vs nw od M) := h
  have hgb : ¬ g = b := h.n1
  have fz : ∀ o, w.frozen? ⟨g, o, none⟩ = false := fun o => h.row.frozen o
  rw [hy] at z3
  simp only [Nat.zero_mul, Nat.zero_add] at z3
  clear h hy
  go_enter Tryz.func222, Tryz.ntmps222
  go_wp2_with fail
  go_region
  all_goals
    go_wp2
    go_end0
    have hd := H.out
    first
    | (have hd1 := hd.turn (frS _) (hd.row.setN0 hp)
       have hd2 := hd1.turn (frS _) (hd1.row.setO hp y)
       have hd3 := hd2.turn (frS _) (hd2.row.setN h2 p)
       have hd4 := hd3.turn (frS _) (hd3.row.setO0 hn0 p)
       exact ⟨rfl, hd4.nw (Fr.refl _ _).drew, (((((Fr.refl _ w).trans (frS _) (fun _ _ e => e)).trans (frS _) (fun _ _ e => e)).trans (frS _) (fun _ _ e => e)).trans (frS _) (fun _ _ e => e)).drew⟩)
    | (have hd1 := hd.turn (frS _) (hd.row.setO hp y)
       have hd2 := hd1.turn (frS _) (hd1.row.setN0 hp)
       have hd3 := hd2.turn (frS _) (hd2.row.setN h2 p)
       have hd4 := hd3.turn (frS _) (hd3.row.setO0 hn0 p)
       exact ⟨rfl, hd4.nw (Fr.refl _ _).drew, (((((Fr.refl _ w).trans (frS _) (fun _ _ e => e)).trans (frS _) (fun _ _ e => e)).trans (frS _) (fun _ _ e => e)).trans (frS _) (fun _ _ e => e)).drew⟩)
set_option maxRecDepth 100000 in
set_option maxHeartbeats 1000000 in
theorem renew_any {w : World} {b bm g c nm n : Nat} {cap : Int} {ks : Nat → KT} {vs : Nat → VT} {nw od : Nat → Nat} {M : Pm} (h : Ca w b bm g c nm n cap ks vs nw od M) (hn : n ≤ 2000) {A B : List Nat} {p : Nat} (hR : Ring nw od (A ++ p :: B)) (hO : ∀ x ∈ A ++ p :: B, x < n) :
    Calls Tryz.prog 201 #[.pointer (some ⟨b, 0, none⟩), .int .i64 (p : Int)] w fun e w' => e = .returned (.tuple #[]) ∧ ∃ nw' od', Ca w' b bm g c nm n cap ks vs nw' od' M ∧ Ring nw' od' (p :: (A ++ B)) ∧ Fr (fun k => k = g) w w' := by
  have hp : p < n := hO p (by simp)
  have hp0 : p ≠ 0 := fun e => by have := hR.2; rw [e] at this; simp at this
  have hn0 : 0 < n := by omega
  obtain ⟨i1, i2⟩ := ring_nb hR (p := p) (.inr (by simp))
  have h1 : nw p < n := i1.elim (fun e => by omega) (hO _)
  have h2 : od p < n := i2.elim (fun e => by omega) (hO _)
  have q1 := unlink_any h hn hp rfl rfl h1 h2
  have R2 := ring_unlink hR
  have hpn : p ∉ A ++ B := by have := hR.2; simp only [List.nodup_cons, List.nodup_append, List.mem_append, List.mem_cons] at this ⊢; grind
  obtain ⟨_, j2⟩ := ring_nb R2 (p := 0) (.inl rfl)
  have R3 := ring_lead R2 hp0 hpn
  generalize up nw (od p) (nw p) = nw1 at q1 R2 R3 j2
  generalize up od (nw p) (od p) = od1 at q1 R2 R3 j2
  have h3 : od1 0 < n := j2.elim (fun e => by omega) (fun e => hO _ (by simp at e ⊢; rcases e with e | e <;> simp [e]))
  have h4 : p ≠ od1 0 := fun e => j2.elim (fun k => hp0 (e.trans k)) (fun k => hpn (e ▸ k))
  have HR : Hid (Ring (up (up nw1 p 0) (od1 0) p) (up (up od1 p (od1 0)) 0 p) (p :: (A ++ B))) := R3
  clear hR R2 R3 i1 i2 j2 h1 h2 h hO hpn
  go_enter Tryz.func201, Tryz.ntmps201
  go_wp2_with fail
  refine q1.mono ?_
  rintro e w1 ⟨rfl, C1, F1⟩
  have q2 := lead_any C1 hn hp hp0 h4 rfl h3
  have HF : Hid (Fr (fun k => k = g) w w1) := F1
  clear q1 C1 F1
  go_wp2_with fail
  refine q2.mono ?_
  rintro e w2 ⟨rfl, C2, F2⟩
  have HC : Hid (Ca w2 b bm g c nm n cap ks vs (up (up nw1 p 0) (od1 0) p) (up (up od1 p (od1 0)) 0 p) M) := C2
  have HF2 : Hid (Fr (fun k => k = g) w w2) := HF.out.trans F2 (fun _ _ e => e)
  clear q2 C2 F2
  go_wp2
  go_end0
  exact ⟨rfl, _, _, HC.out, HR.out, HF2.out⟩
end Go.Proofs.YtjkhcplnedcmeaaGreatDoor.CT
namespace Go.Proofs.YtjkhcplnedcmeaaGreatDoor.CT
open Go.RowKit Go.Maps Go.WideMaps Go.Proofs.YtjkhcplnedcmeaaGreatDoor
set_option linter.unusedVariables false
set_option linter.unusedSimpArgs false
theorem gen_w {Q : World → Prop} (P : World → Prop) {W : World} (h : P W) (k : ∀ W, P W → Q W) : Q W := k W h
/-- How the places, the ring and the map belong together. -/
structure Lo (n : Nat) (ks : Nat → KT) (nw od : Nat → Nat) (M : Pm) (O : List Nat) : Prop where
  ring : Ring nw od O
  mem : ∀ x, x ∈ O ↔ 1 ≤ x ∧ x < n
  len : n = O.length + 1
  map : ∀ k q, M k = some q ↔ q ∈ O ∧ ks q = k
  key : ∀ q ∈ O, kok (ks q)
/-- A block is turned beside a cache's own. -/
theorem Ca.mapd {w w' : World} {b bm g c nm nm' n : Nat} {cap : Int} {ks : Nat → KT} {vs : Nat → VT} {nw od : Nat → Nat} {M M' : Pm} (h : Ca w b bm g c nm n cap ks vs nw od M) (f : Fr (fun k => k = bm) w w') (r : Mp w' bm nm' M') : Ca w' b bm g c nm' n cap ks vs nw od M' :=
  ⟨(f.block _ (heap_lt h.blk) (fun e => h.n2 e.symm)).trans h.blk, h.row.fr f h.n3, r, h.n1, h.n2, h.n3⟩
/-- The last place is free. -/
theorem Ca.cut {w : World} {b bm g c nm n : Nat} {cap : Int} {ks : Nat → KT} {vs : Nat → VT} {nw od : Nat → Nat} {M : Pm} (h : Ca w b bm g c nm (n + 1) cap ks vs nw od M) : Ca (w.setCell ⟨b, 1, none⟩ (.slice (some ⟨g, 0, none⟩) n c)) b bm g c nm n cap ks vs nw od M := by
  have F : Fr (fun k => k = b) w (w.setCell ⟨b, 1, none⟩ (.slice (some ⟨g, 0, none⟩) n c)) := (Fr.refl _ w).setCell _ _ (fun _ => rfl)
  exact ⟨(heap_set h.blk _).trans rfl, (h.row.fr F h.n1).less (by omega), h.mp.fr F h.n2, h.n1, h.n2, h.n3⟩
/-- The zero of a thing, put behind those that are left. -/
theorem Row.zero {w : World} {g c n : Nat} {ks : Nat → KT} {vs : Nat → VT} {nw od : Nat → Nat} (h : Row w g c n ks vs nw od) {o : Nat} (ho : n * 6 ≤ o) (a0 a1 a2 a3 a4 a5 : Value) : Row ((((((w.setCell ⟨g, o, none⟩ a0).setCell ⟨g, o + 1, none⟩ a1).setCell ⟨g, o + 2, none⟩ a2).setCell ⟨g, o + 3, none⟩ a3).setCell ⟨g, o + 4, none⟩ a4).setCell ⟨g, o + 5, none⟩ a5) g c n ks vs nw od :=
  (((((h.setB ho a0).setB (by omega) a1).setB (by omega) a2).setB (by omega) a3).setB (by omega) a4).setB (by omega) a5
theorem fr6 {w : World} {g o1 o2 o3 o4 o5 o6 : Nat} (a0 a1 a2 a3 a4 a5 : Value) : Fr (fun k => k = g) w ((((((w.setCell ⟨g, o1, none⟩ a0).setCell ⟨g, o2, none⟩ a1).setCell ⟨g, o3, none⟩ a2).setCell ⟨g, o4, none⟩ a3).setCell ⟨g, o5, none⟩ a4).setCell ⟨g, o6, none⟩ a5) :=
  (((((frS a0).trans (frS a1) (fun _ _ e => e)).trans (frS a2) (fun _ _ e => e)).trans (frS a3) (fun _ _ e => e)).trans (frS a4) (fun _ _ e => e)).trans (frS a5) (fun _ _ e => e)
theorem Ca.cutz {w : World} {b bm g c nm n : Nat} {cap : Int} {ks : Nat → KT} {vs : Nat → VT} {nw od : Nat → Nat} {M : Pm} (h : Ca w b bm g c nm (n + 1) cap ks vs nw od M) (a0 a1 a2 a3 a4 a5 : Value) {W : World} (hW : W = ((((((w.setCell ⟨g, n * 6, none⟩ a0).setCell ⟨g, n * 6 + 1, none⟩ a1).setCell ⟨g, n * 6 + 2, none⟩ a2).setCell ⟨g, n * 6 + 3, none⟩ a3).setCell ⟨g, n * 6 + 4, none⟩ a4).setCell ⟨g, n * 6 + 5, none⟩ a5).setCell ⟨b, 1, none⟩ (.slice (some ⟨g, 0, none⟩) n c)) :
    Ca W b bm g c nm n cap ks vs nw od M ∧ Fr (fun k => k = b ∨ k = g ∨ k = bm) w W := by
  have F1 : Fr (fun k => k = g) w ((((((w.setCell ⟨g, n * 6, none⟩ a0).setCell ⟨g, n * 6 + 1, none⟩ a1).setCell ⟨g, n * 6 + 2, none⟩ a2).setCell ⟨g, n * 6 + 3, none⟩ a3).setCell ⟨g, n * 6 + 4, none⟩ a4).setCell ⟨g, n * 6 + 5, none⟩ a5) := fr6 _ _ _ _ _ _
  have r := Row.zero (h.row.less (m := n) (by omega)) (o := n * 6) (Nat.le_refl _) a0 a1 a2 a3 a4 a5
  have hb := (F1.block _ (heap_lt h.blk) (fun e => h.n1 e.symm)).trans h.blk
  have hm := h.mp.fr F1 (fun e => h.n3 e.symm)
  subst hW
  generalize ((((((w.setCell ⟨g, n * 6, none⟩ a0).setCell ⟨g, n * 6 + 1, none⟩ a1).setCell ⟨g, n * 6 + 2, none⟩ a2).setCell ⟨g, n * 6 + 3, none⟩ a3).setCell ⟨g, n * 6 + 4, none⟩ a4).setCell ⟨g, n * 6 + 5, none⟩ a5) = W1 at *
  have F : Fr (fun k => k = b) W1 (W1.setCell ⟨b, 1, none⟩ (.slice (some ⟨g, 0, none⟩) n c)) := (Fr.refl _ W1).setCell _ _ (fun _ => rfl)
  exact ⟨⟨(heap_set hb _).trans rfl, r.fr F h.n1, hm.fr F h.n2, h.n1, h.n2, h.n3⟩, (F1.mono (fun _ _ e => .inr (.inl e))).trans F (fun _ _ e => .inl e)⟩
theorem Row.setAll {w : World} {g c n : Nat} {ks : Nat → KT} {vs : Nat → VT} {nw od : Nat → Nat} (h : Row w g c n ks vs nw od) {p : Nat} (hp : p < n) (k : KT) (v : VT) (x y : Nat) :
    Row ((((((w.setCell ⟨g, p * 6, none⟩ (k1 k)).setCell ⟨g, p * 6 + 1, none⟩ (k2 k)).setCell ⟨g, p * 6 + 2, none⟩ (k3 k)).setCell ⟨g, p * 6 + 3, none⟩ (vv v)).setCell ⟨g, p * 6 + 4, none⟩ (.int .i64 (x : Int))).setCell ⟨g, p * 6 + 5, none⟩ (.int .i64 (y : Int))) g c n (up ks p k) (up vs p v) (up nw p x) (up od p y) :=
  (((h.setK hp k).setV hp v).setN hp x).setO hp y
set_option maxRecDepth 100000 in
set_option maxHeartbeats 2000000 in
theorem remove_last {w : World} {b bm g c nm n : Nat} {cap : Int} {ks : Nat → KT} {vs : Nat → VT} {nw od : Nat → Nat} {M : Pm} (h : Ca w b bm g c nm (n + 1) cap ks vs nw od M) (hn : n + 1 ≤ 2000) {x y : Nat} (h0 : 1 ≤ n) (hx : nw n = x) (hy : od n = y) (h1 : x < n + 1) (h2 : y < n + 1) (hk : kok (ks n)) :
    Calls Tryz.prog 205 #[.pointer (some ⟨b, 0, none⟩), .int .i64 (n : Int)] w fun e w' => e = .returned (.tuple #[]) ∧ Ca w' b bm g c nm n cap ks vs (up nw y x) (up od x y) (delP M (ks n)) ∧ Fr (fun k => k = b ∨ k = g ∨ k = bm) w w' := by
  have q1 := unlink_any h hn (p := n) (by omega) hx hy h1 h2
  generalize up nw y x = nw1 at q1 ⊢
  generalize up od x y = od1 at q1 ⊢
  clear h hx hy
  go_enter Tryz.func205, Tryz.ntmps205
  go_wp2_with fail
  refine q1.mono ?_
  rintro e w1 ⟨rfl, C1, F1⟩
  obtain ⟨_, c1, c2⟩ := cac_cs C1.blk
  have lb := heap_lt C1.blk
  have lg := C1.row.lt
  obtain ⟨⟨r0, r0b, r0c⟩, _, _, _⟩ := C1.row.cell (i := n) (by omega)
  have D1 := C1.nw (Fr.refl _ _).drew
  obtain ⟨W', rd, Md, Fd⟩ := D1.mp.del (ks n) hk 0
  have H2 : Hid (Ca W' b bm g c nm (n + 1) cap ks vs nw1 od1 (delP M (ks n)) ∧ Fr (fun k => k = b ∨ k = g ∨ k = bm) w W') := ⟨D1.mapd Fd Md, (F1.mono (fun _ _ e => .inr (.inl e))).drew.trans Fd (fun _ _ e => .inr (.inr e))⟩
  have hgb : ¬ g = b := C1.n1
  clear C1 D1 F1 Md Fd q1 x y h1 h2
  go_wp2_with fail
  go_region
  all_goals
    clear rd r0 r0b r0c c1 c2 lb lg
    obtain ⟨C2, F2⟩ := H2.out
    obtain ⟨_, c1, c2⟩ := cac_cs C2.blk
    have lb := heap_lt C2.blk
    have lg := C2.row.lt
    obtain ⟨⟨r0, r0b, r0c⟩, r1, r2, r3⟩ := C2.row.cell (i := n) (by omega)
    have fz : ∀ o, W'.frozen? ⟨g, o, none⟩ = false := fun o => C2.row.frozen o
    have fb : ∀ o, W'.frozen? ⟨b, o, none⟩ = false := fun o => frozen_of C2.blk o
    have hnc : n + 1 ≤ c := by obtain ⟨_, _, q, _⟩ := C2.row; exact q
    clear C2 F2
    go_wp2
    go_end0
    obtain ⟨C2, F2⟩ := H2.out
    exact ⟨rfl, (C2.cutz (k1 kz) (k2 kz) (k3 kz) (vv vz) (.int .i64 0) (.int .i64 0) rfl).1, F2.trans (C2.cutz (k1 kz) (k2 kz) (k3 kz) (vv vz) (.int .i64 0) (.int .i64 0) rfl).2 (fun _ _ e => e)⟩
set_option maxRecDepth 100000 in
set_option maxHeartbeats 4000000 in
theorem remove_move {w : World} {b bm g c nm n : Nat} {cap : Int} {ks : Nat → KT} {vs : Nat → VT} {nw od : Nat → Nat} {M : Pm} (h : Ca w b bm g c nm (n + 1) cap ks vs nw od M) (hn : n + 1 ≤ 2000) {p x y : Nat} (hp : p < n) (hx : nw p = x) (hy : od p = y) (h1 : x < n + 1) (h2 : y < n + 1) (hk : kok (ks p)) (hk2 : kok (ks n))
    {x1 y1 : Nat} (hx1 : up nw y x n = x1) (hy1 : up od x y n = y1) (h3 : x1 < n + 1) (h4 : y1 < n + 1) (hm : nm < 4611686018427387904) :
    Calls Tryz.prog 205 #[.pointer (some ⟨b, 0, none⟩), .int .i64 (p : Int)] w fun e w' => e = .returned (.tuple #[]) ∧ Ca w' b bm g c (nm + 1) n cap (up ks p (ks n)) (up vs p (vs n)) (up (up (up nw y x) p x1) y1 p) (up (up (up od x y) p y1) x1 p) (putP (delP M (ks p)) (ks n) p) ∧ Fr (fun k => k = b ∨ k = g ∨ k = bm) w w' := by
  have q1 := unlink_any h hn (p := p) (by omega) hx hy h1 h2
  generalize up nw y x = nw1 at q1 hx1 ⊢
  generalize up od x y = od1 at q1 hy1 ⊢
  have HX : Hid (nw1 n = x1 ∧ od1 n = y1) := ⟨hx1, hy1⟩
  clear h hx hy hx1 hy1
  have hpn : ((p : Int) != (n : Int)) = true := by simp; omega
  go_enter Tryz.func205, Tryz.ntmps205
  go_wp2_with fail
  refine q1.mono ?_
  rintro e w1 ⟨rfl, C1, F1⟩
  obtain ⟨_, c1, c2⟩ := cac_cs C1.blk
  have lb := heap_lt C1.blk
  have lg := C1.row.lt
  obtain ⟨⟨r0, r0b, r0c⟩, _, _, _⟩ := C1.row.cell (i := p) (by omega)
  have D1 := C1.nw (Fr.refl _ _).drew
  obtain ⟨W', rd, Md, Fd⟩ := D1.mp.del (ks p) hk 0
  have H2 : Hid (Ca W' b bm g c nm (n + 1) cap ks vs nw1 od1 (delP M (ks p)) ∧ Fr (fun k => k = b ∨ k = g ∨ k = bm) w W') := ⟨D1.mapd Fd Md, (F1.mono (fun _ _ e => .inr (.inl e))).drew.trans Fd (fun _ _ e => .inr (.inr e))⟩
  have hgb : ¬ g = b := C1.n1
  clear C1 D1 F1 Md Fd q1 x y h1 h2
  go_wp2_with fail
  go_region
  all_goals
    clear rd r0 r0b r0c c1 c2 lb lg
    obtain ⟨C2, F2⟩ := H2.out
    obtain ⟨_, c1, c2⟩ := cac_cs C2.blk
    have lb := heap_lt C2.blk
    have lg := C2.row.lt
    obtain ⟨⟨r0, r0b, r0c⟩, r1, r2, r3⟩ := C2.row.cell (i := n) (by omega)
    rw [HX.out.1] at r2
    rw [HX.out.2] at r3
    have hnc : n + 1 ≤ c := by obtain ⟨_, _, q, _⟩ := C2.row; exact q
    clear C2 F2
    go_wp2_with fail
    refine gen_w (fun W => W.heap[W'.heap.size]? = some (.cells #[k1 (ks n), k2 (ks n), k3 (ks n), vv (vs n), .int .i64 (x1 : Int), .int .i64 (y1 : Int)] 338) ∧ Nw W' W) ?_ ?_
    · exact ⟨heap_new _ _, (Fr.refl _ _).alloc _⟩
    rintro W4 ⟨hb4, n4⟩
    have H4 : Hid (Ca W4 b bm g c nm (n + 1) cap ks vs nw1 od1 (delP M (ks p)) ∧ Fr (fun k => k = b ∨ k = g ∨ k = bm) w W4) := ⟨H2.out.1.nw n4, H2.out.2.trans n4 (fun _ _ e => e.elim)⟩
    have hz1 : ¬ W'.heap.size = g := by omega
    have hz2 : ¬ W'.heap.size = b := by omega
    have hz3 : ¬ W'.heap.size = bm := by have := H2.out.1.mp.lt; omega
    generalize W'.heap.size = z at hb4 hz1 hz2 hz3 ⊢
    clear H2 c1 c2 lb lg r0 r0b r0c r1 r2 r3 n4
    have HB : Hid (W4.heap[z]? = some (.cells #[k1 (ks n), k2 (ks n), k3 (ks n), vv (vs n), .int .i64 (x1 : Int), .int .i64 (y1 : Int)] 338)) := hb4
    have d0 : W4.cell? ⟨z, 0, none⟩ = some (k1 (ks n)) := (cell_of hb4 0).trans rfl
    have d0b : W4.cell? ⟨z, 1, none⟩ = some (k2 (ks n)) := (cell_of hb4 1).trans rfl
    have d0c : W4.cell? ⟨z, 2, none⟩ = some (k3 (ks n)) := (cell_of hb4 2).trans rfl
    have d1 : W4.cell? ⟨z, 3, none⟩ = some (vv (vs n)) := (cell_of hb4 3).trans rfl
    have d2 : W4.cell? ⟨z, 4, none⟩ = some (.int .i64 (x1 : Int)) := (cell_of hb4 4).trans rfl
    have d3 : W4.cell? ⟨z, 5, none⟩ = some (.int .i64 (y1 : Int)) := (cell_of hb4 5).trans rfl
    have lz := heap_lt hb4
    obtain ⟨C4, F4⟩ := H4.out
    obtain ⟨_, c1, c2⟩ := cac_cs C4.blk
    have lb := heap_lt C4.blk
    have lg := C4.row.lt
    obtain ⟨⟨r0, r0b, r0c⟩, r1, r2, r3⟩ := C4.row.cell (i := p) (by omega)
    have fz : ∀ o, W4.frozen? ⟨g, o, none⟩ = false := fun o => C4.row.frozen o
    clear C4 F4 hb4
    go_region
  all_goals
    refine gen_w (fun W => Ca W b bm g c nm (n + 1) cap (up ks p (ks n)) (up vs p (vs n)) (up nw1 p x1) (up od1 p y1) (delP M (ks p)) ∧ Fr (fun k => k = g) W4 W) ?_ ?_
    · exact ⟨(H4.out.1.turn (fr6 _ _ _ _ _ _) (H4.out.1.row.setAll (p := p) (by omega) (ks n) (vs n) x1 y1)).nw (Fr.refl _ _).drew, (fr6 _ _ _ _ _ _).drew⟩
    rintro W5 ⟨C5, F5⟩
    have H5 : Hid (Ca W5 b bm g c nm (n + 1) cap (up ks p (ks n)) (up vs p (vs n)) (up nw1 p x1) (up od1 p y1) (delP M (ks p)) ∧ Fr (fun k => k = b ∨ k = g ∨ k = bm) w W5) := ⟨C5, H4.out.2.trans F5 (fun _ _ e => .inr (.inl e))⟩
    have HB : Hid (W5.heap[z]? = some (.cells #[k1 (ks n), k2 (ks n), k3 (ks n), vv (vs n), .int .i64 (x1 : Int), .int .i64 (y1 : Int)] 338)) := (F5.block z lz hz1).trans HB.out
    clear C5 F5 H4 d1
    clear d0 d0b d0c d2 d3 lz c1 c2 lb lg r0 r0b r0c r1 r2 r3 fz
    have d0 : W5.cell? ⟨z, 0, none⟩ = some (k1 (ks n)) := (cell_of HB.out 0).trans rfl
    have d0b : W5.cell? ⟨z, 1, none⟩ = some (k2 (ks n)) := (cell_of HB.out 1).trans rfl
    have d0c : W5.cell? ⟨z, 2, none⟩ = some (k3 (ks n)) := (cell_of HB.out 2).trans rfl
    have d2 : W5.cell? ⟨z, 4, none⟩ = some (.int .i64 (x1 : Int)) := (cell_of HB.out 4).trans rfl
    have d3 : W5.cell? ⟨z, 5, none⟩ = some (.int .i64 (y1 : Int)) := (cell_of HB.out 5).trans rfl
    have lz := heap_lt HB.out
    obtain ⟨_, c1, c2⟩ := cac_cs H5.out.1.blk
    have lb := heap_lt H5.out.1.blk
    have lg := H5.out.1.row.lt
    obtain ⟨⟨r0, r0b, r0c⟩, r1, r2, r3⟩ := H5.out.1.row.cell (i := x1) (by omega)
    have fz : ∀ o, W5.frozen? ⟨g, o, none⟩ = false := fun o => H5.out.1.row.frozen o
    go_wp2_with fail
    go_region
  all_goals
    refine gen_w (fun W => Ca W b bm g c nm (n + 1) cap (up ks p (ks n)) (up vs p (vs n)) (up nw1 p x1) (up (up od1 p y1) x1 p) (delP M (ks p)) ∧ Fr (fun k => k = g) W5 W) ?_ ?_
    · exact ⟨(H5.out.1.turn (frS _) (H5.out.1.row.setO h3 p)).nw (Fr.refl _ _).drew, (frS _).drew⟩
    rintro W6 ⟨C6, F6⟩
    have H6 : Hid (Ca W6 b bm g c nm (n + 1) cap (up ks p (ks n)) (up vs p (vs n)) (up nw1 p x1) (up (up od1 p y1) x1 p) (delP M (ks p)) ∧ Fr (fun k => k = b ∨ k = g ∨ k = bm) w W6) := ⟨C6, H5.out.2.trans F6 (fun _ _ e => .inr (.inl e))⟩
    have HB : Hid (W6.heap[z]? = some (.cells #[k1 (ks n), k2 (ks n), k3 (ks n), vv (vs n), .int .i64 (x1 : Int), .int .i64 (y1 : Int)] 338)) := (F6.block z lz hz1).trans HB.out
    clear C6 F6 H5
    clear d0 d0b d0c d2 d3 lz c1 c2 lb lg r0 r0b r0c r1 r2 r3 fz
    have d0 : W6.cell? ⟨z, 0, none⟩ = some (k1 (ks n)) := (cell_of HB.out 0).trans rfl
    have d0b : W6.cell? ⟨z, 1, none⟩ = some (k2 (ks n)) := (cell_of HB.out 1).trans rfl
    have d0c : W6.cell? ⟨z, 2, none⟩ = some (k3 (ks n)) := (cell_of HB.out 2).trans rfl
    have d2 : W6.cell? ⟨z, 4, none⟩ = some (.int .i64 (x1 : Int)) := (cell_of HB.out 4).trans rfl
    have d3 : W6.cell? ⟨z, 5, none⟩ = some (.int .i64 (y1 : Int)) := (cell_of HB.out 5).trans rfl
    have lz := heap_lt HB.out
    obtain ⟨_, c1, c2⟩ := cac_cs H6.out.1.blk
    have lb := heap_lt H6.out.1.blk
    have lg := H6.out.1.row.lt
    obtain ⟨⟨r0, r0b, r0c⟩, r1, r2, r3⟩ := H6.out.1.row.cell (i := y1) (by omega)
    have fz : ∀ o, W6.frozen? ⟨g, o, none⟩ = false := fun o => H6.out.1.row.frozen o
    go_wp2_with fail
    go_region
  all_goals
    refine gen_w (fun W => Ca W b bm g c nm (n + 1) cap (up ks p (ks n)) (up vs p (vs n)) (up (up nw1 p x1) y1 p) (up (up od1 p y1) x1 p) (delP M (ks p)) ∧ Fr (fun k => k = g) W6 W) ?_ ?_
    · exact ⟨(H6.out.1.turn (frS _) (H6.out.1.row.setN h4 p)).nw (Fr.refl _ _).drew, (frS _).drew⟩
    rintro W7 ⟨C7, F7⟩
    have H7 : Hid (Ca W7 b bm g c nm (n + 1) cap (up ks p (ks n)) (up vs p (vs n)) (up (up nw1 p x1) y1 p) (up (up od1 p y1) x1 p) (delP M (ks p)) ∧ Fr (fun k => k = b ∨ k = g ∨ k = bm) w W7) := ⟨C7, H6.out.2.trans F7 (fun _ _ e => .inr (.inl e))⟩
    have HB : Hid (W7.heap[z]? = some (.cells #[k1 (ks n), k2 (ks n), k3 (ks n), vv (vs n), .int .i64 (x1 : Int), .int .i64 (y1 : Int)] 338)) := (F7.block z lz hz1).trans HB.out
    clear C7 F7 H6
    clear d0 d0b d0c d2 d3 lz c1 c2 lb lg r0 r0b r0c r1 r2 r3 fz
    have d0 : W7.cell? ⟨z, 0, none⟩ = some (k1 (ks n)) := (cell_of HB.out 0).trans rfl
    have d0b : W7.cell? ⟨z, 1, none⟩ = some (k2 (ks n)) := (cell_of HB.out 1).trans rfl
    have d0c : W7.cell? ⟨z, 2, none⟩ = some (k3 (ks n)) := (cell_of HB.out 2).trans rfl
    have d2 : W7.cell? ⟨z, 4, none⟩ = some (.int .i64 (x1 : Int)) := (cell_of HB.out 4).trans rfl
    have d3 : W7.cell? ⟨z, 5, none⟩ = some (.int .i64 (y1 : Int)) := (cell_of HB.out 5).trans rfl
    have lz := heap_lt HB.out
    obtain ⟨_, c1, c2⟩ := cac_cs H7.out.1.blk
    have lb := heap_lt H7.out.1.blk
    have lg := H7.out.1.row.lt
    obtain ⟨⟨r0, r0b, r0c⟩, r1, r2, r3⟩ := H7.out.1.row.cell (i := n) (by omega)
    have fz : ∀ o, W7.frozen? ⟨g, o, none⟩ = false := fun o => H7.out.1.row.frozen o
    have D7 := H7.out.1.nw (Fr.refl _ _).drew
    obtain ⟨W8, ru, Mu, Fu⟩ := D7.mp.put (ks n) p hk2 (by omega) hm
    have H8 : Hid (Ca W8 b bm g c (nm + 1) (n + 1) cap (up ks p (ks n)) (up vs p (vs n)) (up (up nw1 p x1) y1 p) (up (up od1 p y1) x1 p) (putP (delP M (ks p)) (ks n) p) ∧ Fr (fun k => k = b ∨ k = g ∨ k = bm) w W8) := ⟨D7.mapd Fu Mu, H7.out.2.drew.trans Fu (fun _ _ e => .inr (.inr e))⟩
    clear D7 Mu Fu H7 HB
    go_wp2_with fail
    go_region
  all_goals
    clear d0 d0b d0c d2 d3 lz c1 c2 lb lg r0 r0b r0c r1 r2 r3 fz ru
    obtain ⟨_, c1, c2⟩ := cac_cs H8.out.1.blk
    have lb := heap_lt H8.out.1.blk
    have lg := H8.out.1.row.lt
    obtain ⟨⟨r0, r0b, r0c⟩, r1, r2, r3⟩ := H8.out.1.row.cell (i := n) (by omega)
    have fz : ∀ o, W8.frozen? ⟨g, o, none⟩ = false := fun o => H8.out.1.row.frozen o
    have fb : ∀ o, W8.frozen? ⟨b, o, none⟩ = false := fun o => frozen_of H8.out.1.blk o
    go_wp2
    go_end0
    obtain ⟨C2, F2⟩ := H8.out
    exact ⟨rfl, (C2.cutz (k1 kz) (k2 kz) (k3 kz) (vv vz) (.int .i64 0) (.int .i64 0) rfl).1, F2.trans (C2.cutz (k1 kz) (k2 kz) (k3 kz) (vv vz) (.int .i64 0) (.int .i64 0) rfl).2 (fun _ _ e => e)⟩
end Go.Proofs.YtjkhcplnedcmeaaGreatDoor.CT
namespace Go.Proofs.YtjkhcplnedcmeaaGreatDoor.CT
open Go.RowKit Go.Maps Go.WideMaps Go.Proofs.YtjkhcplnedcmeaaGreatDoor
set_option linter.unusedVariables false
set_option linter.unusedSimpArgs false
theorem infoT : (Tryz.prog.info? 338).map (fun i => (i.zero, i.size, i.bytes)) = some (some (.agg #[k1 kz, k2 kz, k3 kz, vv vz, .int .i64 0, .int .i64 0]), 6, 64) := by kernel_rfl
theorem Row.own {w : World} {g c n : Nat} {ks : Nat → KT} {vs : Nat → VT} {nw od : Nat → Nat} (h : Row w g c n ks vs nw od) (k : KT) (v : VT) :
    ∃ xs, w.ownsRow 0 338 6 (.slice (some ⟨g, 0, none⟩) n c) n xs ∧ ∀ w5 v', w5.ownsRow 0 338 6 v' (n + 1) (xs ++ [k1 k, k2 k, k3 k, vv v, .int .i64 0, .int .i64 0]) →
      ∃ g' c', v' = .slice (some ⟨g', 0, none⟩) (n + 1 : Nat) c' ∧ Row w5 g' c' (n + 1) (up ks n k) (up vs n v) (up nw n 0) (up od n 0) := by
  obtain ⟨cur, h1, h2, h3, h4, h5⟩ := h
  have hle : n * 6 ≤ cur.size := by rw [h4]; exact Nat.mul_le_mul_right _ h2
  have hl : (cur.toList.take (n * 6)).length = n * 6 := by rw [List.length_take]; simp; omega
  refine ⟨cur.toList.take (n * 6), ⟨hl, .inr ⟨g, c, cur, rfl, Nat.zero_le _, h1, h2, h3, h4, rfl⟩⟩, ?_⟩
  rintro w5 v' ⟨g1, g2⟩
  rcases g2 with ⟨_, g2⟩ | ⟨g', c', cur', rfl, _, e1, e2, e3, e4, e5⟩
  · omega
  refine ⟨g', c', rfl, cur', e1, e2, e3, e4, fun i hi => ?_⟩
  have hget : ∀ j, j < (n + 1) * 6 → cur'[j]? = (cur.toList.take (n * 6) ++ [k1 k, k2 k, k3 k, vv v, .int .i64 0, .int .i64 0])[j]? := fun j hj => by
    rw [← e5, List.getElem?_take, if_pos hj]; simp
  by_cases hin : i = n
  · subst hin
    have hn : ∀ o, o < 6 → cur'[i * 6 + o]? = [k1 k, k2 k, k3 k, vv v, .int .i64 0, .int .i64 0][o]? := fun o ho => by
      rw [hget _ (by omega), List.getElem?_append_right (by omega), hl, show i * 6 + o - i * 6 = o by omega]
    have n0 := hn 0 (by omega)
    rw [Nat.add_zero] at n0
    rw [up_same, up_same, up_same, up_same]
    exact ⟨⟨n0, hn 1 (by omega), hn 2 (by omega)⟩, hn 3 (by omega), hn 4 (by omega), hn 5 (by omega)⟩
  · have hi2 : i < n := by omega
    have ho : ∀ o, o < 6 → cur'[i * 6 + o]? = cur[i * 6 + o]? := fun o ho => by
      rw [hget _ (by omega), List.getElem?_append_left (by omega), List.getElem?_take, if_pos (by omega), Array.getElem?_toList]
    have o0 := ho 0 (by omega)
    rw [Nat.add_zero] at o0
    rw [up_ne _ _ hin, up_ne _ _ hin, up_ne _ _ hin, up_ne _ _ hin]
    obtain ⟨⟨a0, b0, c0⟩, a1, a2, a3⟩ := h5 i hi2
    exact ⟨⟨o0.trans a0, (ho 1 (by omega)).trans b0, (ho 2 (by omega)).trans c0⟩, (ho 3 (by omega)).trans a1, (ho 4 (by omega)).trans a2, (ho 5 (by omega)).trans a3⟩
theorem t6_new (w : World) (a b c d e f : Value) (t : TypeId) : ∀ j u, [a, b, c, d, e, f][j]? = some u → (w.alloc (.cells #[a, b, c, d, e, f] t)).cell? ((⟨w.heap.size, 0, none⟩ : Addr).add j) = some u := by
  intro j u h
  rw [addZ, cell_of (heap_new _ _)]
  match j, h with
  | 0, h => simpa using h
  | 1, h => simpa using h
  | 2, h => simpa using h
  | 3, h => simpa using h
  | 4, h => simpa using h
  | 5, h => simpa using h
  | j + 6, h => simp at h
set_option maxRecDepth 100000 in
set_option maxHeartbeats 4000000 in
theorem add_any {w : World} {b bm g c nm n : Nat} {cap : Int} {ks : Nat → KT} {vs : Nat → VT} {nw od : Nat → Nat} {M : Pm} (h : Ca w b bm g c nm n cap ks vs nw od M) (hn : n + 1 ≤ 2000) (h0 : 1 ≤ n) {y : Nat} (hy : od 0 = y) (hyn : y < n) (k : KT) (v : VT) (hk : kok k) (hm : nm < 4611686018427387904) :
    Calls Tryz.prog 206 #[.pointer (some ⟨b, 0, none⟩), kv k, vv v] w fun e w' => e = .returned (.tuple #[]) ∧ ∃ g' c', (g' = g ∨ w.heap.size ≤ g') ∧ Ca w' b bm g' c' (nm + 1) (n + 1) cap (up ks n k) (up vs n v) (up (up (up nw n 0) n 0) y n) (up (up (up od n 0) n y) 0 n) (putP M k n) ∧ Fr (fun k => k = b ∨ k = g ∨ k = bm) w w' := by
  have N0 := nwa w (.cells #[k1 k, k2 k, k3 k] 120)
  have T0 := heap_new w (.cells #[k1 k, k2 k, k3 k] 120)
  obtain ⟨w0, hw0⟩ : ∃ q, w.alloc (.cells #[k1 k, k2 k, k3 k] 120) = q := ⟨_, rfl⟩
  rw [hw0] at N0 T0
  have HW0 : Hid (w.alloc (.cells #[k1 k, k2 k, k3 k] 120) = w0) := hw0
  have hb : Hid (b ≠ w.heap.size ∧ g ≠ w.heap.size ∧ bm ≠ w.heap.size) := ⟨by have := heap_lt h.blk; omega, by have := h.row.lt; omega, by have := h.mp.lt; omega⟩
  replace h := h.nw N0
  have NW0 : Hid (Nw w w0) := N0
  have HT0 : Hid (w0.heap[w.heap.size]? = some (.cells #[k1 k, k2 k, k3 k] 120)) := T0
  obtain ⟨tb, htb⟩ : ∃ q, q = w.heap.size := ⟨_, rfl⟩
  have HTB : Hid (tb = w.heap.size) := htb
  rw [← htb] at HT0 T0 hb
  have lt0 := heap_lt T0
  obtain ⟨x0, x1, x2⟩ := cell3 T0
  clear hw0 N0 T0
  have H : Hid (Ca w0 b bm g c nm n cap ks vs nw od M) := h
  obtain ⟨_, c1, c2⟩ := cac_cs h.blk
  have lb := heap_lt h.blk
  have fzb := frozen_of h.blk 1
  obtain ⟨i0, hi0, hie⟩ := Option.map_eq_some_iff.1 infoT
  simp only [Prod.mk.injEq] at hie
  obtain ⟨hz0, hz1, hz2⟩ := hie
  obtain ⟨xs, ho, hr⟩ := h.row.own k v
  have OWN : Hid (((w0.alloc (.cells #[k1 k, k2 k, k3 k, vv v, .int .i64 0, .int .i64 0] 338)).drew).ownsRow 0 338 6 (.slice (some ⟨g, 0, none⟩) n c) n xs) := ho.alloc _
  have HNew := show Hid (∀ j u, [k1 k, k2 k, k3 k, vv v, Value.int .i64 0, .int .i64 0][j]? = some u → ((w0.alloc (.cells #[k1 k, k2 k, k3 k, vv v, .int .i64 0, .int .i64 0] 338)).drew).cell? ((⟨w0.heap.size, 0, none⟩ : Addr).add j) = some u) from t6_new w0 _ _ _ _ _ _ _
  have HFF : Hid (∀ v' w5, w5.ownsRow 0 338 6 v' (n + 1) (xs ++ [k1 k, k2 k, k3 k, vv v, .int .i64 0, .int .i64 0]) → Two ((w0.alloc (.cells #[k1 k, k2 k, k3 k, vv v, .int .i64 0, .int .i64 0] 338)).drew) w5 338 6 (.slice (some ⟨g, 0, none⟩) n c) v' n 1 (xs ++ [k1 k, k2 k, k3 k, vv v, .int .i64 0, .int .i64 0]) →
      ∃ g' c', v' = .slice (some ⟨g', 0, none⟩) (n + 1 : Nat) c' ∧ (g' = g ∨ w0.heap.size ≤ g') ∧ w5.heap[b]? = some (cac cap (.slice (some ⟨g, 0, none⟩) n c) (.map (some bm))) ∧ Ca (w5.setCell ⟨b, 1, none⟩ (.slice (some ⟨g', 0, none⟩) (n + 1 : Nat) c')) b bm g' c' nm (n + 1) cap (up ks n k) (up vs n v) (up nw n 0) (up od n 0) M ∧ Fr (fun k => k = b ∨ k = g ∨ k = bm) w0 (w5.setCell ⟨b, 1, none⟩ (.slice (some ⟨g', 0, none⟩) (n + 1 : Nat) c'))) := by
    intro v' w5 o5 t5
    obtain ⟨g', c', rfl, R5⟩ := hr w5 v' o5
    have f5 : Fr (fun k => k = g) w0 w5 := (((Fr.refl _ w0).alloc _).drew).trans t5.fr (fun j hj e => by simpa [Value.ownBlock] using e.symm)
    have st : g' = g ∨ w0.heap.size ≤ g' := by
      rcases t5.stays (by omega) with e | ⟨q, e, hl⟩
      · exact .inl (by simpa [Value.ownBlock] using e)
      · refine .inr ?_
        simp [Value.ownBlock] at e hl
        have : w0.heap.size ≤ ((w0.alloc (.cells #[k1 k, k2 k, k3 k, vv v, .int .i64 0, .int .i64 0] 338)).drew).heap.size := (((Fr.refl (fun _ => False) w0).alloc _).drew).size
        omega
    have hb5 := (f5.block _ (heap_lt h.blk) (fun e => h.n1 e.symm)).trans h.blk
    have hm5 := h.mp.fr f5 (fun e => h.n3 e.symm)
    have lm := h.mp.lt
    have n1 : g' ≠ b := by rcases st with e | e; exact e ▸ h.n1; omega
    have n3 : g' ≠ bm := by rcases st with e | e; exact e ▸ h.n3; omega
    have F : Fr (fun k => k = b) w5 (w5.setCell ⟨b, 1, none⟩ (.slice (some ⟨g', 0, none⟩) (n + 1 : Nat) c')) := (Fr.refl _ w5).setCell _ _ (fun _ => rfl)
    exact ⟨g', c', rfl, st, hb5, ⟨(heap_set hb5 _).trans rfl, R5.fr F n1, hm5.fr F h.n2, n1, h.n2, n3⟩, (f5.mono (fun _ _ e => .inr (.inl e))).trans F (fun _ _ e => .inl e)⟩
  clear ho hr h
  have hy2 : Hid (up od n 0 0 = y) := (up_ne _ _ (by omega)).trans hy
  clear hy htb
  go_enter Tryz.func206, Tryz.ntmps206
  go_upto_region 1 with fail
  rw [HW0.out, ← HTB.out]
  go_wp2_with fail
  go_region_law (refine step_two rfl (.tmp 16) (.tmp 20) 193 rfl 0 338 i0 (.agg #[k1 kz, k2 kz, k3 kz, vv vz, .int .i64 0, .int .i64 0]) 6 64 Tryz.underlying193 hi0 hz0 hz1 hz2 rfl (by decide) (.slice (some ⟨g, 0, none⟩) n c) n xs rfl OWN.out ⟨w0.heap.size, 0, none⟩ 1 1 [k1 k, k2 k, k3 k, vv v, .int .i64 0, .int .i64 0] rfl rfl HNew.out (by simp [Value.oneCell']) (by unfold maxLen; omega) (by omega) (Nat.zero_le _) ?_; intro v' w5 o5 t5; have HX5 := show Hid _ from HFF.out v' w5 o5 t5; clear o5 t5; obtain ⟨g', c', rfl, hst, hb5, hfin⟩ := HX5.out; have l5 := heap_lt hb5; have fz5 := frozen_of hb5 1; obtain ⟨_, k0, _⟩ := cac_cs hb5; have HFIN : Hid _ := hfin; have HST : Hid _ := hst; clear hfin hst HX5)
  all_goals
    try simp only [List.getElem_toArray, List.getElem_cons_succ, List.getElem_cons_zero, Act.put, List.setIfInBounds_toArray, List.set_cons_succ, List.set_cons_zero]
    go_wp2_with fail
    refine gen_w (fun W => Ca W b bm g' c' nm (n + 1) cap (up ks n k) (up vs n v) (up nw n 0) (up od n 0) M ∧ Fr (fun k => k = b ∨ k = g ∨ k = bm) w0 W) ?_ ?_
    · exact HFIN.out
    rintro W6 ⟨C6, F6⟩
    have T6 : W6.heap[tb]? = some (.cells #[k1 k, k2 k, k3 k] 120) := (F6.block _ (heap_lt HT0.out) (by rintro (e | e | e); exact hb.out.1 e.symm; exact hb.out.2.1 e.symm; exact hb.out.2.2 e.symm)).trans HT0.out
    clear c1 c2 lb fzb x0 x1 x2 lt0 l5 fz5 k0 hb5
    obtain ⟨_, c1, c2⟩ := cac_cs C6.blk
    have lb := heap_lt C6.blk
    have lt6 := heap_lt T6
    obtain ⟨x0, x1, x2⟩ := cell3 T6
    have D6 := C6.nw (Fr.refl _ _).drew
    obtain ⟨W7, ru, Mu, Fu⟩ := D6.mp.put k n hk (by omega) hm
    have H7 : Hid (Ca W7 b bm g' c' (nm + 1) (n + 1) cap (up ks n k) (up vs n v) (up nw n 0) (up od n 0) (putP M k n) ∧ Fr (fun k => k = b ∨ k = g ∨ k = bm) w0 W7) := ⟨D6.mapd Fu Mu, F6.drew.trans Fu (fun _ _ e => .inr (.inr e))⟩
    clear C6 F6 T6 D6 Mu Fu HFIN
    go_region
  all_goals
    have q := lead_any H7.out.1 hn (p := n) (y := y) (by omega) (by omega) (by omega) hy2.out (by omega)
    clear c1 c2 lb x0 x1 x2 ru lt6
    go_wp2_with fail
    refine q.mono ?_
    rintro e w7 ⟨rfl, C7, F7⟩
    have HC : Hid (Ca w7 b bm g' c' (nm + 1) (n + 1) cap (up ks n k) (up vs n v) (up (up (up nw n 0) n 0) y n) (up (up (up od n 0) n y) 0 n) (putP M k n)) := C7
    have hs0 : w.heap.size ≤ w0.heap.size := NW0.out.size
    have HF : Hid (Fr (fun k => k = b ∨ k = g ∨ k = bm) w w7) := ((NW0.out.mono (S' := fun k => k = b ∨ k = g ∨ k = bm) (fun _ _ f => f.elim)).trans H7.out.2 (fun _ _ e => e)).trans F7 (fun j hj e => by rcases HST.out with q | q; exact .inr (.inl (e.trans q)); exact absurd e (by omega))
    have HST2 : Hid (g' = g ∨ w.heap.size ≤ g') := HST.out.imp id (fun e => by omega)
    clear q C7 F7
    go_wp2
    go_end0
    exact ⟨rfl, g', c', HST2.out, HC.out, HF.out⟩
/-- The ring of those that are there does not hang on a place that is none of them. -/
theorem ring_off {nw od : Nat → Nat} {O : List Nat} {n : Nat} (h : Ring nw od O) (h0 : n ≠ 0) (hn : n ∉ O) (x y : Nat) : Ring (up nw n x) (up od n y) O := by
  refine ⟨ch_frame _ h.1 (fun a ha => up_ne _ _ ?_) (fun a ha => up_ne _ _ ?_), h.2⟩
  · rintro rfl
    have : a ∈ 0 :: O := by
      have e : 0 :: (O ++ [0]) = (0 :: O) ++ [0] := rfl
      rw [e, List.dropLast_concat] at ha
      exact ha
    rcases List.mem_cons.1 this with e | e
    · exact h0 e
    · exact hn e
  · rintro rfl
    simp only [List.tail_cons, List.mem_append, List.mem_cons, List.not_mem_nil, or_false] at ha
    rcases ha with e | e
    · exact hn e
    · exact h0 e
theorem Lo.add {n : Nat} {ks : Nat → KT} {nw od : Nat → Nat} {M : Pm} {O : List Nat} (h : Lo n ks nw od M O) {k : KT} (hk : kok k) (hM : M k = none) :
    Lo (n + 1) (up ks n k) (up (up (up nw n 0) n 0) (od 0) n) (up (up (up od n 0) n (od 0)) 0 n) (putP M k n) (n :: O) := by
  have h0 : n ≠ 0 := by have := h.len; omega
  have hn : n ∉ O := fun e => by have := (h.mem n).1 e; omega
  have e1 : up od n 0 0 = od 0 := up_ne _ _ (Ne.symm h0)
  have hne : ∀ q, q ∈ O → q ≠ n := fun q hq e => hn (e ▸ hq)
  have R := ring_lead (ring_off h.ring h0 hn 0 0) h0 hn
  rw [e1] at R
  refine ⟨R, fun x => ?_, by rw [List.length_cons, h.len], fun x q => ?_, fun q hq => ?_⟩
  · rw [List.mem_cons, h.mem]
    have := h.len
    omega
  · by_cases hx : x = k
    · subst hx
      rw [putP_same]
      constructor
      · intro e; cases e; exact ⟨by simp, up_same _ _ _⟩
      · rintro ⟨a, e⟩
        rcases List.mem_cons.1 a with a | a
        · rw [a]
        · exfalso
          rw [up_ne _ _ (hne _ a)] at e
          have := (h.map x q).2 ⟨a, e⟩
          rw [hM] at this
          cases this
    · rw [putP_other _ _ hx, h.map]
      constructor
      · rintro ⟨a, e⟩
        exact ⟨by simp [a], by rw [up_ne _ _ (hne _ a)]; exact e⟩
      · rintro ⟨a, e⟩
        rcases List.mem_cons.1 a with a | a
        · rw [a, up_same] at e; exact absurd e.symm hx
        · exact ⟨a, by rw [up_ne _ _ (hne _ a)] at e; exact e⟩
  · rcases List.mem_cons.1 hq with a | a
    · rw [a, up_same]; exact hk
    · rw [up_ne _ _ (hne _ a)]; exact h.key q a
/-- The oldest place, or another one, taken out: the last place of the row. -/
theorem Lo.cut {n : Nat} {ks : Nat → KT} {nw od : Nat → Nat} {M : Pm} {A B : List Nat} (h : Lo (n + 1) ks nw od M (A ++ n :: B)) : Lo n ks (up nw (od n) (nw n)) (up od (nw n) (od n)) (delP M (ks n)) (A ++ B) := by
  have hd := h.ring.2
  have hne : ∀ x, x ∈ A ++ B → x ≠ n := fun x hx e => by
    subst e
    simp only [List.nodup_cons, List.mem_append, List.mem_cons, List.nodup_append] at hd hx
    grind
  have hmm : ∀ x, x ∈ A ++ B ↔ x ∈ A ++ n :: B ∧ x ≠ n := fun x => by
    constructor
    · intro hx; refine ⟨?_, hne x hx⟩; simp at hx ⊢; rcases hx with e | e <;> simp [e]
    · rintro ⟨hx, h2⟩; simp at hx ⊢; rcases hx with e | e | e
      · exact .inl e
      · exact absurd e h2
      · exact .inr e
  refine ⟨ring_unlink h.ring, fun x => ?_, ?_, fun x q => ?_, fun q hq => h.key q ((hmm q).1 hq).1⟩
  · rw [hmm, h.mem]; omega
  · have := h.len; simp at this ⊢; omega
  · by_cases hx : x = ks n
    · subst hx
      rw [delP_same]
      constructor
      · intro e; cases e
      · rintro ⟨a, e⟩
        exfalso
        obtain ⟨b1, b2⟩ := (hmm q).1 a
        have e1 := (h.map (ks n) q).2 ⟨b1, e⟩
        have e2 := (h.map (ks n) n).2 ⟨by simp, rfl⟩
        rw [e1] at e2
        exact b2 (Option.some.inj e2)
    · rw [delP_other _ hx, h.map]
      constructor
      · rintro ⟨a, e⟩
        exact ⟨(hmm q).2 ⟨a, fun c => hx (by rw [← e, c])⟩, e⟩
      · rintro ⟨a, e⟩
        exact ⟨((hmm q).1 a).1, e⟩
/-- A place that is not the last one is taken out: the last one takes it. -/
theorem Lo.move {n p : Nat} {ks : Nat → KT} {nw od nw1 od1 : Nat → Nat} {M : Pm} {A B A' B' : List Nat} (h : Lo (n + 1) ks nw od M (A ++ p :: B)) (hp : p ≠ n) (hAB : A ++ B = A' ++ n :: B') (e1 : nw1 = up nw (od p) (nw p)) (e2 : od1 = up od (nw p) (od p)) :
    Lo n (up ks p (ks n)) (up (up nw1 p (nw1 n)) (od1 n) p) (up (up od1 p (od1 n)) (nw1 n) p) (putP (delP M (ks p)) (ks n) p) (A' ++ p :: B') := by
  have hd := h.ring.2
  have hp0 : p ≠ 0 := by have := (h.mem p).1 (by simp); omega
  have hpn : p ∉ A ++ B := by simp only [List.nodup_cons, List.mem_append, List.mem_cons, List.nodup_append] at hd ⊢; grind
  have R := ring_unlink h.ring
  rw [← e1, ← e2, hAB] at R
  rw [hAB] at hpn
  have R2 := ring_move R hp0 hpn
  have hmm : ∀ x, (x ∈ A' ∨ x ∈ B') ↔ x ∈ A ++ p :: B ∧ x ≠ p ∧ x ≠ n := fun x => by
    have hdn := R.2
    have m1 : x ∈ A ++ B ↔ x ∈ A' ++ n :: B' := by rw [hAB]
    have hq : x = p → x ∉ A' ++ n :: B' := fun e => e ▸ hpn
    simp only [List.nodup_cons, List.mem_append, List.mem_cons, List.nodup_append] at hdn m1 hq ⊢
    grind
  have hin : n ∈ A ++ p :: B := (h.mem n).2 ⟨by have := (h.mem p).1 (by simp); omega, by omega⟩
  have hM : ∀ q, q ∈ A ++ p :: B → ∀ q', q' ∈ A ++ p :: B → ks q = ks q' → q = q' := fun q hq q' hq' e => by
    have a1 := (h.map (ks q) q).2 ⟨hq, rfl⟩
    have a2 := (h.map (ks q) q').2 ⟨hq', e.symm⟩
    rw [a1] at a2
    exact Option.some.inj a2
  refine ⟨R2, fun x => ?_, ?_, fun x q => ?_, fun q hq => ?_⟩
  · have m2 := h.mem x
    have m3 := hmm x
    have m4 := h.mem p
    simp only [List.mem_append, List.mem_cons] at m2 m3 m4 ⊢
    constructor
    · rintro (a | a | a)
      · have := m3.1 (.inl a); have := m2.1 this.1; omega
      · subst a; have := m4.1 (by simp); omega
      · have := m3.1 (.inr a); have := m2.1 this.1; omega
    · intro a
      by_cases hxp : x = p
      · exact .inr (.inl hxp)
      · rcases m3.2 ⟨m2.2 (by omega), hxp, by omega⟩ with c | c
        · exact .inl c
        · exact .inr (.inr c)
  · have l1 := h.len
    have l2 := congrArg List.length hAB
    simp at l1 l2 ⊢
    omega
  · by_cases hx : x = ks n
    · subst hx
      rw [putP_same]
      constructor
      · intro e; cases e; exact ⟨by simp, up_same _ _ _⟩
      · rintro ⟨a, e⟩
        by_cases hqp : q = p
        · rw [hqp]
        · exfalso
          rw [up_ne _ _ hqp] at e
          have hq : q ∈ A' ∨ q ∈ B' := by simp at a; rcases a with c | c | c; exact .inl c; exact absurd c hqp; exact .inr c
          obtain ⟨b1, b2, b3⟩ := (hmm q).1 hq
          exact b3 (hM q b1 n hin e)
    · rw [putP_other _ _ hx]
      by_cases hx2 : x = ks p
      · subst hx2
        rw [delP_same]
        constructor
        · intro e; cases e
        · rintro ⟨a, e⟩
          exfalso
          by_cases hqp : q = p
          · rw [hqp, up_same] at e; exact hx e.symm
          · rw [up_ne _ _ hqp] at e
            have hq : q ∈ A' ∨ q ∈ B' := by simp at a; rcases a with c | c | c; exact .inl c; exact absurd c hqp; exact .inr c
            obtain ⟨b1, b2, b3⟩ := (hmm q).1 hq
            exact b2 (hM q b1 p (by simp) e)
      · rw [delP_other _ hx2, h.map]
        constructor
        · rintro ⟨a, e⟩
          have n1 : q ≠ p := fun c => hx2 (by rw [← e, c])
          have n2 : q ≠ n := fun c => hx (by rw [← e, c])
          have := (hmm q).2 ⟨a, n1, n2⟩
          exact ⟨by simp; rcases this with c | c <;> simp [c], by rw [up_ne _ _ n1]; exact e⟩
        · rintro ⟨a, e⟩
          by_cases hqp : q = p
          · rw [hqp, up_same] at e; exact absurd e.symm hx
          · rw [up_ne _ _ hqp] at e
            have hq : q ∈ A' ∨ q ∈ B' := by simp at a; rcases a with c | c | c; exact .inl c; exact absurd c hqp; exact .inr c
            exact ⟨((hmm q).1 hq).1, e⟩
  · by_cases hqp : q = p
    · rw [hqp, up_same]; exact h.key n hin
    · rw [up_ne _ _ hqp]
      have hq : q ∈ A' ∨ q ∈ B' := by simp at hq; rcases hq with c | c | c; exact .inl c; exact absurd c hqp; exact .inr c
      exact h.key q ((hmm q).1 hq).1
end Go.Proofs.YtjkhcplnedcmeaaGreatDoor.CT
namespace Go.Proofs.YtjkhcplnedcmeaaGreatDoor.CT
open Go.RowKit Go.Maps Go.WideMaps Go.Proofs.YtjkhcplnedcmeaaGreatDoor
set_option linter.unusedVariables false
set_option linter.unusedSimpArgs false
abbrev LT := List (KT × VT)
open Classical in
/-- The thing of a key is taken out of the list. -/
noncomputable def tk : LT → KT → Option (VT × LT)
  | [], _ => none
  | z :: r, k => if z.1 = k then some (z.2, r) else (tk r k).map fun x => (x.1, z :: x.2)
theorem tk_none : ∀ {L : LT} {k : KT}, (∀ z ∈ L, z.1 ≠ k) → tk L k = none
  | [], _, _ => rfl
  | z :: r, k, h => by rw [tk, if_neg (h z (by simp)), tk_none (fun y hy => h y (by simp [hy]))]; rfl
theorem tk_some : ∀ {A B : LT} {k : KT} {v : VT}, (∀ z ∈ A, z.1 ≠ k) → tk (A ++ (k, v) :: B) k = some (v, A ++ B)
  | [], B, k, v, _ => by simp [tk]
  | z :: A, B, k, v, h => by
    rw [List.cons_append, tk, if_neg (h z (by simp)), tk_some (fun y hy => h y (by simp [hy]))]
    rfl
noncomputable def getA (L : LT) (k : KT) : VT × Bool × LT := match tk L k with | some (v, r) => (v, true, (k, v) :: r) | none => (vz, false, L)
noncomputable def dropA (L : LT) (k : KT) : Bool × LT := match tk L k with | some (_, r) => (true, r) | none => (false, L)
noncomputable def putA (cap : Nat) (L : LT) (k : KT) (v : VT) : KT × Bool × LT := match tk L k with
  | some (_, r) => (kz, false, (k, v) :: r)
  | none => if cap = 0 then (k, true, L) else if L.length = cap then (((L.getLast?.map Prod.fst).getD kz), true, (k, v) :: L.dropLast) else (kz, false, (k, v) :: L)
/-- A cache in memory, its blocks among S, that holds the things L. -/
def Cx (W : World) (S : Nat → Prop) (b N cap : Nat) (L : LT) : Prop :=
  ∃ bm g c nm n ks vs nw od M O, Ca W b bm g c nm n (cap : Int) ks vs nw od M ∧ Lo n ks nw od M O ∧ L = O.map (fun q => (ks q, vs q)) ∧ S b ∧ S bm ∧ S g ∧ nm ≤ N ∧ O.length ≤ cap ∧ cap ≤ 1024
theorem Cx.mono {W : World} {S S' : Nat → Prop} {b N N' cap : Nat} {L : LT} (h : Cx W S b N cap L) (hS : ∀ k, k < W.heap.size → S k → S' k) (hN : N ≤ N') : Cx W S' b N' cap L := by
  obtain ⟨bm, g, c, nm, n, ks, vs, nw, od, M, O, h1, h2, h3, h4, h5, h6, h7, h8⟩ := h
  exact ⟨bm, g, c, nm, n, ks, vs, nw, od, M, O, h1, h2, h3, hS _ (heap_lt h1.blk) h4, hS _ h1.mp.lt h5, hS _ h1.row.lt h6, by omega, h8⟩
theorem Cx.fr {W W' : World} {S T : Nat → Prop} {b N cap : Nat} {L : LT} (h : Cx W S b N cap L) (f : Fr T W W') (hS : ∀ k, k < W.heap.size → S k → ¬ T k) : Cx W' S b N cap L := by
  obtain ⟨bm, g, c, nm, n, ks, vs, nw, od, M, O, h1, h2, h3, h4, h5, h6, h7, h8⟩ := h
  exact ⟨bm, g, c, nm, n, ks, vs, nw, od, M, O, h1.fr f (hS _ (heap_lt h1.blk) h4) (hS _ h1.mp.lt h5) (hS _ h1.row.lt h6), h2, h3, h4, h5, h6, h7, h8⟩
theorem Cx.nw {W W' : World} {S : Nat → Prop} {b N cap : Nat} {L : LT} (h : Cx W S b N cap L) (f : Nw W W') : Cx W' S b N cap L := h.fr f (fun _ _ _ e => e)
theorem Cx.len {W : World} {S : Nat → Prop} {b N cap : Nat} {L : LT} (h : Cx W S b N cap L) : L.length ≤ cap ∧ cap ≤ 1024 := by
  obtain ⟨bm, g, c, nm, n, ks, vs, nw, od, M, O, h1, h2, h3, h4, h5, h6, h7, h8⟩ := h
  subst h3
  simpa using h8
theorem Cx.blk {W : World} {S : Nat → Prop} {b N cap : Nat} {L : LT} (h : Cx W S b N cap L) : S b ∧ b < W.heap.size := by
  obtain ⟨bm, g, c, nm, n, ks, vs, nw, od, M, O, h1, h2, h3, h4, h5, h6, h7, h8⟩ := h
  exact ⟨h4, heap_lt h1.blk⟩
theorem Cx.key {W : World} {S : Nat → Prop} {b N cap : Nat} {L : LT} (h : Cx W S b N cap L) : (∀ z ∈ L, kok z.1) ∧ (L.map Prod.fst).Nodup := by
  obtain ⟨bm, g, c, nm, n, ks, vs, nw, od, M, O, h1, h2, h3, h4, h5, h6, h7, h8⟩ := h
  subst h3
  constructor
  · intro z hz
    obtain ⟨q, hq, rfl⟩ := List.mem_map.1 hz
    exact h2.key q hq
  · rw [List.map_map, List.nodup_iff_pairwise_ne, List.pairwise_map]
    have hd := h2.ring.2
    rw [List.nodup_cons, List.nodup_iff_pairwise_ne] at hd
    refine hd.2.imp_of_mem (fun {x y} hx hy hne e => hne ?_)
    have a1 := (h2.map (ks x) x).2 ⟨hx, rfl⟩
    have a2 := (h2.map (ks x) y).2 ⟨hy, e.symm⟩
    rw [a1] at a2
    exact Option.some.inj a2
/-- Which thing a key has. -/
theorem lo_some {n : Nat} {ks : Nat → KT} {nw od : Nat → Nat} {M : Pm} {O : List Nat} (h : Lo n ks nw od M O) (vs : Nat → VT) {k : KT} {p : Nat} (hM : M k = some p) :
    ∃ A B, O = A ++ p :: B ∧ tk (O.map (fun q => (ks q, vs q))) k = some (vs p, (A ++ B).map (fun q => (ks q, vs q))) ∧ ks p = k := by
  obtain ⟨hp, hk⟩ := (h.map k p).1 hM
  obtain ⟨A, B, rfl⟩ := List.append_of_mem hp
  refine ⟨A, B, rfl, ?_, hk⟩
  rw [List.map_append, List.map_cons, List.map_append, hk]
  refine tk_some (fun z hz e => ?_)
  obtain ⟨q, hq, rfl⟩ := List.mem_map.1 hz
  have := (h.map k q).2 ⟨by simp [hq], e⟩
  rw [hM] at this
  have e2 : p = q := Option.some.inj this
  subst e2
  have hd := h.ring.2
  simp only [List.nodup_cons, List.nodup_append] at hd
  exact hd.2.2.2 p hq p (by simp) rfl
theorem lo_none {n : Nat} {ks : Nat → KT} {nw od : Nat → Nat} {M : Pm} {O : List Nat} (h : Lo n ks nw od M O) (vs : Nat → VT) {k : KT} (hM : M k = none) : tk (O.map (fun q => (ks q, vs q))) k = none := by
  refine tk_none (fun z hz e => ?_)
  obtain ⟨q, hq, rfl⟩ := List.mem_map.1 hz
  have := (h.map k q).2 ⟨hq, e⟩
  rw [hM] at this
  cases this
theorem Lo.renew {n : Nat} {ks : Nat → KT} {nw od nw' od' : Nat → Nat} {M : Pm} {A B : List Nat} {p : Nat} (h : Lo n ks nw od M (A ++ p :: B)) (hR : Ring nw' od' (p :: (A ++ B))) : Lo n ks nw' od' M (p :: (A ++ B)) := by
  have hm : ∀ x, x ∈ p :: (A ++ B) ↔ x ∈ A ++ p :: B := fun x => by simp; grind
  refine ⟨hR, fun x => (hm x).trans (h.mem x), by have := h.len; simp at this ⊢; omega, fun k q => by rw [h.map, hm], fun q hq => h.key q ((hm q).1 hq)⟩
/-- remove, of whichever place. -/
theorem remove_any {w : World} {b bm g c nm n : Nat} {cap : Int} {ks : Nat → KT} {vs : Nat → VT} {nw od : Nat → Nat} {M : Pm} {A B : List Nat} {p : Nat} (h : Ca w b bm g c nm (n + 1) cap ks vs nw od M) (hL : Lo (n + 1) ks nw od M (A ++ p :: B)) (hn : n + 1 ≤ 2000) (hm : nm < 4611686018427387904) :
    Calls Tryz.prog 205 #[.pointer (some ⟨b, 0, none⟩), .int .i64 (p : Int)] w fun e w' => e = .returned (.tuple #[]) ∧ ∃ ks' vs' nw' od' M' O', Ca w' b bm g c (nm + 1) n cap ks' vs' nw' od' M' ∧ Lo n ks' nw' od' M' O' ∧ O'.map (fun q => (ks' q, vs' q)) = (A ++ B).map (fun q => (ks q, vs q)) ∧ M' (ks p) = none ∧ Fr (fun k => k = b ∨ k = g ∨ k = bm) w w' := by
  have hpm := (hL.mem p).1 (by simp)
  obtain ⟨i1, i2⟩ := ring_nb hL.ring (p := p) (.inr (by simp))
  have hlt : ∀ x, x = 0 ∨ x ∈ A ++ p :: B → x < n + 1 := fun x hx => hx.elim (fun e => by omega) (fun e => ((hL.mem x).1 e).2)
  have h1 := hlt _ i1
  have h2 := hlt _ i2
  have hkp := hL.key p (by simp)
  by_cases hpn : p = n
  · subst hpn
    refine (remove_last h hn (by omega) rfl rfl h1 h2 hkp).mono ?_
    rintro e w' ⟨rfl, C, F⟩
    exact ⟨rfl, ks, vs, _, _, _, A ++ B, ⟨C.blk, C.row, C.mp.more (by omega), C.n1, C.n2, C.n3⟩, hL.cut, rfl, delP_same _ _, F⟩
  · have hnin : n ∈ A ++ p :: B := (hL.mem n).2 ⟨by omega, by omega⟩
    have hnAB : n ∈ A ++ B := by simp at hnin ⊢; rcases hnin with e | e | e; exact .inl e; exact absurd e.symm hpn; exact .inr e
    obtain ⟨A', B', hAB⟩ := List.append_of_mem hnAB
    have R := ring_unlink hL.ring
    have R' := R
    rw [hAB] at R'
    obtain ⟨j1, j2⟩ := ring_nb R' (p := n) (.inr (by simp))
    have hlt2 : ∀ x, x = 0 ∨ x ∈ A' ++ n :: B' → x < n + 1 := fun x hx => hlt x (hx.imp id (fun e => by rw [← hAB] at e; simp at e ⊢; rcases e with e | e <;> simp [e]))
    have hpAB : p ∉ A ++ B := by have hd := hL.ring.2; simp only [List.nodup_cons, List.mem_append, List.mem_cons, List.nodup_append] at hd ⊢; grind
    have hne : ∀ q, q ∈ A' ∨ q ∈ B' → q ≠ p := fun q hq e => hpAB (by rw [hAB, ← e]; simp; rcases hq with c | c <;> simp [c])
    refine (remove_move h hn (by omega) rfl rfl h1 h2 hkp (hL.key n hnin) rfl rfl (hlt2 _ j1) (hlt2 _ j2) hm).mono ?_
    rintro e w' ⟨rfl, C, F⟩
    refine ⟨rfl, _, _, _, _, _, A' ++ p :: B', C, hL.move hpn hAB rfl rfl, ?_, ?_, F⟩
    · rw [hAB]
      simp only [List.map_append, List.map_cons, up_same]
      congr 1
      · exact List.map_congr_left (fun q hq => by rw [up_ne _ _ (hne q (.inl hq)), up_ne _ _ (hne q (.inl hq))])
      · congr 1
        exact List.map_congr_left (fun q hq => by rw [up_ne _ _ (hne q (.inr hq)), up_ne _ _ (hne q (.inr hq))])
    · have : ks p ≠ ks n := fun e => by
        have a1 := (hL.map (ks p) p).2 ⟨by simp, rfl⟩
        have a2 := (hL.map (ks p) n).2 ⟨hnin, e.symm⟩
        rw [a1] at a2
        exact hpn (Option.some.inj a2)
      rw [putP_other _ _ this, delP_same]
theorem made_one : madeCells #[k1 kz, k2 kz, k3 kz, vv vz, .int .i64 0, .int .i64 0] 6 = #[k1 kz, k2 kz, k3 kz, vv vz, .int .i64 0, .int .i64 0] := by kernel_rfl
theorem make_one (w : World) : (Instr.makeSlice 193 (.int .i64 1) (.int .i64 1)).run Tryz.prog w = .ok (.slice (some ⟨w.heap.size, 0, none⟩) 1 1) (w.alloc (.cells #[k1 kz, k2 kz, k3 kz, vv vz, .int .i64 0, .int .i64 0] 338)) := by
  obtain ⟨i0, hi0, hie⟩ := Option.map_eq_some_iff.1 infoT
  simp only [Prod.mk.injEq] at hie
  obtain ⟨hz0, hz1, hz2⟩ := hie
  rw [run_make w 193 338 i0 _ Tryz.underlying193 hi0 hz0 .i64 .i64 1 1 (by omega) (by omega) (by rw [hz2]; omega) (by omega), hz1]
  rw [show (1 : Int).toNat * 6 = 6 from rfl, show (Value.agg #[k1 kz, k2 kz, k3 kz, vv vz, .int .i64 0, .int .i64 0]).cells = #[k1 kz, k2 kz, k3 kz, vv vz, .int .i64 0, .int .i64 0] from rfl, made_one]
  rfl
set_option maxRecDepth 100000 in
theorem new_any {w : World} (cap : Nat) (hc : cap ≤ 1024) :
    Calls Tryz.prog 56 #[.int .i64 (cap : Int)] w fun e w' => ∃ b, e = .returned (.tuple #[.pointer (some ⟨b, 0, none⟩), .nilIface]) ∧ Cx w' (fun k => w.heap.size ≤ k) b 0 cap [] ∧ Nw w w' := by
  have hmm := @run_makeMap Tryz.prog
  have hmk := make_one w
  have hc0 : ¬ (cap : Int) < 0 := by omega
  have hc1 : ¬ (1024 : Int) < cap := by omega
  go_enter Tryz.func56, Tryz.ntmps56
  go_wp2
  go_ret2
  obtain ⟨w1, hw1⟩ : ∃ w1, w1 = w.alloc (.cells #[k1 kz, k2 kz, k3 kz, vv vz, .int .i64 0, .int .i64 0] 338) := ⟨_, rfl⟩
  have hs1 : w1.heap.size = w.heap.size + 1 := by rw [hw1]; simp
  have n1 : Nw w w1 := by rw [hw1]; exact (Fr.refl _ w).alloc _
  have b1 : w1.heap[w.heap.size]? = some (.cells #[k1 kz, k2 kz, k3 kz, vv vz, .int .i64 0, .int .i64 0] 338) := by rw [hw1]; exact heap_new _ _
  have n2 : Nw w1 (w1.alloc (.map #[] 0)) := (Fr.refl _ _).alloc _
  have m2 := Mp.made w1
  have n3 : Nw (w1.alloc (.map #[] 0)) ((w1.alloc (.map #[] 0)).alloc (cac (cap : Int) (.slice (some ⟨w.heap.size, 0, none⟩) 1 1) (.map (some (w.heap.size + 1))))) := (Fr.refl _ _).alloc _
  refine ⟨w.heap.size + 1 + 1, rfl, ⟨w.heap.size + 1, w.heap.size, 1, 0, 1, fun _ => kz, fun _ => vz, fun _ => 0, fun _ => 0, fun _ => none, [], ⟨?_, ?_, ?_, by omega, by omega, by omega⟩, ⟨⟨⟨rfl, rfl, trivial⟩, by simp⟩, fun x => by simp; omega, rfl, fun k q => by simp, fun q hq => by simp at hq⟩, rfl, by omega, by omega, by omega, by omega, by simp, by omega⟩, ?_⟩
  · rw [← hw1]
    have := heap_new (w1.alloc (.map #[] 0)) (cac (cap : Int) (.slice (some ⟨w.heap.size, 0, none⟩) 1 1) (.map (some (w.heap.size + 1))))
    rw [World.size_alloc, hs1] at this
    exact this
  · rw [← hw1]
    refine ⟨_, (n3.block _ (by simp; omega) (fun e => e)).trans ((n2.block _ (by omega) (fun e => e)).trans b1), by omega, by unfold maxLen; omega, rfl, fun i hi => ?_⟩
    obtain rfl : i = 0 := by omega
    exact ⟨⟨rfl, rfl, rfl⟩, rfl, rfl, rfl⟩
  · rw [← hw1]
    rw [hs1] at m2
    exact m2.fr n3 (fun e => e)
  · rw [← hw1]
    exact n1.tr (n2.tr n3)
theorem len_blk {w : World} {b bm g c n : Nat} {cap : Int} (h : w.heap[b]? = some (cac cap (.slice (some ⟨g, 0, none⟩) (n + 1 : Nat) c) (.map (some bm)))) (hn : n ≤ 2000) :
    Calls Tryz.prog 204 #[.pointer (some ⟨b, 0, none⟩)] w fun e w' => e = .returned (.int .i64 (n : Int)) ∧ w' = w := by
  have q := there_any h
  obtain ⟨_, c1, _⟩ := cac_cs h
  have lb := heap_lt h
  clear h
  go_enter Tryz.func204, Tryz.ntmps204
  go_wp2_with fail
  refine q.mono ?_
  rintro e w1 ⟨rfl, rfl⟩
  go_wp2
  go_ret
  exact ⟨by simp, rfl⟩
set_option maxRecDepth 100000 in
theorem get_any {W : World} {S : Nat → Prop} {b N cap : Nat} {L : LT} (h : Cx W S b N cap L) (k : KT) (hk : kok k) :
    Calls Tryz.prog 174 #[.pointer (some ⟨b, 0, none⟩), kv k] W fun e w' => e = .returned (.tuple #[vv (getA L k).1, .bool (getA L k).2.1]) ∧ Cx w' S b N cap (getA L k).2.2 ∧ Fr S W w' := by
  have HX : Hid (Cx W S b N cap L) := h
  have N0 : Hid (Nw W (W.alloc (.cells #[k1 k, k2 k, k3 k] 120))) := nwa W _
  replace h := h.nw N0.out
  obtain ⟨bm, g, c, nm, n, ks, vs, nw, od, M, O, h1, h2, h3, h4, h5, h6, h7, h8, h9⟩ := h
  have q := find_any h1.blk h1.mp k hk
  cases hM : M k with
  | none =>
    have hg : getA L k = (vz, false, L) := by rw [getA, h3, lo_none h2 vs hM]
    rw [hM] at q
    simp only [Option.getD_none, Option.isSome_none] at q
    rw [hg]
    clear h1 h2 h3 hg hM hk
    go_enter Tryz.func174, Tryz.ntmps174
    go_wp2_with fail
    refine q.mono ?_
    rintro e w1 ⟨rfl, n1⟩
    go_wp2
    go_ret2
    exact ⟨rfl, HX.out.nw (N0.out.tr n1), (N0.out.tr n1).mono (fun _ _ f => f.elim)⟩
  | some p =>
    obtain ⟨A, B, hO, ht, hkp⟩ := lo_some h2 vs hM
    have hg : getA L k = (vs p, true, (k, vs p) :: (A ++ B).map (fun q => (ks q, vs q))) := by rw [getA, h3, ht]
    rw [hM] at q
    simp only [Option.getD_some, Option.isSome_some] at q
    rw [hg]
    subst hO
    have hlt : ∀ x ∈ A ++ p :: B, x < n := fun x hx => ((h2.mem x).1 hx).2
    have hn : n ≤ 2000 := by have := h2.len; omega
    have hpn : p < n := hlt p (by simp)
    have HR : Hid (∀ w1, Nw (W.alloc (.cells #[k1 k, k2 k, k3 k] 120)) w1 → Calls Tryz.prog 201 #[.pointer (some ⟨b, 0, none⟩), .int .i64 (p : Int)] w1 fun e w' => e = .returned (.tuple #[]) ∧ ∃ nw' od', Ca w' b bm g c nm n cap ks vs nw' od' M ∧ Ring nw' od' (p :: (A ++ B)) ∧ Fr (fun k => k = g) w1 w') := fun w1 n1 => renew_any (h1.nw n1) hn h2.ring hlt
    have HL : Hid (Lo n ks nw od M (A ++ p :: B)) := h2
    have HC : Hid ((A ++ p :: B).length ≤ cap ∧ cap ≤ 1024 ∧ nm ≤ N ∧ S b ∧ S bm ∧ S g ∧ ks p = k) := ⟨h8, h9, h7, h4, h5, h6, hkp⟩
    clear h1 h2 h3 hg hM hk ht hkp hlt h8 h9 h7
    go_enter Tryz.func174, Tryz.ntmps174
    go_wp2_with fail
    refine q.mono ?_
    rintro e w1 ⟨rfl, n1⟩
    have q2 := HR.out w1 n1
    have N1 : Hid (Nw W w1) := N0.out.tr n1
    clear n1
    go_wp2_with fail
    refine q2.mono ?_
    rintro e w2 ⟨rfl, nw', od', C2, R2, F2⟩
    obtain ⟨_, c1, _⟩ := cac_cs C2.blk
    have lb := heap_lt C2.blk
    have lg := C2.row.lt
    obtain ⟨_, r1, _, _⟩ := C2.row.cell hpn
    have HF : Hid (Cx w2 S b N cap ((k, vs p) :: (A ++ B).map (fun q => (ks q, vs q))) ∧ Fr S W w2) := by
      obtain ⟨d1, d2, d3, d4, d5, d6, d7⟩ := HC.out
      refine ⟨⟨bm, g, c, nm, n, ks, vs, nw', od', M, p :: (A ++ B), C2, HL.out.renew R2, by rw [List.map_cons, d7], d4, d5, d6, d3, ?_, d2⟩, (N1.out.mono (S' := S) (fun _ _ f => f.elim)).trans F2 (fun j hj e => e ▸ d6)⟩
      simp at d1 ⊢
      omega
    clear q q2 C2 R2 F2
    go_wp2
    go_ret2
    exact ⟨rfl, HF.out⟩
end Go.Proofs.YtjkhcplnedcmeaaGreatDoor.CT
namespace Go.Proofs.YtjkhcplnedcmeaaGreatDoor.CT
open Go.RowKit Go.Maps Go.WideMaps Go.Proofs.YtjkhcplnedcmeaaGreatDoor
set_option linter.unusedVariables false
set_option linter.unusedSimpArgs false
/-- The key, and what goes, lie behind all that was there. -/
structure Pq (W w : World) (k : KT) (z0 z1 z2 : Value) : Prop where
  nw : Nw W w
  tl : w.heap[W.heap.size]? = some (.cells #[k1 k, k2 k, k3 k] 120)
  zr : w.heap[W.heap.size + 1]? = some (.cells #[z0, z1, z2] 120)
theorem Pq.start (W : World) (k : KT) : Pq W ((W.alloc (.cells #[k1 k, k2 k, k3 k] 120)).alloc (.cells #[.int .u8 0, .int .u64 0, .int .i64 0] 120)) k (.int .u8 0) (.int .u64 0) (.int .i64 0) :=
  ⟨(nwa W _).alloc _, hp_al (by rw [World.size_alloc]; omega) (heap_new _ _), heap_next _ _ _⟩
theorem Pq.go {W w w' : World} {k : KT} {z0 z1 z2 : Value} {T : Nat → Prop} (h : Pq W w k z0 z1 z2) (f : Fr T w w') (hT : ∀ j, T j → j < W.heap.size ∨ w.heap.size ≤ j) : w'.heap[W.heap.size]? = some (.cells #[k1 k, k2 k, k3 k] 120) ∧ w'.heap[W.heap.size + 1]? = some (.cells #[z0, z1, z2] 120) ∧ W.heap.size + 1 < w'.heap.size := by
  have l1 := heap_lt h.tl
  have l2 := heap_lt h.zr
  refine ⟨(f.block _ l1 (fun e => by have := hT _ e; omega)).trans h.tl, (f.block _ l2 (fun e => by have := hT _ e; omega)).trans h.zr, Nat.lt_of_lt_of_le l2 f.size⟩
theorem Pq.nws {W w w' : World} {k : KT} {z0 z1 z2 : Value} (h : Pq W w k z0 z1 z2) (f : Nw w w') : Pq W w' k z0 z1 z2 :=
  ⟨h.nw.tr f, (h.go f (fun _ e => e.elim)).1, (h.go f (fun _ e => e.elim)).2.1⟩
theorem len_drew {w : World} {b bm g c n : Nat} {cap : Int} (h : w.heap[b]? = some (cac cap (.slice (some ⟨g, 0, none⟩) (n + 1 : Nat) c) (.map (some bm)))) (hn : n ≤ 2000) (m : Nat) :
    Calls Tryz.prog 204 #[.pointer (some ⟨b, 0, none⟩)] (w.drewN m) fun e w' => e = .returned (.int .i64 (n : Int)) ∧ w' = w.drewN m :=
  len_blk ((((Fr.refl (fun _ => False) w).drewN m).block _ (heap_lt h) (fun e => e)).trans h) hn
/-- One more thing. -/
theorem Cx.added {w w' : World} {S : Nat → Prop} {b bm g nm n cap N : Nat} {ks : Nat → KT} {vs : Nat → VT} {nw od : Nat → Nat} {M : Pm} {O : List Nat} (hL : Lo n ks nw od M O) {k : KT} {v : VT} (hk : kok k) (hM : M k = none) {g' c' : Nat}
    (C : Ca w' b bm g' c' (nm + 1) (n + 1) (cap : Int) (up ks n k) (up vs n v) (up (up (up nw n 0) n 0) (od 0) n) (up (up (up od n 0) n (od 0)) 0 n) (putP M k n)) (hg : g' = g ∨ w.heap.size ≤ g') (h4 : S b) (h5 : S bm) (h6 : S g) (hN : nm + 1 ≤ N) (hc : O.length + 1 ≤ cap) (hc2 : cap ≤ 1024) :
    Cx w' (fun j => S j ∨ w.heap.size ≤ j) b N cap ((k, v) :: O.map (fun q => (ks q, vs q))) := by
  have hn : n ∉ O := fun e => by have := (hL.mem n).1 e; omega
  have hne : ∀ q, q ∈ O → q ≠ n := fun q hq e => hn (e ▸ hq)
  refine ⟨bm, g', c', nm + 1, n + 1, _, _, _, _, _, n :: O, C, hL.add hk hM, ?_, .inl h4, .inl h5, ?_, hN, by simpa using hc, hc2⟩
  · simp only [List.map_cons, up_same]
    congr 1
    exact List.map_congr_left (fun q hq => by rw [up_ne _ _ (hne q hq), up_ne _ _ (hne q hq)])
  · rcases hg with e | e
    · exact .inl (e ▸ h6)
    · exact .inr e
/-- What Put leaves: the cache, and what was there but the cache is as it was. -/
def Pe (W w' : World) (S : Nat → Prop) (b N cap : Nat) (L : LT) : Prop := Cx w' (fun j => S j ∨ W.heap.size + 2 ≤ j) b N cap L ∧ Fr (fun j => S j ∨ W.heap.size ≤ j) W w'
theorem Pe.zero {W w w' : World} {S : Nat → Prop} {b N cap : Nat} {L : LT} (hS : ∀ j, S j → j < W.heap.size) (h : Pe W w S b N cap L) (f : Fr (fun j => j = W.heap.size + 1) w w') : Pe W w' S b N cap L :=
  ⟨h.1.fr f (fun j _ e q => by rcases e with e | e; have := hS j e; omega; omega), h.2.trans f (fun j hj e => .inr (by omega))⟩
theorem fr3 {w : World} {g : Nat} (a b c : Value) : Fr (fun k => k = g) w (((w.setCell ⟨g, 0, none⟩ a).setCell ⟨g, 1, none⟩ b).setCell ⟨g, 2, none⟩ c) := ((frS a).trans (frS b) (fun _ _ e => e)).trans (frS c) (fun _ _ e => e)
theorem blk3 {w : World} {g : Nat} {x y z : Value} {t : TypeId} {f : Nat × Nat} (h : w.heap[g]? = some (.cells #[x, y, z] t f)) (a b c : Value) : (((w.setCell ⟨g, 0, none⟩ a).setCell ⟨g, 1, none⟩ b).setCell ⟨g, 2, none⟩ c).heap[g]? = some (.cells #[a, b, c] t f) := by
  have h1 := hp_set (o := 0) (u := a) h rfl
  have h2 := hp_set (o := 1) (u := b) h1 rfl
  have h3 := hp_set (o := 2) (u := c) h2 rfl
  simpa using h3
set_option maxRecDepth 100000 in
set_option maxHeartbeats 2000000 in
theorem put_there {W : World} {S : Nat → Prop} {b bm g c nm n cap N : Nat} {ks : Nat → KT} {vs : Nat → VT} {nw od : Nat → Nat} {M : Pm} {A B : List Nat} {p : Nat} (hS : ∀ j, S j → j < W.heap.size) (h1 : Ca W b bm g c nm n (cap : Int) ks vs nw od M) (h2 : Lo n ks nw od M (A ++ p :: B)) (h4 : S b) (h5 : S bm) (h6 : S g) (hN : nm ≤ N) (hc : (A ++ p :: B).length ≤ cap) (hc2 : cap ≤ 1024) {k : KT} (v : VT) (hk : kok k) (hM : M k = some p) (hkp : ks p = k) :
    Calls Tryz.prog 176 #[.pointer (some ⟨b, 0, none⟩), kv k, vv v] W fun e w' => ∃ r, e = .returned r ∧ Pe W w' S b (N + 2) cap ((k, v) :: (A ++ B).map (fun q => (ks q, vs q))) := by
  have P0 := Pq.start W k
  replace h1 := h1.nw P0.nw
  have q0 := there_any h1.blk
  have q1 := find_any h1.blk h1.mp k hk
  rw [hM] at q1
  simp only [Option.getD_some, Option.isSome_some] at q1
  have hlt : ∀ x ∈ A ++ p :: B, x < n := fun x hx => ((h2.mem x).1 hx).2
  have hn : n ≤ 2000 := by have := h2.len; omega
  have hpn : p < n := hlt p (by simp)
  have HS : Hid (∀ j, S j → j < W.heap.size) := hS
  have H1 : Hid (Ca ((W.alloc (.cells #[k1 k, k2 k, k3 k] 120)).alloc (.cells #[.int .u8 0, .int .u64 0, .int .i64 0] 120)) b bm g c nm n (cap : Int) ks vs nw od M) := h1
  have HP0 : Hid (Pq W ((W.alloc (.cells #[k1 k, k2 k, k3 k] 120)).alloc (.cells #[.int .u8 0, .int .u64 0, .int .i64 0] 120)) k (.int .u8 0) (.int .u64 0) (.int .i64 0)) := P0
  have HL : Hid (Lo n ks nw od M (A ++ p :: B)) := h2
  have HLT : Hid (∀ x ∈ A ++ p :: B, x < n) := hlt
  have HC : Hid ((A ++ p :: B).length ≤ cap ∧ cap ≤ 1024 ∧ nm ≤ N ∧ S b ∧ S bm ∧ S g ∧ ks p = k) := ⟨hc, hc2, hN, h4, h5, h6, hkp⟩
  clear h1 h2 hM hk hkp hlt hc hc2 hN P0 hS
  go_enter Tryz.func176, Tryz.ntmps176
  go_wp2_with fail
  refine q0.mono ?_
  rintro e w0 ⟨rfl, rfl⟩
  go_wp2_with fail
  refine q1.mono ?_
  rintro e w1 ⟨rfl, n1⟩
  have C1 := H1.out.nw n1
  have HP1 : Hid (Pq W w1 k (.int .u8 0) (.int .u64 0) (.int .i64 0)) := HP0.out.nws n1
  have HC1 : Hid (Ca w1 b bm g c nm n (cap : Int) ks vs nw od M) := C1
  obtain ⟨_, c1, _⟩ := cac_cs C1.blk
  have lb := heap_lt C1.blk
  have lg := C1.row.lt
  obtain ⟨_, r1, _, _⟩ := C1.row.cell hpn
  have fz : ∀ o, w1.frozen? ⟨g, o, none⟩ = false := fun o => HC1.out.row.frozen o
  obtain ⟨wx, hwx⟩ : ∃ wx, wx = w1.setCell ⟨g, p * 6 + 3, none⟩ (vv v) := ⟨_, rfl⟩
  have Cx1 : Ca wx b bm g c nm n (cap : Int) ks (up vs p v) nw od M := by rw [hwx]; exact C1.turn (frS _) (C1.row.setV hpn v)
  have Fx : Hid (Fr (fun k => k = g) w1 wx) := by show Fr _ _ _; rw [hwx]; exact frS _
  have q2 := renew_any Cx1 hn HL.out.ring HLT.out
  clear n1 C1 Cx1
  go_wp2_with fail
  rw [← hwx]
  refine q2.mono ?_
  rintro e w2 ⟨rfl, nw', od', C2, R2, F2⟩
  have F12 : Fr (fun k => k = g) w1 w2 := Fx.out.trans F2 (fun _ _ e => e)
  have HF : Hid (Pe W w2 S b (N + 2) cap ((k, v) :: (A ++ B).map (fun q => (ks q, vs q)))) := by
    obtain ⟨d1, d2, d3, d4, d5, d6, d7⟩ := HC.out
    have hpAB : p ∉ A ++ B := by have hd := HL.out.ring.2; simp only [List.nodup_cons, List.mem_append, List.mem_cons, List.nodup_append] at hd ⊢; grind
    have hne : ∀ q, q ∈ A ++ B → q ≠ p := fun q hq e => hpAB (e ▸ hq)
    refine ⟨⟨bm, g, c, nm, n, ks, up vs p v, nw', od', M, p :: (A ++ B), C2, HL.out.renew R2, ?_, .inl d4, .inl d5, .inl d6, by omega, ?_, d2⟩, (HP1.out.nw.mono (S' := fun j => S j ∨ W.heap.size ≤ j) (fun _ _ f => f.elim)).trans F12 (fun j hj e => .inl (e ▸ d6))⟩
    · rw [List.map_cons, d7, up_same]
      congr 1
      exact List.map_congr_left (fun q hq => by rw [up_ne _ _ (hne q hq)])
    · simp at d1 ⊢
      omega
  obtain ⟨t1, t2, t3⟩ := HP1.out.go F12 (fun j e => .inl (by rw [e]; exact HS.out g HC.out.2.2.2.2.2.1))
  have HT2 : Hid (w2.heap[W.heap.size + 1]? = some (.cells #[.int .u8 0, .int .u64 0, .int .i64 0] 120)) := t2
  obtain ⟨y0, y1, y2⟩ := cell3 t2
  have fy : ∀ o, w2.frozen? ⟨W.heap.size + 1, o, none⟩ = false := fun o => frozen_of HT2.out o
  clear q0 q1 q2 C2 R2 F2 hwx Fx c1 lb lg r1 fz F12 t1 t2
  go_wp2
  refine bodyPost_ret (results_cell_slot (V := #[.int .u8 0, .int .u64 0, .int .i64 0]) (ty := 120) (f := (0, 0)) Tryz.results176 Tryz.isAgg120 Tryz.sizeOf120 rfl _ rfl ?_ rfl) rfl ⟨_, rfl, HF.out.zero HS.out (fr3 _ _ _)⟩
  exact blk3 HT2.out _ _ _
set_option maxRecDepth 100000 in
set_option maxHeartbeats 2000000 in
theorem put_zero {W : World} {S : Nat → Prop} {b bm g c nm n N : Nat} {ks : Nat → KT} {vs : Nat → VT} {nw od : Nat → Nat} {M : Pm} {L : LT} (hS : ∀ j, S j → j < W.heap.size) (hX : Cx W S b N 0 L) (h1 : Ca W b bm g c nm n 0 ks vs nw od M) {k : KT} (v : VT) (hk : kok k) (hM : M k = none) :
    Calls Tryz.prog 176 #[.pointer (some ⟨b, 0, none⟩), kv k, vv v] W fun e w' => ∃ r, e = .returned r ∧ Pe W w' S b (N + 2) 0 L := by
  have P0 := Pq.start W k
  replace h1 := h1.nw P0.nw
  have q0 := there_any h1.blk
  have q1 := find_any h1.blk h1.mp k hk
  rw [hM] at q1
  simp only [Option.getD_none, Option.isSome_none] at q1
  have HS : Hid (∀ j, S j → j < W.heap.size) := hS
  have H1 : Hid (Ca ((W.alloc (.cells #[k1 k, k2 k, k3 k] 120)).alloc (.cells #[.int .u8 0, .int .u64 0, .int .i64 0] 120)) b bm g c nm n 0 ks vs nw od M) := h1
  have HP0 : Hid (Pq W ((W.alloc (.cells #[k1 k, k2 k, k3 k] 120)).alloc (.cells #[.int .u8 0, .int .u64 0, .int .i64 0] 120)) k (.int .u8 0) (.int .u64 0) (.int .i64 0)) := P0
  have HX : Hid (Cx W S b N 0 L) := hX
  clear h1 hM hk P0 hS hX
  go_enter Tryz.func176, Tryz.ntmps176
  go_wp2_with fail
  refine q0.mono ?_
  rintro e w0 ⟨rfl, rfl⟩
  go_wp2_with fail
  refine q1.mono ?_
  rintro e w1 ⟨rfl, n1⟩
  have HP1 : Hid (Pq W w1 k (.int .u8 0) (.int .u64 0) (.int .i64 0)) := HP0.out.nws n1
  have C1 := H1.out.nw n1
  obtain ⟨c0, c1, _⟩ := cac_cs C1.blk
  have lb := heap_lt C1.blk
  obtain ⟨x0, x1, x2⟩ := cell3 HP1.out.tl
  obtain ⟨y0, y1, y2⟩ := cell3 HP1.out.zr
  have lx := heap_lt HP1.out.tl
  have ly := heap_lt HP1.out.zr
  have fy : ∀ o, w1.frozen? ⟨W.heap.size + 1, o, none⟩ = false := fun o => frozen_of HP1.out.zr o
  have HF : Hid (Pe W w1 S b (N + 2) 0 L) := ⟨(HX.out.nw HP1.out.nw).mono (fun _ _ e => .inl e) (by omega), HP1.out.nw.mono (fun _ _ f => f.elim)⟩
  clear n1 C1 q0 q1
  go_wp2
  refine bodyPost_ret (results_cell_slot (V := #[k1 k, k2 k, k3 k]) (ty := 120) (f := (0, 0)) Tryz.results176 Tryz.isAgg120 Tryz.sizeOf120 rfl _ rfl ?_ rfl) rfl ⟨_, rfl, HF.out.zero HS.out (fr3 _ _ _)⟩
  exact blk3 HP1.out.zr _ _ _
set_option maxRecDepth 100000 in
set_option maxHeartbeats 2000000 in
theorem put_room {W : World} {S : Nat → Prop} {b bm g c nm n cap N : Nat} {ks : Nat → KT} {vs : Nat → VT} {nw od : Nat → Nat} {M : Pm} {O : List Nat} (hS : ∀ j, S j → j < W.heap.size) (h1 : Ca W b bm g c nm n (cap : Int) ks vs nw od M) (h2 : Lo n ks nw od M O) (h4 : S b) (h5 : S bm) (h6 : S g) (hN : nm ≤ N) (hN2 : N < 4611686018427387900) (hc : O.length < cap) (hc2 : cap ≤ 1024) {k : KT} (v : VT) (hk : kok k) (hM : M k = none) :
    Calls Tryz.prog 176 #[.pointer (some ⟨b, 0, none⟩), kv k, vv v] W fun e w' => ∃ r, e = .returned r ∧ Pe W w' S b (N + 2) cap ((k, v) :: O.map (fun q => (ks q, vs q))) := by
  have P0 := Pq.start W k
  replace h1 := h1.nw P0.nw
  have q0 := there_any h1.blk
  have q1 := find_any h1.blk h1.mp k hk
  rw [hM] at q1
  simp only [Option.getD_none, Option.isSome_none] at q1
  have hlen := h2.len
  obtain ⟨m, rfl⟩ : ∃ m, n = m + 1 := ⟨n - 1, by omega⟩
  have hmO : m = O.length := by omega
  obtain ⟨_, j2⟩ := ring_nb h2.ring (p := 0) (.inl rfl)
  have hy : od 0 < m + 1 := j2.elim (fun e => by omega) (fun e => ((h2.mem _).1 e).2)
  have HS : Hid (∀ j, S j → j < W.heap.size) := hS
  have H1 : Hid (Ca ((W.alloc (.cells #[k1 k, k2 k, k3 k] 120)).alloc (.cells #[.int .u8 0, .int .u64 0, .int .i64 0] 120)) b bm g c nm (m + 1) (cap : Int) ks vs nw od M) := h1
  have HP0 : Hid (Pq W ((W.alloc (.cells #[k1 k, k2 k, k3 k] 120)).alloc (.cells #[.int .u8 0, .int .u64 0, .int .i64 0] 120)) k (.int .u8 0) (.int .u64 0) (.int .i64 0)) := P0
  have HC : Hid (∀ (w w' : World) g' c', W.heap.size + 2 ≤ w.heap.size → Ca w' b bm g' c' (nm + 1) (m + 1 + 1) (cap : Int) (up ks (m + 1) k) (up vs (m + 1) v) (up (up (up nw (m + 1) 0) (m + 1) 0) (od 0) (m + 1)) (up (up (up od (m + 1) 0) (m + 1) (od 0)) 0 (m + 1)) (putP M k (m + 1)) → (g' = g ∨ w.heap.size ≤ g') → Cx w' (fun j => S j ∨ W.heap.size + 2 ≤ j) b (N + 2) cap ((k, v) :: O.map (fun q => (ks q, vs q)))) := fun w w' g' c' hw C hg => (Cx.added (S := S) (N := N + 2) (w := w) h2 hk hM C hg h4 h5 h6 (by omega) (by omega) hc2).mono (fun j _ e => e.imp id (fun q => by omega)) (Nat.le_refl _)
  have HS2 : Hid (∀ j, (j = b ∨ j = g ∨ j = bm) → S j) := fun j e => by rcases e with e | e | e; exact e ▸ h4; exact e ▸ h6; exact e ▸ h5
  have hz : ((cap : Int) == 0) = false := by simp; omega
  have hz2 : ((m : Int) == (cap : Int)) = false := by simp; omega
  have hz3 : ¬ (m : Int) = (cap : Int) := by omega
  have hz4 : ¬ (cap : Int) = 0 := by omega
  have hm2 : m + 1 + 1 ≤ 2000 := by omega
  have hnm : nm < 4611686018427387904 := by omega
  clear h1 h2 hM hlen hmO j2 hc P0 hS
  go_enter Tryz.func176, Tryz.ntmps176
  go_wp2_with fail
  refine q0.mono ?_
  rintro e w0 ⟨rfl, rfl⟩
  go_wp2_with fail
  refine q1.mono ?_
  rintro e w1 ⟨rfl, n1⟩
  have HP1 : Hid (Pq W w1 k (.int .u8 0) (.int .u64 0) (.int .i64 0)) := HP0.out.nws n1
  have C1 := H1.out.nw n1
  have HC1 : Hid (Ca w1 b bm g c nm (m + 1) (cap : Int) ks vs nw od M) := C1
  have ql := len_drew C1.blk (n := m) (by omega)
  obtain ⟨c0, c1, _⟩ := cac_cs C1.blk
  have lb := heap_lt C1.blk
  clear n1 C1 q0 q1
  go_wp2_with fail
  go_quiet (first | (go_at_call 204; exact Calls.quiet_of_same (ql _)))
  have HP2 : Hid (Pq W (w1.drewN nq) k (.int .u8 0) (.int .u64 0) (.int .i64 0)) := HP1.out.nws ((Fr.refl (fun _ => False) w1).drewN nq)
  have q3 := add_any (HC1.out.nw ((Fr.refl (fun _ => False) w1).drewN nq)) hm2 (by omega) rfl hy k v hk hnm
  obtain ⟨x0, x1, x2⟩ := cell3 HP2.out.tl
  have lx := heap_lt HP2.out.tl
  clear c0 c1 lb ql
  go_wp2_with fail
  refine q3.mono ?_
  rintro e w2 ⟨rfl, g', c', hg, C2, F2⟩
  have hw2 : W.heap.size + 2 ≤ (w1.drewN nq).heap.size := heap_lt HP2.out.zr
  have HF : Hid (Pe W w2 S b (N + 2) cap ((k, v) :: O.map (fun q => (ks q, vs q)))) := ⟨HC.out _ w2 g' c' hw2 C2 hg, (HP2.out.nw.mono (S' := fun j => S j ∨ W.heap.size ≤ j) (fun _ _ f => f.elim)).trans F2 (fun j _ e => .inl (HS2.out j e))⟩
  obtain ⟨t1, t2, t3⟩ := HP2.out.go F2 (fun j e => .inl (HS.out j (HS2.out j e)))
  have HT2 : Hid (w2.heap[W.heap.size + 1]? = some (.cells #[.int .u8 0, .int .u64 0, .int .i64 0] 120)) := t2
  obtain ⟨y0, y1, y2⟩ := cell3 t2
  have fy : ∀ o, w2.frozen? ⟨W.heap.size + 1, o, none⟩ = false := fun o => frozen_of HT2.out o
  clear q3 C2 F2 HC hg t1 t2 x0 x1 x2 lx hw2
  go_wp2
  refine bodyPost_ret (results_cell_slot (V := #[.int .u8 0, .int .u64 0, .int .i64 0]) (ty := 120) (f := (0, 0)) Tryz.results176 Tryz.isAgg120 Tryz.sizeOf120 rfl _ rfl ?_ rfl) rfl ⟨_, rfl, HF.out.zero HS.out (fr3 _ _ _)⟩
  exact blk3 HT2.out _ _ _
end Go.Proofs.YtjkhcplnedcmeaaGreatDoor.CT
namespace Go.Proofs.YtjkhcplnedcmeaaGreatDoor.CT
open Go.RowKit Go.Maps Go.WideMaps Go.Proofs.YtjkhcplnedcmeaaGreatDoor
set_option linter.unusedVariables false
set_option linter.unusedSimpArgs false
set_option maxRecDepth 100000 in
set_option maxHeartbeats 2000000 in
theorem put_full {W : World} {S : Nat → Prop} {b bm g c nm n cap N : Nat} {ks : Nat → KT} {vs : Nat → VT} {nw od : Nat → Nat} {M : Pm} {A : List Nat} {p : Nat} (hS : ∀ j, S j → j < W.heap.size) (h1 : Ca W b bm g c nm n (cap : Int) ks vs nw od M) (h2 : Lo n ks nw od M (A ++ [p])) (h4 : S b) (h5 : S bm) (h6 : S g) (hN : nm ≤ N) (hN2 : N < 4611686018427387900) (hc : (A ++ [p]).length = cap) (hc2 : cap ≤ 1024) {k : KT} (v : VT) (hk : kok k) (hM : M k = none) :
    Calls Tryz.prog 176 #[.pointer (some ⟨b, 0, none⟩), kv k, vv v] W fun e w' => ∃ r, e = .returned r ∧ Pe W w' S b (N + 2) cap ((k, v) :: A.map (fun q => (ks q, vs q))) := by
  have P0 := Pq.start W k
  replace h1 := h1.nw P0.nw
  have q0 := there_any h1.blk
  have q1 := find_any h1.blk h1.mp k hk
  rw [hM] at q1
  simp only [Option.getD_none, Option.isSome_none] at q1
  have hlen := h2.len
  obtain ⟨m, rfl⟩ : ∃ m, n = m + 1 := ⟨n - 1, by omega⟩
  have hmO : m = cap := by omega
  have hc0 : 1 ≤ cap := by rw [← hc]; simp
  have hnp : nw 0 = p := ring_last h2.ring
  have hpm := (h2.mem p).1 (by simp)
  have HS0 : Hid (∀ j, S j → j < W.heap.size) := hS
  have H1 : Hid (Ca ((W.alloc (.cells #[k1 k, k2 k, k3 k] 120)).alloc (.cells #[.int .u8 0, .int .u64 0, .int .i64 0] 120)) b bm g c nm (m + 1) (cap : Int) ks vs nw od M) := h1
  have HP0 : Hid (Pq W ((W.alloc (.cells #[k1 k, k2 k, k3 k] 120)).alloc (.cells #[.int .u8 0, .int .u64 0, .int .i64 0] 120)) k (.int .u8 0) (.int .u64 0) (.int .i64 0)) := P0
  have HQ2 : Hid (∀ w, Ca w b bm g c nm (m + 1) (cap : Int) ks vs nw od M → Calls Tryz.prog 205 #[.pointer (some ⟨b, 0, none⟩), .int .i64 (p : Int)] w fun e w' => e = .returned (.tuple #[]) ∧ ∃ ks' vs' nw' od' M' O', Ca w' b bm g c (nm + 1) m (cap : Int) ks' vs' nw' od' M' ∧ Lo m ks' nw' od' M' O' ∧ O'.map (fun q => (ks' q, vs' q)) = (A ++ []).map (fun q => (ks q, vs q)) ∧ M' (ks p) = none ∧ Fr (fun k => k = b ∨ k = g ∨ k = bm) w w') := fun w hw => remove_any hw h2 (by omega) (by omega)
  have HM2 : Hid (∀ M' : Pm, ∀ ks' : Nat → KT, ∀ vs' : Nat → VT, ∀ O' nw' od', Lo m ks' nw' od' M' O' → O'.map (fun q => (ks' q, vs' q)) = (A ++ []).map (fun q => (ks q, vs q)) → M' k = none) := fun M' ks' vs' O' nw' od' hL' he => by
    cases hq : M' k with
    | none => rfl
    | some q =>
      exfalso
      obtain ⟨a1, a2⟩ := (hL'.map k q).1 hq
      have : (ks' q, vs' q) ∈ (A ++ []).map (fun q => (ks q, vs q)) := by rw [← he]; exact List.mem_map.2 ⟨q, a1, rfl⟩
      obtain ⟨x, hx, hxe⟩ := List.mem_map.1 this
      have e3 : ks x = k := by have := congrArg Prod.fst hxe; simp only at this; rw [this, a2]
      have := (h2.map k x).2 ⟨by simp at hx ⊢; exact .inl hx, e3⟩
      rw [hM] at this
      cases this
  have HS : Hid (S b ∧ S bm ∧ S g ∧ nm ≤ N ∧ kok k ∧ (A ++ [p]).length = cap) := ⟨h4, h5, h6, hN, hk, hc⟩
  have HS2 : Hid (∀ j, (j = b ∨ j = g ∨ j = bm) → S j) := fun j e => by rcases e with e | e | e; exact e ▸ h4; exact e ▸ h6; exact e ▸ h5
  have HNP : Hid (nw 0 = p) := hnp
  have hz : ((cap : Int) == 0) = false := by simp; omega
  have hz4 : ¬ (cap : Int) = 0 := by omega
  clear h1 h2 hM hk hlen hc hnp P0 hS
  subst hmO
  have hpi : (p : Int) < (m : Int) + 1 := by omega
  go_enter Tryz.func176, Tryz.ntmps176
  go_wp2_with fail
  refine q0.mono ?_
  rintro e w0 ⟨rfl, rfl⟩
  go_wp2_with fail
  refine q1.mono ?_
  rintro e w1 ⟨rfl, n1⟩
  have HP1 : Hid (Pq W w1 k (.int .u8 0) (.int .u64 0) (.int .i64 0)) := HP0.out.nws n1
  have C1 := H1.out.nw n1
  have HC1 : Hid (Ca w1 b bm g c nm (m + 1) (m : Int) ks vs nw od M) := C1
  have ql := len_drew C1.blk (n := m) (by omega)
  obtain ⟨c0, c1, _⟩ := cac_cs C1.blk
  have lb := heap_lt C1.blk
  clear n1 C1 q0 q1
  go_wp2_with fail
  go_quiet (first | (go_at_call 204; exact Calls.quiet_of_same (ql _)))
  have HP2 : Hid (Pq W (w1.drewN nq) k (.int .u8 0) (.int .u64 0) (.int .i64 0)) := HP1.out.nws ((Fr.refl (fun _ => False) w1).drewN nq)
  have C2 := HC1.out.nw ((Fr.refl (fun _ => False) w1).drewN nq)
  obtain ⟨w2, hw2⟩ : ∃ q, q = w1.drewN nq := ⟨_, rfl⟩
  rw [← hw2] at HP2 C2 ⊢
  have HC2 : Hid (Ca w2 b bm g c nm (m + 1) (m : Int) ks vs nw od M) := C2
  clear c0 c1 lb ql hw2 HC1 HP1
  obtain ⟨c0, c1, _⟩ := cac_cs C2.blk
  have lb := heap_lt C2.blk
  have lg := C2.row.lt
  obtain ⟨_, _, r2, _⟩ := C2.row.cell (i := 0) (by omega)
  simp only [Nat.zero_mul, Nat.zero_add] at r2
  rw [HNP.out] at r2
  obtain ⟨⟨r0, r0b, r0c⟩, _, _, _⟩ := C2.row.cell (i := p) hpm.2
  have fy : ∀ o, w2.frozen? ⟨W.heap.size + 1, o, none⟩ = false := fun o => frozen_of HP2.out.zr o
  obtain ⟨y0, y1, y2⟩ := cell3 HP2.out.zr
  have ly := heap_lt HP2.out.zr
  have hwb : ¬ W.heap.size + 1 = b := by have := HS0.out b HS.out.1; omega
  have hwg : ¬ W.heap.size + 1 = g := by have := HS0.out g HS.out.2.2.1; omega
  clear C2
  go_wp2_with fail
  have F := fr3 (w := w2) (g := W.heap.size + 1) (k1 (ks p)) (k2 (ks p)) (k3 (ks p))
  have C3 := HC2.out.fr F (fun e => hwb e.symm) (fun e => by have := HS0.out bm HS.out.2.1; omega) (fun e => hwg e.symm)
  have HP3 : Hid (Pq W (((w2.setCell ⟨W.heap.size + 1, 0, none⟩ (k1 (ks p))).setCell ⟨W.heap.size + 1, 1, none⟩ (k2 (ks p))).setCell ⟨W.heap.size + 1, 2, none⟩ (k3 (ks p))) k (k1 (ks p)) (k2 (ks p)) (k3 (ks p))) := ⟨HP2.out.nw.trans F (fun j hj e => by omega), (F.block _ (heap_lt HP2.out.tl) (by omega)).trans HP2.out.tl, blk3 HP2.out.zr _ _ _⟩
  have q2 := HQ2.out _ C3
  clear c0 c1 lb lg r2 r0 r0b r0c fy y0 y1 y2 ly hwb hwg C3 F HC2 HP2
  refine q2.mono ?_
  rintro e w4 ⟨rfl, ks', vs', nw', od', M', O', C4, L4, e4, _, F4⟩
  have hl2 := congrArg List.length e4
  have hOl : O'.length + 1 = m := by have := HS.out.2.2.2.2.2; simp at hl2 this ⊢; omega
  have hm1 := L4.len
  obtain ⟨_, j2⟩ := ring_nb L4.ring (p := 0) (.inl rfl)
  have hy : od' 0 < m := j2.elim (fun e => by omega) (fun e => ((L4.mem _).1 e).2)
  have q3 := add_any C4 (by omega) (by omega) rfl hy k v HS.out.2.2.2.2.1 (by have := HS.out.2.2.2.1; omega)
  obtain ⟨t1, t2, t3⟩ := HP3.out.go F4 (fun j e => .inl (HS0.out j (HS2.out j e)))
  have HC : Hid (∀ w' g' c', Ca w' b bm g' c' (nm + 1 + 1) (m + 1) (m : Int) (up ks' m k) (up vs' m v) (up (up (up nw' m 0) m 0) (od' 0) m) (up (up (up od' m 0) m (od' 0)) 0 m) (putP M' k m) → (g' = g ∨ w4.heap.size ≤ g') → Cx w' (fun j => S j ∨ W.heap.size + 2 ≤ j) b (N + 2) m ((k, v) :: A.map (fun q => (ks q, vs q)))) := fun w' g' c' C hg => by
    obtain ⟨d1, d2, d3, d4, d5, d6⟩ := HS.out
    have := Cx.added (S := S) (N := N + 2) (w := w4) L4 d5 (HM2.out M' ks' vs' O' nw' od' L4 e4) C hg d1 d2 d3 (by omega) (by omega) hc2
    rw [e4, List.append_nil] at this
    exact this.mono (fun j hj e => e.imp id (fun q => by omega)) (Nat.le_refl _)
  have HF4 : Hid (Fr (fun j => S j ∨ W.heap.size ≤ j) W w4) := (HP3.out.nw.mono (S' := fun j => S j ∨ W.heap.size ≤ j) (fun _ _ f => f.elim)).trans F4 (fun j _ e => .inl (HS2.out j e))
  have HT4 : Hid (w4.heap[W.heap.size + 1]? = some (.cells #[k1 (ks p), k2 (ks p), k3 (ks p)] 120) ∧ W.heap.size + 1 < w4.heap.size) := ⟨t2, t3⟩
  obtain ⟨x0, x1, x2⟩ := cell3 t1
  have lx := heap_lt t1
  clear q2 C4 F4 L4 e4 hl2 hOl hm1 j2 HM2 t1 t2 t3
  go_wp2_with fail
  refine q3.mono ?_
  rintro e w5 ⟨rfl, g', c', hg, C5, F5⟩
  have HF : Hid (Pe W w5 S b (N + 2) m ((k, v) :: A.map (fun q => (ks q, vs q)))) := ⟨HC.out w5 g' c' C5 hg, HF4.out.trans F5 (fun j _ e => .inl (HS2.out j e))⟩
  have t5 : w5.heap[W.heap.size + 1]? = some (.cells #[k1 (ks p), k2 (ks p), k3 (ks p)] 120) := (F5.block _ HT4.out.2 (fun e => by have := HS0.out _ (HS2.out _ e); omega)).trans HT4.out.1
  have HT5 : Hid (w5.heap[W.heap.size + 1]? = some (.cells #[k1 (ks p), k2 (ks p), k3 (ks p)] 120)) := t5
  obtain ⟨y0, y1, y2⟩ := cell3 t5
  have ly := heap_lt t5
  have fy : ∀ o, w5.frozen? ⟨W.heap.size + 1, o, none⟩ = false := fun o => frozen_of HT5.out o
  clear q3 C5 F5 HC hg x0 x1 x2 lx t5
  go_wp2
  refine bodyPost_ret (results_cell_slot (V := #[k1 (ks p), k2 (ks p), k3 (ks p)]) (ty := 120) (f := (0, 0)) Tryz.results176 Tryz.isAgg120 Tryz.sizeOf120 rfl _ rfl ?_ rfl) rfl ⟨_, rfl, HF.out.zero HS0.out (fr3 _ _ _)⟩
  exact blk3 HT5.out _ _ _
/-- Put, of whatever key. -/
theorem put_any {W : World} {S : Nat → Prop} {b N cap : Nat} {L : LT} (h : Cx W S b N cap L) (k : KT) (v : VT) (hk : kok k) (hN : N < 4611686018427387900) :
    Calls Tryz.prog 176 #[.pointer (some ⟨b, 0, none⟩), kv k, vv v] W fun e w' => ∃ r, e = .returned r ∧ Cx w' (fun j => S j ∨ W.heap.size ≤ j) b (N + 2) cap (putA cap L k v).2.2 ∧ Fr S W w' := by
  have hs : Cx W (fun j => S j ∧ j < W.heap.size) b N cap L := h.mono (fun j hj e => ⟨e, hj⟩) (Nat.le_refl _)
  have fin : ∀ L' w', Pe W w' (fun j => S j ∧ j < W.heap.size) b (N + 2) cap L' → Cx w' (fun j => S j ∨ W.heap.size ≤ j) b (N + 2) cap L' ∧ Fr S W w' := fun L' w' hp =>
    ⟨hp.1.mono (fun j hj e => e.imp (fun q => q.1) (fun q => by omega)) (Nat.le_refl _), hp.2.mono (fun j hj e => by rcases e with e | e; exact e.1; omega)⟩
  clear h
  have HX := hs
  obtain ⟨bm, g, c, nm, n, ks, vs, nw, od, M, O, h1, h2, h3, h4, h5, h6, h7, h8, h9⟩ := hs
  cases hM : M k with
  | some p =>
    obtain ⟨A, B, hO, ht, hkp⟩ := lo_some h2 vs hM
    rw [← h3] at ht
    simp only [putA, ht]
    subst hO
    refine (put_there (S := fun j => S j ∧ j < W.heap.size) (fun j e => e.2) h1 h2 h4 h5 h6 h7 h8 h9 v hk hM hkp).mono ?_
    rintro e w' ⟨r, rfl, C⟩
    exact ⟨r, rfl, fin _ _ C⟩
  | none =>
    have ht := lo_none h2 vs hM
    rw [← h3] at ht
    simp only [putA, ht]
    by_cases hc0 : cap = 0
    · rw [if_pos hc0]
      subst hc0
      refine (put_zero (S := fun j => S j ∧ j < W.heap.size) (fun j e => e.2) HX h1 v hk hM).mono ?_
      rintro e w' ⟨r, rfl, C⟩
      exact ⟨r, rfl, fin _ _ C⟩
    · rw [if_neg hc0]
      have hlO : L.length = O.length := by rw [h3]; simp
      by_cases hf : L.length = cap
      · rw [if_pos hf]
        have hne : O ≠ [] := fun e => by rw [e] at hlO; simp at hlO; rw [hlO] at hf; simp at hf; omega
        have hO := List.dropLast_concat_getLast hne
        generalize O.dropLast = A at hO
        generalize O.getLast hne = p at hO
        subst hO
        refine (put_full (S := fun j => S j ∧ j < W.heap.size) (fun j e => e.2) h1 h2 h4 h5 h6 h7 hN (by omega) h9 v hk hM).mono ?_
        rintro e w' ⟨r, rfl, C⟩
        rw [h3, List.map_append, List.map_cons, List.map_nil, List.dropLast_concat]
        exact ⟨r, rfl, fin _ _ C⟩
      · rw [if_neg hf]
        refine (put_room (S := fun j => S j ∧ j < W.heap.size) (fun j e => e.2) h1 h2 h4 h5 h6 h7 (by omega) (by omega) h9 v hk hM).mono ?_
        rintro e w' ⟨r, rfl, C⟩
        rw [h3]
        exact ⟨r, rfl, fin _ _ C⟩
end Go.Proofs.YtjkhcplnedcmeaaGreatDoor.CT
namespace Go.Proofs.YtjkhcplnedcmeaaGreatDoor.CT
open Go.RowKit Go.Maps Go.WideMaps Go.Proofs.YtjkhcplnedcmeaaGreatDoor
set_option linter.unusedVariables false
set_option linter.unusedSimpArgs false
end Go.Proofs.YtjkhcplnedcmeaaGreatDoor.CT
