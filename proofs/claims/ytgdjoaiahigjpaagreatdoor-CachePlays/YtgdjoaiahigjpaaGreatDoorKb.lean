/- cache: a cache in memory: the row of its things, the map of their places. -/
import Derived.Test.YtgdjoaiahigjpaaGreatDoorKa
import Derived.Test.YtgdjoaiahigjpaaGreatDoorEg
import Derived.Maps.OwnSet
import Derived.Maps.RangeWalk
namespace Go.Proofs.YtgdjoaiahigjpaaGreatDoor.CI
open Go.RowKit Go.Maps Go.WideMaps Go.Proofs.YtgdjoaiahigjpaaGreatDoor
set_option linter.unusedVariables false
set_option linter.unusedSimpArgs false
abbrev KT := Int
abbrev kv (k : KT) : Value := .int .i64 k
abbrev kl (k : KT) : Lit := .int .i64 k
abbrev kok (k : KT) : Prop := (Lit.int .i64 k).wf = true
abbrev kz : KT := (0 : Int)
abbrev VT := Int
abbrev vv (v : VT) : Value := .int .i64 v
theorem kl_inj {a b : KT} (h : kl a = kl b) : a = b := by simpa using h
theorem key_of {k : KT} (h : kok k) : keyOf Tryz.prog 3 (kv k) = some (kl k) := keyOf_int_mk Tryz.underlying3 h
theorem lawK : Keyed Tryz.prog 3 := int_keyed Tryz.underlying3
theorem kl_key (k : KT) : WideAt.IsKeyLit (kl k) := trivial
/-- Places by keys. -/
abbrev Pm := KT → Option Nat
open Classical in
noncomputable def putP (M : Pm) (k : KT) (p : Nat) : Pm := fun x => if x = k then some p else M x
open Classical in
noncomputable def delP (M : Pm) (k : KT) : Pm := fun x => if x = k then none else M x
theorem putP_same (M : Pm) (k : KT) (p : Nat) : putP M k p k = some p := by simp [putP]
theorem putP_other (M : Pm) {k x : KT} (p : Nat) (h : x ≠ k) : putP M k p x = M x := by simp [putP, h]
theorem delP_same (M : Pm) (k : KT) : delP M k k = none := by simp [delP]
theorem delP_other (M : Pm) {k x : KT} (h : x ≠ k) : delP M k x = M x := by simp [delP, h]
def elP (o : Option Nat) (zd : DataW Unit) : DataW Unit := match o with | some p => .lit (.int .i64 p) | none => zd
/-- Block b is a map of n things at most, that holds the places M. -/
def Mp (w : World) (b n : Nat) (M : Pm) : Prop :=
  ∃ D : DataW Unit, w.ownsMap Tryz.prog 3 (plainElem Tryz.prog 3) b n D ∧ ∀ (k : KT) zd, D.atKey (kl k) zd = elP (M k) zd
theorem Mp.lt {w : World} {b n : Nat} {M : Pm} (h : Mp w b n M) : b < w.heap.size := let ⟨_, h1, _⟩ := h; h1.lt
theorem Mp.fr {S : Nat → Prop} {w w' : World} {b n : Nat} {M : Pm} (h : Mp w b n M) (f : Fr S w w') (hS : ¬ S b) : Mp w' b n M := by
  obtain ⟨D, ⟨es, clock, hb, r⟩, h2⟩ := h
  exact ⟨D, ⟨es, clock, (f.block b (heap_lt hb) hS).trans hb, r⟩, h2⟩
theorem Mp.more {w : World} {b n m : Nat} {M : Pm} (h : Mp w b n M) (hm : n ≤ m) : Mp w b m M := by
  obtain ⟨D, h1, h2⟩ := h
  exact ⟨D, h1.mono hm, h2⟩
theorem Mp.made (w : World) : Mp (w.alloc (.map #[] 0)) w.heap.size 0 (fun _ => none) :=
  ⟨.map [], World.ownsMap_made w _ _ _, fun k zd => rfl⟩
theorem has_elP {D : DataW Unit} {k : Lit} {o : Option Nat} (h : ∀ zd, D.atKey k zd = elP o zd) : Maps.has D k = o.isSome := by
  cases o with
  | none => exact Maps.has_false_of_atKey h
  | some s => exact Maps.has_true_of_atKey (y := .lit (.int .i64 s)) h
theorem Mp.look {w : World} {b n : Nat} {M : Pm} (h : Mp w b n M) (k : KT) (hk : kok k) :
    (Instr.lookup 44 (.map (some b)) (kv k) true).run Tryz.prog w = .ok (.tuple #[.int .i64 (((M k).getD 0 : Nat) : Int), .bool (M k).isSome]) w := by
  obtain ⟨D, h1, h2⟩ := h
  obtain ⟨v, ps, hr, hv⟩ := h1.look_ok lawK Tryz.underlying44 (Tryz.zeroValue3 w) (zd := .lit (.int .i64 0)) (zp := []) (plainElem_int Tryz.underlying3 (by decide)) (key_of hk)
  obtain ⟨c, rfl, hz, hs⟩ := plainElem_int_inv Tryz.underlying3 hv
  rw [has_elP (h2 k)] at hr
  have e1 := congrArg Prod.fst hz
  simp only at e1
  rw [h2 k] at e1
  have e2 : c = (((M k).getD 0 : Nat) : Int) := by
    cases hM : M k with
    | none => rw [hM] at e1; simpa [elP] using e1.symm
    | some t => rw [hM] at e1; simpa [elP] using e1.symm
  rw [← e2]
  exact hr
theorem Mp.put {w : World} {b n : Nat} {M : Pm} (h : Mp w b n M) (k : KT) (p : Nat) (hk : kok k) (hp : p < 4611686018427387904) (hn : n < 4611686018427387904) :
    ∃ w', (Instr.mapUpdate 44 (.map (some b)) (kv k) (.int .i64 (p : Int))).run Tryz.prog w = .ok () w' ∧ Mp w' b (n + 1) (putP M k p) ∧ Fr (fun j => j = b) w w' := by
  obtain ⟨D, h1, h2⟩ := h
  obtain ⟨w', hr, ho, hg⟩ := h1.update lawK Tryz.underlying44 (by unfold maxLen; omega) (key_of hk) (plainElem_int (a := (p : Int)) Tryz.underlying3 (by simp [Lit.wf, IntKind.min, IntKind.max, IntKind.signed, IntKind.bits]; omega))
  refine ⟨w', hr, ⟨_, ho, fun x zd => ?_⟩, ⟨hg.os, hg.tape, hg.output, hg.size, fun j hj hne => hg.block j hj (by simpa using hne)⟩⟩
  by_cases hx : x = k
  · subst hx
    rw [Maps.atKey_put_same h1.isMap (kl_key _), putP_same]
    rfl
  · rw [Maps.atKey_put_other (fun e => hx (kl_inj (by simpa using e))), putP_other _ _ hx]
    exact h2 x zd
theorem Mp.del {w : World} {b n : Nat} {M : Pm} (h : Mp w b n M) (k : KT) (hk : kok k) (ty : TypeId) :
    ∃ w', (Builtin.delete_ #[44, 3] ty #[.map (some b), kv k]).run Tryz.prog w = .ok (.tuple #[]) w' ∧ Mp w' b n (delP M k) ∧ Fr (fun j => j = b) w w' := by
  obtain ⟨D, h1, h2⟩ := h
  obtain ⟨w', hr, ho, hg⟩ := h1.drop lawK Tryz.underlying44 (key_of hk) ty
  have hg := hg.grown
  refine ⟨w', hr, ⟨_, ho, fun x zd => ?_⟩, ⟨hg.os, hg.tape, hg.output, hg.size, fun j hj hne => hg.block j hj (by simpa using hne)⟩⟩
  by_cases hx : x = k
  · subst hx
    rw [Maps.atKey_del_same, delP_same]
    rfl
  · rw [Maps.atKey_del_other (fun e => hx (kl_inj (by simpa using e))), delP_other _ hx]
    exact h2 x zd
/-- The row of the things: block g, with room for c; n are there. -/
def Row (w : World) (g c n : Nat) (ks : Nat → KT) (vs : Nat → VT) (nw od : Nat → Nat) : Prop :=
  ∃ cur : Array Value, w.heap[g]? = some (.cells cur 82) ∧ n ≤ c ∧ c ≤ maxLen ∧ cur.size = c * 4 ∧
    ∀ i, i < n → cur[i * 4]? = some (kv (ks i)) ∧ cur[i * 4 + 1]? = some (vv (vs i)) ∧ cur[i * 4 + 2]? = some (.int .i64 (nw i : Int)) ∧ cur[i * 4 + 3]? = some (.int .i64 (od i : Int))
theorem Row.lt {w : World} {g c n : Nat} {ks : Nat → KT} {vs : Nat → VT} {nw od : Nat → Nat} (h : Row w g c n ks vs nw od) : g < w.heap.size := let ⟨_, h1, _⟩ := h; heap_lt h1
theorem Row.fr {S : Nat → Prop} {w w' : World} {g c n : Nat} {ks : Nat → KT} {vs : Nat → VT} {nw od : Nat → Nat} (h : Row w g c n ks vs nw od) (f : Fr S w w') (hS : ¬ S g) : Row w' g c n ks vs nw od := by
  obtain ⟨cur, h1, h2⟩ := h
  exact ⟨cur, (f.block g (heap_lt h1) hS).trans h1, h2⟩
theorem Row.cell {w : World} {g c n : Nat} {ks : Nat → KT} {vs : Nat → VT} {nw od : Nat → Nat} (h : Row w g c n ks vs nw od) {i : Nat} (hi : i < n) :
    w.cell? ⟨g, i * 4, none⟩ = some (kv (ks i)) ∧ w.cell? ⟨g, i * 4 + 1, none⟩ = some (vv (vs i)) ∧ w.cell? ⟨g, i * 4 + 2, none⟩ = some (.int .i64 (nw i : Int)) ∧ w.cell? ⟨g, i * 4 + 3, none⟩ = some (.int .i64 (od i : Int)) := by
  obtain ⟨cur, h1, _, _, _, h2⟩ := h
  obtain ⟨a0, a1, a2, a3⟩ := h2 i hi
  exact ⟨(cell_of h1 _).trans a0, (cell_of h1 _).trans a1, (cell_of h1 _).trans a2, (cell_of h1 _).trans a3⟩
theorem Row.frozen {w : World} {g c n : Nat} {ks : Nat → KT} {vs : Nat → VT} {nw od : Nat → Nat} (h : Row w g c n ks vs nw od) (o : Nat) : w.frozen? ⟨g, o, none⟩ = false := by
  obtain ⟨cur, h1, _⟩ := h
  exact frozen_of h1 o
theorem Row.setV {w : World} {g c n : Nat} {ks : Nat → KT} {vs : Nat → VT} {nw od : Nat → Nat} (h : Row w g c n ks vs nw od) {i : Nat} (hi : i < n) (x : VT) : Row (w.setCell ⟨g, i * 4 + 1, none⟩ (vv x)) g c n ks (up vs i x) nw od := by
  obtain ⟨cur, h1, h2, h3, h4, h5⟩ := h
  refine ⟨_, heap_set h1 _, h2, h3, by simpa using h4, fun j hj => ?_⟩
  obtain ⟨a0, a1, a2, a3⟩ := h5 j hj
  have hs : i * 4 + 1 < cur.size := by omega
  simp only [Array.getElem?_setIfInBounds]
  refine ⟨by rw [if_neg (by omega)]; exact a0, ?_, by rw [if_neg (by omega)]; exact a2, by rw [if_neg (by omega)]; exact a3⟩
  by_cases e : j = i
  · subst e; simp [hs, up_same]
  · rw [if_neg (by omega), up_ne _ _ e]; exact a1
theorem Row.setN {w : World} {g c n : Nat} {ks : Nat → KT} {vs : Nat → VT} {nw od : Nat → Nat} (h : Row w g c n ks vs nw od) {i : Nat} (hi : i < n) (x : Nat) : Row (w.setCell ⟨g, i * 4 + 2, none⟩ (.int .i64 (x : Int))) g c n ks vs (up nw i x) od := by
  obtain ⟨cur, h1, h2, h3, h4, h5⟩ := h
  refine ⟨_, heap_set h1 _, h2, h3, by simpa using h4, fun j hj => ?_⟩
  obtain ⟨a0, a1, a2, a3⟩ := h5 j hj
  have hs : i * 4 + 2 < cur.size := by omega
  simp only [Array.getElem?_setIfInBounds]
  refine ⟨by rw [if_neg (by omega)]; exact a0, by rw [if_neg (by omega)]; exact a1, ?_, by rw [if_neg (by omega)]; exact a3⟩
  by_cases e : j = i
  · subst e; simp [hs, up_same]
  · rw [if_neg (by omega), up_ne _ _ e]; exact a2
theorem Row.setO {w : World} {g c n : Nat} {ks : Nat → KT} {vs : Nat → VT} {nw od : Nat → Nat} (h : Row w g c n ks vs nw od) {i : Nat} (hi : i < n) (x : Nat) : Row (w.setCell ⟨g, i * 4 + 3, none⟩ (.int .i64 (x : Int))) g c n ks vs nw (up od i x) := by
  obtain ⟨cur, h1, h2, h3, h4, h5⟩ := h
  refine ⟨_, heap_set h1 _, h2, h3, by simpa using h4, fun j hj => ?_⟩
  obtain ⟨a0, a1, a2, a3⟩ := h5 j hj
  have hs : i * 4 + 3 < cur.size := by omega
  simp only [Array.getElem?_setIfInBounds]
  refine ⟨by rw [if_neg (by omega)]; exact a0, by rw [if_neg (by omega)]; exact a1, by rw [if_neg (by omega)]; exact a2, ?_⟩
  by_cases e : j = i
  · subst e; simp [hs, up_same]
  · rw [if_neg (by omega), up_ne _ _ e]; exact a3
theorem Row.setK {w : World} {g c n : Nat} {ks : Nat → KT} {vs : Nat → VT} {nw od : Nat → Nat} (h : Row w g c n ks vs nw od) {i : Nat} (hi : i < n) (x : KT) : Row (w.setCell ⟨g, i * 4, none⟩ (kv x)) g c n (up ks i x) vs nw od := by
  obtain ⟨cur, h1, h2, h3, h4, h5⟩ := h
  refine ⟨_, heap_set h1 _, h2, h3, by simpa using h4, fun j hj => ?_⟩
  obtain ⟨a0, a1, a2, a3⟩ := h5 j hj
  have hs : i * 4 < cur.size := by omega
  simp only [Array.getElem?_setIfInBounds]
  refine ⟨?_, by rw [if_neg (by omega)]; exact a1, by rw [if_neg (by omega)]; exact a2, by rw [if_neg (by omega)]; exact a3⟩
  by_cases e : j = i
  · subst e; simp [hs, up_same]
  · rw [if_neg (by omega), up_ne _ _ e]; exact a0
theorem Row.setO0 {w : World} {g c n : Nat} {ks : Nat → KT} {vs : Nat → VT} {nw od : Nat → Nat} (h : Row w g c n ks vs nw od) (hi : 0 < n) (x : Nat) : Row (w.setCell ⟨g, 3, none⟩ (.int .i64 (x : Int))) g c n ks vs nw (up od 0 x) := by
  have := h.setO hi x
  rw [Nat.zero_mul, Nat.zero_add] at this
  exact this
theorem Row.setN0 {w : World} {g c n : Nat} {ks : Nat → KT} {vs : Nat → VT} {nw od : Nat → Nat} (h : Row w g c n ks vs nw od) {i : Nat} (hi : i < n) : Row (w.setCell ⟨g, i * 4 + 2, none⟩ (.int .i64 0)) g c n ks vs (up nw i 0) od := by
  have := h.setN hi 0
  rw [Int.natCast_zero] at this
  exact this
/-- Behind those that are there. -/
theorem Row.setB {w : World} {g c n : Nat} {ks : Nat → KT} {vs : Nat → VT} {nw od : Nat → Nat} (h : Row w g c n ks vs nw od) {o : Nat} (ho : n * 4 ≤ o) (x : Value) : Row (w.setCell ⟨g, o, none⟩ x) g c n ks vs nw od := by
  obtain ⟨cur, h1, h2, h3, h4, h5⟩ := h
  refine ⟨_, heap_set h1 _, h2, h3, by simpa using h4, fun j hj => ?_⟩
  obtain ⟨a0, a1, a2, a3⟩ := h5 j hj
  simp only [Array.getElem?_setIfInBounds]
  exact ⟨by rw [if_neg (by omega)]; exact a0, by rw [if_neg (by omega)]; exact a1, by rw [if_neg (by omega)]; exact a2, by rw [if_neg (by omega)]; exact a3⟩
theorem Row.less {w : World} {g c n m : Nat} {ks : Nat → KT} {vs : Nat → VT} {nw od : Nat → Nat} (h : Row w g c n ks vs nw od) (hm : m ≤ n) : Row w g c m ks vs nw od := by
  obtain ⟨cur, h1, h2, h3, h4, h5⟩ := h
  exact ⟨cur, h1, by omega, h3, h4, fun j hj => h5 j (by omega)⟩
/-- A cache's cells. -/
abbrev cac (cap : Int) (t m : Value) : Obj := .cells #[.int .i64 cap, t, m] 46
/-- A cache in memory. -/
structure Ca (w : World) (b bm g c nm n : Nat) (cap : Int) (ks : Nat → KT) (vs : Nat → VT) (nw od : Nat → Nat) (M : Pm) : Prop where
  blk : w.heap[b]? = some (cac cap (.slice (some ⟨g, 0, none⟩) n c) (.map (some bm)))
  row : Row w g c n ks vs nw od
  mp : Mp w bm nm M
  n1 : g ≠ b
  n2 : bm ≠ b
  n3 : g ≠ bm
theorem Ca.fr {S : Nat → Prop} {w w' : World} {b bm g c nm n : Nat} {cap : Int} {ks : Nat → KT} {vs : Nat → VT} {nw od : Nat → Nat} {M : Pm} (h : Ca w b bm g c nm n cap ks vs nw od M) (f : Fr S w w') (h1 : ¬ S b) (h2 : ¬ S bm) (h3 : ¬ S g) : Ca w' b bm g c nm n cap ks vs nw od M :=
  ⟨(f.block _ (heap_lt h.blk) h1).trans h.blk, h.row.fr f h3, h.mp.fr f h2, h.n1, h.n2, h.n3⟩
theorem Ca.nw {w w' : World} {b bm g c nm n : Nat} {cap : Int} {ks : Nat → KT} {vs : Nat → VT} {nw od : Nat → Nat} {M : Pm} (h : Ca w b bm g c nm n cap ks vs nw od M) (f : Nw w w') : Ca w' b bm g c nm n cap ks vs nw od M := h.fr f id id id
/-- A row is turned, all else stays. -/
theorem Ca.turn {w w' : World} {b bm g c nm n : Nat} {cap : Int} {ks ks' : Nat → KT} {vs vs' : Nat → VT} {nw od nw' od' : Nat → Nat} {M : Pm} (h : Ca w b bm g c nm n cap ks vs nw od M) (f : Fr (fun k => k = g) w w') (r : Row w' g c n ks' vs' nw' od') : Ca w' b bm g c nm n cap ks' vs' nw' od' M :=
  ⟨(f.block _ (heap_lt h.blk) (fun e => h.n1 e.symm)).trans h.blk, r, h.mp.fr f (fun e => h.n3 e.symm), h.n1, h.n2, h.n3⟩
theorem frS {w : World} {g o : Nat} (x : Value) : Fr (fun k => k = g) w (w.setCell ⟨g, o, none⟩ x) := (Fr.refl _ w).setCell _ _ (fun _ => rfl)
theorem cac_cs {w : World} {b : Nat} {cap : Int} {t m : Value} (h : w.heap[b]? = some (cac cap t m)) : w.cell? ⟨b, 0, none⟩ = some (.int .i64 cap) ∧ w.cell? ⟨b, 1, none⟩ = some t ∧ w.cell? ⟨b, 2, none⟩ = some m :=
  ⟨(cell_of h 0).trans rfl, (cell_of h 1).trans rfl, (cell_of h 2).trans rfl⟩
theorem binm_none (w : World) : (binOp .neq 44 (.map none) (.map none)).run Tryz.prog w = .ok (.bool false) w := by kernel_rfl
theorem binm_some (b : Nat) (w : World) : (binOp .neq 44 (.map (some b)) (.map none)).run Tryz.prog w = .ok (.bool true) w := by kernel_rfl
end Go.Proofs.YtgdjoaiahigjpaaGreatDoor.CI
