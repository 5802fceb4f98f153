/- plan: tiles that were met, in a map in memory. -/
import Derived.Test.YtlaiomgebkeldaaGreatDoorUg
import Derived.Maps.OwnSet
import Derived.Maps.RangeWalk
import Derived.DeepKeys4
namespace Go.Proofs.YtlaiomgebkeldaaGreatDoor.TM
open Go.RowKit Go.Maps Go.WideMaps Go.Proofs.YtlaiomgebkeldaaGreatDoor
set_option linter.unusedVariables false
set_option linter.unusedSimpArgs false
/-- A key: a tile as three numbers. -/
abbrev KT := {k : Nat × Nat × Int // k.1 ≤ 255 ∧ k.2.1 < 18446744073709551616 ∧ -9223372036854775808 ≤ k.2.2 ∧ k.2.2 ≤ 9223372036854775807}
abbrev k1 (k : KT) : Value := .int .u8 (k.1.1 : Int)
abbrev k2 (k : KT) : Value := .int .u64 (k.1.2.1 : Int)
abbrev k3 (k : KT) : Value := .int .i64 k.1.2.2
abbrev kv (k : KT) : Value := .agg #[k1 k, k2 k, k3 k]
def kl (k : KT) : Lit := .string (keyBytes [.int .u8 (k.1.1 : Int), .int .u64 (k.1.2.1 : Int), .int .i64 k.1.2.2])
abbrev kok (k : KT) : Prop := True
def kz : KT := ⟨(0, 0, 0), by decide⟩
theorem mapM_fields {α β : Type} (n : List β) (a : β → String) (t : β → TypeId) (o : β → Nat) (F : TypeId → Nat → Option α) : n.mapM (fun f => F (t f) (o f)) = (n.map fun f => (a f, t f, o f)).mapM (fun x => F x.2.1 x.2.2) := by
  induction n with
  | nil => rfl
  | cons x r ih => simp only [List.mapM_cons, List.map_cons, ih]
theorem kty : Tryz.prog.types.size + 1 = Tryz.prog.types.size - 1 + 1 + 1 := by kernel_rfl
theorem kst : (Tryz.prog.underlying 104).map (fun x => match x with | .struct fs => fs.toList.map (fun f => (f.name, f.type, f.offset)) | _ => []) = some [("Level", 5, 0), ("Index", 22, 1), ("Width", 3, 2)] := by kernel_rfl
theorem kcl : Tryz.prog.cellsOf 104 = 3 ∧ Tryz.prog.cellsOf 5 = 1 ∧ Tryz.prog.cellsOf 22 = 1 ∧ Tryz.prog.cellsOf 3 = 1 := ⟨by kernel_rfl, by kernel_rfl, by kernel_rfl, by kernel_rfl⟩
set_option maxRecDepth 100000 in
theorem key_of {k : KT} (h : kok k) : keyOf Tryz.prog 104 (kv k) = some (kl k) := by
  obtain ⟨⟨L, I, W⟩, h1, h2, h3, h4⟩ := k
  simp only at h1 h2 h3 h4
  have w1 : (Lit.int .u8 (L : Int)).wf = true := by simp [Lit.wf, IntKind.min, IntKind.max, IntKind.signed, IntKind.bits]; omega
  have w2 : (Lit.int .u64 (I : Int)).wf = true := by simp [Lit.wf, IntKind.min, IntKind.max, IntKind.signed, IntKind.bits]; omega
  have w3 : (Lit.int .i64 W).wf = true := by simp [Lit.wf, IntKind.min, IntKind.max, IntKind.signed, IntKind.bits]; omega
  obtain ⟨c3, c1, c2, c4⟩ := kcl
  have l1 : Tryz.prog.keyLits (Tryz.prog.types.size - 1 + 1) 5 [.int .u8 (L : Int)] = some [.int .u8 (L : Int)] := by simp only [Program.keyLits, Tryz.underlying5]; rw [if_pos ⟨trivial, w1⟩]
  have l2 : Tryz.prog.keyLits (Tryz.prog.types.size - 1 + 1) 22 [.int .u64 (I : Int)] = some [.int .u64 (I : Int)] := by simp only [Program.keyLits, Tryz.underlying22]; rw [if_pos ⟨trivial, w2⟩]
  have l3 : Tryz.prog.keyLits (Tryz.prog.types.size - 1 + 1) 3 [.int .i64 W] = some [.int .i64 W] := by simp only [Program.keyLits, Tryz.underlying3]; rw [if_pos ⟨trivial, w3⟩]
  obtain ⟨fs, hu, hfs⟩ : ∃ fs, Tryz.prog.underlying 104 = some (.struct fs) ∧ fs.toList.map (fun f => (f.name, f.type, f.offset)) = [("Level", 5, 0), ("Index", 22, 1), ("Width", 3, 2)] := ⟨_, Tryz.underlying104, by kernel_rfl⟩
  have hall : fs.all (·.name != "_") = true := by
    rw [← Array.all_toList]
    have : (fs.toList.map (fun f => (f.name, f.type, f.offset))).all (fun x => x.1 != "_") = true := by rw [hfs]; decide
    simpa [List.all_map] using this
  have hm : (fs.toList.mapM fun f => Tryz.prog.keyLits (Tryz.prog.types.size - 1 + 1) f.type (([Value.int .u8 (L : Int), .int .u64 (I : Int), .int .i64 W].drop f.offset).take (Tryz.prog.cellsOf f.type))) = some [[.int .u8 (L : Int)], [.int .u64 (I : Int)], [.int .i64 W]] := by
    rw [mapM_fields fs.toList (·.name) (·.type) (·.offset) (fun t o => Tryz.prog.keyLits (Tryz.prog.types.size - 1 + 1) t (([Value.int .u8 (L : Int), .int .u64 (I : Int), .int .i64 W].drop o).take (Tryz.prog.cellsOf t))), hfs]
    simp only [List.mapM_cons, List.mapM_nil, List.drop_zero, List.drop_succ_cons, c1, c2, c4, List.take_succ_cons, List.take_zero]
    rw [l1, l2, l3]
    rfl
  have hL : Tryz.prog.keyLits (Tryz.prog.types.size + 1) 104 [.int .u8 (L : Int), .int .u64 (I : Int), .int .i64 W] = some [.int .u8 (L : Int), .int .u64 (I : Int), .int .i64 W] := by
    rw [kty, Program.keyLits.eq_def]
    dsimp only
    rw [hu]
    dsimp only
    rw [c3, if_pos ⟨rfl, hall⟩, hm]
    rfl
  have hkt : Tryz.prog.keyType 104 = true := by kernel_rfl
  have hfm : Value.formed Tryz.prog 104 (.agg #[.int .u8 (L : Int), .int .u64 (I : Int), .int .i64 W]) = true := by
    unfold Value.formed
    rw [hu]
    dsimp only
    rw [c3]
    rfl
  unfold keyOf kl
  rw [hu]
  dsimp only
  rw [hkt]
  rw [Bool.true_and]
  refine (if_pos hfm).trans ?_
  show (Tryz.prog.keyLits (Tryz.prog.types.size + 1) 104 [.int .u8 (L : Int), .int .u64 (I : Int), .int .i64 W]).map _ = _
  rw [hL]
  rfl
theorem lawK : Keyed Tryz.prog 104 := Keyed.of_law (deep_law_laid (by kernel_rfl) (m := 2) (by omega) (of_decide_eq_true (by kernel_rfl)) (by kernel_rfl) (by kernel_rfl))
theorem kl_inj {a b : KT} (h : kl a = kl b) : a = b := by
  have e := lawK.inj (key_of (k := a) trivial) (by rw [h]; exact key_of (k := b) trivial)
  simp only [kv, Value.agg.injEq, k1, k2, k3] at e
  simp at e
  obtain ⟨e1, e2, e3⟩ := e
  exact Subtype.ext (Prod.ext (by omega) (Prod.ext (by omega) e3))
theorem kl_key (k : KT) : WideAt.IsKeyLit (kl k) := lawK.key (key_of (k := k) trivial)
/-- Which tiles were met. -/
abbrev Pm := KT → Bool
open Classical in
noncomputable def putP (M : Pm) (k : KT) : Pm := fun x => if x = k then true else M x
theorem putP_same (M : Pm) (k : KT) : putP M k k = true := by simp [putP]
theorem putP_other (M : Pm) {k x : KT} (h : x ≠ k) : putP M k x = M x := by simp [putP, h]
/-- How nothing reads. -/
def unR (v : Value) : Option (DataW Unit × List MemPlace) :=
  match v with
  | .agg ⟨[]⟩ => some (.lit (.bool true), [])
  | _ => none
theorem unR_mk : unR (.agg #[]) = some (.lit (.bool true), []) := rfl
theorem unR_inv {v : Value} {z : DataW Unit × List MemPlace} (h : unR v = some z) : v = .agg #[] ∧ z = (.lit (.bool true), []) := by
  unfold unR at h
  split at h
  · cases h
    exact ⟨rfl, rfl⟩
  · cases h
def elP (o : Bool) (zd : DataW Unit) : DataW Unit := match o with | true => .lit (.bool true) | false => zd
/-- Block b is a map of n things at most, that has the keys M. -/
def Mp (w : World) (b n : Nat) (M : Pm) : Prop :=
  ∃ D : DataW Unit, w.ownsMap Tryz.prog 104 unR b n D ∧ ∀ (k : KT) zd, D.atKey (kl k) zd = elP (M k) zd
theorem Mp.lt {w : World} {b n : Nat} {M : Pm} (h : Mp w b n M) : b < w.heap.size := let ⟨_, h1, _⟩ := h; h1.lt
theorem Mp.fr {S : Nat → Prop} {w w' : World} {b n : Nat} {M : Pm} (h : Mp w b n M) (f : Fr S w w') (hS : ¬ S b) : Mp w' b n M := by
  obtain ⟨D, ⟨es, clock, hb, r⟩, h2⟩ := h
  exact ⟨D, ⟨es, clock, (f.block b (heap_lt hb) hS).trans hb, r⟩, h2⟩
theorem Mp.made (w : World) : Mp (w.alloc (.map #[] 0)) w.heap.size 0 (fun _ => false) :=
  ⟨.map [], World.ownsMap_made w _ _ _, fun k zd => rfl⟩
theorem has_elP {D : DataW Unit} {k : Lit} {o : Bool} (h : ∀ zd, D.atKey k zd = elP o zd) : Maps.has D k = o := by
  cases o with
  | false => exact Maps.has_false_of_atKey h
  | true => exact Maps.has_true_of_atKey (y := .lit (.bool true)) h
theorem Mp.look {w : World} {b n : Nat} {M : Pm} (h : Mp w b n M) (k : KT) (hk : kok k) :
    (Instr.lookup 112 (.map (some b)) (kv k) true).run Tryz.prog w = .ok (.tuple #[.agg #[], .bool (M k)]) w := by
  obtain ⟨D, h1, h2⟩ := h
  obtain ⟨v, ps, hr, hv⟩ := h1.look_ok lawK Tryz.underlying112 (Tryz.zeroValue116 w) (zd := .lit (.bool true)) (zp := []) unR_mk (key_of hk)
  obtain ⟨rfl, _⟩ := unR_inv hv
  rw [has_elP (h2 k)] at hr
  exact hr
theorem Mp.put {w : World} {b n : Nat} {M : Pm} (h : Mp w b n M) (k : KT) (hk : kok k) (hn : n < 4611686018427387904) :
    ∃ w', (Instr.mapUpdate 112 (.map (some b)) (kv k) (.agg #[])).run Tryz.prog w = .ok () w' ∧ Mp w' b (n + 1) (putP M k) ∧ Fr (fun j => j = b) w w' := by
  obtain ⟨D, h1, h2⟩ := h
  obtain ⟨w', hr, ho, hg⟩ := h1.update lawK Tryz.underlying112 (by unfold maxLen; omega) (key_of hk) unR_mk
  refine ⟨w', hr, ⟨_, ho, fun x zd => ?_⟩, ⟨hg.os, hg.tape, hg.output, hg.size, fun j hj hne => hg.block j hj (by simpa using hne)⟩⟩
  by_cases hx : x = k
  · subst hx
    rw [Maps.atKey_put_same h1.isMap (kl_key _), putP_same]
    rfl
  · rw [Maps.atKey_put_other (fun e => hx (kl_inj (by simpa using e))), putP_other _ hx]
    exact h2 x zd
end Go.Proofs.YtlaiomgebkeldaaGreatDoor.TM
