/- tiled: pieces: hashes of tiles, in a map in memory. -/
import Derived.Test.YtjkhcplnedcmeaaGreatDoorUg2
import Derived.Maps.OwnSet
import Derived.Maps.RangeWalk
import Derived.DeepKeys4
namespace Go.Proofs.YtjkhcplnedcmeaaGreatDoor.PM
open Go.RowKit Go.Maps Go.WideMaps Go.Proofs.YtjkhcplnedcmeaaGreatDoor
set_option linter.unusedVariables false
set_option linter.unusedSimpArgs false
/-- A key: a level and an index. -/
abbrev KT := {k : Nat × Nat // k.1 ≤ 255 ∧ k.2 < 18446744073709551616}
abbrev k1 (k : KT) : Value := .int .u8 (k.1.1 : Int)
abbrev k2 (k : KT) : Value := .int .u64 (k.1.2 : Int)
abbrev kv (k : KT) : Value := .agg #[k1 k, k2 k]
def kl (k : KT) : Lit := .string (keyBytes [.int .u8 (k.1.1 : Int), .int .u64 (k.1.2 : Int)])
abbrev kok (k : KT) : Prop := True
theorem mapM_fields {α β : Type} (n : List β) (a : β → String) (t : β → TypeId) (o : β → Nat) (F : TypeId → Nat → Option α) : n.mapM (fun f => F (t f) (o f)) = (n.map fun f => (a f, t f, o f)).mapM (fun x => F x.2.1 x.2.2) := by
  induction n with
  | nil => rfl
  | cons x r ih => simp only [List.mapM_cons, List.map_cons, ih]
theorem kty : Tryz.prog.types.size + 1 = Tryz.prog.types.size - 1 + 1 + 1 := by kernel_rfl
theorem kcl : Tryz.prog.cellsOf 280 = 2 ∧ Tryz.prog.cellsOf 5 = 1 ∧ Tryz.prog.cellsOf 41 = 1 := ⟨by kernel_rfl, by kernel_rfl, by kernel_rfl⟩
set_option maxRecDepth 100000 in
theorem key_of {k : KT} (h : kok k) : keyOf Tryz.prog 280 (kv k) = some (kl k) := by
  obtain ⟨⟨L, I⟩, h1, h2⟩ := k
  simp only at h1 h2
  have w1 : (Lit.int .u8 (L : Int)).wf = true := by simp [Lit.wf, IntKind.min, IntKind.max, IntKind.signed, IntKind.bits]; omega
  have w2 : (Lit.int .u64 (I : Int)).wf = true := by simp [Lit.wf, IntKind.min, IntKind.max, IntKind.signed, IntKind.bits]; omega
  obtain ⟨c3, c1, c2⟩ := kcl
  have l1 : Tryz.prog.keyLits (Tryz.prog.types.size - 1 + 1) 5 [.int .u8 (L : Int)] = some [.int .u8 (L : Int)] := by simp only [Program.keyLits, Tryz.underlying5]; rw [if_pos ⟨trivial, w1⟩]
  have l2 : Tryz.prog.keyLits (Tryz.prog.types.size - 1 + 1) 41 [.int .u64 (I : Int)] = some [.int .u64 (I : Int)] := by simp only [Program.keyLits, Tryz.underlying41]; rw [if_pos ⟨trivial, w2⟩]
  obtain ⟨fs, hu, hfs⟩ : ∃ fs, Tryz.prog.underlying 280 = some (.struct fs) ∧ fs.toList.map (fun f => (f.name, f.type, f.offset)) = [("level", 5, 0), ("index", 41, 1)] := ⟨_, Tryz.underlying280, by kernel_rfl⟩
  have hall : fs.all (·.name != "_") = true := by
    rw [← Array.all_toList]
    have : (fs.toList.map (fun f => (f.name, f.type, f.offset))).all (fun x => x.1 != "_") = true := by rw [hfs]; decide
    simpa [List.all_map] using this
  have hm : (fs.toList.mapM fun f => Tryz.prog.keyLits (Tryz.prog.types.size - 1 + 1) f.type (([Value.int .u8 (L : Int), .int .u64 (I : Int)].drop f.offset).take (Tryz.prog.cellsOf f.type))) = some [[.int .u8 (L : Int)], [.int .u64 (I : Int)]] := by
    rw [mapM_fields fs.toList (·.name) (·.type) (·.offset) (fun t o => Tryz.prog.keyLits (Tryz.prog.types.size - 1 + 1) t (([Value.int .u8 (L : Int), .int .u64 (I : Int)].drop o).take (Tryz.prog.cellsOf t))), hfs]
    simp only [List.mapM_cons, List.mapM_nil, List.drop_zero, List.drop_succ_cons, c1, c2, List.take_succ_cons, List.take_zero]
    rw [l1, l2]
    rfl
  have hL : Tryz.prog.keyLits (Tryz.prog.types.size + 1) 280 [.int .u8 (L : Int), .int .u64 (I : Int)] = some [.int .u8 (L : Int), .int .u64 (I : Int)] := by
    rw [kty, Program.keyLits.eq_def]
    dsimp only
    rw [hu]
    dsimp only
    rw [c3, if_pos ⟨rfl, hall⟩, hm]
    rfl
  have hkt : Tryz.prog.keyType 280 = true := by kernel_rfl
  have hfm : Value.formed Tryz.prog 280 (.agg #[.int .u8 (L : Int), .int .u64 (I : Int)]) = true := by
    unfold Value.formed
    rw [hu]
    dsimp only
    rw [c3]
    rfl
  unfold keyOf kl
  rw [hu]
  dsimp only
  rw [hkt]
  rw [Bool.true_and]
  refine (if_pos hfm).trans ?_
  show (Tryz.prog.keyLits (Tryz.prog.types.size + 1) 280 [.int .u8 (L : Int), .int .u64 (I : Int)]).map _ = _
  rw [hL]
  rfl
theorem lawK : Keyed Tryz.prog 280 := Keyed.of_law (deep_law_laid (by kernel_rfl) (m := 2) (by omega) (of_decide_eq_true (by kernel_rfl)) (by kernel_rfl) (by kernel_rfl))
theorem kl_inj {a b : KT} (h : kl a = kl b) : a = b := by
  have e := lawK.inj (key_of (k := a) trivial) (by rw [h]; exact key_of (k := b) trivial)
  simp only [kv, Value.agg.injEq, k1, k2] at e
  simp at e
  obtain ⟨e1, e2⟩ := e
  exact Subtype.ext (Prod.ext (by omega) (by omega))
theorem kl_key (k : KT) : WideAt.IsKeyLit (kl k) := lawK.key (key_of (k := k) trivial)
/-- Slices by keys. -/
abbrev ST := Nat × Nat × Nat
abbrev sv (s : ST) : Value := .slice (some ⟨s.1, 0, none⟩) s.2.1 s.2.2
abbrev Pm := KT → Option ST
open Classical in
noncomputable def putP (M : Pm) (k : KT) (s : ST) : Pm := fun x => if x = k then some s else M x
theorem putP_same (M : Pm) (k : KT) (s : ST) : putP M k s k = some s := by simp [putP]
theorem putP_other (M : Pm) {k x : KT} (s : ST) (h : x ≠ k) : putP M k s x = M x := by simp [putP, h]
/-- How a slice reads. -/
def slR (v : Value) : Option (DataW Unit × List MemPlace) :=
  match v with
  | .slice none 0 0 => some (.nil, [])
  | .slice (some ⟨g, 0, none⟩) n c => some (.slice [.lit (.int .i64 g), .lit (.int .i64 n), .lit (.int .i64 c)] [], [])
  | _ => none
def dS (s : ST) : DataW Unit := .slice [.lit (.int .i64 s.1), .lit (.int .i64 s.2.1), .lit (.int .i64 s.2.2)] []
theorem slR_mk (s : ST) : slR (sv s) = some (dS s, []) := rfl
theorem slR_inv {v : Value} {s : ST} {ps : List MemPlace} (h : slR v = some (dS s, ps)) : v = sv s := by
  unfold slR at h
  split at h
  · simp [dS] at h
  · simp only [Option.some.injEq, Prod.mk.injEq, dS, DataW.slice.injEq, List.cons.injEq, DataW.lit.injEq, Lit.int.injEq, true_and, and_true] at h
    obtain ⟨⟨h1, h2, h3⟩, _⟩ := h
    obtain ⟨a, b, c⟩ := s
    simp only at h1 h2 h3
    have e1 := Int.ofNat.inj h1
    have e2 := Int.ofNat.inj h2
    have e3 := Int.ofNat.inj h3
    subst e1 e2 e3
    rfl
  · cases h
def elP (o : Option ST) (zd : DataW Unit) : DataW Unit := match o with | some s => dS s | none => zd
/-- Block b is a map of n things at most, that holds the slices M. -/
def Mp (w : World) (b n : Nat) (M : Pm) : Prop :=
  ∃ D : DataW Unit, w.ownsMap Tryz.prog 280 slR b n D ∧ ∀ (k : KT) zd, D.atKey (kl k) zd = elP (M k) zd
theorem Mp.lt {w : World} {b n : Nat} {M : Pm} (h : Mp w b n M) : b < w.heap.size := let ⟨_, h1, _⟩ := h; h1.lt
theorem Mp.fr {S : Nat → Prop} {w w' : World} {b n : Nat} {M : Pm} (h : Mp w b n M) (f : Fr S w w') (hS : ¬ S b) : Mp w' b n M := by
  obtain ⟨D, ⟨es, clock, hb, r⟩, h2⟩ := h
  exact ⟨D, ⟨es, clock, (f.block b (heap_lt hb) hS).trans hb, r⟩, h2⟩
theorem Mp.made (w : World) : Mp (w.alloc (.map #[] 0)) w.heap.size 0 (fun _ => none) :=
  ⟨.map [], World.ownsMap_made w _ _ _, fun k zd => rfl⟩
/-- A key that is there is looked up. -/
theorem Mp.look {w : World} {b n : Nat} {M : Pm} (h : Mp w b n M) (k : KT) {s : ST} (hs : M k = some s) :
    (Instr.lookup 225 (.map (some b)) (kv k) false).run Tryz.prog w = .ok (sv s) w := by
  obtain ⟨D, ⟨es, clock, hb, F, _, rfl⟩, h2⟩ := h
  have h3 := h2 k
  rw [hs] at h3
  rcases Maps.fit_look false lawK Tryz.underlying225 (Tryz.zeroValue45 w) hb F (key_of (k := k) trivial) with ⟨_, _, hat⟩ | ⟨e0, y, _, _, hrun, hRv, hat, _⟩
  · have := (hat .nil).symm.trans (h3 .nil)
    simp [elP, dS] at this
  · have this : y.1 = dS s := (hat .nil).symm.trans (h3 .nil)
    have hy : slR e0.val = some (dS s, y.2) := by rw [hRv, ← this]
    rw [slR_inv hy] at hrun
    exact hrun
theorem Mp.put {w : World} {b n : Nat} {M : Pm} (h : Mp w b n M) (k : KT) (s : ST) (hn : n < 4611686018427387904) :
    ∃ w', (Instr.mapUpdate 225 (.map (some b)) (kv k) (sv s)).run Tryz.prog w = .ok () w' ∧ Mp w' b (n + 1) (putP M k s) ∧ Fr (fun j => j = b) w w' := by
  obtain ⟨D, h1, h2⟩ := h
  obtain ⟨w', hr, ho, hg⟩ := h1.update lawK Tryz.underlying225 (by unfold maxLen; omega) (key_of (k := k) trivial) (slR_mk s)
  refine ⟨w', hr, ⟨_, ho, fun x zd => ?_⟩, ⟨hg.os, hg.tape, hg.output, hg.size, fun j hj hne => hg.block j hj (by simpa using hne)⟩⟩
  by_cases hx : x = k
  · subst hx
    rw [Maps.atKey_put_same h1.isMap (kl_key _), putP_same]
    rfl
  · rw [Maps.atKey_put_other (fun e => hx (kl_inj (by simpa using e))), putP_other _ _ hx]
    exact h2 x zd
end Go.Proofs.YtjkhcplnedcmeaaGreatDoor.PM
