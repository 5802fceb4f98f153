/- store: a store in memory; whether it is there; what is refused ahead of all. -/
import Derived.Test.YtjkhcplnedcmeaaGreatDoorEg
import Derived.Test.YtjkhcplnedcmeaaGreatDoorAg
import Derived.Maps.OwnSet
import Derived.Maps.RangeWalk
import Derived.Sort.KeysCollected
namespace Go.Proofs.YtjkhcplnedcmeaaGreatDoor
open Go.RowKit Go.Maps Go.WideMaps
set_option linter.unusedVariables false
set_option linter.unusedSimpArgs false
/-- How a text that is kept reads. -/
def keptR (v : Value) : Option (DataW Unit × List MemPlace) :=
  match v with
  | .agg ⟨[.string s]⟩ => if s.size ≤ 281474976710656 then some (.lit (.string s.data.toList), []) else none
  | _ => none
theorem keptR_mk {s : ByteArray} (h : s.size ≤ 281474976710656) : keptR (.agg #[.string s]) = some (.lit (.string s.data.toList), []) := by simp [keptR, h]
theorem keptR_inv {v : Value} {z : DataW Unit × List MemPlace} (h : keptR v = some z) : ∃ s : ByteArray, v = .agg #[.string s] ∧ z = (.lit (.string s.data.toList), []) ∧ s.size ≤ 281474976710656 := by
  unfold keptR at h
  split at h
  · rename_i s
    split at h
    · rename_i hs
      cases h
      exact ⟨s, rfl, rfl, hs⟩
    · cases h
  · cases h
theorem ba_eq {s t : ByteArray} (h : s.data.toList = t.data.toList) : s = t := by
  cases s; cases t
  simpa using h
theorem lawK : Keyed Tryz.prog 9 := string_keyed Tryz.underlying9
/-- Texts by names. -/
abbrev Tx := ByteArray → Option ByteArray
open Classical in
noncomputable def putT (M : Tx) (k t : ByteArray) : Tx := fun x => if x = k then some t else M x
theorem putT_same (M : Tx) (k t : ByteArray) : putT M k t k = some t := by simp [putT]
theorem putT_other (M : Tx) (k t : ByteArray) {x : ByteArray} (h : x ≠ k) : putT M k t x = M x := by simp [putT, h]
def elT (o : Option ByteArray) (zd : DataW Unit) : DataW Unit := match o with | some s => .lit (.string s.data.toList) | none => zd
/-- Block b is a map of n things at most, that holds the texts M. -/
def Mp (w : World) (b n : Nat) (M : Tx) : Prop :=
  ∃ D : DataW Unit, w.ownsMap Tryz.prog 9 keptR b n D ∧ ∀ (k : ByteArray) zd, D.atKey (.string k.data.toList) zd = elT (M k) zd
theorem Mp.lt {w : World} {b n : Nat} {M : Tx} (h : Mp w b n M) : b < w.heap.size := let ⟨_, h1, _⟩ := h; h1.lt
theorem Mp.fr {S : Nat → Prop} {w w' : World} {b n : Nat} {M : Tx} (h : Mp w b n M) (f : Fr S w w') (hS : ¬ S b) : Mp w' b n M := by
  obtain ⟨D, ⟨es, clock, hb, r⟩, h2⟩ := h
  exact ⟨D, ⟨es, clock, (f.block b (heap_lt hb) hS).trans hb, r⟩, h2⟩
theorem Mp.made (w : World) : Mp (w.alloc (.map #[] 0)) w.heap.size 0 (fun _ => none) :=
  ⟨.map [], World.ownsMap_made w _ _ _, fun k zd => rfl⟩
theorem has_elT {D : DataW Unit} {k : Lit} {o : Option ByteArray} (h : ∀ zd, D.atKey k zd = elT o zd) : Maps.has D k = o.isSome := by
  cases o with
  | none => exact Maps.has_false_of_atKey h
  | some s => exact Maps.has_true_of_atKey (y := .lit (.string s.data.toList)) h
def e0t : ByteArray := ⟨#[]⟩
/-- A name is looked up. -/
theorem Mp.look {w : World} {b n : Nat} {M : Tx} (h : Mp w b n M) (k : ByteArray) (hk : k.size ≤ 256) :
    (Instr.lookup 139 (.map (some b)) (.string k) true).run Tryz.prog w = .ok (.tuple #[.agg #[.string ((M k).getD e0t)], .bool (M k).isSome]) w ∧ ((M k).getD e0t).size ≤ 281474976710656 := by
  obtain ⟨D, h1, h2⟩ := h
  have hkey : keyOf Tryz.prog 9 (.string k) = some (.string k.data.toList) := keyOf_string_mk Tryz.underlying9 (by unfold maxLen; omega)
  obtain ⟨v, ps, hr, hv⟩ := h1.look_ok lawK Tryz.underlying139 (Tryz.zeroValue172 w) (zd := .lit (.string [])) (zp := []) (keptR_mk (s := e0t) (by decide)) hkey
  obtain ⟨s, rfl, hz, hs⟩ := keptR_inv hv
  rw [has_elT (h2 k)] at hr
  simp only [Prod.mk.injEq] at hz
  have e1 := hz.1
  rw [h2 k] at e1
  have e2 : s = (M k).getD e0t := by
    cases hM : M k with
    | none =>
      rw [hM] at e1
      simp only [elT, DataW.lit.injEq, Lit.string.injEq] at e1
      exact ba_eq e1.symm
    | some t =>
      rw [hM] at e1
      simp only [elT, DataW.lit.injEq, Lit.string.injEq] at e1
      exact ba_eq e1.symm
  rw [← e2]
  exact ⟨hr, hs⟩
/-- A text is put by a name. -/
theorem Mp.put {w : World} {b n : Nat} {M : Tx} (h : Mp w b n M) (k t : ByteArray) (hk : k.size ≤ 256) (ht : t.size ≤ 281474976710656) (hn : n < 4611686018427387904) :
    ∃ w', (Instr.mapUpdate 139 (.map (some b)) (.string k) (.agg #[.string t])).run Tryz.prog w = .ok () w' ∧ Mp w' b (n + 1) (putT M k t) ∧ Fr (fun j => j = b) w w' := by
  obtain ⟨D, h1, h2⟩ := h
  have hkey : keyOf Tryz.prog 9 (.string k) = some (.string k.data.toList) := keyOf_string_mk Tryz.underlying9 (by unfold maxLen; omega)
  obtain ⟨w', hr, ho, hg⟩ := h1.update lawK Tryz.underlying139 (by unfold maxLen; omega) hkey (keptR_mk ht)
  refine ⟨w', hr, ⟨_, ho, fun x zd => ?_⟩, ⟨hg.os, hg.tape, hg.output, hg.size, fun j hj hne => hg.block j hj (by simpa using hne)⟩⟩
  by_cases hx : x = k
  · subst hx
    rw [Maps.atKey_put_same h1.isMap (show WideAt.IsKeyLit (.string _) from trivial), putT_same]
    rfl
  · rw [Maps.atKey_put_other (fun e => hx (ba_eq (by simpa using e))), putT_other _ _ _ hx]
    exact h2 x zd
/-- Numbers in memory. -/
def Iz (w : World) (p : Option Addr) (zs : List Int) : Prop := ∀ j, j < zs.length → ∃ g o, p = some ⟨g, o, none⟩ ∧ w.cell? ⟨g, o + j, none⟩ = some (.int .i64 (zs.getD j 0))
theorem Iz.nw {w w' : World} {p : Option Addr} {zs : List Int} (h : Iz w p zs) (n : Nw w w') : Iz w' p zs := fun j hj => by
  obtain ⟨g, o, e, hc⟩ := h j hj
  exact ⟨g, o, e, n.cellOf hc⟩
theorem Iz.fr {S : Nat → Prop} {w w' : World} {p : Option Addr} {zs : List Int} (h : Iz w p zs) (f : Fr S w w') (hS : ∀ g o, p = some ⟨g, o, none⟩ → ¬ S g) : Iz w' p zs := fun j hj => by
  obtain ⟨g, o, e, hc⟩ := h j hj
  exact ⟨g, o, e, (f.cell (World.block_lt_of_cell? w _ hc) (hS g o e)).trans hc⟩
/-- The cells of a store. -/
abbrev stc (m rv : Value) (cr rn wn : Int) (dd : Bool) : Obj := .cells #[m, rv, .int .i64 cr, .int .i64 rn, .int .i64 wn, .bool dd] 141
/-- A store in memory. -/
structure Sr (w : World) (b bm n : Nat) (M : Tx) (p : Option Addr) (c : Nat) (zs : List Int) (cr rn wn : Int) (dd : Bool) : Prop where
  blk : w.heap[b]? = some (stc (.map (some bm)) (.slice p zs.length c) cr rn wn dd)
  mp : Mp w bm n M
  rd : Iz w p zs
  ne : ∀ g o, p = some ⟨g, o, none⟩ → g ≠ b ∧ g ≠ bm
  nb : bm ≠ b
theorem Sr.fr {S : Nat → Prop} {w w' : World} {b bm n : Nat} {M : Tx} {p : Option Addr} {c : Nat} {zs : List Int} {cr rn wn : Int} {dd : Bool} (h : Sr w b bm n M p c zs cr rn wn dd) (f : Fr S w w') (h1 : ¬ S b) (h2 : ¬ S bm) (h3 : ∀ g o, p = some ⟨g, o, none⟩ → ¬ S g) : Sr w' b bm n M p c zs cr rn wn dd :=
  ⟨(f.block _ (heap_lt h.blk) h1).trans h.blk, h.mp.fr f h2, h.rd.fr f h3, h.ne, h.nb⟩
theorem Sr.nw {w w' : World} {b bm n : Nat} {M : Tx} {p : Option Addr} {c : Nat} {zs : List Int} {cr rn wn : Int} {dd : Bool} (h : Sr w b bm n M p c zs cr rn wn dd) (f : Nw w w') : Sr w' b bm n M p c zs cr rn wn dd :=
  h.fr f (fun q => q) (fun q => q) (fun _ _ _ q => q)
theorem stc_cs {w : World} {b : Nat} {m rv : Value} {cr rn wn : Int} {dd : Bool} (h : w.heap[b]? = some (stc m rv cr rn wn dd)) :
    w.cell? ⟨b, 0, none⟩ = some m ∧ w.cell? ⟨b, 1, none⟩ = some rv ∧ w.cell? ⟨b, 2, none⟩ = some (.int .i64 cr) ∧ w.cell? ⟨b, 3, none⟩ = some (.int .i64 rn) ∧ w.cell? ⟨b, 4, none⟩ = some (.int .i64 wn) ∧ w.cell? ⟨b, 5, none⟩ = some (.bool dd) :=
  ⟨(cell_of h 0).trans rfl, (cell_of h 1).trans rfl, (cell_of h 2).trans rfl, (cell_of h 3).trans rfl, (cell_of h 4).trans rfl, (cell_of h 5).trans rfl⟩
theorem binm_none (w : World) : (binOp .neq 139 (.map none) (.map none)).run Tryz.prog w = .ok (.bool false) w := by kernel_rfl
theorem binm_some (b : Nat) (w : World) : (binOp .neq 139 (.map (some b)) (.map none)).run Tryz.prog w = .ok (.bool true) w := by kernel_rfl
set_option maxRecDepth 100000 in
theorem sthere_any {w : World} {b bm : Nat} {rv : Value} {cr rn wn : Int} {dd : Bool} (h : w.heap[b]? = some (stc (.map (some bm)) rv cr rn wn dd)) :
    Calls Tryz.prog 67 #[.pointer (some ⟨b, 0, none⟩)] w fun e w' => e = .returned (.bool true) ∧ w' = w := by
  obtain ⟨c0, _⟩ := stc_cs h
  have lb := heap_lt h
  clear h
  have m0 := binm_none
  have m1 := binm_some
  go_enter Tryz.func67, Tryz.ntmps67
  go_wp2
  go_ret
  exact ⟨rfl, rfl⟩
/-- A store that is not there, or that no call made. -/
def NoS (w : World) (p : Value) : Prop := p = .pointer none ∨ ∃ b rv cr rn wn dd, p = .pointer (some ⟨b, 0, none⟩) ∧ w.heap[b]? = some (stc (.map none) rv cr rn wn dd)
theorem NoS.nw {w w' : World} {p : Value} (h : NoS w p) (n : Nw w w') : NoS w' p := by
  rcases h with h | ⟨b, rv, cr, rn, wn, dd, h, hb⟩
  · exact .inl h
  · exact .inr ⟨b, rv, cr, rn, wn, dd, h, (n.block _ (heap_lt hb) (fun f => f)).trans hb⟩
end Go.Proofs.YtjkhcplnedcmeaaGreatDoor
