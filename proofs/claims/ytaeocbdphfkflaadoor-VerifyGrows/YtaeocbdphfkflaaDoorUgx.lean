/- tile: In, Of, mayBe: which tiles there are. -/
import Derived.Test.YtaeocbdphfkflaaDoorCg
import Derived.Deep.Cut
import Derived.Maps.OwnSet
import Derived.Maps.RangeWalk
import Derived.DeepKeys4
namespace Go.Proofs.YtaeocbdphfkflaaDoor
open Go.RowKit
set_option linter.unusedVariables false
set_option linter.unusedSimpArgs false
/-- A tile as a value. -/
abbrev tl (L I W : Nat) : Value := .agg #[.int .u8 (L : Int), .int .u64 (I : Int), .int .i64 (W : Int)]
/-- The nodes of a level. -/
def nod8 (L S : Nat) : Nat := S / 2 ^ (8 * L)
/-- How wide a tile is in a log of S leaves; 0: there is none. -/
def wid (L I S : Nat) : Nat := if 7 < L ∨ 9223372036854775808 < S then 0 else min (nod8 L S - I * 256) 256
theorem cell3 {w : World} {b : Nat} {x y z : Value} {t : TypeId} {f : Nat × Nat} (h : w.heap[b]? = some (.cells #[x, y, z] t f)) : w.cell? ⟨b, 0, none⟩ = some x ∧ w.cell? ⟨b, 1, none⟩ = some y ∧ w.cell? ⟨b, 2, none⟩ = some z := ⟨(cell_of h 0).trans rfl, (cell_of h 1).trans rfl, (cell_of h 2).trans rfl⟩
theorem nod_lift (L S : Nat) (hS : S ≤ 9223372036854775808) : ∃ N, N = nod8 L S ∧ N ≤ 9223372036854775808 ∧ (S : Int) / 2 ^ (8 * L) = (N : Int) :=
  ⟨_, rfl, Nat.le_trans (Nat.div_le_self _ _) hS, castd S (8 * L)⟩
end Go.Proofs.YtaeocbdphfkflaaDoor
namespace Go.Proofs.YtaeocbdphfkflaaDoor
open Go.RowKit
set_option linter.unusedVariables false
set_option linter.unusedSimpArgs false
theorem results_cell_3 {P : Program} {w : World} {fn : Func} {i j k l : Nat} {t : TypeId} {n g : Nat} {tmps : Array Value} {V : Array Value} {ty : TypeId} {f : Nat × Nat} (hr : fn.results = #[.cell i t, .tmp j, .tmp k, .tmp l]) (hagg : ∀ W : World, (isAgg t).run P W = .ok true W) (hsz : ∀ W : World, (sizeOf t).run P W = .ok n W)
    (hx : tmps.getD i undef = .pointer (some ⟨g, 0, none⟩)) (v u z : Value) (hj : tmps.getD j undef = v) (hk : tmps.getD k undef = u) (hl : tmps.getD l undef = z) (hg : w.heap[g]? = some (.cells V ty f)) (hV : V.size = n) : (results fn tmps).run P w = .ok (.tuple #[.agg V, v, u, z]) w := by
  have hld : (loadCells ⟨g, 0, none⟩ n).run P w = .ok V w := by
    have := run_loadCells_list (P := P) w ⟨g, 0, none⟩ V.toList (fun j v hv => by
      rw [addZ, cell_of hg]
      simpa using hv)
    simpa [hV] using this
  have ha : ∀ W : World, (asAddr (.pointer (some ⟨g, 0, none⟩))).run P W = .ok ⟨g, 0, none⟩ W := fun W => by simp [asAddr]
  have hx2 : tmps[i]?.getD undef = .pointer (some ⟨g, 0, none⟩) := by rw [← hx]; simp [Array.getD]; split <;> simp_all
  have hj2 : tmps[j]?.getD undef = v := by rw [← hj]; simp [Array.getD]; split <;> simp_all
  have hk2 : tmps[k]?.getD undef = u := by rw [← hk]; simp [Array.getD]; split <;> simp_all
  have hl2 : tmps[l]?.getD undef = z := by rw [← hl]; simp [Array.getD]; split <;> simp_all
  simp [results, hr, hx2, hj2, hk2, hl2, ha, loadVar, hagg, hsz, hld]
/-- The place of a tree's hashes, counted through the level. -/
def ofA (L I : Nat) : Nat := I * 2 ^ (L % 8)
def ofW (L : Nat) : Nat := if L / 8 = 7 then 128 else 256
theorem nod8_top (l : Nat) (h : l ≤ 7) : nod8 l 9223372036854775808 = 2 ^ (63 - 8 * l) := by
  unfold nod8
  rw [show (9223372036854775808 : Nat) = 2 ^ (63 - 8 * l) * 2 ^ (8 * l) by rw [← Nat.pow_add, show 63 - 8 * l + 8 * l = 63 by omega], Nat.mul_div_cancel _ (Nat.pow_pos (by decide))]
theorem ofA_lt {L I : Nat} (h : may L I) : ofA L I + 2 ^ (L % 8) ≤ 2 ^ (63 - 8 * (L / 8)) := by
  have h1 := h.1
  have h2 := h.2
  unfold ofA
  have e1 : I * 2 ^ (L % 8) + 2 ^ (L % 8) = (I + 1) * 2 ^ (L % 8) := by rw [Nat.succ_mul]
  rw [e1]
  have e2 : L = L % 8 + 8 * (L / 8) := by omega
  rw [e2, Nat.pow_add, ← Nat.mul_assoc, show (63 : Nat) = (63 - 8 * (L / 8)) + 8 * (L / 8) by omega, Nat.pow_add] at h2
  have h3 := Nat.le_of_mul_le_mul_right h2 (Nat.pow_pos (by decide))
  have e3 : (L % 8 + 8 * (L / 8)) % 8 = L % 8 := by omega
  have e4 : (L % 8 + 8 * (L / 8)) / 8 = L / 8 := by omega
  simpa only [Nat.add_sub_cancel] using h3
theorem ofA_bd {L I : Nat} (h : may L I) : ofA L I < 9223372036854775808 := by
  have h1 := ofA_lt h
  have h2 : 2 ^ (63 - 8 * (L / 8)) ≤ 2 ^ 63 := Nat.pow_le_pow_right (by decide) (by omega)
  have h3 : 0 < 2 ^ (L % 8) := Nat.pow_pos (by decide)
  rw [p63] at h2
  omega
theorem pow8 (j : Nat) (h : j < 8) : 2 ^ j ≤ 128 ∧ 0 < 2 ^ j := by
  have : ∀ j : Fin 8, 2 ^ j.val ≤ 128 ∧ 0 < 2 ^ j.val := by decide
  exact this ⟨j, h⟩
theorem of_wid {L I : Nat} (h : may L I) : wid (L / 8) (ofA L I / 256) 9223372036854775808 = ofW L := by
  have h0 := h.1
  have h1 := ofA_lt h
  have hp := pow8 (L % 8) (by omega)
  unfold wid ofW
  rw [if_neg (by omega), nod8_top (L / 8) (by omega)]
  by_cases h7 : L / 8 = 7
  · rw [if_pos h7]
    rw [h7, show 63 - 8 * 7 = 7 from rfl] at h1 ⊢
    simp only [show (2 : Nat) ^ 7 = 128 from rfl] at h1 ⊢
    omega
  · rw [if_neg h7]
    have e : (2 : Nat) ^ (63 - 8 * (L / 8)) = 256 * 2 ^ (55 - 8 * (L / 8)) := by
      rw [show (256 : Nat) = 2 ^ 8 from rfl, ← Nat.pow_add, show 8 + (55 - 8 * (L / 8)) = 63 - 8 * (L / 8) by omega]
    rw [e] at h1 ⊢
    omega
theorem three_madeU {w w1 : World} {o p : Obj} (n1 : Nw ((w.alloc o).alloc p) w1) : (w.heap.size < w1.heap.size ∧ w.heap.size + 1 < w1.heap.size) ∧ w1.heap[w.heap.size]? = some o ∧ w1.heap[w.heap.size + 1]? = some p ∧ Nw w w1 := two_made n1
/-- May a tile be? -/
def mayT (L I : Nat) (W : Int) : Prop := 1 ≤ W ∧ W ≤ (wid L I 9223372036854775808 : Int)
instance (L I : Nat) (W : Int) : Decidable (mayT L I W) := by unfold mayT; infer_instance
end Go.Proofs.YtaeocbdphfkflaaDoor
namespace Go.Proofs.YtaeocbdphfkflaaDoor.TM
open Go.RowKit Go.Maps Go.WideMaps Go.Proofs.YtaeocbdphfkflaaDoor
set_option linter.unusedVariables false
set_option linter.unusedSimpArgs false
/-- A key: a tile as three numbers. -/
abbrev KT := {k : Nat × Nat × Int // k.1 ≤ 255 ∧ k.2.1 < 18446744073709551616 ∧ -9223372036854775808 ≤ k.2.2 ∧ k.2.2 ≤ 9223372036854775807}
abbrev k1 (k : KT) : Value := .int .u8 (k.1.1 : Int)
abbrev k2 (k : KT) : Value := .int .u64 (k.1.2.1 : Int)
abbrev k3 (k : KT) : Value := .int .i64 k.1.2.2
abbrev kv (k : KT) : Value := .agg #[k1 k, k2 k, k3 k]
def kl (k : KT) : Lit := .string (keyBytes [.int .u8 (k.1.1 : Int), .int .u64 (k.1.2.1 : Int), .int .i64 k.1.2.2])
abbrev kok (k : KT) : Prop := True
def kz : KT := ⟨(0, 0, 0), by decide⟩
theorem mapM_fields {α β : Type} (n : List β) (a : β → String) (t : β → TypeId) (o : β → Nat) (F : TypeId → Nat → Option α) : n.mapM (fun f => F (t f) (o f)) = (n.map fun f => (a f, t f, o f)).mapM (fun x => F x.2.1 x.2.2) := by
  induction n with
  | nil => rfl
  | cons x r ih => simp only [List.mapM_cons, List.map_cons, ih]
theorem kty : Tryd.prog.types.size + 1 = Tryd.prog.types.size - 1 + 1 + 1 := by kernel_rfl
/-- Which tiles were met. -/
abbrev Pm := KT → Bool
open Classical in
noncomputable def putP (M : Pm) (k : KT) : Pm := fun x => if x = k then true else M x
theorem putP_same (M : Pm) (k : KT) : putP M k k = true := by simp [putP]
theorem putP_other (M : Pm) {k x : KT} (h : x ≠ k) : putP M k x = M x := by simp [putP, h]
/-- How nothing reads. -/
def unR (v : Value) : Option (DataW Unit × List MemPlace) :=
  match v with
  | .agg ⟨[]⟩ => some (.lit (.bool true), [])
  | _ => none
theorem unR_mk : unR (.agg #[]) = some (.lit (.bool true), []) := rfl
theorem unR_inv {v : Value} {z : DataW Unit × List MemPlace} (h : unR v = some z) : v = .agg #[] ∧ z = (.lit (.bool true), []) := by
  unfold unR at h
  split at h
  · cases h
    exact ⟨rfl, rfl⟩
  · cases h
def elP (o : Bool) (zd : DataW Unit) : DataW Unit := match o with | true => .lit (.bool true) | false => zd
theorem has_elP {D : DataW Unit} {k : Lit} {o : Bool} (h : ∀ zd, D.atKey k zd = elP o zd) : Maps.has D k = o := by
  cases o with
  | false => exact Maps.has_false_of_atKey h
  | true => exact Maps.has_true_of_atKey (y := .lit (.bool true)) h
end Go.Proofs.YtaeocbdphfkflaaDoor.TM
