/- What stays as it was while a call writes its own memory. -/
import Derived.Test.YtaeocbdphfkflaaDoorProg
import Derived.WalkKit
import Derived.Deep.AppendSrc
import Derived.Deep.RegionWith
import Derived.Deep.RegionLaw
import Derived.Deep.QuietTactic
import Derived.BigQuiet
import Derived.Below
import Derived.Lib.BitFns
import Derived.Lib.TrailingZeros
namespace Go.Proofs.YtaeocbdphfkflaaDoor
open Go.RowKit
set_option linter.unusedVariables false
set_option linter.unusedSimpArgs false

/-- What is below the size of w and not among S is in w' as it was. -/
structure Fr (S : Nat → Prop) (w w' : World) : Prop where
  os : w'.os = w.os
  tape : w'.tape = w.tape
  output : w'.output = w.output
  size : w.heap.size ≤ w'.heap.size
  block : ∀ k, k < w.heap.size → ¬ S k → w'.heap[k]? = w.heap[k]?

theorem Fr.refl (S : Nat → Prop) (w : World) : Fr S w w := ⟨rfl, rfl, rfl, Nat.le_refl _, fun _ _ _ => rfl⟩
theorem Fr.trans {S S' : Nat → Prop} {a b c : World} (h : Fr S a b) (k : Fr S' b c) (hS : ∀ j, j < a.heap.size → S' j → S j) : Fr S a c :=
  ⟨k.os.trans h.os, k.tape.trans h.tape, k.output.trans h.output, Nat.le_trans h.size k.size, fun i hi hn => (k.block i (Nat.lt_of_lt_of_le hi h.size) (fun q => hn (hS i hi q))).trans (h.block i hi hn)⟩
theorem Fr.mono {S S' : Nat → Prop} {w w' : World} (h : Fr S w w') (hS : ∀ j, j < w.heap.size → S j → S' j) : Fr S' w w' :=
  ⟨h.os, h.tape, h.output, h.size, fun i hi hn => h.block i hi (fun q => hn (hS i hi q))⟩
theorem Fr.drew {S : Nat → Prop} {a w : World} (h : Fr S a w) : Fr S a w.drew := ⟨h.os, h.tape, h.output, h.size, h.block⟩
theorem Fr.alloc {S : Nat → Prop} {a w : World} (h : Fr S a w) (o : Obj) : Fr S a (w.alloc o) :=
  ⟨h.os, h.tape, h.output, Nat.le_trans h.size (by simp), fun k hk hn => (Below.heap_alloc _ _ _ (Nat.lt_of_lt_of_le hk h.size)).trans (h.block k hk hn)⟩
theorem Fr.setCell {S : Nat → Prop} {a w : World} (h : Fr S a w) (p : Addr) (u : Value) (hp : p.block < a.heap.size → S p.block) : Fr S a (w.setCell p u) :=
  ⟨h.os, h.tape, h.output, Nat.le_trans h.size (by simp [World.setCell]), fun k hk hn => (Below.heap_setCell _ p u k (fun (e : k = p.block) => hn (by subst e; exact hp hk))).trans (h.block k hk hn)⟩
theorem Fr.grown {S : Nat → Prop} {a w w' : World} {row : Option Nat} (h : Fr S a w) (hg : w.grownBy w' row) (hr : ∀ k, row = some k → k < a.heap.size → S k) : Fr S a w' :=
  ⟨hg.os.trans h.os, hg.tape.trans h.tape, hg.output.trans h.output, Nat.le_trans h.size hg.size, fun k hk hn => (hg.block k (Nat.lt_of_lt_of_le hk h.size) (fun e => hn (hr k e.symm hk))).trans (h.block k hk hn)⟩
theorem Fr.below {S : Nat → Prop} {W w : World} (h : Fr S W w) {B : Nat} (hB : B ≤ W.heap.size) (hS : ∀ k, k < B → ¬ S k) : Below B W w :=
  ⟨h.os, h.tape, h.output, h.size, fun k hk => h.block k (Nat.lt_of_lt_of_le hk hB) (hS k hk)⟩
theorem Fr.cell {S : Nat → Prop} {w w' : World} (h : Fr S w w') {p : Addr} (hp : p.block < w.heap.size) (hs : ¬ S p.block) : w'.cell? p = w.cell? p := World.cell?_of_block (w := w) (h.block p.block hp hs)

theorem heap_lt {w : World} {b : Nat} {o : Obj} (h : w.heap[b]? = some o) : b < w.heap.size := by
  rcases Nat.lt_or_ge b w.heap.size with hb | hb
  · exact hb
  · rw [Array.getElem?_eq_none hb] at h; cases h
theorem heap_new (w : World) (o : Obj) : (w.alloc o).heap[w.heap.size]? = some o := heap_alloc_new w o
theorem heap_next (w : World) (o p : Obj) : ((w.alloc o).alloc p).heap[w.heap.size + 1]? = some p := by
  have := heap_alloc_new (w.alloc o) p
  rw [World.size_alloc] at this
  exact this
theorem heap_set {w : World} {b o : Nat} {c : Array Value} {t : TypeId} {f : Nat × Nat} (h : w.heap[b]? = some (.cells c t f)) (u : Value) : (w.setCell ⟨b, o, none⟩ u).heap[b]? = some (.cells (c.setIfInBounds o u) t f) := by
  simp [World.setCell, Array.getElem?_modify, h]
theorem heap_set_ne {w : World} {b k o : Nat} (hne : k ≠ b) (u : Value) : (w.setCell ⟨b, o, none⟩ u).heap[k]? = w.heap[k]? := Below.heap_setCell _ _ _ _ hne
theorem cell_set_off {w : World} {b o k : Nat} (h : k ≠ o) (u : Value) : (w.setCell ⟨b, o, none⟩ u).cell? ⟨b, k, none⟩ = w.cell? ⟨b, k, none⟩ := by
  simp only [World.cell?, World.setCell, Array.getElem?_modify]
  rcases hb : w.heap[b]? with _ | o2
  · simp
  · cases o2 <;> simp [Array.getElem?_setIfInBounds, Ne.symm h]
theorem cell_of {w : World} {b : Nat} {c : Array Value} {t : TypeId} {f : Nat × Nat} (h : w.heap[b]? = some (.cells c t f)) (o : Nat) : w.cell? ⟨b, o, none⟩ = c[o]? := by simp [World.cell?, h]
theorem frozen_of {w : World} {b : Nat} {c : Array Value} {t : TypeId} (h : w.heap[b]? = some (.cells c t (0, 0))) (o : Nat) : w.frozen? ⟨b, o, none⟩ = false := by simp [World.frozen?, h]

/-- Bytes as cells. -/
def bc (l : List UInt8) : List Value := l.map fun b => Value.int .u8 b.toNat
theorem bc_len (l : List UInt8) : (bc l).length = l.length := by simp [bc]
theorem bc_app (a b : List UInt8) : bc (a ++ b) = bc a ++ bc b := by simp [bc]
theorem ownsRow_keep {w w' : World} {base : Nat} {e : TypeId} {size : Nat} {v : Value} {n : Nat} {xs : List Value} (h : w.ownsRow base e size v n xs) (hk : ∀ g, v.ownBlock = some g → w'.heap[g]? = w.heap[g]?) : w'.ownsRow base e size v n xs := by
  obtain ⟨h1, h2⟩ := h
  refine ⟨h1, ?_⟩
  rcases h2 with h2 | ⟨g, cap, cur, rfl, hb, hh, h3, h4, h5, h6⟩
  · exact .inl h2
  · exact .inr ⟨g, cap, cur, rfl, hb, (hk g rfl).trans hh, h3, h4, h5, h6⟩

theorem Fr.ofBelow {w w' : World} (h : Below w.heap.size w w') : Fr (fun _ => False) w w' := ⟨h.os, h.tape, h.output, h.size, fun k hk _ => h.block k hk⟩
theorem Fr.drewN {S : Nat → Prop} {a w : World} (h : Fr S a w) : ∀ n, Fr S a (w.drewN n)
  | 0 => h
  | n + 1 => (Fr.drewN h n).drew
/-- Nothing that was there has turned. -/
abbrev Nw (w w' : World) : Prop := Fr (fun _ => False) w w'
theorem Nw.tr {a b c : World} (h : Nw a b) (k : Nw b c) : Nw a c := h.trans k (fun _ _ q => q)
theorem Nw.bel {w w' : World} (h : Nw w w') : Below w.heap.size w w' := h.below (Nat.le_refl _) (fun _ _ f => f)
theorem Nw.cellOf {w w' : World} (h : Nw w w') {p : Addr} {v : Value} (hc : w.cell? p = some v) : w'.cell? p = some v := (h.cell (World.block_lt_of_cell? w p hc) (fun f => f)).trans hc
/-- An error of package api. -/
abbrev sen (x : Addr) : Value := .iface 153 (.pointer (some x))
/-- A fault in memory: of which error, and where. -/
def Flt (w : World) (pb : Nat) (x : Addr) (q : Int) : Prop := w.cell? ⟨pb, 0, none⟩ = some (sen x) ∧ w.cell? ⟨pb, 1, none⟩ = some (.int .i64 q)
end Go.Proofs.YtaeocbdphfkflaaDoor
namespace Go.Proofs.YtaeocbdphfkflaaDoor

/- ### how many ones at the end -/
def ones : Nat → Nat → Nat
  | 0, _ => 0
  | f + 1, x => if x % 2 = 1 then 1 + ones f (x / 2) else 0
theorem ones_le : ∀ (f x : Nat), ones f x ≤ f
  | 0, _ => Nat.le_refl _
  | f + 1, x => by
    have := ones_le f (x / 2)
    simp only [ones]
    split <;> omega
theorem ones_fuel : ∀ (f x : Nat), x < 2 ^ f → ones (f + 1) x = ones f x
  | 0, x, h => by
    have : x = 0 := by simpa using h
    subst this; rfl
  | f + 1, x, h => by
    have ih := ones_fuel f (x / 2) (by rw [Nat.pow_succ] at h; omega)
    show (if x % 2 = 1 then 1 + ones (f + 1) (x / 2) else 0) = (if x % 2 = 1 then 1 + ones f (x / 2) else 0)
    rw [ih]
theorem ones_step (x : Nat) (h : x < 18446744073709551616) (h1 : x % 2 = 1) : ones 64 x = 1 + ones 64 (x / 2) := by
  have := ones_fuel 63 (x / 2) (by omega)
  show (if x % 2 = 1 then 1 + ones 63 (x / 2) else 0) = _
  rw [if_pos h1, ← this]
theorem ones_stop (x : Nat) (h1 : ¬ x % 2 = 1) : ones 64 x = 0 := if_neg h1
theorem ctz_ones : ∀ (f x : Nat), x < 2 ^ f → Lib.ctz f (2 ^ f - 1 - x) = ones f x
  | 0, x, h => by
    have : x = 0 := by simpa using h
    subst this; rfl
  | f + 1, x, h => by
    have hp : 0 < 2 ^ f := Nat.two_pow_pos f
    have hs : 2 ^ (f + 1) = 2 * 2 ^ f := by rw [Nat.pow_succ, Nat.mul_comm]
    rw [hs] at h ⊢
    have ih := ctz_ones f (x / 2) (by omega)
    have e : (2 * 2 ^ f - 1 - x) / 2 = 2 ^ f - 1 - x / 2 := by omega
    by_cases h1 : x % 2 = 1
    · have r : ones (f + 1) x = 1 + ones f (x / 2) := if_pos h1
      rw [r, ← ih]
      unfold Lib.ctz
      by_cases hz : 2 * 2 ^ f - 1 - x = 0
      · have hz' : 2 ^ f - 1 - x / 2 = 0 := by omega
        rw [if_pos hz, if_pos hz']
        omega
      · have hz' : ¬ 2 ^ f - 1 - x / 2 = 0 := by omega
        rw [if_neg hz, if_neg hz', ← e]
        show (if (2 * 2 ^ f - 1 - x) % 2 = 1 then 0 else 1 + Lib.ctzFrom f ((2 * 2 ^ f - 1 - x) / 2)) = _
        rw [if_neg (by omega)]
    · have r : ones (f + 1) x = 0 := if_neg h1
      rw [r]
      unfold Lib.ctz
      rw [if_neg (by omega)]
      show (if (2 * 2 ^ f - 1 - x) % 2 = 1 then 0 else 1 + Lib.ctzFrom f ((2 * 2 ^ f - 1 - x) / 2)) = _
      rw [if_pos (by omega)]

/- ### the length -/
theorem bitLen_of (x k : Nat) (hk : k ≤ 63) (h1 : 2 ^ k ≤ x) (h2 : x < 2 * 2 ^ k) : Lib.bitLen x = k + 1 := by
  have h3 : 2 ^ k ≤ 2 ^ 63 := Nat.pow_le_pow_right (by decide) hk
  have h4 : (2 : Nat) ^ 63 = 9223372036854775808 := by decide
  have e : x / 2 ^ k = 1 := Nat.div_eq_of_lt_le (by omega) (by omega)
  rw [Lib.bitLen_shift k x h1 (by omega), e]
  rfl
theorem bitLen_zero : Lib.bitLen 0 = 0 := rfl
theorem top_of (x : Nat) (h0 : 0 < x) (h : x < 18446744073709551616) : ∃ k, k ≤ 63 ∧ 2 ^ k ≤ x ∧ x < 2 * 2 ^ k := by
  have step : ∀ f y, 0 < y → y < 2 ^ f → ∃ k, k < f ∧ 2 ^ k ≤ y ∧ y < 2 * 2 ^ k := by
    intro f
    induction f with
    | zero => intro y h0 h; simp at h; omega
    | succ f ih =>
      intro y h0 h
      by_cases hy : y < 2 ^ f
      · obtain ⟨k, hk, a, b⟩ := ih y h0 hy
        exact ⟨k, by omega, a, b⟩
      · exact ⟨f, by omega, by omega, by rw [Nat.pow_succ] at h; omega⟩
  obtain ⟨k, hk, a, b⟩ := step 64 x h0 h
  exact ⟨k, by omega, a, b⟩

theorem ones_spec : ∀ (f x : Nat), ones f x < f → x % 2 ^ ones f x = 2 ^ ones f x - 1 ∧ x / 2 ^ ones f x % 2 = 0
  | 0, x, h => by omega
  | f + 1, x, h => by
    by_cases h1 : x % 2 = 1
    · have e : ones (f + 1) x = 1 + ones f (x / 2) := if_pos h1
      rw [e] at h ⊢
      obtain ⟨a, b⟩ := ones_spec f (x / 2) (by omega)
      have p := Nat.two_pow_pos (ones f (x / 2))
      have e2 : 2 ^ (1 + ones f (x / 2)) = 2 * 2 ^ ones f (x / 2) := by rw [Nat.pow_add]
      rw [e2, ← Nat.div_div_eq_div_mul, Nat.mod_mul]
      exact ⟨by rw [a]; omega, b⟩
    · have e : ones (f + 1) x = 0 := if_neg h1
      rw [e]
      simp
      omega
theorem ones_all : ∀ (f x : Nat), x < 2 ^ f → ones f x = f → x = 2 ^ f - 1
  | 0, x, h, _ => by simp at h; simp [h]
  | f + 1, x, h, he => by
    by_cases h1 : x % 2 = 1
    · have e : ones (f + 1) x = 1 + ones f (x / 2) := if_pos h1
      rw [Nat.pow_succ] at h ⊢
      have := ones_all f (x / 2) (by omega) (by omega)
      have p := Nat.two_pow_pos f
      omega
    · have e : ones (f + 1) x = 0 := if_neg h1
      omega
end Go.Proofs.YtaeocbdphfkflaaDoor
