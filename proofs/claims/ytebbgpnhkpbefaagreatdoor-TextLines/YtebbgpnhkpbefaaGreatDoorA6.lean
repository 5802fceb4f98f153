/- A row of bytes that a call has made: made, added to, told as a text. -/
import Derived.Test.YtebbgpnhkpbefaaGreatDoorA5
import Derived.Test.YtebbgpnhkpbefaaGreatDoorA3
import Derived.Laws.MakeOwn
import Derived.Laws.AppendOwn
import Derived.Lib.AppendStr
namespace Go.Proofs.YtebbgpnhkpbefaaGreatDoor
open Go.RowKit
set_option linter.unusedVariables false
set_option linter.unusedSimpArgs false

theorem info8 : (Tryz.prog.info? 5).map (fun i => (i.zero, i.size, i.bytes)) = some (some (.int .u8 0), 1, 1) := by kernel_rfl
theorem info_parts8 : ∃ i, Tryz.prog.info? 5 = some i ∧ i.zero = some (.int .u8 0) ∧ i.size = 1 ∧ i.bytes = 1 := by
  obtain ⟨i, hi, he⟩ := Option.map_eq_some_iff.1 info8
  simp only [Prod.mk.injEq] at he
  exact ⟨i, hi, he.1, he.2.1, he.2.2⟩
/-- A row of bytes of the call's own, from block B on. -/
abbrev Own (B : Nat) (w : World) (v : Value) (l : List UInt8) : Prop := w.ownsRow B 5 1 v l.length (bc l)
theorem ownsRow_form {w : World} {base : Nat} {e : TypeId} {size : Nat} {v : Value} {n : Nat} {xs : List Value} (h : w.ownsRow base e size v n xs) : ∃ a c, v = .slice a n c := by
  rcases h.2 with ⟨rfl, rfl⟩ | ⟨g, cap, cur, rfl, _⟩
  · exact ⟨_, _, rfl⟩
  · exact ⟨_, _, rfl⟩
theorem one_new (w : World) (x : Value) (t : TypeId) : ∀ j u, [x][j]? = some u → (w.alloc (.cells #[x] t)).cell? ((⟨w.heap.size, 0, none⟩ : Addr).add j) = some u := by
  intro j u hj
  match j, hj with
  | 0, hj => simp at hj; subst hj; simp [Addr.add]
theorem conv_nil (w : World) : (convert 85 9 (.slice none 0 0)).run Tryz.prog w = .ok (.string ⟨#[]⟩) w := by kernel_rfl
theorem conv_own {B : Nat} {w : World} {v : Value} {l : List UInt8} (h : Own B w v l) : (convert 85 9 v).run Tryz.prog w = .ok (.string ⟨l.toArray⟩) w := by
  have h' := h
  rcases h.2 with ⟨rfl, hn⟩ | ⟨g, cap, cur, rfl, _⟩
  · have : l = [] := List.eq_nil_of_length_eq_zero hn
    subst this
    exact conv_nil w
  · refine run_convert_bytes_back w _ _ _ _ _ _ Tryz.underlying85 Tryz.underlying5 Tryz.underlying9 (fun j hj => ?_)
    exact h'.cells (g := g) rfl j _ (by simp [bc, hj])
theorem make_own (B : Nat) (w : World) (c : Nat) (hc : c ≤ 281474976710656) (hB : B ≤ w.heap.size) : ∃ w', (Instr.makeSlice 85 (.int .i64 0) (.int .i64 (c : Int))).run Tryz.prog w = .ok (.slice (some ⟨w.heap.size, 0, none⟩) 0 c) w' ∧ Own B w' (.slice (some ⟨w.heap.size, 0, none⟩) 0 c) [] ∧ Nw w w' := by
  obtain ⟨i0, hi, hz0, hz1, hz2⟩ := info_parts8
  obtain ⟨w', h1, h2, h3⟩ := run_make_own (P := Tryz.prog) w B 85 5 i0 (.int .u8 0) 1 Tryz.underlying85 hi hz0 hz1 .i64 .i64 c (by rw [hz2]; omega) (by unfold maxLen; omega) hB
  exact ⟨w', h1, h2, (Fr.refl _ _).grown h3 (fun k e _ => by cases e)⟩
theorem u8_of (m : Nat) (h : m < 256) : (Value.int .u8 (m : Int)) = .int .u8 ((UInt8.ofNat m).toNat : Nat) := by
  rw [UInt8.toNat_ofNat', Nat.mod_eq_of_lt (by omega)]
/-- Behind an append of one byte. -/
theorem own_put {B : Nat} {W w w1 : World} {v v' : Value} {l : List UInt8} {n : Nat} {c : UInt8} {x : Int} {t : TypeId} (hw : Below B W w) (h : Own B w v l) (hx : x = (c.toNat : Int)) (ho : w1.ownsRow B 5 1 v' n (bc l ++ [.int .u8 x])) (hn : n = l.length + 1) (hg : (w.alloc (.cells #[.int .u8 x] t)).grownBy w1 v.ownBlock) (hB : B ≤ W.heap.size) : Own B w1 v' (l ++ [c]) ∧ Below B W w1 := by
  subst hx hn
  refine ⟨?_, ?_⟩
  · unfold Own
    rw [List.length_append, bc_app]
    exact ho
  · refine ⟨hg.os.trans hw.os, hg.tape.trans hw.tape, hg.output.trans hw.output, ?_, fun k hk => ?_⟩
    · have := hg.size; simp at this; have := hw.size; omega
    · have h1 := hg.block k (by simp; have := hw.size; omega) (fun e => by have := h.lt k e.symm; omega)
      rw [h1, Below.heap_alloc _ _ _ (by have := hw.size; omega)]
      exact hw.block k hk
/-- What a reading answers: what was read, which error, its place. -/
def rd {α : Type} (z : α) (s : ByteArray) (r : Except Nat α) : α × Nat × Option Int := if 1048576 < s.size then (z, 4, none) else match r with
  | .error k => (z, 3, some (k : Int))
  | .ok b => (b, 0, none)
theorem rd_long {α : Type} (z : α) (s : ByteArray) (r : Except Nat α) (h : 1048576 < s.size) : rd z s r = (z, 4, none) := by unfold rd; rw [if_pos h]
theorem rd_err {α : Type} (z : α) (s : ByteArray) (r : Except Nat α) (h : ¬ 1048576 < s.size) (k : Nat) (e : r = .error k) : rd z s r = (z, 3, some (k : Int)) := by unfold rd; rw [if_neg h, e]
theorem rd_ok {α : Type} (z : α) (s : ByteArray) (r : Except Nat α) (h : ¬ 1048576 < s.size) (b : α) (e : r = .ok b) : rd z s r = (b, 0, none) := by unfold rd; rw [if_neg h, e]
end Go.Proofs.YtebbgpnhkpbefaaGreatDoor
