/- What was put is read by the same reads, and then the text is at its end. -/
import Derived.Test.YtebbgpnhkpbefaaDoorcZ1
import Derived.ChangeKeysEq
namespace Go.Proofs.YtebbgpnhkpbefaaDoor
open Go.RowKit
set_option linter.unusedVariables false
set_option linter.unusedSimpArgs false

theorem plain8 : Tryd.prog.plainKey 5 = true := by kernel_rfl
theorem eqItems_self (w : World) (l : List UInt8) : ∀ (is : List Nat), (∀ i ∈ is, i < l.length) → (Op.eqItems 9999 5 1 (bc l).toArray (bc l).toArray is).run Tryd.prog w = .ok true w
  | [], _ => by simp [Op.eqItems]
  | i :: is, h => by
    have hi := h i (by simp)
    have hg : (bc l).toArray[i * 1]? = some (.int .u8 (l[i].toNat : Int)) := by simp [bc, hi]
    have hp := run_part_plain w plain8 hg
    have ih := eqItems_self w l is (fun j hj => h j (by simp [hj]))
    have he : (Op.equalIn 9999 5 (.int .u8 (l[i].toNat : Int)) (.int .u8 (l[i].toNat : Int))).run Tryd.prog w = .ok true w := by
      rw [run_equalIn_int w 9998 5 .u8 .u8 _ _ Tryd.underlying5]; simp
    simp only [Op.eqItems, Sem.run_bind, hp, he, Result.andThen_ok, Bool.not_true, Bool.false_eq_true, if_false, ih]
theorem hash_eq (l : List UInt8) (hl : l.length = 32) (w : World) : (Op.equalIn 10000 38 (.agg (bc l).toArray) (.agg (bc l).toArray)).run Tryd.prog w = .ok true w := by
  obtain ⟨i0, hi, _⟩ := info_parts8
  rw [run_equalIn_array w 9999 _ _ Tryd.underlying38 hi, cells5]
  exact eqItems_self w l _ (fun i hi => by rw [hl]; exact List.mem_range.1 hi)

theorem Sent.up {B B' : Nat} {w : World} {a : Nat → Addr} (h : Sent B w a) (h1 : B ≤ B') (h2 : B' ≤ w.heap.size) : Sent B' w a :=
  { h with blk := fun i hi => ⟨Nat.lt_of_lt_of_le (h.blk i hi).1 h1, (h.blk i hi).2⟩, hB := Nat.le_trans h.hB h1, hsz := h2 }
/-- The things that were taken, in memory below B. -/
def Tk (w : World) (B : Nat) (lv : Value) (ks : List Kt) : Prop :=
  ∃ ad cap, lv = .slice ad ks.length cap ∧ (0 < ks.length → ∃ g off, ad = some ⟨g, off, none⟩ ∧ g < B ∧ g < w.heap.size ∧ ∀ k x, ks[k]? = some x → ∀ j u, x.A[j]? = some u → w.cell? ⟨g, off + k * 37 + j, none⟩ = some u)
theorem Tk.fr {S : Nat → Prop} {w w' : World} {B : Nat} {lv : Value} {ks : List Kt} (h : Tk w B lv ks) (hf : Fr S w w') (hS : ∀ k, k < B → ¬ S k) : Tk w' B lv ks := by
  obtain ⟨ad, cap, rfl, h⟩ := h
  refine ⟨ad, cap, rfl, fun h0 => ?_⟩
  obtain ⟨g, off, rfl, h1, h2, h3⟩ := h h0
  exact ⟨g, off, rfl, h1, Nat.lt_of_lt_of_le h2 hf.size, fun k x hx j u hu => (hf.cell (p := ⟨g, off + k * 37 + j, none⟩) h2 (hS g h1)).trans (h3 k x hx j u hu)⟩
theorem Tk.of {w : World} {base B : Nat} {lv : Value} {ks : List Kt} (h : w.ownsRow base 40 37 lv ks.length (flatA ks)) (hB : w.heap.size ≤ B) (hk : ∀ x ∈ ks, x.ok) : Tk w B lv ks := by
  have hlt := h.lt
  rcases h.2 with ⟨rfl, hn⟩ | ⟨g, cap, cur, rfl, _⟩
  · have : ks.length = 0 := by simpa using hn
    exact ⟨none, 0, by rw [this], fun h0 => by omega⟩
  · refine ⟨_, _, rfl, fun _ => ⟨g, 0, rfl, by have := hlt g rfl; omega, (hlt g rfl).2, fun k x hx j u hu => ?_⟩⟩
    have := h.cells (g := g) rfl (k * 37 + j) u (flatA_get ks k x (fun y hy => (hk y hy).1.g.size) hx j u hu)
    rw [addZ] at this
    rw [Nat.zero_add]
    exact this

end Go.Proofs.YtebbgpnhkpbefaaDoor
