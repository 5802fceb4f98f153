/- tile: over, Hash. -/
import Derived.Test.YtgobdjdaehlgdaaGreatDoorHq
import Derived.Test.YtgobdjdaehlgdaaGreatDoorH2
import Derived.Test.YtgobdjdaehlgdaaGreatDoorPg
import Derived.Deep.DeepCutAuto
namespace Go.Proofs.YtgobdjdaehlgdaaGreatDoor
open Go.RowKit
set_option linter.unusedVariables false
set_option linter.unusedSimpArgs false
theorem elemHu : Tryz.prog.elem 66 = 96 := by kernel_rfl
theorem undHu : Tryz.prog.underlying 66 = some (.slice (Tryz.prog.elem 66)) := by rw [elemHu]; exact Tryz.underlying66
/-- A row of hashes that has room. -/
def Rw (w : World) (ad : Option Addr) (c : Nat) (l : List (List UInt8)) : Prop := l.length ≤ c ∧ Hss w (.slice ad l.length c) l
theorem Rw.nw {w w' : World} {ad : Option Addr} {c : Nat} {l : List (List UInt8)} (h : Rw w ad c l) (hl : ∀ x ∈ l, x.length = 32) (n : Nw w w') : Rw w' ad c l := ⟨h.1, h.2.nw hl n⟩
/-- A piece of a row. -/
theorem Rw.cut {w : World} {g o c : Nat} {l : List (List UInt8)} (h : Rw w (some ⟨g, o, none⟩) c l) (x n : Nat) (hx : x + n ≤ l.length) : Rw w (some ⟨g, o + x * 32, none⟩) (c - x) ((l.drop x).take n) := by
  have hlen : ((l.drop x).take n).length = n := by simp; omega
  refine ⟨by have := h.1; omega, _, _, rfl, fun k y hy => ⟨g, o + x * 32, rfl, fun j hj => ?_⟩⟩
  have hy2 : l[x + k]? = some y := by
    rw [List.getElem?_take] at hy
    split at hy
    · rwa [List.getElem?_drop] at hy
    · simp at hy
  obtain ⟨ad, cp, e, h2⟩ := h.2
  injection e with e1 e2 e3
  obtain ⟨g', o', e4, h3⟩ := h2 _ _ hy2
  rw [← e1] at e4
  simp only [Option.some.injEq, Addr.mk.injEq, and_true] at e4
  obtain ⟨rfl, rfl⟩ := e4
  rw [show o + x * 32 + k * 32 + j = o + (x + k) * 32 + j by omega]
  exact h3 j hj
theorem Rw.some {w : World} {ad : Option Addr} {c : Nat} {l : List (List UInt8)} (h : Rw w ad c l) (h0 : 0 < l.length) : ∃ g o, ad = some ⟨g, o, none⟩ := by
  obtain ⟨ad', cp, e, h2⟩ := h.2
  injection e with e1 e2 e3
  obtain ⟨g, o, e4, _⟩ := h2 0 _ (List.getElem?_eq_getElem h0)
  exact ⟨g, o, e1.trans e4⟩
theorem cut_hh (ad : Option Addr) (n cap k : Nat) (hk : k ≤ cap) (w : World) : (Instr.sliceAt 66 (.slice ad n cap) none (some (.int .i64 (k : Int))) none).run Tryz.prog w = .ok (.slice ad k cap) w := by
  rw [run_sliceAt_slice w _ _ _ _ _ undHu, run_slice_h w _ ad n cap undHu .i64 k (by omega) (by omega), elemHu, Tryz.sizeOf96 w]
  cases ad <;> simp [sliced, Addr.add]
theorem cut_hl (g o n cap k : Nat) (hk : k < n) (hn : n ≤ cap) (w : World) : (Instr.sliceAt 66 (.slice (some ⟨g, o, none⟩) n cap) (some (.int .i64 (k : Int))) none none).run Tryz.prog w = .ok (.slice (some ⟨g, o + k * 32, none⟩) (n - k) (cap - k)) w := by
  rw [run_sliceAt_slice w _ _ _ _ _ undHu, run_slice_l w _ (some ⟨g, o, none⟩) n cap undHu .i64 k (by omega) (by omega), elemHu, Tryz.sizeOf96 w]
  have : ¬ cap = k := by omega
  simp [sliced, this, Addr.add]
theorem cut_hlh (g o n cap x y : Nat) (hk : x < y) (hn : y ≤ cap) (z : Int) (hz : z = (y : Int)) (w : World) : (Instr.sliceAt 66 (.slice (some ⟨g, o, none⟩) n cap) (some (.int .i64 (x : Int))) (some (.int .i64 z)) none).run Tryz.prog w = .ok (.slice (some ⟨g, o + x * 32, none⟩) (y - x) (cap - x)) w := by
  subst hz
  rw [run_sliceAt_slice w _ _ _ _ _ undHu, run_slice_lh w _ (some ⟨g, o, none⟩) n cap undHu .i64 .i64 x y (by omega) (by omega) (by omega), elemHu, Tryz.sizeOf96 w]
  have : ¬ cap = x := by omega
  simp [sliced, this, Addr.add]
/-- The hash of the whole tree over these hashes. -/
def ovr : Nat → List (List UInt8) → List UInt8
  | 0, l => l.headD zh
  | k + 1, l => Sh (1 :: (ovr k (l.take (2 ^ k)) ++ ovr k (l.drop (2 ^ k))))
theorem ovr_32 : ∀ (k : Nat) (l : List (List UInt8)), (∀ x ∈ l, x.length = 32) → (ovr k l).length = 32
  | 0, [], _ => by show zh.length = 32; simp
  | 0, x :: l, h => h x (by simp)
  | k + 1, l, h => by show (Sh _).length = 32; rw [Sh_len]
end Go.Proofs.YtgobdjdaehlgdaaGreatDoor
