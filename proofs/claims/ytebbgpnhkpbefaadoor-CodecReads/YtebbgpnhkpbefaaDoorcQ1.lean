/- Two readers, none, one that nobody made, and the document's two: in memory. -/
import Derived.Test.YtebbgpnhkpbefaaDoorcK9
import Derived.Test.YtebbgpnhkpbefaaDoorcT4
import Derived.Test.YtebbgpnhkpbefaaDoorcV5
import Derived.Deep.CutRange
import Derived.Deep.RegionHeld3
namespace Go.Proofs.YtebbgpnhkpbefaaDoor
open Go.RowKit
set_option linter.unusedVariables false
set_option linter.unusedSimpArgs false

structure Cr (W : World) (B : Nat) (one two : ByteArray) (a : Nat → Addr) : Prop where
  r0 : Rel W B (B + 1 + 1 + 1 + 1) one a
  r1 : Rel W (B + 1) (B + 1 + 1 + 1 + 1 + 1) two a
  h3 : W.heap[B + 1 + 1]? = some (.cells #[.bool false, .string ⟨#[]⟩, .int .i64 0, .nilIface, .int .i64 0] 28 (0, 0))
  hr : W.heap[B + 1 + 1 + 1]? = some (.cells #[.pointer (some ⟨B, 0, none⟩), .pointer (some ⟨B + 1, 0, none⟩), .pointer none, .pointer (some ⟨B + 1 + 1, 0, none⟩)] 23 (0, 0))
  hm : W.heap[B + 1 + 1 + 1 + 1 + 1 + 1]? = some (.cells #[.pointer (some ⟨B + 1 + 1 + 1 + 1, 0, none⟩), .pointer (some ⟨B + 1 + 1 + 1 + 1 + 1, 0, none⟩)] 30 (0, 0))
theorem Cr.fr {W W' : World} {B : Nat} {one two : ByteArray} {a : Nat → Addr} (h : Cr W B one two a) (hf : Fr (fun _ => False) W W') : Cr W' B one two a :=
  ⟨h.r0.fr hf (fun f => f) (fun f => f), h.r1.fr hf (fun f => f) (fun f => f), (hf.block _ (heap_lt h.h3) (fun f => f)).trans h.h3, (hf.block _ (heap_lt h.hr) (fun f => f)).trans h.hr, (hf.block _ (heap_lt h.hm) (fun f => f)).trans h.hm⟩
/-- The first two readers have turned. -/
theorem Cr.up0 {W W' : World} {B : Nat} {one two : ByteArray} {a : Nat → Addr} (h : Cr W B one two a) (hf : Fr (fun j => j = B ∨ j = B + 1 + 1 + 1 + 1) W W') (hr : Rel W' B (B + 1 + 1 + 1 + 1) one a) : Cr W' B one two a :=
  ⟨hr, h.r1.fr hf (by omega) (by omega), (hf.block _ (heap_lt h.h3) (by omega)).trans h.h3, (hf.block _ (heap_lt h.hr) (by omega)).trans h.hr, (hf.block _ (heap_lt h.hm) (by omega)).trans h.hm⟩
theorem Cr.up1 {W W' : World} {B : Nat} {one two : ByteArray} {a : Nat → Addr} (h : Cr W B one two a) (hf : Fr (fun j => j = B + 1 ∨ j = B + 1 + 1 + 1 + 1 + 1) W W') (hr : Rel W' (B + 1) (B + 1 + 1 + 1 + 1 + 1) two a) : Cr W' B one two a :=
  ⟨h.r0.fr hf (by omega) (by omega), hr, (hf.block _ (heap_lt h.h3) (by omega)).trans h.h3, (hf.block _ (heap_lt h.hr) (by omega)).trans h.hr, (hf.block _ (heap_lt h.hm) (by omega)).trans h.hm⟩

/-- One block more. -/
theorem more {w0 W : World} {n : Nat} (hf : Fr (fun _ => False) w0 W) (hn : W.heap.size = n) (A : Array Value) (t : TypeId) : Fr (fun _ => False) w0 (W.alloc (.cells A t)) ∧ Fr (fun _ => False) W (W.alloc (.cells A t)) ∧ (W.alloc (.cells A t)).heap[n]? = some (.cells A t (0, 0)) ∧ (W.alloc (.cells A t)).heap.size = n + 1 := by
  refine ⟨hf.alloc _, (Fr.refl _ _).alloc _, ?_, by simp [hn]⟩
  have := heap_alloc_new W (.cells A t)
  rwa [hn] at this
theorem start6 (w w1 w2 : World) (one two : ByteArray) (a : Nat → Addr) (h1 : Rd w1 w.heap.size one 0 .nilIface 0) (f1 : Fr (fun _ => False) w w1) (z1 : w1.heap.size = w.heap.size + 1) (h2 : Rd w2 w1.heap.size two 0 .nilIface 0) (f2 : Fr (fun _ => False) w1 w2) (z2 : w2.heap.size = w1.heap.size + 1) :
    ∃ W, W = (((((w2.alloc (.cells #[.bool false, .string ⟨#[]⟩, .int .i64 0, .nilIface, .int .i64 0] 28)).alloc (.cells #[.pointer (some ⟨w.heap.size, 0, none⟩), .pointer (some ⟨w.heap.size + 1, 0, none⟩), .pointer none, .pointer (some ⟨w.heap.size + 1 + 1, 0, none⟩)] 23)).alloc (.cells #[.string one, .int .i64 0, .int .i64 0, .int .i64 0] 34)).alloc (.cells #[.string two, .int .i64 0, .int .i64 0, .int .i64 0] 34)).alloc (.cells #[.pointer (some ⟨w.heap.size + 1 + 1 + 1 + 1, 0, none⟩), .pointer (some ⟨w.heap.size + 1 + 1 + 1 + 1 + 1, 0, none⟩)] 30)) ∧ Cr W w.heap.size one two a ∧ Fr (fun _ => False) w W := by
  rw [z1] at h2 z2
  have f12 := f1.trans f2 (fun _ _ q => q)
  obtain ⟨g1, e1, b1, n1⟩ := more f12 z2 #[.bool false, .string ⟨#[]⟩, .int .i64 0, .nilIface, .int .i64 0] 28
  obtain ⟨g2, e2, b2, n2⟩ := more g1 n1 #[.pointer (some ⟨w.heap.size, 0, none⟩), .pointer (some ⟨w.heap.size + 1, 0, none⟩), .pointer none, .pointer (some ⟨w.heap.size + 1 + 1, 0, none⟩)] 23
  obtain ⟨g3, e3, b3, n3⟩ := more g2 n2 #[.string one, .int .i64 0, .int .i64 0, .int .i64 0] 34
  obtain ⟨g4, e4, b4, n4⟩ := more g3 n3 #[.string two, .int .i64 0, .int .i64 0, .int .i64 0] 34
  obtain ⟨g5, e5, b5, n5⟩ := more g4 n4 #[.pointer (some ⟨w.heap.size + 1 + 1 + 1 + 1, 0, none⟩), .pointer (some ⟨w.heap.size + 1 + 1 + 1 + 1 + 1, 0, none⟩)] 30
  have e45 := e4.trans e5 (fun _ _ q => q)
  have e345 := e3.trans e45 (fun _ _ q => q)
  have e2345 := e2.trans e345 (fun _ _ q => q)
  have eall := e1.trans e2345 (fun _ _ q => q)
  refine ⟨_, rfl, ⟨.inl ⟨0, 0, by omega, (h1.fr f2 (fun f => f)).fr eall (fun f => f), ?_⟩, .inl ⟨0, 0, by omega, h2.fr eall (fun f => f), ?_⟩, ?_, ?_, b5⟩, g5⟩
  · exact (e45.block _ (by omega) (fun f => f)).trans b3
  · exact (e5.block _ (by omega) (fun f => f)).trans b4
  · exact (e2345.block _ (by omega) (fun f => f)).trans b1
  · exact (e345.block _ (by omega) (fun f => f)).trans b2

/-- What the walk asks of reader k: the thing, what took leaves, and the way on. -/
def Tp (a : Nat → Addr) (rp : Option Addr) (A V : Array Value) (bk : Nat) (w : World) (PT : World → Prop) : Prop :=
  Tz V ∧ (∀ W, Fr (fun _ => False) w W → Calls Tryd.prog 7 #[.pointer rp, .agg A] W fun e w' => e = .returned (.agg V) ∧ PT w' ∧ Fr (fun j => j = bk) W w')

/-- A thing stored whole, as one step of a statement whose order is drawn. -/
theorem step_store_agg {P : Program} {ops : Array Oper} {o : Oper} {a : Act} {w : World} {K : Act → World → Prop} {Q : Exit → Act → World → Prop} {E : Prop} (hgd : o.guard = none) (x v : Operand) (t : TypeId) (n : Nat) (ho : o.op = .store t x v)
    (hsz : ∀ W : World, (sizeOf t).run P W = .ok n W) (g off : Nat) (hx : a.eval x = .pointer (some ⟨g, off, none⟩)) (cur : Array Value) (ty : TypeId) (hg : w.heap[g]? = some (.cells cur ty (0, 0)))
    (V : Array Value) (hv : a.eval v = .agg V) (hV : V.size = n) (h1 : ∀ u ∈ V.toList, u.oneCell' = true) (hfit : off + n ≤ cur.size)
    (new : Array Value) (hnew : new.toList = cur.toList.take off ++ V.toList ++ cur.toList.drop (off + n))
    (h : ∀ w', w'.heap[g]? = some (.cells new ty (0, 0)) → Fr (fun k => k = g) w w' → w'.heap.size = w.heap.size → K (a.put o.dst undef) w') : if Region.wanted o (yielded ops a.tmps) = true then Oper.wp P o a w K Q else E := by
  have hw : Region.wanted o (yielded ops a.tmps) = true := by simp [Region.wanted, hgd]
  rw [if_pos hw]
  have hst := run_storeCells_at P g off ty V.toList 0 cur w hg (by simp [hV]; omega) h1
  simp only [Nat.add_zero, Array.length_toList, hV] at hst
  have hn : new = (cur.toList.take off ++ V.toList ++ cur.toList.drop (off + n)).toArray := by
    apply Array.ext'; rw [hnew]
  rw [← hn] at hst
  unfold Oper.wp execOp
  simp only [ho, hx, hv, Instr.storeAt, sure, storeVar, Value.cells, hV, Sem.run_bind, Sem.run_pure, hsz, hst, Result.andThen_ok, ne_eq, not_true, if_false, not_false_eq_true]
  simp only [Oper.upon]
  exact h _ (setRow_heap w g cur new ty (0, 0) hg) ⟨rfl, rfl, rfl, by simp, fun k hk hne => setRow_other w g k new hne⟩ (by simp)
/-- A thing loaded whole yields it wherever its block is as it was. -/
theorem yields_load_agg {P : Program} {ops : Array Oper} {S : World → Prop} {o : Oper} {a : Act} (hgd : o.guard = none) (x : Operand) (t : TypeId) (n : Nat) (ho : o.op = .load t x)
    (hagg : ∀ W : World, (isAgg t).run P W = .ok true W) (hsz : ∀ W : World, (sizeOf t).run P W = .ok n W) (g : Nat) (hx : a.eval x = .pointer (some ⟨g, 0, none⟩)) (ty : TypeId)
    (V : Array Value) (hV : V.size = n) (hg : ∀ w, S w → w.heap[g]? = some (.cells V ty (0, 0))) : YieldsIf P ops S o (.agg V) a := by
  refine .inl ⟨by simp [Region.wanted, hgd], fun w hw => ?_⟩
  have hl : (loadCells ⟨g, 0, none⟩ n).run P w = .ok V w := by
    have := run_loadCells_list (P := P) w ⟨g, 0, none⟩ V.toList (fun j v hv => by
      rw [addZ, cell_of (hg w hw)]
      simpa using hv)
    simpa [hV] using this
  unfold execOp
  simp only [ho, hx, Instr.loadAt, sure, loadVar, Sem.run_bind, Sem.run_pure, hagg, hsz, hl, Result.andThen_ok, if_true]
end Go.Proofs.YtebbgpnhkpbefaaDoor
