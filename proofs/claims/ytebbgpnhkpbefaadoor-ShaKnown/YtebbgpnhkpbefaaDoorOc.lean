/- Bytes of a call's own. -/
import Derived.Test.YtebbgpnhkpbefaaDoorQ3a
import Derived.Laws.MakeOwn
import Derived.Laws.AppendOwn
import Derived.Lib.AppendStr
namespace Go.Proofs.YtebbgpnhkpbefaaDoor
open Go.RowKit
set_option linter.unusedVariables false
set_option linter.unusedSimpArgs false

theorem info_parts8 : ∃ i, Tryd.prog.info? 5 = some i ∧ i.zero = some (.int .u8 0) ∧ i.size = 1 ∧ i.bytes = 1 := by
  obtain ⟨i, hi, he⟩ := Option.map_eq_some_iff.1 info8
  simp only [Prod.mk.injEq] at he
  exact ⟨i, hi, he.1, he.2.1, he.2.2⟩
/-- A row of bytes of the call's own, from block B on. -/
abbrev Own (B : Nat) (w : World) (v : Value) (l : List UInt8) : Prop := w.ownsRow B 5 1 v l.length (bc l)
theorem conv_nil (w : World) : (convert 53 9 (.slice none 0 0)).run Tryd.prog w = .ok (.string ⟨#[]⟩) w := by kernel_rfl
theorem conv_own {B : Nat} {w : World} {v : Value} {l : List UInt8} (h : Own B w v l) : (convert 53 9 v).run Tryd.prog w = .ok (.string ⟨l.toArray⟩) w := by
  have h' := h
  rcases h.2 with ⟨rfl, hn⟩ | ⟨g, cap, cur, rfl, _⟩
  · have : l = [] := List.eq_nil_of_length_eq_zero hn
    subst this
    exact conv_nil w
  · refine run_convert_bytes_back w _ _ _ _ _ _ Tryd.underlying53 Tryd.underlying5 Tryd.underlying9 (fun j hj => ?_)
    exact h'.cells (g := g) rfl j _ (by simp [bc, hj])
theorem make_own (B : Nat) (w : World) (c : Nat) (hc : c ≤ 281474976710656) (hB : B ≤ w.heap.size) : ∃ w', (Instr.makeSlice 53 (.int .i64 0) (.int .i64 (c : Int))).run Tryd.prog w = .ok (.slice (some ⟨w.heap.size, 0, none⟩) 0 c) w' ∧ Own B w' (.slice (some ⟨w.heap.size, 0, none⟩) 0 c) [] ∧ Nw w w' := by
  obtain ⟨i0, hi, hz0, hz1, hz2⟩ := info_parts8
  obtain ⟨w', h1, h2, h3⟩ := run_make_own (P := Tryd.prog) w B 53 5 i0 (.int .u8 0) 1 Tryd.underlying53 hi hz0 hz1 .i64 .i64 c (by rw [hz2]; omega) (by unfold maxLen; omega) hB
  exact ⟨w', h1, h2, (Fr.refl _ _).grown h3 (fun k e _ => by cases e)⟩
theorem u8_of (m : Nat) (h : m < 256) : (Value.int .u8 (m : Int)) = .int .u8 ((UInt8.ofNat m).toNat : Nat) := by
  rw [UInt8.toNat_ofNat', Nat.mod_eq_of_lt (by omega)]
/-- Behind an append of one byte. -/
theorem own_put {B : Nat} {W w w1 : World} {v v' : Value} {l : List UInt8} {n : Nat} {c : UInt8} {x : Int} {t : TypeId} (hw : Below B W w) (h : Own B w v l) (hx : x = (c.toNat : Int)) (ho : w1.ownsRow B 5 1 v' n (bc l ++ [.int .u8 x])) (hn : n = l.length + 1) (hg : (w.alloc (.cells #[.int .u8 x] t)).grownBy w1 v.ownBlock) (hB : B ≤ W.heap.size) : Own B w1 v' (l ++ [c]) ∧ Below B W w1 := by
  subst hx hn
  refine ⟨?_, ?_⟩
  · unfold Own
    rw [List.length_append, bc_app]
    exact ho
  · refine ⟨hg.os.trans hw.os, hg.tape.trans hw.tape, hg.output.trans hw.output, ?_, fun k hk => ?_⟩
    · have := hg.size; simp at this; have := hw.size; omega
    · have h1 := hg.block k (by simp; have := hw.size; omega) (fun e => by have := h.lt k e.symm; omega)
      rw [h1, Below.heap_alloc _ _ _ (by have := hw.size; omega)]
      exact hw.block k hk

theorem z32_h : (#[.int .u8 0, .int .u8 0, .int .u8 0, .int .u8 0, .int .u8 0, .int .u8 0, .int .u8 0, .int .u8 0, .int .u8 0, .int .u8 0, .int .u8 0, .int .u8 0, .int .u8 0, .int .u8 0, .int .u8 0, .int .u8 0, .int .u8 0, .int .u8 0, .int .u8 0, .int .u8 0, .int .u8 0, .int .u8 0, .int .u8 0, .int .u8 0, .int .u8 0, .int .u8 0, .int .u8 0, .int .u8 0, .int .u8 0, .int .u8 0, .int .u8 0, .int .u8 0] : Array Value) = z32 := by kernel_rfl
/-- A thing stored whole, as one step of a statement whose order is drawn. -/
theorem step_store_agg {P : Program} {ops : Array Oper} {o : Oper} {a : Act} {w : World} {K : Act → World → Prop} {Q : Exit → Act → World → Prop} {E : Prop} (hgd : o.guard = none) (x v : Operand) (t : TypeId) (n : Nat) (ho : o.op = .store t x v)
    (hsz : ∀ W : World, (sizeOf t).run P W = .ok n W) (g off : Nat) (hx : a.eval x = .pointer (some ⟨g, off, none⟩)) (cur : Array Value) (ty : TypeId) (hg : w.heap[g]? = some (.cells cur ty (0, 0)))
    (V : Array Value) (hv : a.eval v = .agg V) (hV : V.size = n) (h1 : ∀ u ∈ V.toList, u.oneCell' = true) (hfit : off + n ≤ cur.size)
    (new : Array Value) (hnew : new.toList = cur.toList.take off ++ V.toList ++ cur.toList.drop (off + n))
    (h : ∀ w', w'.heap[g]? = some (.cells new ty (0, 0)) → Fr (fun k => k = g) w w' → w'.heap.size = w.heap.size → K (a.put o.dst undef) w') : if Region.wanted o (yielded ops a.tmps) = true then Oper.wp P o a w K Q else E := by
  have hw : Region.wanted o (yielded ops a.tmps) = true := by simp [Region.wanted, hgd]
  rw [if_pos hw]
  have hst := run_storeCells_at P g off ty V.toList 0 cur w hg (by simp [hV]; omega) h1
  simp only [Nat.add_zero, Array.length_toList, hV] at hst
  have hn : new = (cur.toList.take off ++ V.toList ++ cur.toList.drop (off + n)).toArray := by
    apply Array.ext'; rw [hnew]
  rw [← hn] at hst
  unfold Oper.wp execOp
  simp only [ho, hx, hv, Instr.storeAt, sure, storeVar, Value.cells, hV, Sem.run_bind, Sem.run_pure, hsz, hst, Result.andThen_ok, ne_eq, not_true, if_false, not_false_eq_true]
  simp only [Oper.upon]
  exact h _ (setRow_heap w g cur new ty (0, 0) hg) ⟨rfl, rfl, rfl, by simp, fun k hk hne => setRow_other w g k new hne⟩ (by simp)
/-- A thing loaded whole yields it wherever its block is as it was. -/
theorem yields_load_agg {P : Program} {ops : Array Oper} {S : World → Prop} {o : Oper} {a : Act} (hgd : o.guard = none) (x : Operand) (t : TypeId) (n : Nat) (ho : o.op = .load t x)
    (hagg : ∀ W : World, (isAgg t).run P W = .ok true W) (hsz : ∀ W : World, (sizeOf t).run P W = .ok n W) (g : Nat) (hx : a.eval x = .pointer (some ⟨g, 0, none⟩)) (ty : TypeId)
    (V : Array Value) (hV : V.size = n) (hg : ∀ w, S w → w.heap[g]? = some (.cells V ty (0, 0))) : YieldsIf P ops S o (.agg V) a := by
  refine .inl ⟨by simp [Region.wanted, hgd], fun w hw => ?_⟩
  have hl : (loadCells ⟨g, 0, none⟩ n).run P w = .ok V w := by
    have := run_loadCells_list (P := P) w ⟨g, 0, none⟩ V.toList (fun j v hv => by
      rw [addZ, cell_of (hg w hw)]
      simpa using hv)
    simpa [hV] using this
  unfold execOp
  simp only [ho, hx, Instr.loadAt, sure, loadVar, Sem.run_bind, Sem.run_pure, hagg, hsz, hl, Result.andThen_ok, if_true]
end Go.Proofs.YtebbgpnhkpbefaaDoor
