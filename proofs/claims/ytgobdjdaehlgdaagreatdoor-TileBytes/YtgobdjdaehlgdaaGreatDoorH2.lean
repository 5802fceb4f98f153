/- What Node and Chain answer. -/
import Derived.Test.YtgobdjdaehlgdaaGreatDoorH1
import Derived.Deep.MidRow
namespace Go.Proofs.YtgobdjdaehlgdaaGreatDoor
open Go.RowKit
set_option linter.unusedVariables false
set_option linter.unusedSimpArgs false

/-- Bytes in memory. -/
def Bys (w : World) (p : Option Addr) (L : List UInt8) : Prop := ∀ j, j < L.length → ∃ g o, p = some ⟨g, o, none⟩ ∧ w.cell? ⟨g, o + j, none⟩ = some (.int .u8 ((L.getD j 0).toNat : Nat))
theorem Bys.nw {w w' : World} {p : Option Addr} {L : List UInt8} (h : Bys w p L) (k : Nw w w') : Bys w' p L := fun j hj => by
  obtain ⟨g, o, hp, hc⟩ := h j hj
  exact ⟨g, o, hp, k.cellOf hc⟩
theorem conv_none (c : Nat) (w : World) : (convert 92 9 (.slice none 0 c)).run Tryz.prog w = .ok (.string ⟨#[]⟩) w := by kernel_rfl
theorem conv_bys {w : World} {p : Option Addr} {L : List UInt8} (h : Bys w p L) (c : Nat) : (convert 92 9 (.slice p L.length c)).run Tryz.prog w = .ok (.string ⟨L.toArray⟩) w := by
  rcases p with _ | a
  · rcases L with _ | ⟨x, L⟩
    · exact conv_none c w
    · obtain ⟨g, o, hp, _⟩ := h 0 (by simp)
      cases hp
  · refine run_convert_bytes_back w _ _ _ _ _ _ Tryz.underlying92 Tryz.underlying5 Tryz.underlying9 (fun j hj => ?_)
    obtain ⟨g, o, hp, hc⟩ := h j hj
    cases hp
    rw [addO, hc, List.getD_eq_getElem?_getD, List.getElem?_eq_getElem hj]
    rfl
theorem bys_block {w : World} {b : Nat} {A : List UInt8} {t : TypeId} {f : Nat × Nat} (h : w.heap[b]? = some (.cells (hbs A) t f)) : Bys w (some ⟨b, 0, none⟩) A := fun j hj => by
  refine ⟨b, 0, rfl, ?_⟩
  rw [Nat.zero_add, cell_of h, hbs_get A j hj]
theorem conv_h {w : World} {b : Nat} {A : List UInt8} {t : TypeId} {f : Nat × Nat} (h : w.heap[b]? = some (.cells (hbs A) t f)) (hA : A.length = 32) : (convert 92 9 (.slice (some ⟨b, 0, none⟩) 32 32)).run Tryz.prog w = .ok (.string ⟨A.toArray⟩) w := by
  have := conv_bys (bys_block h) 32
  rw [hA] at this
  exact this

/-- A thing stored whole, as one step of a statement whose order is drawn. -/
theorem step_store_agg {P : Program} {ops : Array Oper} {o : Oper} {a : Act} {w : World} {K : Act → World → Prop} {Q : Exit → Act → World → Prop} {E : Prop} (hgd : o.guard = none) (x v : Operand) (t : TypeId) (n : Nat) (ho : o.op = .store t x v)
    (hsz : ∀ W : World, (sizeOf t).run P W = .ok n W) (g off : Nat) (hx : a.eval x = .pointer (some ⟨g, off, none⟩)) (cur : Array Value) (ty : TypeId) (hg : w.heap[g]? = some (.cells cur ty (0, 0)))
    (V : Array Value) (hv : a.eval v = .agg V) (hV : V.size = n) (h1 : ∀ u ∈ V.toList, u.oneCell' = true) (hfit : off + n ≤ cur.size)
    (new : Array Value) (hnew : new.toList = cur.toList.take off ++ V.toList ++ cur.toList.drop (off + n))
    (h : ∀ w', w'.heap[g]? = some (.cells new ty (0, 0)) → Fr (fun k => k = g) w w' → w'.heap.size = w.heap.size → K (a.put o.dst undef) w') : if Region.wanted o (yielded ops a.tmps) = true then Oper.wp P o a w K Q else E := by
  have hw : Region.wanted o (yielded ops a.tmps) = true := by simp [Region.wanted, hgd]
  rw [if_pos hw]
  have hst := run_storeCells_at P g off ty V.toList 0 cur w hg (by simp [hV]; omega) h1
  simp only [Nat.add_zero, Array.length_toList, hV] at hst
  have hn : new = (cur.toList.take off ++ V.toList ++ cur.toList.drop (off + n)).toArray := by
    apply Array.ext'; rw [hnew]
  rw [← hn] at hst
  unfold Oper.wp execOp
  simp only [ho, hx, hv, Instr.storeAt, sure, storeVar, Value.cells, hV, Sem.run_bind, Sem.run_pure, hsz, hst, Result.andThen_ok, ne_eq, not_true, if_false, not_false_eq_true]
  simp only [Oper.upon]
  exact h _ (setRow_heap w g cur new ty (0, 0) hg) ⟨rfl, rfl, rfl, by simp, fun k hk hne => setRow_other w g k new hne⟩ (by simp)
/-- A thing loaded whole yields it wherever its block is as it was. -/
theorem yields_load_agg {P : Program} {ops : Array Oper} {S : World → Prop} {o : Oper} {a : Act} (hgd : o.guard = none) (x : Operand) (t : TypeId) (n : Nat) (ho : o.op = .load t x)
    (hagg : ∀ W : World, (isAgg t).run P W = .ok true W) (hsz : ∀ W : World, (sizeOf t).run P W = .ok n W) (g : Nat) (hx : a.eval x = .pointer (some ⟨g, 0, none⟩)) (ty : TypeId)
    (V : Array Value) (hV : V.size = n) (hg : ∀ w, S w → w.heap[g]? = some (.cells V ty (0, 0))) : YieldsIf P ops S o (.agg V) a := by
  refine .inl ⟨by simp [Region.wanted, hgd], fun w hw => ?_⟩
  have hl : (loadCells ⟨g, 0, none⟩ n).run P w = .ok V w := by
    have := run_loadCells_list (P := P) w ⟨g, 0, none⟩ V.toList (fun j v hv => by
      rw [addZ, cell_of (hg w hw)]
      simpa using hv)
    simpa [hV] using this
  unfold execOp
  simp only [ho, hx, Instr.loadAt, sure, loadVar, Sem.run_bind, Sem.run_pure, hagg, hsz, hl, Result.andThen_ok, if_true]
end Go.Proofs.YtgobdjdaehlgdaaGreatDoor
