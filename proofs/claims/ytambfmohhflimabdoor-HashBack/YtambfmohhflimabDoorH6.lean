/- Bytes of a call's own; hashes compared. -/
import Derived.Test.YtambfmohhflimabDoorH4
import Derived.Laws.MakeOwn
import Derived.Laws.AppendOwn
import Derived.Lib.AppendStr
import Derived.ChangeKeysEq
namespace Go.Proofs.YtambfmohhflimabDoor
open Go.RowKit
set_option linter.unusedVariables false
set_option linter.unusedSimpArgs false

theorem info8 : (Tryd.prog.info? 5).map (fun i => (i.zero, i.size, i.bytes)) = some (some (.int .u8 0), 1, 1) := by kernel_rfl
theorem info_parts8 : ∃ i, Tryd.prog.info? 5 = some i ∧ i.zero = some (.int .u8 0) ∧ i.size = 1 ∧ i.bytes = 1 := by
  obtain ⟨i, hi, he⟩ := Option.map_eq_some_iff.1 info8
  simp only [Prod.mk.injEq] at he
  exact ⟨i, hi, he.1, he.2.1, he.2.2⟩
/-- A row of bytes of the call's own, from block B on. -/
abbrev Own (B : Nat) (w : World) (v : Value) (l : List UInt8) : Prop := w.ownsRow B 5 1 v l.length (bc l)
theorem ownsRow_form {w : World} {base : Nat} {e : TypeId} {size : Nat} {v : Value} {n : Nat} {xs : List Value} (h : w.ownsRow base e size v n xs) : ∃ a c, v = .slice a n c := by
  rcases h.2 with ⟨rfl, rfl⟩ | ⟨g, cap, cur, rfl, _⟩
  · exact ⟨_, _, rfl⟩
  · exact ⟨_, _, rfl⟩
theorem one_new (w : World) (x : Value) (t : TypeId) : ∀ j u, [x][j]? = some u → (w.alloc (.cells #[x] t)).cell? ((⟨w.heap.size, 0, none⟩ : Addr).add j) = some u := by
  intro j u hj
  match j, hj with
  | 0, hj => simp at hj; subst hj; simp [Addr.add]
theorem conv_nil (w : World) : (convert 42 9 (.slice none 0 0)).run Tryd.prog w = .ok (.string ⟨#[]⟩) w := by kernel_rfl
theorem conv_own {B : Nat} {w : World} {v : Value} {l : List UInt8} (h : Own B w v l) : (convert 42 9 v).run Tryd.prog w = .ok (.string ⟨l.toArray⟩) w := by
  have h' := h
  rcases h.2 with ⟨rfl, hn⟩ | ⟨g, cap, cur, rfl, _⟩
  · have : l = [] := List.eq_nil_of_length_eq_zero hn
    subst this
    exact conv_nil w
  · refine run_convert_bytes_back w _ _ _ _ _ _ Tryd.underlying42 Tryd.underlying5 Tryd.underlying9 (fun j hj => ?_)
    exact h'.cells (g := g) rfl j _ (by simp [bc, hj])
theorem make_own (B : Nat) (w : World) (c : Nat) (hc : c ≤ 281474976710656) (hB : B ≤ w.heap.size) : ∃ w', (Instr.makeSlice 42 (.int .i64 0) (.int .i64 (c : Int))).run Tryd.prog w = .ok (.slice (some ⟨w.heap.size, 0, none⟩) 0 c) w' ∧ Own B w' (.slice (some ⟨w.heap.size, 0, none⟩) 0 c) [] ∧ Nw w w' := by
  obtain ⟨i0, hi, hz0, hz1, hz2⟩ := info_parts8
  obtain ⟨w', h1, h2, h3⟩ := run_make_own (P := Tryd.prog) w B 42 5 i0 (.int .u8 0) 1 Tryd.underlying42 hi hz0 hz1 .i64 .i64 c (by rw [hz2]; omega) (by unfold maxLen; omega) hB
  exact ⟨w', h1, h2, (Fr.refl _ _).grown h3 (fun k e _ => by cases e)⟩
theorem u8_of (m : Nat) (h : m < 256) : (Value.int .u8 (m : Int)) = .int .u8 ((UInt8.ofNat m).toNat : Nat) := by
  rw [UInt8.toNat_ofNat', Nat.mod_eq_of_lt (by omega)]
/-- Behind an append of one byte. -/
theorem own_put {B : Nat} {W w w1 : World} {v v' : Value} {l : List UInt8} {n : Nat} {c : UInt8} {x : Int} {t : TypeId} (hw : Below B W w) (h : Own B w v l) (hx : x = (c.toNat : Int)) (ho : w1.ownsRow B 5 1 v' n (bc l ++ [.int .u8 x])) (hn : n = l.length + 1) (hg : (w.alloc (.cells #[.int .u8 x] t)).grownBy w1 v.ownBlock) (hB : B ≤ W.heap.size) : Own B w1 v' (l ++ [c]) ∧ Below B W w1 := by
  subst hx hn
  refine ⟨?_, ?_⟩
  · unfold Own
    rw [List.length_append, bc_app]
    exact ho
  · refine ⟨hg.os.trans hw.os, hg.tape.trans hw.tape, hg.output.trans hw.output, ?_, fun k hk => ?_⟩
    · have := hg.size; simp at this; have := hw.size; omega
    · have h1 := hg.block k (by simp; have := hw.size; omega) (fun e => by have := h.lt k e.symm; omega)
      rw [h1, Below.heap_alloc _ _ _ (by have := hw.size; omega)]
      exact hw.block k hk

theorem plain8 : Tryd.prog.plainKey 5 = true := by kernel_rfl
theorem cells5 : Tryd.prog.cellsOf 5 = 1 := by kernel_rfl
theorem infoH : (Tryd.prog.info? 23).map (·.size) = some 32 := by kernel_rfl
theorem eqItems_self (w : World) (A : Array Value) (hA : ∀ i, i < 32 → ∃ x : Int, A[i]? = some (.int .u8 x)) : ∀ (is : List Nat), (∀ i ∈ is, i < 32) → (Op.eqItems 9999 5 1 A A is).run Tryd.prog w = .ok true w
  | [], _ => by simp [Op.eqItems]
  | i :: is, h => by
    obtain ⟨x, hx⟩ := hA i (h i (by simp))
    have hg : A[i * 1]? = some (.int .u8 x) := by rw [Nat.mul_one]; exact hx
    have hp := run_part_plain w plain8 hg
    have ih := eqItems_self w A hA is (fun j hj => h j (by simp [hj]))
    have he : (Op.equalIn 9999 5 (.int .u8 x) (.int .u8 x)).run Tryd.prog w = .ok true w := by
      rw [run_equalIn_int w 9998 5 .u8 .u8 _ _ Tryd.underlying5]; simp
    simp only [Op.eqItems, Sem.run_bind, hp, he, Result.andThen_ok, Bool.not_true, Bool.false_eq_true, if_false, ih]
theorem arr_eq (A : Array Value) (hA : ∀ i, i < 32 → ∃ x : Int, A[i]? = some (.int .u8 x)) (w : World) : (Op.equalIn 10000 23 (.agg A) (.agg A)).run Tryd.prog w = .ok true w := by
  obtain ⟨i0, hi, _⟩ := Option.map_eq_some_iff.1 info8
  rw [run_equalIn_array w 9999 _ _ Tryd.underlying23 hi, cells5]
  exact eqItems_self w A hA _ (fun i hi => List.mem_range.1 hi)
theorem hbs_eq (A : List UInt8) (hA : A.length = 32) (w : World) : (Op.equalIn 10000 23 (.agg (hbs A)) (.agg (hbs A))).run Tryd.prog w = .ok true w :=
  arr_eq _ (fun i hi => ⟨_, hbs_get A i (by omega)⟩) w
/-- A thing loaded whole, guarded or not, yields it wherever its block is as it was. -/
theorem yields_load_g {P : Program} {ops : Array Oper} {S : World → Prop} {o : Oper} {a : Act} (hgd : Region.wanted o (yielded ops a.tmps) = true) (x : Operand) (t : TypeId) (n : Nat) (ho : o.op = .load t x)
    (hagg : ∀ W : World, (isAgg t).run P W = .ok true W) (hsz : ∀ W : World, (sizeOf t).run P W = .ok n W) (g : Nat) (hx : a.eval x = .pointer (some ⟨g, 0, none⟩)) (ty : TypeId)
    (V : Array Value) (hV : V.size = n) (hg : ∀ w, S w → w.heap[g]? = some (.cells V ty (0, 0))) : YieldsIf P ops S o (.agg V) a := by
  refine .inl ⟨hgd, fun w hw => ?_⟩
  have hl : (loadCells ⟨g, 0, none⟩ n).run P w = .ok V w := by
    have := run_loadCells_list (P := P) w ⟨g, 0, none⟩ V.toList (fun j v hv => by
      rw [addZ, cell_of (hg w hw)]
      simpa using hv)
    simpa [hV] using this
  unfold execOp
  simp only [ho, hx, Instr.loadAt, sure, loadVar, Sem.run_bind, Sem.run_pure, hagg, hsz, hl, Result.andThen_ok, if_true]
theorem strs1n {w w' : World} {x : ByteArray} (n : Nw (w.alloc (.cells #[.string x] 9)) w') : Strs w' (some ⟨w.heap.size, 0, none⟩) [x] := (strs1 w x).nw n
theorem strs1d {w w' : World} {x : ByteArray} (n : Nw (w.alloc (.cells #[.string x] 9)).drew w') : Strs w' (some ⟨w.heap.size, 0, none⟩) [x] := (strs1 w x).nw (Nw.tr (Fr.refl _ _).drew n)
/-- A whole block loaded as one aggregate, guarded or not. -/
theorem wp_load_g {P : Program} {w : World} {ops : Array Oper} {rest : List Oper} {o : Oper} {a : Act} {Q : Exit → Act → World → Prop} (hwant : Region.wanted o (yielded ops a.tmps) = true) (x : Operand) (t : TypeId) (n : Nat) (ho : o.op = .load t x)
    (hagg : ∀ W : World, (isAgg t).run P W = .ok true W) (hsz : ∀ W : World, (sizeOf t).run P W = .ok n W) (g off : Nat) (hx : a.eval x = .pointer (some ⟨g, off, none⟩)) (cur : Array Value) (ty : TypeId) (f : Nat × Nat) (hg : w.heap[g]? = some (.cells cur ty f))
    (V : Array Value) (hV : V.size = n) (hc : ∀ j, j < n → cur[off + j]? = V[j]?)
    (h : wpList P ops Q rest (a.put o.dst (.agg V)) w) : wpList P ops Q (o :: rest) a w := by
  refine wpList_step fun K hK => ?_
  rw [if_pos hwant]
  have hl : (loadCells ⟨g, off, none⟩ n).run P w = .ok V w := by
    have := run_loadCells_list (P := P) w ⟨g, off, none⟩ V.toList (fun j v hv => by
      have hj : j < n := by
        have := (List.getElem?_eq_some_iff.1 hv).1
        simpa [hV] using this
      rw [addO, cell_of hg, hc j hj]
      simpa using hv)
    simpa [hV] using this
  unfold Oper.wp execOp
  simp only [ho, hx, Instr.loadAt, sure, loadVar, Sem.run_bind, Sem.run_pure, hagg, hsz, hl, Result.andThen_ok, if_true]
  exact hK _ _ h
end Go.Proofs.YtambfmohhflimabDoor
