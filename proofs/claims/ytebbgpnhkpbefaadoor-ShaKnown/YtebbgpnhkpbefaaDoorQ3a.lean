/- Pieces of bytes; lists of texts of a call's own. -/
import Derived.Test.YtebbgpnhkpbefaaDoorP11
import Derived.Laws.AppendOwn
import Derived.Lib.AppendStr
namespace Go.Proofs.YtebbgpnhkpbefaaDoor
open Go.RowKit
set_option linter.unusedVariables false
set_option linter.unusedSimpArgs false

/-- Where a piece from l on begins. -/
def pcut (p : Option Addr) (l cap : Nat) : Option Addr := if cap = l then p else p.map fun a => a.add (l * 1)
theorem elemB : Tryd.prog.elem 53 = 5 := by kernel_rfl
theorem undB : Tryd.prog.underlying 53 = some (.slice (Tryd.prog.elem 53)) := by rw [elemB]; exact Tryd.underlying53
theorem slice_lh (p : Option Addr) (n cap f t : Nat) (h1 : f ≤ t) (h2 : t ≤ cap) (W : World) : (Instr.sliceAt 53 (.slice p n cap) (some (.int .i64 (f : Int))) (some (.int .i64 (t : Int))) none).run Tryd.prog W = .ok (.slice (pcut p f cap) (t - f) (cap - f)) W := by
  rw [run_sliceAt_slice W _ _ _ _ _ undB, run_slice_lh W _ p n cap undB .i64 .i64 f t (by omega) (by omega) (by omega), elemB, Tryd.sizeOf5 W]
  simp [sliced, pcut]
theorem slice_h (p : Option Addr) (n cap t : Nat) (h2 : t ≤ cap) (W : World) : (Instr.sliceAt 53 (.slice p n cap) none (some (.int .i64 (t : Int))) none).run Tryd.prog W = .ok (.slice (pcut p 0 cap) t cap) W := by
  rw [run_sliceAt_slice W _ _ _ _ _ undB, run_slice_h W _ p n cap undB .i64 t (by omega) (by omega), elemB, Tryd.sizeOf5 W]
  simp [sliced, pcut]
theorem bys_cut {W : World} {p : Option Addr} {B : List UInt8} (h : Bys W p B) (f t cap : Nat) (h1 : f ≤ t) (h2 : t ≤ B.length) (h3 : B.length ≤ cap) : Bys W (pcut p f cap) ((B.drop f).take (t - f)) := fun j hj => by
  have hl : ((B.drop f).take (t - f)).length = t - f := by rw [List.length_take, List.length_drop]; omega
  rw [hl] at hj
  obtain ⟨g, o, rfl, hc⟩ := h (f + j) (by omega)
  refine ⟨g, o + f, ?_, ?_⟩
  · unfold pcut
    rw [if_neg (by omega)]
    simp [addO]
  · have e : ((B.drop f).take (t - f)).getD j 0 = B.getD (f + j) 0 := by
      rw [List.getD_eq_getElem?_getD, List.getElem?_take, if_pos hj, List.getElem?_drop, List.getD_eq_getElem?_getD]
    rw [e, show o + f + j = o + (f + j) by omega]
    exact hc
theorem cut_len (B : List UInt8) (f t : Nat) (h1 : f ≤ t) (h2 : t ≤ B.length) : ((B.drop f).take (t - f)).length = t - f := by rw [List.length_take, List.length_drop]; omega
theorem take_cut (B : List UInt8) (f t : Nat) (h1 : f ≤ t) : B.take f ++ (B.drop f).take (t - f) = B.take t := by
  rw [← List.take_add]
  congr 1
  omega
theorem infoS : (Tryd.prog.info? 9).map (fun i => (i.zero, i.size, i.bytes)) = some (some (.string ⟨#[]⟩), 1, 16) := by kernel_rfl
theorem info_partsS : ∃ i, Tryd.prog.info? 9 = some i ∧ i.zero = some (.string ⟨#[]⟩) ∧ i.size = 1 ∧ i.bytes = 16 := by
  obtain ⟨i, hi, he⟩ := Option.map_eq_some_iff.1 infoS
  simp only [Prod.mk.injEq] at he
  exact ⟨i, hi, he.1, he.2.1, he.2.2⟩
/-- A list of texts of the call's own. -/
abbrev OwnS (B : Nat) (w : World) (v : Value) (ls : List ByteArray) : Prop := w.ownsRow B 9 1 v ls.length (ls.map Value.string)
theorem ownsRow_form {w : World} {base : Nat} {e : TypeId} {size : Nat} {v : Value} {n : Nat} {xs : List Value} (h : w.ownsRow base e size v n xs) : ∃ a c, v = .slice a n c := by
  rcases h.2 with ⟨rfl, rfl⟩ | ⟨g, cap, cur, rfl, _⟩
  · exact ⟨_, _, rfl⟩
  · exact ⟨_, _, rfl⟩
theorem one_new (w : World) (x : Value) (t : TypeId) : ∀ j u, [x][j]? = some u → (w.alloc (.cells #[x] t)).cell? ((⟨w.heap.size, 0, none⟩ : Addr).add j) = some u := by
  intro j u hj
  match j, hj with
  | 0, hj => simp at hj; subst hj; simp [Addr.add]
theorem OwnS.fr {B d : Nat} {w w' : World} {v : Value} {ls : List ByteArray} (h : OwnS B w v ls) (f : Fr (fun k => k = d) w w') (hd : d < B) : OwnS B w' v ls := by
  refine ownsRow_keep h (fun g hg => ?_)
  have hlt := h.lt g hg
  rcases h.2 with ⟨rfl, _⟩ | ⟨g', cap, cur, rfl, hb, hh, _⟩
  · simp [Value.ownBlock] at hg
  · simp [Value.ownBlock] at hg
    subst hg
    exact f.block _ (heap_lt hh) (by omega)
theorem OwnS.nw {B : Nat} {w w' : World} {v : Value} {ls : List ByteArray} (h : OwnS B w v ls) (f : Nw w w') : OwnS B w' v ls := by
  refine ownsRow_keep h (fun g hg => ?_)
  rcases h.2 with ⟨rfl, _⟩ | ⟨g', cap, cur, rfl, hb, hh, _⟩
  · simp [Value.ownBlock] at hg
  · simp [Value.ownBlock] at hg
    subst hg
    exact f.block _ (heap_lt hh) (fun q => q)
theorem OwnS.strs {B : Nat} {w : World} {a : Option Addr} {c : Nat} {ls : List ByteArray} (h : OwnS B w (.slice a ls.length c) ls) : Strs w a ls := fun j x hx => by
  have hj : j < ls.length := (List.getElem?_eq_some_iff.1 hx).1
  rcases h.2 with ⟨he, hn⟩ | ⟨g', cap, cur, he, hb, hh, _⟩
  · omega
  · cases he
    refine ⟨g', 0, rfl, ?_⟩
    have := h.cells (g := g') rfl j (.string x) (by rw [List.getElem?_map, hx]; rfl)
    rw [addZ] at this
    rw [Nat.zero_add]
    exact this
theorem own_putS {B : Nat} {w w1 : World} {v v' : Value} {ls : List ByteArray} {n : Nat} {c : ByteArray} {t : TypeId} (h : OwnS B w v ls) (ho : w1.ownsRow B 9 1 v' n (ls.map Value.string ++ [.string c])) (hn : n = ls.length + 1) (hg : (w.alloc (.cells #[.string c] t)).grownBy w1 v.ownBlock) (hB : B ≤ w.heap.size) : OwnS B w1 v' (ls ++ [c]) ∧ Below B w w1 := by
  subst hn
  refine ⟨?_, ?_⟩
  · unfold OwnS
    rw [List.length_append, List.map_append]
    exact ho
  · refine ⟨hg.os, hg.tape, hg.output, ?_, fun k hk => ?_⟩
    · have := hg.size; simp at this; omega
    · rw [hg.block k (by simp; omega) (fun e => by have := h.lt k e.symm; omega), Below.heap_alloc _ _ _ (by omega)]
theorem cat_push (ls : List ByteArray) (x : ByteArray) : cat (ls ++ [x]) = cat ls ++ x.data.toList := by simp [cat]
theorem two_ints (w : World) (n m : Nat) : Ints (w.alloc (.cells #[.int .i64 (n : Int), .int .i64 (m : Int)] 3)) (some ⟨w.heap.size, 0, none⟩) [n, m] := fun j hj => by
  refine ⟨_, _, rfl, (cell_of (heap_new w _) _).trans ?_⟩
  match j, hj with
  | 0, _ => rfl
  | 1, _ => rfl
theorem getD_two (n m : Nat) (h : n < 4611686018427387904) (h1 : m < 4611686018427387904) : ∀ j, [n, m].getD j 0 < 4611686018427387904 := fun j => by
  match j with
  | 0 => exact h
  | 1 => exact h1
  | j + 2 => simp
theorem strs1 (w : World) (a : ByteArray) : Strs (w.alloc (.cells #[.string a] 9)) (some ⟨w.heap.size, 0, none⟩) [a] := fun j x hx => by
  match j, hx with
  | 0, hx => cases hx; exact ⟨_, _, rfl, cell_of (heap_new w _) 0⟩
theorem below_fr {B : Nat} {w w' : World} (h : Below B w w') : Fr (fun k => B ≤ k) w w' := ⟨h.os, h.tape, h.output, h.size, fun k hk hn => h.block k (by omega)⟩
/-- Twice handed: a twin, and written. -/
theorem write_twin (d : Nat) (L M : List UInt8) (w w0 : World) (hD : Dig w0 d L) (hL : Laid w0) (hd : 19 ≤ d) (n0 : Nw w0 w) (hj : w.heap[w0.heap.size]? = some (.cells (rcs (M ++ [128]) (M.length + 1)) 5 (0, 0))) (hlen : L.length + M.length < 4611686018427387904) :
    Calls Tryd.prog 19 #[.pointer (some ⟨d, 0, none⟩), .slice (some ⟨w0.heap.size, 0, none⟩) M.length (M.length + 1)] w fun e w' => e = .returned (.tuple #[]) ∧ Dig w' d (L ++ M) ∧ Fr (fun k => k = d) w0 w' := by
  have q := write_dig d L _ ⟨M.toArray⟩ w (hD.keep n0 (fun f => f)) (hL.nw n0) hd (conv_bys (twin_bys hj) (M.length + 1)) (by show L.length + M.toArray.size < _; simpa using hlen)
  exact q.mono fun e w' ⟨h1, h2, h3⟩ => ⟨h1, h2, (n0.mono (fun _ _ f => f.elim)).trans h3 (fun _ _ q => q)⟩

/-- A thing loaded whole, guarded or not, yields it wherever its block is as it was. -/
theorem yields_load_g {P : Program} {ops : Array Oper} {S : World → Prop} {o : Oper} {a : Act} (hgd : Region.wanted o (yielded ops a.tmps) = true) (x : Operand) (t : TypeId) (n : Nat) (ho : o.op = .load t x)
    (hagg : ∀ W : World, (isAgg t).run P W = .ok true W) (hsz : ∀ W : World, (sizeOf t).run P W = .ok n W) (g : Nat) (hx : a.eval x = .pointer (some ⟨g, 0, none⟩)) (ty : TypeId)
    (V : Array Value) (hV : V.size = n) (hg : ∀ w, S w → w.heap[g]? = some (.cells V ty (0, 0))) : YieldsIf P ops S o (.agg V) a := by
  refine .inl ⟨hgd, fun w hw => ?_⟩
  have hl : (loadCells ⟨g, 0, none⟩ n).run P w = .ok V w := by
    have := run_loadCells_list (P := P) w ⟨g, 0, none⟩ V.toList (fun j v hv => by
      rw [addZ, cell_of (hg w hw)]
      simpa using hv)
    simpa [hV] using this
  unfold execOp
  simp only [ho, hx, Instr.loadAt, sure, loadVar, Sem.run_bind, Sem.run_pure, hagg, hsz, hl, Result.andThen_ok, if_true]
theorem strs1n {w w' : World} {x : ByteArray} (n : Nw (w.alloc (.cells #[.string x] 9)) w') : Strs w' (some ⟨w.heap.size, 0, none⟩) [x] := (strs1 w x).nw n
theorem strs1d {w w' : World} {x : ByteArray} (n : Nw (w.alloc (.cells #[.string x] 9)).drew w') : Strs w' (some ⟨w.heap.size, 0, none⟩) [x] := (strs1 w x).nw (Nw.tr (Fr.refl _ _).drew n)
end Go.Proofs.YtebbgpnhkpbefaaDoor
