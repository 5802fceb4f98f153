/- A statement whose order is drawn, that reads what was there and calls what makes memory of its own: walked once, in the text's order. -/
import Derived.Test.YtaeocbdphfkflaaDoorBpl
import Derived.Test.YtaeocbdphfkflaaDoorSgx
import Derived.Test.YtaeocbdphfkflaaDoorHgx
import Derived.Laws.MakeOwn
import Derived.ChangeKeysEq
namespace Go.Proofs.YtaeocbdphfkflaaDoor
open Go.RowKit
set_option linter.unusedVariables false

/-- A world in which nothing that was there has turned. -/
structure Grw (w : World) where
  val : World
  nw : Nw w val
theorem wp_region_grown {P : Program} {id : Nat} {Q : Exit → Act → World → Prop} {a : Act} {w : World} {l : List Oper} (hm : P.follows .mixedOrders = true) (hB : Region.lexB .any l.toArray = true)
    (h : wpQuiet P l.toArray (fun w' => ∃ x : Grw w, w' = x.val) (fun a' => ∀ w', (∃ x : Grw w, w' = x.val) → Q .normal a' w') l a) : (Code.region id l.toArray true).wp P Q a w :=
  wp_region_quiet (C := fun w' => ∃ x : Grw w, w' = x.val) hm hB ⟨⟨w.drew, (Fr.refl _ _).drew⟩, rfl⟩ (by simpa using h)
theorem grown_call {P : Program} {f : FuncId} {args : Array Value} {w : World} {x : Grw w} {v : Value} (h : Calls P f args x.val fun e w' => e = .returned v ∧ Nw x.val w') :
    Calls P f args x.val fun e w'' => e = .returned v ∧ ∃ y : Grw w, w'' = y.val :=
  h.mono fun _ w' ⟨he, hn⟩ => ⟨he, ⟨w', x.nw.tr hn⟩, rfl⟩
theorem grown_same {P : Program} {f : FuncId} {args : Array Value} {w : World} {x : Grw w} {v : Value} (h : Calls P f args x.val fun e w' => e = .returned v ∧ w' = x.val) :
    Calls P f args x.val fun e w'' => e = .returned v ∧ ∃ y : Grw w, w'' = y.val :=
  h.mono fun _ w' ⟨he, hn⟩ => ⟨he, x, hn⟩
theorem Grw.cell {w : World} (x : Grw w) {p : Addr} {v : Value} (h : w.cell? p = some v) : x.val.cell? p = some v := x.nw.cellOf h
end Go.Proofs.YtaeocbdphfkflaaDoor
namespace Go.Proofs.YtaeocbdphfkflaaDoor
open Go.RowKit
set_option linter.unusedVariables false
set_option linter.unusedSimpArgs false
abbrev zh : List UInt8 := List.replicate 32 0
theorem z32_size : z32.size = 32 := by rfl
theorem step_two {P : Program} {ops : Array Oper} {o : Oper} {a : Act} {w : World} {K : Act → World → Prop} {Q : Exit → Act → World → Prop} {E : Prop}
    (hg : o.guard = none) (s x : Operand) (t : TypeId) (hop : o.op = Op.call { callee := Callee.builtin Builtin.append, args := #[s, x], argTypes := #[t, t] })
    (base : Nat) (e : TypeId) (i : TypeInfo) (z : Value) (size bytes : Nat) (ht : P.underlying t = some (.slice e)) (hi : P.info? e = some i) (hz : i.zero = some z) (hsize : i.size = size) (hby : i.bytes = bytes) (hzs : z.cells.size = size) (hsz : 0 < size)
    (v : Value) (n : Nat) (xs : List Value) (hs : a.eval s = v) (hown : w.ownsRow base e size v n xs)
    (ad : Addr) (m c : Nat) (news : List Value) (hx : a.eval x = .slice (some ad) m c) (hl : news.length = m * size) (hnews : ∀ j u, news[j]? = some u → w.cell? (ad.add j) = some u) (h1 : ∀ u ∈ news, u.oneCell' = true)
    (h63 : n + m ≤ maxLen) (hbytes : (n + m) * bytes ≤ 140737488355328) (hbase : base ≤ w.heap.size)
    (hK : ∀ v' w', w'.ownsRow base e size v' (n + m) (xs ++ news) → Two w w' e size v v' n m (xs ++ news) → K (a.put o.dst v') w') :
    if Region.wanted o (yielded ops a.tmps) = true then Oper.wp P o a w K Q else E := by
  have hw : Region.wanted o (yielded ops a.tmps) = true := by simp [Region.wanted, hg]
  rw [if_pos hw]
  obtain ⟨v', w', hr, h2, h3⟩ := run_two (P := P) w base t o.type e i z size bytes ht hi hz hsize hby hzs hsz v n xs hown ad m c news hl hnews h1 h63 hbytes hbase
  unfold Oper.wp execOp
  simp only [hop, resolve, invoke, builtin, Sem.run_bind, Sem.run_pure, Result.andThen_ok, List.map_toArray, List.map_cons, List.map_nil, hs, hx, hr]
  exact hK v' w' h2 h3
/-- Hashes as cells. -/
def hsc (l : List (List UInt8)) : List Value := l.flatMap bc
theorem hsc_app (l m : List (List UInt8)) : hsc (l ++ m) = hsc l ++ hsc m := by simp [hsc]
theorem hsc_one (h : List UInt8) : hsc [h] = (hbs h).toList := by simp [hsc, hbs]
theorem hsc_len : ∀ (l : List (List UInt8)), (∀ h ∈ l, h.length = 32) → (hsc l).length = l.length * 32
  | [], _ => rfl
  | h :: r, hl => by
    have := hsc_len r (fun x hx => hl x (by simp [hx]))
    have h1 := hl h (by simp)
    simp only [hsc, List.flatMap_cons, List.length_append, bc_len, h1, List.length_cons] at this ⊢
    omega
theorem hsc_get : ∀ (l : List (List UInt8)), (∀ h ∈ l, h.length = 32) → ∀ (k : Nat) (h : List UInt8), l[k]? = some h → ∀ j, j < 32 → (hsc l)[k * 32 + j]? = (bc h)[j]?
  | [], _, k, h, hk, j, hj => by simp at hk
  | x :: r, hl, 0, h, hk, j, hj => by
    simp at hk; subst hk
    have h1 := hl x (by simp)
    simp only [hsc, List.flatMap_cons, Nat.zero_mul, Nat.zero_add]
    rw [List.getElem?_append_left (by rw [bc_len]; omega)]
  | x :: r, hl, k + 1, h, hk, j, hj => by
    have h1 := hl x (by simp)
    have ih := hsc_get r (fun y hy => hl y (by simp [hy])) k h (by simpa using hk) j hj
    simp only [hsc, List.flatMap_cons] at ih ⊢
    rw [List.getElem?_append_right (by rw [bc_len]; omega), bc_len, h1]
    have e : (k + 1) * 32 + j - 32 = k * 32 + j := by omega
    rw [e]; exact ih
theorem fill_fold : ∀ (l : List Value) (k : Nat) (Z : Array Value), Z.size = k + l.length → (l.zipIdx k).foldl (fun (cs : Array Value) (x : Value × Nat) => cs.setIfInBounds (0 + x.2) x.1) Z = (Z.toList.take k ++ l).toArray
  | [], k, Z, h => by
    simp only [List.zipIdx_nil, List.foldl_nil, List.append_nil]
    apply Array.ext'
    simp only [List.length_nil, Nat.add_zero] at h
    rw [List.take_of_length_le (by simp [h])]
  | x :: l, k, Z, h => by
    simp only [List.length_cons] at h
    rw [List.zipIdx_cons, List.foldl_cons, fill_fold l (k + 1) _ (by simp; omega)]
    apply Array.ext'
    simp only [Nat.zero_add, Array.toList_setIfInBounds]
    rw [List.take_add_one, List.take_set_of_le (Nat.le_refl _), List.getElem?_set_self (by simp; omega)]
    simp
theorem infoHs : (Tryd.prog.info? 24).map (fun i => (i.zero, i.size, i.bytes)) = some (some (.agg z32), 32, 32) := by kernel_rfl
theorem build1 (V : Array Value) (hV : V.size = 32) (W : World) : (Instr.buildSlice 25 1 #[(0, .agg V)]).run Tryd.prog W = .ok (.slice (some ⟨W.heap.size, 0, none⟩) 1 1) (W.alloc (.cells V 24)) := by
  obtain ⟨i0, hi, hz0, hz1, hz2⟩ := info_parts infoHs
  have hf : ∀ Z : Array Value, Z.size = 32 → V.zipIdx.foldl (fun (cs : Array Value) (x : Value × Nat) => cs.setIfInBounds (0 + x.2) x.1) Z = V := fun Z hZ => by
    rw [← Array.foldl_toList, Array.toList_zipIdx, fill_fold V.toList 0 Z (by simp; omega)]
    simp
  have hz : ((Array.range 32).map (fun x => z32[x % z32.size]!)).size = 32 := by simp
  have h32 : (Value.agg V).cells.size = 32 := hV
  have := hf _ hz
  simp only [Instr.buildSlice, Sem.run_bind, run_underlying Tryd.underlying25, Tryd.sizeOf24 W, Result.andThen_ok, Sem.run_pure]
  simp [zeroValue, hi, hz0, typeInfo, Instr.fill, Value.cells, hV, z32_size, newRow]
  have hs : V.zipIdx.size = 32 := by simp [hV]
  simp only [Nat.zero_add, z32_size, hs] at this
  rw [this]
/-- A slice literal of one hash that is not written out. -/
theorem wp_build1 {w : World} {ops : Array Oper} {rest : List Oper} {o : Oper} {a : Act} {Q : Exit → Act → World → Prop} (hgd : o.guard = none) (x : Operand) (ho : o.op = .buildSlice 25 1 #[(0, x)]) (V : Array Value) (hx : a.eval x = .agg V) (hV : V.size = 32)
    (h : wpList Tryd.prog ops Q rest (a.put o.dst (.slice (some ⟨w.heap.size, 0, none⟩) 1 1)) (w.alloc (.cells V 24))) : wpList Tryd.prog ops Q (o :: rest) a w := by
  refine wpList_plain hgd fun K hK => ?_
  unfold Oper.wp execOp
  simp only [ho, Sem.run_bind, Sem.run_pure, Result.andThen_ok, List.map_toArray, List.map_cons, List.map_nil, hx, build1 V hV]
  exact hK _ _ h
theorem hash_new (w : World) (V : Array Value) (t : TypeId) : ∀ j u, V.toList[j]? = some u → (w.alloc (.cells V t)).cell? ((⟨w.heap.size, 0, none⟩ : Addr).add j) = some u := by
  intro j u h
  rw [addZ, cell_of (heap_new w _)]
  simpa using h
theorem info8 : (Tryd.prog.info? 5).map (fun i => (i.zero, i.size, i.bytes)) = some (some (.int .u8 0), 1, 1) := by kernel_rfl
theorem plain8 : Tryd.prog.plainKey 5 = true := by kernel_rfl
theorem cells5 : Tryd.prog.cellsOf 5 = 1 := by kernel_rfl
theorem eqItems_self (w : World) (A : Array Value) (hA : ∀ i, i < 32 → ∃ x : Int, A[i]? = some (.int .u8 x)) : ∀ (is : List Nat), (∀ i ∈ is, i < 32) → (Op.eqItems 9999 5 1 A A is).run Tryd.prog w = .ok true w
  | [], _ => by simp [Op.eqItems]
  | i :: is, h => by
    obtain ⟨x, hx⟩ := hA i (h i (by simp))
    have hg : A[i * 1]? = some (.int .u8 x) := by rw [Nat.mul_one]; exact hx
    have hp := run_part_plain w plain8 hg
    have ih := eqItems_self w A hA is (fun j hj => h j (by simp [hj]))
    have he : (Op.equalIn 9999 5 (.int .u8 x) (.int .u8 x)).run Tryd.prog w = .ok true w := by
      rw [run_equalIn_int w 9998 5 .u8 .u8 _ _ Tryd.underlying5]; simp
    simp only [Op.eqItems, Sem.run_bind, hp, he, Result.andThen_ok, Bool.not_true, Bool.false_eq_true, if_false, ih]
theorem arr_eq (A : Array Value) (hA : ∀ i, i < 32 → ∃ x : Int, A[i]? = some (.int .u8 x)) (w : World) : (Op.equalIn 10000 24 (.agg A) (.agg A)).run Tryd.prog w = .ok true w := by
  obtain ⟨i0, hi, _⟩ := Option.map_eq_some_iff.1 info8
  rw [run_equalIn_array w 9999 _ _ Tryd.underlying24 hi, cells5]
  exact eqItems_self w A hA _ (fun i hi => List.mem_range.1 hi)
theorem hbs_eq (A : List UInt8) (hA : A.length = 32) (w : World) : (Op.equalIn 10000 24 (.agg (hbs A)) (.agg (hbs A))).run Tryd.prog w = .ok true w :=
  arr_eq _ (fun i hi => ⟨_, hbs_get A i (by omega)⟩) w
theorem hbs_eql (A : List UInt8) (hA : A.length = 32) (w : World) : (binOp .eql 24 (.agg (hbs A)) (.agg (hbs A))).run Tryd.prog w = .ok (.bool true) w := by
  simp only [binOp]
  simp [Op.equal, Op.maxDepth, hbs_eq A hA w]
theorem hbs_neq (A : List UInt8) (hA : A.length = 32) (w : World) : (binOp .neq 24 (.agg (hbs A)) (.agg (hbs A))).run Tryd.prog w = .ok (.bool false) w := by
  simp only [binOp]
  simp [Op.equal, Op.maxDepth, hbs_eq A hA w]

section
variable {w : World} {o : Oper} {a : Act} {K : Act → Prop}
theorem noGuard : Tryd.prog.eqGuardType Tryd.prog.depth 24 = false := by kernel_rfl
theorem run_eqGuard (op : BinOp) (x y : Operand) (A B : Array Value) (W : World) : (eqGuard op 24 x y (.agg A) (.agg B)).run Tryd.prog W = .ok () W := run_eqGuard_agg W op 24 x y A B noGuard
/-- One value, whatever the world. -/
theorem quiet_val {C : World → Prop} (v : Value) (h : ∀ W, (execOp a.eval o).run Tryd.prog W = .ok (.value v) W) (hk : K (a.put o.dst v)) : o.quiet Tryd.prog a C K :=
  ⟨v, fun w _ => by unfold Oper.quietAt; rw [h w]; exact ⟨rfl, rfl⟩, hk⟩
/-- A hash loaded whole. -/
theorem quiet_load (x : Operand) (ho : o.op = .load 24 x) (g off : Nat) (hx : a.eval x = .pointer (some ⟨g, off, none⟩)) (A : List UInt8) (hA : A.length = 32) (hc : ∀ j, j < 32 → w.cell? ⟨g, off + j, none⟩ = (hbs A)[j]?) (hk : K (a.put o.dst (.agg (hbs A)))) : o.quiet Tryd.prog a (fun w' => ∃ x : Grw w, w' = x.val) K := by
  refine ⟨.agg (hbs A), ?_, hk⟩
  rintro W ⟨y, rfl⟩
  have hl : (loadCells ⟨g, off, none⟩ 32).run Tryd.prog y.val = .ok (hbs A) y.val := by
    have := run_loadCells_list (P := Tryd.prog) y.val ⟨g, off, none⟩ (hbs A).toList (fun j v hv => by
      have hj : j < 32 := by
        have := (List.getElem?_eq_some_iff.1 hv).1
        simpa [hbs_size, hA] using this
      rw [addO]
      exact y.cell ((hc j hj).trans (by simpa using hv)))
    simpa [hbs_size, hA] using this
  unfold Oper.quietAt execOp
  simp only [ho, hx, Instr.loadAt, sure, loadVar, Sem.run_bind, Sem.run_pure, Tryd.isAgg24, Tryd.sizeOf24, hl, Result.andThen_ok, if_true]
  exact ⟨rfl, rfl⟩
theorem quiet_eql (x y : Operand) (ho : o.op = .binOp .eql 24 x y 24) (A : List UInt8) (hA : A.length = 32) (hx : a.eval x = .agg (hbs A)) (hy : a.eval y = .agg (hbs A)) {C : World → Prop} (hk : K (a.put o.dst (.bool true))) : o.quiet Tryd.prog a C K := by
  refine quiet_val (.bool true) (fun W => ?_) hk
  unfold execOp
  simp only [ho, hx, hy, run_eqGuard, hbs_eql A hA W, Sem.run_bind, Sem.run_pure, Result.andThen_ok]
theorem quiet_neq (x y : Operand) (ho : o.op = .binOp .neq 24 x y 24) (A : List UInt8) (hA : A.length = 32) (hx : a.eval x = .agg (hbs A)) (hy : a.eval y = .agg (hbs A)) {C : World → Prop} (hk : K (a.put o.dst (.bool false))) : o.quiet Tryd.prog a C K := by
  refine quiet_val (.bool false) (fun W => ?_) hk
  unfold execOp
  simp only [ho, hx, hy, run_eqGuard, hbs_neq A hA W, Sem.run_bind, Sem.run_pure, Result.andThen_ok]
end
theorem build_zero (W : World) : (Instr.build 24 #[]).run Tryd.prog W = .ok (.agg (hbs zh)) W := by
  rw [show zh = List.replicate 32 0 from rfl, ← z32_hbs]; kernel_rfl
section
variable {w : World} {ops : Array Oper} {rest : List Oper} {o : Oper} {a : Act} {Q : Exit → Act → World → Prop}
/-- The same laws where the order is the text's. -/
theorem wpl_load (hwant : Region.wanted o (yielded ops a.tmps) = true) (x : Operand) (ho : o.op = .load 24 x) (g off : Nat) (hx : a.eval x = .pointer (some ⟨g, off, none⟩)) (A : List UInt8) (hA : A.length = 32) (hc : ∀ j, j < 32 → w.cell? ⟨g, off + j, none⟩ = (hbs A)[j]?)
    (h : wpList Tryd.prog ops Q rest (a.put o.dst (.agg (hbs A))) w) : wpList Tryd.prog ops Q (o :: rest) a w := by
  refine wpList_step fun K hK => ?_
  rw [if_pos hwant]
  have hl : (loadCells ⟨g, off, none⟩ 32).run Tryd.prog w = .ok (hbs A) w := by
    have := run_loadCells_list (P := Tryd.prog) w ⟨g, off, none⟩ (hbs A).toList (fun j v hv => by
      have hj : j < 32 := by
        have := (List.getElem?_eq_some_iff.1 hv).1
        simpa [hbs_size, hA] using this
      rw [addO, hc j hj]
      simpa using hv)
    simpa [hbs_size, hA] using this
  unfold Oper.wp execOp
  simp only [ho, hx, Instr.loadAt, sure, loadVar, Sem.run_bind, Sem.run_pure, Tryd.isAgg24, Tryd.sizeOf24, hl, Result.andThen_ok, if_true]
  exact hK _ _ h
theorem wpl_eql (hwant : Region.wanted o (yielded ops a.tmps) = true) (x y : Operand) (ho : o.op = .binOp .eql 24 x y 24) (A : List UInt8) (hA : A.length = 32) (hx : a.eval x = .agg (hbs A)) (hy : a.eval y = .agg (hbs A))
    (h : wpList Tryd.prog ops Q rest (a.put o.dst (.bool true)) w) : wpList Tryd.prog ops Q (o :: rest) a w := by
  refine wpList_step fun K hK => ?_
  rw [if_pos hwant]
  unfold Oper.wp execOp
  simp only [ho, hx, hy, run_eqGuard, hbs_eql A hA w, Sem.run_bind, Sem.run_pure, Result.andThen_ok]
  exact hK _ _ h
theorem wpl_zero (hwant : Region.wanted o (yielded ops a.tmps) = true) (ho : o.op = .build 24 #[])
    (h : wpList Tryd.prog ops Q rest (a.put o.dst (.agg (hbs zh))) w) : wpList Tryd.prog ops Q (o :: rest) a w := by
  refine wpList_step fun K hK => ?_
  rw [if_pos hwant]
  unfold Oper.wp execOp
  simp only [ho, Sem.run_bind, Sem.run_pure, Result.andThen_ok, List.map_toArray, List.map_nil, build_zero w]
  exact hK _ _ h
end
theorem grw_call {w0 w : World} {f : FuncId} {args : Array Value} {v : Value} (h : ∀ W, Nw w0 W → Calls Tryd.prog f args W fun e w' => e = .returned v ∧ Nw W w') (n : Nw w0 w) (x : Grw w) : Calls Tryd.prog f args x.val fun e w'' => e = .returned v ∧ ∃ y : Grw w, w'' = y.val := grown_call (h _ (n.tr x.nw))
theorem hash_cells {w : World} {b : Nat} {A : List UInt8} {t : TypeId} {f : Nat × Nat} (h : w.heap[b]? = some (.cells (hbs A) t f)) : ∀ j, j < 32 → w.cell? ⟨b, 0 + j, none⟩ = (hbs A)[j]? := fun j _ => by rw [Nat.zero_add, cell_of h]
/-- A row of hashes in memory. -/
def Hss (w : World) (v : Value) (l : List (List UInt8)) : Prop :=
  ∃ ad cap, v = .slice ad l.length cap ∧ ∀ k h, l[k]? = some h → ∃ g off, ad = some ⟨g, off, none⟩ ∧ ∀ j, j < 32 → w.cell? ⟨g, off + k * 32 + j, none⟩ = (hbs h)[j]?
theorem Hss.nw {w w' : World} {v : Value} {l : List (List UInt8)} (h : Hss w v l) (hl : ∀ x ∈ l, x.length = 32) (n : Nw w w') : Hss w' v l := by
  obtain ⟨ad, cap, rfl, h⟩ := h
  refine ⟨ad, cap, rfl, fun k t ht => ?_⟩
  obtain ⟨g, off, rfl, h1⟩ := h k t ht
  refine ⟨g, off, rfl, fun j hj => ?_⟩
  have h2 := h1 j hj
  have h3 : (hbs t)[j]? = some (.int .u8 ((t.getD j 0).toNat : Nat)) := hbs_get t j (by rw [hl t (List.mem_of_getElem? ht)]; exact hj)
  rw [h3] at h2 ⊢
  exact n.cellOf h2
theorem Hss.of {w : World} {base : Nat} {v : Value} {l : List (List UInt8)} (hl : ∀ x ∈ l, x.length = 32) (h : w.ownsRow base 24 32 v l.length (hsc l)) : Hss w v l := by
  rcases h.2 with ⟨rfl, hn⟩ | ⟨g, cap, cur, rfl, _⟩
  · have : l = [] := List.length_eq_zero_iff.1 hn
    subst this
    exact ⟨none, 0, rfl, fun k t ht => by simp at ht⟩
  · refine ⟨_, _, rfl, fun k t ht => ⟨g, 0, rfl, fun j hj => ?_⟩⟩
    have h3 : (hbs t)[j]? = some (.int .u8 ((t.getD j 0).toNat : Nat)) := hbs_get t j (by rw [hl t (List.mem_of_getElem? ht)]; exact hj)
    have h4 := hsc_get l hl k t ht j hj
    have h5 : (bc t)[j]? = (hbs t)[j]? := by simp [hbs]
    have := h.cells (g := g) rfl (k * 32 + j) _ (by rw [h4, h5, h3])
    rw [addZ] at this
    rw [Nat.zero_add, this, h3]
theorem Hss.nil (w : World) : Hss w (.slice none 0 0) [] := ⟨none, 0, rfl, fun k t ht => by simp at ht⟩
theorem Hss.form {w : World} {v : Value} {l : List (List UInt8)} (h : Hss w v l) : ∃ ad cap, v = .slice ad l.length cap := by obtain ⟨ad, cap, rfl, _⟩ := h; exact ⟨ad, cap, rfl⟩
set_option maxRecDepth 100000 in
set_option maxHeartbeats 2000000 in
theorem sameh_yes (u v : Value) (l : List (List UInt8)) (hl32 : ∀ x ∈ l, x.length = 32) (w : World) (hu : Hss w u l) (hv : Hss w v l) (hl : l.length < 4611686018427387904) :
    Calls Tryd.prog 26 #[u, v] w fun e w' => e = .returned (.bool true) ∧ Nw w w' := by
  obtain ⟨ad, ca, rfl, hu⟩ := hu
  obtain ⟨bd, cb, rfl, hv⟩ := hv
  have HU : Hid (∀ k h, l[k]? = some h → ∃ g off, ad = some ⟨g, off, none⟩ ∧ ∀ j, j < 32 → w.cell? ⟨g, off + k * 32 + j, none⟩ = (hbs h)[j]?) := hu
  have HV : Hid (∀ k h, l[k]? = some h → ∃ g off, bd = some ⟨g, off, none⟩ ∧ ∀ j, j < 32 → w.cell? ⟨g, off + k * 32 + j, none⟩ = (hbs h)[j]?) := hv
  have H32 : Hid (∀ x ∈ l, x.length = 32) := hl32
  clear hu hv hl32
  obtain ⟨n, hn⟩ : ∃ n, n = l.length := ⟨_, rfl⟩
  have HN : Hid (n = l.length) := hn
  rw [← hn] at hl ⊢
  clear hn
  go_enter Tryd.func26, Tryd.ntmps26
  go_wp2
  go_loopw [5] (fun i wr => ∃ k : Nat, k ≤ n ∧ i = .int .i64 k ∧ Nw w wr) (fun i _ => n - (intOf i).toNat)
  case atStart => exact ⟨0, by omega, rfl, nwr w⟩
  case round =>
    obtain ⟨k, hk, rfl, hnw⟩ := hrel
    by_cases hlt : k < n
    · obtain ⟨t, ht⟩ : ∃ t, l[k]? = some t := ⟨_, List.getElem?_eq_getElem (by rw [← HN.out]; exact hlt)⟩
      obtain ⟨g, off, rfl, g1⟩ := HU.out k t ht
      obtain ⟨p, off2, rfl, p1⟩ := HV.out k t ht
      have t32 := H32.out t (List.mem_of_getElem? ht)
      have G1 : Hid (∀ j, j < 32 → wr.cell? ⟨g, off + k * 32 + j, none⟩ = (hbs t)[j]?) := fun j hj => by
        have h2 := g1 j hj
        rw [hbs_get t j (by omega)] at h2 ⊢
        exact hnw.cellOf h2
      have P1 : Hid (∀ j, j < 32 → wr.cell? ⟨p, off2 + k * 32 + j, none⟩ = (hbs t)[j]?) := fun j hj => by
        have h2 := p1 j hj
        rw [hbs_get t j (by omega)] at h2 ⊢
        exact hnw.cellOf h2
      have HW : Hid (Nw w wr) := hnw
      have T32 : Hid (t.length = 32) := t32
      clear g1 p1 ht hnw t32
      have hki : (k : Int) < (n : Int) := by omega
      go_wp2_with fail
      refine wp_region_grown (by kernel_rfl) (by kernel_rfl) ?_
      repeat (first
        | go_big_quiet_skip
        | (go_big_quiet_want; first
            | (refine quiet_load (.tmp 19) rfl g (off + k * 32) rfl t T32.out G1.out ?_; (try simp only [Act.put, List.setIfInBounds_toArray, List.set_cons_zero, List.set_cons_succ]); go_big_quiet_on)
            | (refine quiet_load (.tmp 23) rfl p (off2 + k * 32) rfl t T32.out P1.out ?_; (try simp only [Act.put, List.setIfInBounds_toArray, List.set_cons_zero, List.set_cons_succ]); go_big_quiet_on)
            | (refine quiet_neq (.tmp 20) (.tmp 24) rfl t T32.out rfl rfl ?_; (try simp only [Act.put, List.setIfInBounds_toArray, List.set_cons_zero, List.set_cons_succ]); go_big_quiet_on)
            | (go_big_quiet_op; first | go_big_quiet_on | go_big_quiet_call (rfl))))
      refine wpQuiet_nil ?_
      rintro _ ⟨⟨W, nW⟩, rfl⟩
      go_wp2
      exact ⟨⟨k + 1, by omega, by go_num, HW.out.tr nW⟩, by simp [intOf]; omega⟩
    · obtain rfl : k = n := by omega
      go_wp2
      go_ret
      exact ⟨rfl, hnw⟩
end Go.Proofs.YtaeocbdphfkflaaDoor
