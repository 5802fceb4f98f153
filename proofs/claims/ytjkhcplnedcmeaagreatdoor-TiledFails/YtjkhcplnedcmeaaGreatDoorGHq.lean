/- A statement whose order is drawn, that reads what was there and calls what makes memory of its own: walked once, in the text's order. -/
import Derived.Test.YtjkhcplnedcmeaaGreatDoorBpl
import Derived.Test.YtjkhcplnedcmeaaGreatDoorLg1
import Derived.ChangeKeysEq
namespace Go.Proofs.YtjkhcplnedcmeaaGreatDoor
open Go.RowKit
set_option linter.unusedVariables false

/-- A world in which nothing that was there has turned. -/
structure Grw (w : World) where
  val : World
  nw : Nw w val
theorem wp_region_grown {P : Program} {id : Nat} {Q : Exit → Act → World → Prop} {a : Act} {w : World} {l : List Oper} (hm : P.follows .mixedOrders = true) (hB : Region.lexB .any l.toArray = true)
    (h : wpQuiet P l.toArray (fun w' => ∃ x : Grw w, w' = x.val) (fun a' => ∀ w', (∃ x : Grw w, w' = x.val) → Q .normal a' w') l a) : (Code.region id l.toArray true).wp P Q a w :=
  wp_region_quiet (C := fun w' => ∃ x : Grw w, w' = x.val) hm hB ⟨⟨w.drew, (Fr.refl _ _).drew⟩, rfl⟩ (by simpa using h)
theorem grown_call {P : Program} {f : FuncId} {args : Array Value} {w : World} {x : Grw w} {v : Value} (h : Calls P f args x.val fun e w' => e = .returned v ∧ Nw x.val w') :
    Calls P f args x.val fun e w'' => e = .returned v ∧ ∃ y : Grw w, w'' = y.val :=
  h.mono fun _ w' ⟨he, hn⟩ => ⟨he, ⟨w', x.nw.tr hn⟩, rfl⟩
theorem Grw.cell {w : World} (x : Grw w) {p : Addr} {v : Value} (h : w.cell? p = some v) : x.val.cell? p = some v := x.nw.cellOf h
end Go.Proofs.YtjkhcplnedcmeaaGreatDoor
namespace Go.Proofs.YtjkhcplnedcmeaaGreatDoor
open Go.RowKit
set_option linter.unusedVariables false
set_option linter.unusedSimpArgs false

theorem info8 : (Tryz.prog.info? 5).map (fun i => (i.zero, i.size, i.bytes)) = some (some (.int .u8 0), 1, 1) := by kernel_rfl
theorem plain8 : Tryz.prog.plainKey 5 = true := by kernel_rfl
theorem cells5 : Tryz.prog.cellsOf 5 = 1 := by kernel_rfl
theorem eqItems_self (w : World) (A : Array Value) (hA : ∀ i, i < 32 → ∃ x : Int, A[i]? = some (.int .u8 x)) : ∀ (is : List Nat), (∀ i ∈ is, i < 32) → (Op.eqItems 9999 5 1 A A is).run Tryz.prog w = .ok true w
  | [], _ => by simp [Op.eqItems]
  | i :: is, h => by
    obtain ⟨x, hx⟩ := hA i (h i (by simp))
    have hg : A[i * 1]? = some (.int .u8 x) := by rw [Nat.mul_one]; exact hx
    have hp := run_part_plain w plain8 hg
    have ih := eqItems_self w A hA is (fun j hj => h j (by simp [hj]))
    have he : (Op.equalIn 9999 5 (.int .u8 x) (.int .u8 x)).run Tryz.prog w = .ok true w := by
      rw [run_equalIn_int w 9998 5 .u8 .u8 _ _ Tryz.underlying5]; simp
    simp only [Op.eqItems, Sem.run_bind, hp, he, Result.andThen_ok, Bool.not_true, Bool.false_eq_true, if_false, ih]
theorem arr_eq (A : Array Value) (hA : ∀ i, i < 32 → ∃ x : Int, A[i]? = some (.int .u8 x)) (w : World) : (Op.equalIn 10000 69 (.agg A) (.agg A)).run Tryz.prog w = .ok true w := by
  obtain ⟨i0, hi, _⟩ := Option.map_eq_some_iff.1 info8
  rw [run_equalIn_array w 9999 _ _ Tryz.underlying69 hi, cells5]
  exact eqItems_self w A hA _ (fun i hi => List.mem_range.1 hi)
theorem hbs_eq (A : List UInt8) (hA : A.length = 32) (w : World) : (Op.equalIn 10000 69 (.agg (hbs A)) (.agg (hbs A))).run Tryz.prog w = .ok true w :=
  arr_eq _ (fun i hi => ⟨_, hbs_get A i (by omega)⟩) w
theorem hbs_eql (A : List UInt8) (hA : A.length = 32) (w : World) : (binOp .eql 69 (.agg (hbs A)) (.agg (hbs A))).run Tryz.prog w = .ok (.bool true) w := by
  simp only [binOp]
  simp [Op.equal, Op.maxDepth, hbs_eq A hA w]
theorem hbs_neq (A : List UInt8) (hA : A.length = 32) (w : World) : (binOp .neq 69 (.agg (hbs A)) (.agg (hbs A))).run Tryz.prog w = .ok (.bool false) w := by
  simp only [binOp]
  simp [Op.equal, Op.maxDepth, hbs_eq A hA w]

section
variable {w : World} {o : Oper} {a : Act} {K : Act → Prop}
theorem noGuard : Tryz.prog.eqGuardType Tryz.prog.depth 69 = false := by kernel_rfl
theorem run_eqGuard (op : BinOp) (x y : Operand) (A B : Array Value) (W : World) : (eqGuard op 69 x y (.agg A) (.agg B)).run Tryz.prog W = .ok () W := run_eqGuard_agg W op 69 x y A B noGuard
/-- One value, whatever the world. -/
theorem quiet_val {C : World → Prop} (v : Value) (h : ∀ W, (execOp a.eval o).run Tryz.prog W = .ok (.value v) W) (hk : K (a.put o.dst v)) : o.quiet Tryz.prog a C K :=
  ⟨v, fun w _ => by unfold Oper.quietAt; rw [h w]; exact ⟨rfl, rfl⟩, hk⟩
/-- A hash loaded whole. -/
theorem quiet_load (x : Operand) (ho : o.op = .load 69 x) (g off : Nat) (hx : a.eval x = .pointer (some ⟨g, off, none⟩)) (A : List UInt8) (hA : A.length = 32) (hc : ∀ j, j < 32 → w.cell? ⟨g, off + j, none⟩ = (hbs A)[j]?) (hk : K (a.put o.dst (.agg (hbs A)))) : o.quiet Tryz.prog a (fun w' => ∃ x : Grw w, w' = x.val) K := by
  refine ⟨.agg (hbs A), ?_, hk⟩
  rintro W ⟨y, rfl⟩
  have hl : (loadCells ⟨g, off, none⟩ 32).run Tryz.prog y.val = .ok (hbs A) y.val := by
    have := run_loadCells_list (P := Tryz.prog) y.val ⟨g, off, none⟩ (hbs A).toList (fun j v hv => by
      have hj : j < 32 := by
        have := (List.getElem?_eq_some_iff.1 hv).1
        simpa [hbs_size, hA] using this
      rw [addO]
      exact y.cell ((hc j hj).trans (by simpa using hv)))
    simpa [hbs_size, hA] using this
  unfold Oper.quietAt execOp
  simp only [ho, hx, Instr.loadAt, sure, loadVar, Sem.run_bind, Sem.run_pure, Tryz.isAgg69, Tryz.sizeOf69, hl, Result.andThen_ok, if_true]
  exact ⟨rfl, rfl⟩
theorem quiet_eql (x y : Operand) (ho : o.op = .binOp .eql 69 x y 69) (A : List UInt8) (hA : A.length = 32) (hx : a.eval x = .agg (hbs A)) (hy : a.eval y = .agg (hbs A)) {C : World → Prop} (hk : K (a.put o.dst (.bool true))) : o.quiet Tryz.prog a C K := by
  refine quiet_val (.bool true) (fun W => ?_) hk
  unfold execOp
  simp only [ho, hx, hy, run_eqGuard, hbs_eql A hA W, Sem.run_bind, Sem.run_pure, Result.andThen_ok]
theorem quiet_neq (x y : Operand) (ho : o.op = .binOp .neq 69 x y 69) (A : List UInt8) (hA : A.length = 32) (hx : a.eval x = .agg (hbs A)) (hy : a.eval y = .agg (hbs A)) {C : World → Prop} (hk : K (a.put o.dst (.bool false))) : o.quiet Tryz.prog a C K := by
  refine quiet_val (.bool false) (fun W => ?_) hk
  unfold execOp
  simp only [ho, hx, hy, run_eqGuard, hbs_neq A hA W, Sem.run_bind, Sem.run_pure, Result.andThen_ok]
end
theorem build_zero (W : World) : (Instr.build 69 #[]).run Tryz.prog W = .ok (.agg (hbs zh)) W := by
  rw [show zh = List.replicate 32 0 from rfl, ← z32_hbs]; kernel_rfl
section
variable {w : World} {ops : Array Oper} {rest : List Oper} {o : Oper} {a : Act} {Q : Exit → Act → World → Prop}
/-- The same laws where the order is the text's. -/
theorem wpl_load (hwant : Region.wanted o (yielded ops a.tmps) = true) (x : Operand) (ho : o.op = .load 69 x) (g off : Nat) (hx : a.eval x = .pointer (some ⟨g, off, none⟩)) (A : List UInt8) (hA : A.length = 32) (hc : ∀ j, j < 32 → w.cell? ⟨g, off + j, none⟩ = (hbs A)[j]?)
    (h : wpList Tryz.prog ops Q rest (a.put o.dst (.agg (hbs A))) w) : wpList Tryz.prog ops Q (o :: rest) a w := by
  refine wpList_step fun K hK => ?_
  rw [if_pos hwant]
  have hl : (loadCells ⟨g, off, none⟩ 32).run Tryz.prog w = .ok (hbs A) w := by
    have := run_loadCells_list (P := Tryz.prog) w ⟨g, off, none⟩ (hbs A).toList (fun j v hv => by
      have hj : j < 32 := by
        have := (List.getElem?_eq_some_iff.1 hv).1
        simpa [hbs_size, hA] using this
      rw [addO, hc j hj]
      simpa using hv)
    simpa [hbs_size, hA] using this
  unfold Oper.wp execOp
  simp only [ho, hx, Instr.loadAt, sure, loadVar, Sem.run_bind, Sem.run_pure, Tryz.isAgg69, Tryz.sizeOf69, hl, Result.andThen_ok, if_true]
  exact hK _ _ h
theorem wpl_zero (hwant : Region.wanted o (yielded ops a.tmps) = true) (ho : o.op = .build 69 #[])
    (h : wpList Tryz.prog ops Q rest (a.put o.dst (.agg (hbs zh))) w) : wpList Tryz.prog ops Q (o :: rest) a w := by
  refine wpList_step fun K hK => ?_
  rw [if_pos hwant]
  unfold Oper.wp execOp
  simp only [ho, Sem.run_bind, Sem.run_pure, Result.andThen_ok, List.map_toArray, List.map_nil, build_zero w]
  exact hK _ _ h
end
theorem grw_call {w0 w : World} {f : FuncId} {args : Array Value} {v : Value} (h : ∀ W, Nw w0 W → Calls Tryz.prog f args W fun e w' => e = .returned v ∧ Nw W w') (n : Nw w0 w) (x : Grw w) : Calls Tryz.prog f args x.val fun e w'' => e = .returned v ∧ ∃ y : Grw w, w'' = y.val := grown_call (h _ (n.tr x.nw))
theorem hash_cells {w : World} {b : Nat} {A : List UInt8} {t : TypeId} {f : Nat × Nat} (h : w.heap[b]? = some (.cells (hbs A) t f)) : ∀ j, j < 32 → w.cell? ⟨b, 0 + j, none⟩ = (hbs A)[j]? := fun j _ => by rw [Nat.zero_add, cell_of h]
/-- A row of hashes in memory. -/
def Hss (w : World) (v : Value) (l : List (List UInt8)) : Prop :=
  ∃ ad cap, v = .slice ad l.length cap ∧ ∀ k h, l[k]? = some h → ∃ g off, ad = some ⟨g, off, none⟩ ∧ ∀ j, j < 32 → w.cell? ⟨g, off + k * 32 + j, none⟩ = (hbs h)[j]?
theorem Hss.nw {w w' : World} {v : Value} {l : List (List UInt8)} (h : Hss w v l) (hl : ∀ x ∈ l, x.length = 32) (n : Nw w w') : Hss w' v l := by
  obtain ⟨ad, cap, rfl, h⟩ := h
  refine ⟨ad, cap, rfl, fun k t ht => ?_⟩
  obtain ⟨g, off, rfl, h1⟩ := h k t ht
  refine ⟨g, off, rfl, fun j hj => ?_⟩
  have h2 := h1 j hj
  have h3 : (hbs t)[j]? = some (.int .u8 ((t.getD j 0).toNat : Nat)) := hbs_get t j (by rw [hl t (List.mem_of_getElem? ht)]; exact hj)
  rw [h3] at h2 ⊢
  exact n.cellOf h2
theorem Hss.of {w : World} {base : Nat} {v : Value} {l : List (List UInt8)} (hl : ∀ x ∈ l, x.length = 32) (h : w.ownsRow base 69 32 v l.length (hsc l)) : Hss w v l := by
  rcases h.2 with ⟨rfl, hn⟩ | ⟨g, cap, cur, rfl, _⟩
  · have : l = [] := List.length_eq_zero_iff.1 hn
    subst this
    exact ⟨none, 0, rfl, fun k t ht => by simp at ht⟩
  · refine ⟨_, _, rfl, fun k t ht => ⟨g, 0, rfl, fun j hj => ?_⟩⟩
    have h3 : (hbs t)[j]? = some (.int .u8 ((t.getD j 0).toNat : Nat)) := hbs_get t j (by rw [hl t (List.mem_of_getElem? ht)]; exact hj)
    have h4 := hsc_get l hl k t ht j hj
    have h5 : (bc t)[j]? = (hbs t)[j]? := by simp [hbs]
    have := h.cells (g := g) rfl (k * 32 + j) _ (by rw [h4, h5, h3])
    rw [addZ] at this
    rw [Nat.zero_add, this, h3]
theorem Hss.nil (w : World) : Hss w (.slice none 0 0) [] := ⟨none, 0, rfl, fun k t ht => by simp at ht⟩
theorem Hss.form {w : World} {v : Value} {l : List (List UInt8)} (h : Hss w v l) : ∃ ad cap, v = .slice ad l.length cap := by obtain ⟨ad, cap, rfl, _⟩ := h; exact ⟨ad, cap, rfl⟩
set_option maxRecDepth 100000 in
set_option maxHeartbeats 2000000 in
theorem sameh_yes (u v : Value) (l : List (List UInt8)) (hl32 : ∀ x ∈ l, x.length = 32) (w : World) (hu : Hss w u l) (hv : Hss w v l) (hl : l.length < 4611686018427387904) :
    Calls Tryz.prog 18 #[u, v] w fun e w' => e = .returned (.bool true) ∧ Nw w w' := by
  obtain ⟨ad, ca, rfl, hu⟩ := hu
  obtain ⟨bd, cb, rfl, hv⟩ := hv
  have HU : Hid (∀ k h, l[k]? = some h → ∃ g off, ad = some ⟨g, off, none⟩ ∧ ∀ j, j < 32 → w.cell? ⟨g, off + k * 32 + j, none⟩ = (hbs h)[j]?) := hu
  have HV : Hid (∀ k h, l[k]? = some h → ∃ g off, bd = some ⟨g, off, none⟩ ∧ ∀ j, j < 32 → w.cell? ⟨g, off + k * 32 + j, none⟩ = (hbs h)[j]?) := hv
  have H32 : Hid (∀ x ∈ l, x.length = 32) := hl32
  clear hu hv hl32
  obtain ⟨n, hn⟩ : ∃ n, n = l.length := ⟨_, rfl⟩
  have HN : Hid (n = l.length) := hn
  rw [← hn] at hl ⊢
  clear hn
  go_enter Tryz.func18, Tryz.ntmps18
  go_wp2
  go_loopw [5] (fun i wr => ∃ k : Nat, k ≤ n ∧ i = .int .i64 k ∧ Nw w wr) (fun i _ => n - (intOf i).toNat)
  case atStart => exact ⟨0, by omega, rfl, nwr w⟩
  case round =>
    obtain ⟨k, hk, rfl, hnw⟩ := hrel
    by_cases hlt : k < n
    · obtain ⟨t, ht⟩ : ∃ t, l[k]? = some t := ⟨_, List.getElem?_eq_getElem (by rw [← HN.out]; exact hlt)⟩
      obtain ⟨g, off, rfl, g1⟩ := HU.out k t ht
      obtain ⟨p, off2, rfl, p1⟩ := HV.out k t ht
      have t32 := H32.out t (List.mem_of_getElem? ht)
      have G1 : Hid (∀ j, j < 32 → wr.cell? ⟨g, off + k * 32 + j, none⟩ = (hbs t)[j]?) := fun j hj => by
        have h2 := g1 j hj
        rw [hbs_get t j (by omega)] at h2 ⊢
        exact hnw.cellOf h2
      have P1 : Hid (∀ j, j < 32 → wr.cell? ⟨p, off2 + k * 32 + j, none⟩ = (hbs t)[j]?) := fun j hj => by
        have h2 := p1 j hj
        rw [hbs_get t j (by omega)] at h2 ⊢
        exact hnw.cellOf h2
      have HW : Hid (Nw w wr) := hnw
      have T32 : Hid (t.length = 32) := t32
      clear g1 p1 ht hnw t32
      have hki : (k : Int) < (n : Int) := by omega
      go_wp2_with fail
      refine wp_region_grown (by kernel_rfl) (by kernel_rfl) ?_
      repeat (first
        | go_big_quiet_skip
        | (go_big_quiet_want; first
            | (refine quiet_load (.tmp 19) rfl g (off + k * 32) rfl t T32.out G1.out ?_; (try simp only [Act.put, List.setIfInBounds_toArray, List.set_cons_zero, List.set_cons_succ]); go_big_quiet_on)
            | (refine quiet_load (.tmp 23) rfl p (off2 + k * 32) rfl t T32.out P1.out ?_; (try simp only [Act.put, List.setIfInBounds_toArray, List.set_cons_zero, List.set_cons_succ]); go_big_quiet_on)
            | (refine quiet_neq (.tmp 20) (.tmp 24) rfl t T32.out rfl rfl ?_; (try simp only [Act.put, List.setIfInBounds_toArray, List.set_cons_zero, List.set_cons_succ]); go_big_quiet_on)
            | (go_big_quiet_op; first | go_big_quiet_on | go_big_quiet_call (rfl))))
      refine wpQuiet_nil ?_
      rintro _ ⟨⟨W, nW⟩, rfl⟩
      go_wp2
      exact ⟨⟨k + 1, by omega, by go_num, HW.out.tr nW⟩, by simp [intOf]; omega⟩
    · obtain rfl : k = n := by omega
      go_wp2
      go_ret
      exact ⟨rfl, hnw⟩
end Go.Proofs.YtjkhcplnedcmeaaGreatDoor
