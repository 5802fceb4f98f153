/- Rows of nodes in memory, compared. -/
import Derived.Test.YtkjonddlmiedcaaDoorY7
import Derived.Laws.StructEq
namespace Go.Proofs.YtkjonddlmiedcaaDoor
open Go.RowKit Go.Shelf
set_option linter.unusedVariables false
set_option linter.unusedSimpArgs false
theorem eqItems_d (w : World) (d : Nat) (A : Array Value) (hA : ∀ i, i < 32 → ∃ x : Int, A[i]? = some (.int .u8 x)) : ∀ (is : List Nat), (∀ i ∈ is, i < 32) → (Op.eqItems (d + 1) 5 1 A A is).run Tryd.prog w = .ok true w
  | [], _ => by simp [Op.eqItems]
  | i :: is, h => by
    obtain ⟨x, hx⟩ := hA i (h i (by simp))
    have hg : A[i * 1]? = some (.int .u8 x) := by rw [Nat.mul_one]; exact hx
    have hp := run_part_plain w plain8 hg
    have ih := eqItems_d w d A hA is (fun j hj => h j (by simp [hj]))
    have he : (Op.equalIn (d + 1) 5 (.int .u8 x) (.int .u8 x)).run Tryd.prog w = .ok true w := by
      rw [run_equalIn_int w d 5 .u8 .u8 _ _ Tryd.underlying5]; simp
    simp only [Op.eqItems, Sem.run_bind, hp, he, Result.andThen_ok, Bool.not_true, Bool.false_eq_true, if_false, ih]
theorem hbs_eqd (A : List UInt8) (hA : A.length = 32) (d : Nat) (w : World) : (Op.equalIn (d + 2) 32 (.agg (hbs A)) (.agg (hbs A))).run Tryd.prog w = .ok true w := by
  obtain ⟨i0, hi, _⟩ := Option.map_eq_some_iff.1 info8
  rw [run_equalIn_array w (d + 1) _ _ Tryd.underlying32 hi, cells5]
  exact eqItems_d w d _ (fun i hi => ⟨_, hbs_get A i (by omega)⟩) _ (fun i hi => List.mem_range.1 hi)
theorem eqFields_self {P : Program} (w : World) (d : Nat) (xs : Array Value) : ∀ (fs : List Field), (∀ f ∈ fs, ∃ v, (part f.type xs f.offset).run P w = .ok v w ∧ (Op.equalIn d f.type v v).run P w = .ok true w) → (Op.eqFields d xs xs fs).run P w = .ok true w
  | [], _ => by simp [Op.eqFields]
  | f :: fs, h => by
    obtain ⟨v, h1, h2⟩ := h f (by simp)
    have ih := eqFields_self w d xs fs (fun g hg => h g (by simp [hg]))
    by_cases hn : f.name = "_"
    · simp [Op.eqFields, hn, ih]
    · simp [Op.eqFields, hn, h1, h2, ih]
theorem fieldsC : (Tryd.prog.fieldsOf 36).toList.map (fun f => (f.type, f.offset)) = [(5, 0), (34, 1)] := by kernel_rfl
theorem fieldsN : (Tryd.prog.fieldsOf 38).toList.map (fun f => (f.type, f.offset)) = [(36, 0), (32, 2)] := by kernel_rfl
theorem stoodC : Tryd.prog.stoodInHeld 36 = false := by kernel_rfl
theorem stoodN : Tryd.prog.stoodInHeld 38 = false := by kernel_rfl
theorem undC : Tryd.prog.underlying 36 = some (.struct (Tryd.prog.fieldsOf 36)) := by kernel_rfl
theorem undN : Tryd.prog.underlying 38 = some (.struct (Tryd.prog.fieldsOf 38)) := by kernel_rfl
theorem plainU64 : Tryd.prog.plainKey 34 = true := by kernel_rfl
theorem coord_eqd (x y : Int) (w : World) : (Op.equalIn 9999 36 (.agg #[.int .u8 x, .int .u64 y]) (.agg #[.int .u8 x, .int .u64 y])).run Tryd.prog w = .ok true w := by
  rw [run_equalIn_struct w 9998 36 _ _ undC stoodC]
  refine eqFields_self w 9998 _ _ (fun f hf => ?_)
  have hm : (f.type, f.offset) ∈ [(5, 0), (34, 1)] := by
    rw [← fieldsC]; exact List.mem_map.2 ⟨f, hf, rfl⟩
  generalize hty : f.type = ty at hm ⊢
  generalize hof : f.offset = of at hm ⊢
  simp only [List.mem_cons, Prod.mk.injEq, List.not_mem_nil, or_false] at hm
  rcases hm with ⟨rfl, rfl⟩ | ⟨rfl, rfl⟩
  · exact ⟨.int .u8 x, run_part_plain w plain8 rfl, by rw [run_equalIn_int w 9997 _ .u8 .u8 _ _ Tryd.underlying5]; simp⟩
  · exact ⟨.int .u64 y, run_part_plain w plainU64 rfl, by rw [run_equalIn_int w 9997 _ .u64 .u64 _ _ Tryd.underlying34]; simp⟩
theorem part_c (t : Tre) (w : World) : (part 36 t.c 0).run Tryd.prog w = .ok (.agg #[.int .u8 (t.L : Int), .int .u64 (t.I : Int)]) w := by
  have e : t.c.extract 0 (0 + 2) = #[.int .u8 (t.L : Int), .int .u64 (t.I : Int)] := by
    apply Array.ext'
    rw [Array.toList_extract]
    simp [List.extract, Tre.c]
  unfold part
  simp only [Sem.run_bind, Tryd.isAgg36, Tryd.sizeOf36, Result.andThen_ok, if_true, Sem.run_pure, e]
theorem part_h (t : Tre) (h : t.H.length = 32) (w : World) : (part 32 t.c 2).run Tryd.prog w = .ok (.agg (hbs t.H)) w := by
  have e : t.c.extract 2 (2 + 32) = hbs t.H := by
    apply Array.ext'
    rw [Array.toList_extract]
    have := hbs_size t.H
    simp [List.extract, Tre.c]
    rw [List.take_of_length_le (by rw [Array.length_toList]; omega)]
  unfold part
  simp only [Sem.run_bind, Tryd.isAgg32, Tryd.sizeOf32, Result.andThen_ok, if_true, Sem.run_pure, e]
theorem node_eq (t : Tre) (h : t.H.length = 32) (w : World) : (Op.equalIn 10000 38 (.agg t.c) (.agg t.c)).run Tryd.prog w = .ok true w := by
  rw [run_equalIn_struct w 9999 38 _ _ undN stoodN]
  refine eqFields_self w 9999 _ _ (fun f hf => ?_)
  have hm : (f.type, f.offset) ∈ [(36, 0), (32, 2)] := by
    rw [← fieldsN]; exact List.mem_map.2 ⟨f, hf, rfl⟩
  generalize hty : f.type = ty at hm ⊢
  generalize hof : f.offset = of at hm ⊢
  simp only [List.mem_cons, Prod.mk.injEq, List.not_mem_nil, or_false] at hm
  rcases hm with ⟨rfl, rfl⟩ | ⟨rfl, rfl⟩
  · exact ⟨_, part_c t w, coord_eqd _ _ w⟩
  · exact ⟨_, part_h t h w, hbs_eqd t.H h 9997 w⟩
theorem node_neq (t : Tre) (h : t.H.length = 32) (w : World) : (binOp .neq 38 (.agg t.c) (.agg t.c)).run Tryd.prog w = .ok (.bool false) w := by
  simp only [binOp]
  simp [Op.equal, Op.maxDepth, node_eq t h w]
section
variable {w : World} {o : Oper} {a : Act} {K : Act → Prop}
theorem noGuardN : Tryd.prog.eqGuardType Tryd.prog.depth 38 = false := by kernel_rfl
theorem run_eqGuardN (op : BinOp) (x y : Operand) (A B : Array Value) (W : World) : (eqGuard op 38 x y (.agg A) (.agg B)).run Tryd.prog W = .ok () W := run_eqGuard_agg W op 38 x y A B noGuardN
theorem quiet_loadN (x : Operand) (ho : o.op = .load 38 x) (g off : Nat) (hx : a.eval x = .pointer (some ⟨g, off, none⟩)) (t : Tre) (ht : t.H.length = 32) (hc : ∀ j, j < 34 → w.cell? ⟨g, off + j, none⟩ = t.c[j]?) (hk : K (a.put o.dst (.agg t.c))) : o.quiet Tryd.prog a (fun w' => ∃ x : Grw w, w' = x.val) K := by
  refine ⟨.agg t.c, ?_, hk⟩
  rintro W ⟨y, rfl⟩
  have hs := Tre.size ht
  have hl : (loadCells ⟨g, off, none⟩ 34).run Tryd.prog y.val = .ok t.c y.val := by
    have := run_loadCells_list (P := Tryd.prog) y.val ⟨g, off, none⟩ t.c.toList (fun j v hv => by
      have hj : j < 34 := by
        have := (List.getElem?_eq_some_iff.1 hv).1
        rw [Array.length_toList] at this
        omega
      rw [addO]
      exact y.cell ((hc j hj).trans (by simpa using hv)))
    simpa [hs] using this
  unfold Oper.quietAt execOp
  simp only [ho, hx, Instr.loadAt, sure, loadVar, Sem.run_bind, Sem.run_pure, Tryd.isAgg38, Tryd.sizeOf38, hl, Result.andThen_ok, if_true]
  exact ⟨rfl, rfl⟩
theorem quiet_neqN (x y : Operand) (ho : o.op = .binOp .neq 38 x y 38) (t : Tre) (ht : t.H.length = 32) (hx : a.eval x = .agg t.c) (hy : a.eval y = .agg t.c) {C : World → Prop} (hk : K (a.put o.dst (.bool false))) : o.quiet Tryd.prog a C K := by
  refine quiet_val (.bool false) (fun W => ?_) hk
  unfold execOp
  simp only [ho, hx, hy, run_eqGuardN, node_neq t ht W, Sem.run_bind, Sem.run_pure, Result.andThen_ok]
end
/-- A row of nodes in memory. -/
def Nds (w : World) (v : Value) (l : List Tre) : Prop :=
  ∃ ad cap, v = .slice ad l.length cap ∧ ∀ k h, l[k]? = some h → ∃ g off, ad = some ⟨g, off, none⟩ ∧ ∀ j, j < 34 → w.cell? ⟨g, off + k * 34 + j, none⟩ = h.c[j]?
theorem Nds.of {w : World} {base : Nat} {v : Value} {l : List Tre} (hl : ∀ x ∈ l, x.H.length = 32) (h : w.ownsRow base 38 34 v l.length (tsc l)) : Nds w v l := by
  rcases h.2 with ⟨rfl, hn⟩ | ⟨g, cap, cur, rfl, _⟩
  · have : l = [] := List.length_eq_zero_iff.1 hn
    subst this
    exact ⟨none, 0, rfl, fun k t ht => by simp at ht⟩
  · refine ⟨_, _, rfl, fun k t ht => ⟨g, 0, rfl, fun j hj => ?_⟩⟩
    obtain ⟨u, hu⟩ : ∃ u, t.c[j]? = some u := ⟨_, Array.getElem?_eq_getElem (by rw [Tre.size (hl t (List.mem_of_getElem? ht))]; exact hj)⟩
    have := h.cells (g := g) rfl (k * 34 + j) _ ((tsc_getn l hl k t ht j hj).trans hu)
    rw [addZ] at this
    rw [Nat.zero_add, this, hu]
set_option maxRecDepth 100000 in
set_option maxHeartbeats 2000000 in
theorem samen_yes (u v : Value) (l : List Tre) (hl32 : ∀ x ∈ l, x.H.length = 32) (w : World) (hu : Nds w u l) (hv : Nds w v l) (hl : l.length < 4611686018427387904) :
    Calls Tryd.prog 17 #[u, v] w fun e w' => e = .returned (.bool true) ∧ Nw w w' := by
  obtain ⟨ad, ca, rfl, hu⟩ := hu
  obtain ⟨bd, cb, rfl, hv⟩ := hv
  have HU : Hid (∀ k h, l[k]? = some h → ∃ g off, ad = some ⟨g, off, none⟩ ∧ ∀ j, j < 34 → w.cell? ⟨g, off + k * 34 + j, none⟩ = h.c[j]?) := hu
  have HV : Hid (∀ k h, l[k]? = some h → ∃ g off, bd = some ⟨g, off, none⟩ ∧ ∀ j, j < 34 → w.cell? ⟨g, off + k * 34 + j, none⟩ = h.c[j]?) := hv
  have H32 : Hid (∀ x ∈ l, x.H.length = 32) := hl32
  clear hu hv hl32
  obtain ⟨n, hn⟩ : ∃ n, n = l.length := ⟨_, rfl⟩
  have HN : Hid (n = l.length) := hn
  rw [← hn] at hl ⊢
  clear hn
  go_enter Tryd.func17, Tryd.ntmps17
  go_wp2
  go_loopw [5] (fun i wr => ∃ k : Nat, k ≤ n ∧ i = .int .i64 k ∧ Nw w wr) (fun i _ => n - (intOf i).toNat)
  case atStart => exact ⟨0, by omega, rfl, nwr w⟩
  case round =>
    obtain ⟨k, hk, rfl, hnw⟩ := hrel
    by_cases hlt : k < n
    · obtain ⟨t, ht⟩ : ∃ t, l[k]? = some t := ⟨_, List.getElem?_eq_getElem (by rw [← HN.out]; exact hlt)⟩
      obtain ⟨g, off, rfl, g1⟩ := HU.out k t ht
      obtain ⟨p, off2, rfl, p1⟩ := HV.out k t ht
      have t32 := H32.out t (List.mem_of_getElem? ht)
      have G1 : Hid (∀ j, j < 34 → wr.cell? ⟨g, off + k * 34 + j, none⟩ = t.c[j]?) := fun j hj => by
        have h2 := g1 j hj
        obtain ⟨u, hu⟩ : ∃ u, t.c[j]? = some u := ⟨_, Array.getElem?_eq_getElem (by rw [Tre.size t32]; exact hj)⟩
        rw [hu] at h2 ⊢
        exact hnw.cellOf h2
      have P1 : Hid (∀ j, j < 34 → wr.cell? ⟨p, off2 + k * 34 + j, none⟩ = t.c[j]?) := fun j hj => by
        have h2 := p1 j hj
        obtain ⟨u, hu⟩ : ∃ u, t.c[j]? = some u := ⟨_, Array.getElem?_eq_getElem (by rw [Tre.size t32]; exact hj)⟩
        rw [hu] at h2 ⊢
        exact hnw.cellOf h2
      have HW : Hid (Nw w wr) := hnw
      have T32 : Hid (t.H.length = 32) := t32
      clear g1 p1 ht hnw t32
      have hki : (k : Int) < (n : Int) := by omega
      go_wp2_with fail
      refine wp_region_grown (by kernel_rfl) (by kernel_rfl) ?_
      repeat (first
        | go_big_quiet_skip
        | (go_big_quiet_want; first
            | (refine quiet_loadN (.tmp 19) rfl g (off + k * 34) rfl t T32.out G1.out ?_; (try simp only [Act.put, List.setIfInBounds_toArray, List.set_cons_zero, List.set_cons_succ]); go_big_quiet_on)
            | (refine quiet_loadN (.tmp 23) rfl p (off2 + k * 34) rfl t T32.out P1.out ?_; (try simp only [Act.put, List.setIfInBounds_toArray, List.set_cons_zero, List.set_cons_succ]); go_big_quiet_on)
            | (refine quiet_neqN (.tmp 20) (.tmp 24) rfl t T32.out rfl rfl ?_; (try simp only [Act.put, List.setIfInBounds_toArray, List.set_cons_zero, List.set_cons_succ]); go_big_quiet_on)
            | (go_big_quiet_op; first | go_big_quiet_on | go_big_quiet_call (rfl))))
      refine wpQuiet_nil ?_
      rintro _ ⟨⟨W, nW⟩, rfl⟩
      go_wp2
      exact ⟨⟨k + 1, by omega, by go_num, HW.out.tr nW⟩, by simp [intOf]; omega⟩
    · obtain rfl : k = n := by omega
      go_wp2
      go_ret
      exact ⟨rfl, hnw⟩
end Go.Proofs.YtkjonddlmiedcaaDoor
