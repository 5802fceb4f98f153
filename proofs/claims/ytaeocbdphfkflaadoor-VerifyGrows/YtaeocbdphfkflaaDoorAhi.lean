/- verify.seam: the greatest tree that ends where the old leaves end. -/
import Derived.Test.YtaeocbdphfkflaaDoorAcd
import Derived.Laws.Tables
namespace Go.Proofs.YtaeocbdphfkflaaDoor
open Go.RowKit
set_option linter.unusedVariables false
set_option linter.unusedSimpArgs false
theorem sms_le : ∀ (N a b : Nat), a ≤ N → a ≤ b → (sms a b).1 ≤ (sms a b).2 ∧ (sms a b).2 ≤ b
  | 0, a, b, hN, h => by
    obtain rfl : a = 0 := by omega
    rw [sms_even rfl]
    exact ⟨h, Nat.le_refl _⟩
  | N + 1, a, b, hN, h => by
    by_cases h1 : a % 2 = 1
    · rw [sms_odd h1]
      have := sms_le N (a / 2) (b / 2) (by omega) (by omega)
      exact ⟨this.1, by omega⟩
    · rw [sms_even (by omega)]
      exact ⟨h, Nat.le_refl _⟩
/-- Where the walk begins. -/
def smA (o n : Nat) : Nat × Nat := if o = n then (0, 0) else sms (o - 1) (n - 1)
theorem smA_bsd (o n : Nat) (h1 : 1 ≤ o) (h : o ≤ n) : gds o n = bsd (smA o n).1 (smA o n).2 := by
  unfold smA
  by_cases he : o = n
  · subst he
    rw [if_pos rfl, gds_same]
    exact (bsd_zero 0).symm
  · rw [if_neg he]
    exact gds_gbd n n o (Nat.le_refl _) h1 (.inl (by omega))
theorem smA_le (o n : Nat) (h : o ≤ n) : (smA o n).1 ≤ (smA o n).2 ∧ (smA o n).2 ≤ n := by
  unfold smA
  by_cases he : o = n
  · rw [if_pos he]
    exact ⟨Nat.le_refl _, Nat.zero_le _⟩
  · rw [if_neg he]
    have := sms_le (o - 1) (o - 1) (n - 1) (Nat.le_refl _) (by omega)
    exact ⟨this.1, by omega⟩
theorem smA_true (o n : Nat) (h1 : 1 ≤ o) (h : o ≤ n) : true ∈ gds o n ↔ (smA o n).1 ≠ 0 := by
  rw [smA_bsd o n h1 h]
  exact bsd_true _ _ _ (Nat.le_refl _) (smA_le o n h).1
def plw (w : World) (b : Nat) : Nat := match w.cell? ⟨b, 0, none⟩ with | some v => (intOf v).toNat | none => 0
theorem place_loadV (b p q : Nat) (w : World) (h : Plc w b p q) : (loadCells ⟨b, 0, none⟩ 2).run Tryd.prog w = .ok #[.int .u64 (p : Int), .int .u64 (q : Int)] w := by
  have := run_loadCells_list (P := Tryd.prog) w ⟨b, 0, none⟩ [.int .u64 (p : Int), .int .u64 (q : Int)] (fun j v hv => by
    rw [addZ, cell_of h]
    simpa using hv)
  simpa using this
set_option maxRecDepth 100000 in
set_option maxHeartbeats 2000000 in
theorem seam_any (o n : Nat) (h1 : 1 ≤ o) (h : o ≤ n) (hn : n ≤ 9223372036854775808) (w : World) :
    Calls Tryd.prog 37 #[.int .u64 (o : Int), .int .u64 (n : Int)] w fun e w' => e = .returned (.agg #[.int .u64 ((smA o n).1 : Int), .int .u64 ((smA o n).2 : Int)]) ∧ Nw w w' := by
  have HB : Hid (1 ≤ o ∧ o ≤ n ∧ n ≤ 9223372036854775808) := ⟨h1, h, hn⟩
  by_cases he : o = n
  · subst he
    have e : smA o o = (0, 0) := if_pos rfl
    rw [e]
    clear e h h1 hn HB
    go_enter Tryd.func37, Tryd.ntmps37
    go_wp2
    exact bodyPost_ret (results_cell (V := #[.int .u64 0, .int .u64 0]) (ty := 69) (f := (0, 0)) Tryd.results37 Tryd.isAgg69 Tryd.sizeOf69 rfl (by first | exact heap_new _ _ | (refine hp_set (hp_set (heap_new _ _) rfl) rfl)) rfl) rfl ⟨rfl, by first | exact nwa w _ | (refine Fr.setCell (Fr.setCell (nwa w _) _ _ (fun h => ?_)) _ _ (fun h => ?_) <;> (simp only at h; omega))⟩
  · have HA : Hid (smA o n = sms (o - 1) (n - 1)) := if_neg he
    obtain ⟨R, hR⟩ : ∃ R, R = smA o n := ⟨_, rfl⟩
    have HR : Hid (R = smA o n) := hR
    rw [← hR]
    have hne : ((o : Int) == (n : Int)) = false := by rw [beq_eq_false_iff_ne]; omega
    have hs1 : IntKind.u64.wrap ((o : Int) - 1) = ((o - 1 : Nat) : Int) := by rw [IntKind.wrap_u64]; omega
    have hs2 : IntKind.u64.wrap ((n : Int) - 1) = ((n - 1 : Nat) : Int) := by rw [IntKind.wrap_u64]; omega
    clear hR h1 h hn he
    go_enter Tryd.func37, Tryd.ntmps37
    go_upto_region 4 with fail
    have x1 := heap_next w (.cells #[.int .u64 0, .int .u64 0] 69) (.cells #[.int .u64 ((o - 1 : Nat) : Int), .int .u64 ((n - 1 : Nat) : Int)] 69)
    have x0 : ((w.alloc (.cells #[.int .u64 0, .int .u64 0] 69)).alloc (.cells #[.int .u64 ((o - 1 : Nat) : Int), .int .u64 ((n - 1 : Nat) : Int)] 69)).heap[w.heap.size]? = some (.cells #[.int .u64 0, .int .u64 0] 69) := ((nwa (w.alloc (.cells #[.int .u64 0, .int .u64 0] 69)) _).block _ (heap_lt (heap_new _ _)) (fun f => f)).trans (heap_new _ _)
    have nA : Nw w ((w.alloc (.cells #[.int .u64 0, .int .u64 0] 69)).alloc (.cells #[.int .u64 ((o - 1 : Nat) : Int), .int .u64 ((n - 1 : Nat) : Int)] 69)) := (nwa w _).alloc _
    obtain ⟨w1, hw1⟩ : ∃ q, (w.alloc (.cells #[.int .u64 0, .int .u64 0] 69)).alloc (.cells #[.int .u64 ((o - 1 : Nat) : Int), .int .u64 ((n - 1 : Nat) : Int)] 69) = q := ⟨_, rfl⟩
    rw [hw1] at x0 x1 nA ⊢
    clear hw1
    obtain ⟨rb, hrb⟩ : ∃ q, q = w.heap.size := ⟨_, rfl⟩
    rw [← hrb] at x0 x1 ⊢
    obtain ⟨pb, hpb⟩ : ∃ q, q = rb + 1 := ⟨_, rfl⟩
    rw [← hpb] at x1 ⊢
    have HBB : Hid (w.heap.size = rb ∧ rb < pb) := by refine ⟨?_, ?_⟩ <;> omega
    have HX0 : Hid (w1.heap[rb]? = some (.cells #[.int .u64 0, .int .u64 0] 69)) := x0
    have HX1 : Hid (Plc w1 pb (o - 1) (n - 1)) := x1
    have N1 : Hid (Nw w w1) := nA
    have QR : Hid (∀ V n' l', n' < 18446744073709551616 → l' < 18446744073709551616 → Plc V pb n' l' → Calls Tryd.prog 45 #[.pointer (some ⟨pb, 0, none⟩)] V fun e w' => e = .returned (.tuple #[]) ∧ Plc w' pb (n' / 2) (l' / 2) ∧ Fr (fun k => k = pb) V w') := fun V n' l' h1 h2 h3 => rise_any pb n' l' h1 h2 V h3
    clear x0 x1 nA hrb hpb
    go_loopw [] (fun wr => ∃ p q : Nat, Plc wr pb p q ∧ p ≤ q ∧ q < 9223372036854775808 ∧ sms p q = R ∧ wr.heap[rb]? = some (.cells #[.int .u64 0, .int .u64 0] 69) ∧ Nw w wr) (fun wr => plw wr pb)
    case atStart => exact ⟨o - 1, n - 1, HX1.out, by have := HB.out; omega, by have := HB.out; omega, by rw [HR.out, HA.out], HX0.out, N1.out⟩
    case round =>
      obtain ⟨p, q, hP, hpq, hq, hsm, hrb, hnw⟩ := hrel
      have HP : Hid (Plc wr pb p q) := hP
      have HPQ : Hid (p ≤ q ∧ q < 9223372036854775808) := ⟨hpq, hq⟩
      have HSM : Hid (sms p q = R) := hsm
      have HRB : Hid (wr.heap[rb]? = some (.cells #[.int .u64 0, .int .u64 0] 69)) := hrb
      have HNW : Hid (Nw w wr) := hnw
      have c0 := cell2a hP
      have hb := heap_lt hP
      have hm := and1 p (by omega)
      clear hP hsm hrb hnw hpq hq
      by_cases ho : p % 2 = 1
      · have hm1 : bits BinOp.and IntKind.u64 (p : Int) 1 = 1 := by rw [hm, ho]; rfl
        have HO := hid_of ho
        clear hm ho
        go_wp2_with fail
        refine (QR.out _ p q (by have := HPQ.out; omega) (by have := HPQ.out; omega) HP.out).mono ?_
        rintro e w2 ⟨rfl, pl2, f2⟩
        have P3 : Hid (Plc w2 pb (p / 2) (q / 2)) := pl2
        have N3 : Hid (Nw w w2) := HNW.out.trans f2 (fun k hk q => by have := HBB.out; omega)
        have M2 : Hid (w2.cell? ⟨pb, 0, none⟩ = some (.int .u64 ((p / 2 : Nat) : Int))) := cell2a pl2
        have B3 : Hid (w2.heap[rb]? = some (.cells #[.int .u64 0, .int .u64 0] 69)) := (f2.block _ (heap_lt HRB.out) (fun q => by have := HBB.out; omega)).trans HRB.out
        clear pl2 f2
        go_wp2
        exact ⟨⟨p / 2, q / 2, P3.out, by have := HPQ.out; omega, by have := HPQ.out; omega, by rw [← sms_odd HO.out]; exact HSM.out, B3.out, N3.out⟩, by unfold plw; rw [M2.out, c0]; simp only [intOf, Int.toNat_natCast]; have := HO.out; omega⟩
      · have hm1 : bits BinOp.and IntKind.u64 (p : Int) 1 = 0 := by rw [hm, show p % 2 = 0 by omega]; rfl
        have HRE : Hid (R = (p, q)) := by show R = _; rw [← HSM.out, sms_even (by omega)]
        have HPL := fun W => place_loadV pb p q W
        clear hm ho
        go_upto_region 6 with fail
        have hcc : ∀ j, j < 2 → wr.cell? ⟨pb, 0 + j, none⟩ = (#[.int .u64 (p : Int), .int .u64 (q : Int)] : Array Value)[j]? := fun j _ => by rw [Nat.zero_add, cell_of HP.out]
        have HCC := hid_of hcc
        clear hcc c0
        go_wp2_with first
          | refine wple_load_at rfl (.tmp 5) 69 2 rfl Tryd.isAgg69 Tryd.sizeOf69 pb 0 rfl #[.int .u64 (p : Int), .int .u64 (q : Int)] rfl HCC.out ?_
          | (refine wp_store_agg rfl (.tmp 4) (.tmp 20) 69 2 rfl Tryd.sizeOf69 rb 0 rfl _ 69 HRB.out #[.int .u64 (p : Int), .int .u64 (q : Int)] rfl rfl (by simp [Value.oneCell']) (by decide) #[.int .u64 (p : Int), .int .u64 (q : Int)] rfl ?_; intro w9 j9 f9 z9; clear z9)
        exact bodyPost_ret (results_cell (V := #[.int .u64 (p : Int), .int .u64 (q : Int)]) Tryd.results37 Tryd.isAgg69 Tryd.sizeOf69 rfl j9 rfl) rfl ⟨by rw [HRE.out], HNW.out.trans f9 (fun k hk q => by have := HBB.out; omega)⟩
end Go.Proofs.YtaeocbdphfkflaaDoor
namespace Go.Proofs.YtaeocbdphfkflaaDoor
open Go.RowKit
set_option linter.unusedVariables false
set_option linter.unusedSimpArgs false
/-- Two hashes, one behind the other. -/
def h2c (A B : List UInt8) : Array Value := hbs A ++ hbs B
theorem h2c_size {A B : List UInt8} (hA : A.length = 32) (hB : B.length = 32) : (h2c A B).size = 64 := by simp [h2c, hbs_size, hA, hB]
theorem h2c_one (A B : List UInt8) : ∀ u ∈ (h2c A B).toList, u.oneCell' = true := by
  intro u hu
  simp only [h2c, Array.toList_append, List.mem_append] at hu
  rcases hu with h | h
  · exact hbs_one _ u h
  · exact hbs_one _ u h
theorem h2c_l {A : List UInt8} (B : List UInt8) (hA : A.length = 32) (j : Nat) (h : j < 32) : (h2c A B)[j]? = (hbs A)[j]? := by
  unfold h2c
  rw [Array.getElem?_append_left (by rw [hbs_size]; omega)]
theorem h2c_r {A : List UInt8} (B : List UInt8) (hA : A.length = 32) (j : Nat) : (h2c A B)[32 + j]? = (hbs B)[j]? := by
  unfold h2c
  rw [Array.getElem?_append_right (by rw [hbs_size]; omega), hbs_size, hA]
  congr 1
  omega
theorem h2c_el {A : List UInt8} (B : List UInt8) (hA : A.length = 32) : (h2c A B).extract 0 32 = hbs A := by
  unfold h2c
  have h : (hbs A).size = 32 := by rw [hbs_size, hA]
  rw [Array.extract_append, h]
  simp [← h]
theorem h2c_er {A B : List UInt8} (hA : A.length = 32) (hB : B.length = 32) : (h2c A B).extract 32 64 = hbs B := by
  unfold h2c
  have h : (hbs A).size = 32 := by rw [hbs_size, hA]
  have h' : (hbs B).size = 32 := by rw [hbs_size, hB]
  rw [Array.extract_append, h]
  rw [Array.extract_eq_empty_of_le (by omega)]
  simp only [Nat.sub_self, Array.empty_append]
  rw [show 64 - 32 = (hbs B).size by omega]
  simp
set_option maxRecDepth 100000 in
theorem built_h2 (A B : List UInt8) (hA : A.length = 32) (hB : B.length = 32) (W : World) : (Instr.build 78 #[(0, .agg (hbs A)), (1, .agg (hbs B))]).run Tryd.prog W = .ok (.agg (h2c A B)) W := by
  refine run_build W _ _ _ ?_
  match A, hA with
  | [a0, a1, a2, a3, a4, a5, a6, a7, a8, a9, a10, a11, a12, a13, a14, a15, a16, a17, a18, a19, a20, a21, a22, a23, a24, a25, a26, a27, a28, a29, a30, a31], _ =>
    match B, hB with
    | [b0, b1, b2, b3, b4, b5, b6, b7, b8, b9, b10, b11, b12, b13, b14, b15, b16, b17, b18, b19, b20, b21, b22, b23, b24, b25, b26, b27, b28, b29, b30, b31], _ =>
      change _ = _
      kernel_rfl
theorem infoH2 : (Tryd.prog.info? 24).map (fun i => i.size) = some 32 := by kernel_rfl
theorem cells32 : Tryd.prog.cellsOf 24 = 32 := by kernel_rfl
theorem part_h2 (V : Array Value) (off : Nat) (W : World) : (part 24 V off).run Tryd.prog W = .ok (.agg (V.extract off (off + 32))) W := by
  simp [part, Tryd.isAgg24, Tryd.sizeOf24]
theorem h2_equal (A B C D : List UInt8) (hA : A.length = 32) (hB : B.length = 32) (hC : C.length = 32) (hD : D.length = 32) (w : World) : (Op.equalIn 10000 78 (.agg (h2c A B)) (.agg (h2c C D))).run Tryd.prog w = .ok (decide (A = C ∧ B = D)) w := by
  obtain ⟨i0, hi, _⟩ := Option.map_eq_some_iff.1 infoH2
  rw [run_equalIn_array w 9999 _ _ Tryd.underlying78 hi, cells32]
  rw [show List.range 2 = [0, 1] from rfl]
  simp only [Op.eqItems, Sem.run_bind, part_h2, Result.andThen_ok]
  rw [show 0 * 32 + 32 = 32 from rfl, show 0 * 32 = 0 from rfl, h2c_el B hA, h2c_el D hC, hbs_equalA 9997 A C hA hC, Result.andThen_ok]
  by_cases h1 : A = C
  · rw [decide_eq_true h1]
    simp only [Bool.not_true, Bool.false_eq_true, if_false, Sem.run_bind, part_h2, Result.andThen_ok]
    rw [show 1 * 32 + 32 = 64 from rfl, show 1 * 32 = 32 from rfl, h2c_er hA hB, h2c_er hC hD, hbs_equalA 9997 B D hB hD]
    simp only [Result.andThen_ok]
    by_cases h2 : B = D
    · rw [decide_eq_true h2, decide_eq_true ⟨h1, h2⟩]
      simp
    · rw [decide_eq_false h2, decide_eq_false (fun q => h2 q.2)]
      simp
  · rw [decide_eq_false h1, decide_eq_false (fun q => h1 q.1)]
    simp
theorem noGuardH2 : Tryd.prog.eqGuardType Tryd.prog.depth 78 = false := by kernel_rfl
theorem run_eqGuardH2 (op : BinOp) (x y : Operand) (A B : Array Value) (W : World) : (eqGuard op 78 x y (.agg A) (.agg B)).run Tryd.prog W = .ok () W := run_eqGuard_agg W op 78 x y A B noGuardH2
theorem h2_neq (A B C D : List UInt8) (hA : A.length = 32) (hB : B.length = 32) (hC : C.length = 32) (hD : D.length = 32) (w : World) : (binOp .neq 78 (.agg (h2c A B)) (.agg (h2c C D))).run Tryd.prog w = .ok (.bool (!decide (A = C ∧ B = D))) w := by
  simp only [binOp]
  simp only [Op.equal, Op.maxDepth, h2_equal A B C D hA hB hC hD w, Sem.run_bind, Result.andThen_ok, Sem.run_pure]
section
variable {w : World} {ops : Array Oper} {rest : List Oper} {o : Oper} {a : Act} {Q : Exit → Act → World → Prop}
theorem wpl_h2neq (hwant : Region.wanted o (yielded ops a.tmps) = true) (x y : Operand) (ho : o.op = .binOp .neq 78 x y 78) (A B C D : List UInt8) (hA : A.length = 32) (hB : B.length = 32) (hC : C.length = 32) (hD : D.length = 32) (hx : a.eval x = .agg (h2c A B)) (hy : a.eval y = .agg (h2c C D))
    (h : wpList Tryd.prog ops Q rest (a.put o.dst (.bool (!decide (A = C ∧ B = D)))) w) : wpList Tryd.prog ops Q (o :: rest) a w := by
  refine wpList_step fun K hK => ?_
  rw [if_pos hwant]
  unfold Oper.wp execOp
  simp only [ho, hx, hy, run_eqGuardH2, h2_neq A B C D hA hB hC hD w, Sem.run_bind, Sem.run_pure, Result.andThen_ok]
  exact hK _ _ h
theorem wpl_h2build (hwant : Region.wanted o (yielded ops a.tmps) = true) (x y : Operand) (ho : o.op = .build 78 #[(0, x), (1, y)]) (A B : List UInt8) (hA : A.length = 32) (hB : B.length = 32) (hx : a.eval x = .agg (hbs A)) (hy : a.eval y = .agg (hbs B))
    (h : wpList Tryd.prog ops Q rest (a.put o.dst (.agg (h2c A B))) w) : wpList Tryd.prog ops Q (o :: rest) a w := by
  refine wpList_step fun K hK => ?_
  rw [if_pos hwant]
  unfold Oper.wp execOp
  simp only [ho, Sem.run_bind, Sem.run_pure, Result.andThen_ok, List.map_toArray, List.map_cons, List.map_nil, hx, hy, built_h2 A B hA hB w]
  exact hK _ _ h
end
end Go.Proofs.YtaeocbdphfkflaaDoor
