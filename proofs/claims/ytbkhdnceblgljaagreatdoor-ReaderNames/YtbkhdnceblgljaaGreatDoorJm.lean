/- ReaderNodes: a node of any tree; the reads that fail. -/
import Derived.Test.YtbkhdnceblgljaaGreatDoorJgz
import Derived.Test.YtbkhdnceblgljaaGreatDoorJgx
import Derived.Deep.DeepCutAuto
namespace Go.Proofs.YtbkhdnceblgljaaGreatDoor
open Go.RowKit
set_option linter.unusedVariables false
set_option linter.unusedSimpArgs false
/-- Is a tree in the log? -/
def inLog (L I n : Nat) : Prop := may L I ∧ (I + 1) * 2 ^ L ≤ n
theorem wid_out {L I n : Nat} (hm : may L I) (hn : n ≤ 1048576) (h : n < (I + 1) * 2 ^ L) : wid (L / 8) (ofA L I / 256) n < ofA L I % 256 + 2 ^ (L % 8) := by
  rcases Nat.lt_or_ge (wid (L / 8) (ofA L I / 256) n) (ofA L I % 256 + 2 ^ (L % 8)) with q | q
  · exact q
  · exfalso
    have h0 : 0 < 2 ^ (L % 8) := Nat.pow_pos (by decide)
    have h1 := (wid_in (L / 8) (ofA L I / 256) n _ rfl (by omega)).1
    have h2 : (I + 1) * 2 ^ (L % 8) ≤ nod8 (L / 8) n := by
      rw [Nat.succ_mul]
      show ofA L I + _ ≤ _
      omega
    unfold nod8 at h2
    have h3 := Nat.mul_le_of_le_div _ _ _ h2
    have e : (I + 1) * 2 ^ (L % 8) * 2 ^ (8 * (L / 8)) = (I + 1) * 2 ^ L := by
      rw [Nat.mul_assoc, ← Nat.pow_add, show L % 8 + 8 * (L / 8) = L by omega]
    omega
theorem RS.node_out {s : RS} {l : List (List UInt8)} {B K : Nat} {w : World} (h : s.At l B K w) {L I : Nat} (hL : L ≤ 255) (hI : I < 18446744073709551616) (hn : l.length ≤ 1048576) (ho : ¬ inLog L I l.length) {a : Nat → Addr} (hS : Sent B w a) :
    Calls Tryz.prog 14 #[.pointer (some ⟨s.rb, 0, none⟩), cd L I, .int .u64 (l.length : Int)] w fun e w' => e = .returned (.tuple #[.agg (hbs zh), sen (a 4)]) ∧ Nw w w' := by
  by_cases hm : may L I
  · have hlt : l.length < (I + 1) * 2 ^ L := by
      rcases Nat.lt_or_ge l.length ((I + 1) * 2 ^ L) with q | q
      · exact q
      · exact absurd ⟨hm, q⟩ ho
    have hw := wid_out hm hn hlt
    have h256 : wid (L / 8) (ofA L I / 256) l.length ≤ 256 := by unfold wid; split <;> omega
    by_cases h0 : wid (L / 8) (ofA L I / 256) l.length = 0
    · exact rnode_gone L I l.length hm (by omega) h0 (fun V nV => RS.there (h.nw nV)) hS
    · exact rnode_out L I l.length hm _ rfl (by omega) h256 hw (fun V nV => RS.there (h.nw nV)) hS
  · exact rnode_may L I l.length hm hL hI (fun V nV => RS.there (h.nw nV)) hS
/-- What a node's call answers of a tree in the log. -/
theorem RS.node_in {s : RS} {l : List (List UInt8)} {B K : Nat} {w : World} (h : s.At l B K w) {L I : Nat} (hn : l.length ≤ 1048576) (hi : inLog L I l.length) (hK : K ≤ 1000000) {a : Nat → Addr} (hG : Gd B a w) :
    ∃ fl : Bool, ∃ rn' : Int, (rn' = s.rn ∧ fl = false ∨ rn' = s.rn + 1 ∧ fl = decide (s.rn + 1 ∈ s.zs)) ∧
    Calls Tryz.prog 14 #[.pointer (some ⟨s.rb, 0, none⟩), cd L I, .int .u64 (l.length : Int)] w fun e w' => ∃ s' : RS, e = .returned (.tuple #[.agg (hbs (if fl then zh else ovr L ((l.drop (I * 2 ^ L)).take (2 ^ L)))), if fl then sen (a 6) else .nilIface]) ∧ s'.At l B (K + 1) w' ∧ s.Le s' w ∧ s'.rn = rn' ∧ Fr s.Ff w w' := by
  obtain ⟨hm, he⟩ := hi
  obtain ⟨W, hw, h0, hW, hin⟩ := tree_wid hm hn he
  by_cases hk : CT.tk s.L (keyT (L / 8) (ofA L I / 256) W (mayT_wid hw h0)) = none
  · by_cases hz : s.rn + 1 ∈ s.zs
    · refine ⟨true, s.rn + 1, .inr ⟨rfl, by simp [hz]⟩, ?_⟩
      exact (RS.node_fell h hm hw h0 hin (a 6) (fun u => u.rn = s.rn + 1) (fun V hV nV => (RS.fails hV hw h0 hk hz (hG.nw nV).pow hK (hG.nw nV).s).mono fun e w' ⟨s', e1, a1, le, r1, _, _, _, _, f⟩ => ⟨s', e1, a1, le, r1, f⟩)).mono fun e w' ⟨s', e1, a1, le, r, f⟩ => ⟨s', by simpa using e1, a1, le, r, f⟩
    · refine ⟨false, s.rn + 1, .inr ⟨rfl, by simp [hz]⟩, ?_⟩
      exact (RS.node h hm hn hw h0 hin hG (fun u => u.rn = s.rn + 1) (fun V hV nV => (RS.fresh hV hw h0 hk hz (hG.nw nV).pow hK (hG.nw nV).s).mono fun e w' ⟨s', g, e1, o, a1, le, r1, _, _, _, _, f⟩ => ⟨s', g, e1, o, a1, le, r1, f⟩)).mono fun e w' ⟨s', e1, a1, le, r, f⟩ => ⟨s', by simpa using e1, a1, le, r, f⟩
  · obtain ⟨⟨v, r⟩, hv⟩ := Option.ne_none_iff_exists'.1 hk
    refine ⟨false, s.rn, .inl ⟨rfl, rfl⟩, ?_⟩
    exact (RS.node h hm hn hw h0 hin hG (fun u => u.rn = s.rn) (fun V hV nV => (RS.had hV hw h0 hv (hG.nw nV).pow hK).mono fun e w' ⟨s', g, e1, o, a1, le, r1, _, _, _, _, f⟩ => ⟨s', g, e1, o, a1, le, r1, f⟩)).mono fun e w' ⟨s', e1, a1, le, r, f⟩ => ⟨s', by simpa using e1, a1, le, r, f⟩
/-- Has one of the first k reads failed between lo and hi? -/
def fq (zs : List Int) (lo hi : Int) (k : Nat) : Bool := (zs.take k).any fun z => decide (lo < z) && decide (z ≤ hi)
theorem fq_zero (zs : List Int) (lo hi : Int) : fq zs lo hi 0 = false := by simp [fq]
theorem fq_succ (zs : List Int) (lo hi : Int) (k : Nat) (hk : k < zs.length) : fq zs lo hi (k + 1) = (fq zs lo hi k || (decide (lo < zs.getD k 0) && decide (zs.getD k 0 ≤ hi))) := by
  unfold fq
  rw [List.take_add_one, List.any_append, List.getElem?_eq_getElem hk, List.getD_eq_getElem?_getD, List.getElem?_eq_getElem hk]
  simp
theorem fq_all {zs : List Int} {rn rn' : Int} {fl : Bool} (h : rn' = rn ∧ fl = false ∨ rn' = rn + 1 ∧ fl = decide (rn + 1 ∈ zs)) : fq zs rn rn' zs.length = fl := by
  unfold fq
  rw [List.take_length]
  rcases h with ⟨rfl, rfl⟩ | ⟨rfl, rfl⟩
  · rw [List.any_eq_false]
    intro z _
    simp only [Bool.and_eq_true, decide_eq_true_eq]
    omega
  · by_cases hz : rn + 1 ∈ zs
    · rw [decide_eq_true hz, List.any_eq_true]
      exact ⟨rn + 1, hz, by simp only [Bool.and_eq_true, decide_eq_true_eq]; omega⟩
    · rw [decide_eq_false hz, List.any_eq_false]
      intro z hz2
      simp only [Bool.and_eq_true, decide_eq_true_eq]
      intro q
      have : z = rn + 1 := by omega
      rw [this] at hz2
      exact hz hz2
/-- The tree's leaves, cut out of the row. -/
theorem tree_cut {w : World} {base n vc g : Nat} {l : List (List UInt8)} (h32 : ∀ x ∈ l, x.length = 32) (hl : l.length = n) (ho : w.ownsRow base 42 32 (.slice (some ⟨g, 0, none⟩) n vc) n (hsc l)) (hv : n ≤ vc) {L I : Nat} (hL : L ≤ 10) (he : (I + 1) * 2 ^ L ≤ n) (hLd : Laid w) :
    Calls Tryz.prog 16 #[.slice (some ⟨g, I * 2 ^ L * 32, none⟩) (2 ^ L) (vc - I * 2 ^ L)] w fun e w' => e = .returned (.agg (hbs (ovr L ((l.drop (I * 2 ^ L)).take (2 ^ L))))) ∧ Nw w w' := by
  have e1 : (I + 1) * 2 ^ L = I * 2 ^ L + 2 ^ L := Nat.succ_mul _ _
  have hr : Rw w (some ⟨g, 0, none⟩) vc l := ⟨by omega, by rw [hl]; rw [← hl] at ho ⊢; exact Hss.of h32 ho⟩
  have hc := hr.cut (I * 2 ^ L) (2 ^ L) (by omega)
  rw [Nat.zero_add] at hc
  have hlen : ((l.drop (I * 2 ^ L)).take (2 ^ L)).length = 2 ^ L := by simp; omega
  have q := tree14_any L ((l.drop (I * 2 ^ L)).take (2 ^ L)) g (I * 2 ^ L * 32) (vc - I * 2 ^ L) w hL hlen (fun x hx => h32 x (List.mem_of_mem_drop (List.mem_of_mem_take hx))) hc hLd
  rw [hlen] at q
  exact q
theorem inLog_ten {L I n : Nat} (h : inLog L I n) (hn : n ≤ 1000) : L ≤ 10 := by
  rcases Nat.lt_or_ge 10 L with q | q
  · exfalso
    have h1 : 2 ^ 11 ≤ 2 ^ L := Nat.pow_le_pow_right (by decide) (by omega)
    have h2 : 2 ^ L ≤ (I + 1) * 2 ^ L := Nat.le_mul_of_pos_left _ (by omega)
    have := h.2
    omega
  · exact q
/-- The store that was told which reads fail. -/
theorem Lt.restart {w0 w : World} {b bm g T : Nat} {M : Tx} (h : Lt w0 w b bm g T M) (p : Option Addr) (c : Nat) (zs : List Int) (hz : Iz w p zs) (hl : zs.length ≤ 17592186044416) (hok : okR 0 zs = true) :
    Calls Tryz.prog 9 #[.pointer (some ⟨b, 0, none⟩), .agg #[.slice p zs.length c, .int .i64 0]] w fun e w' => ∃ g', e = .returned .nilIface ∧ w.heap.size ≤ g' ∧ g' < w'.heap.size ∧ Sr w' b bm T M (some ⟨g', 0, none⟩) zs.length zs 0 0 0 false ∧ Fr (fun k => k = b) w w' :=
  (srestart_anyG h.2.2.2.blk p c zs 0 hz hl hok).mono fun e w' ⟨e1, ⟨g', h1, h2, h3, h4⟩, f⟩ => ⟨g', e1, h1, h2, ⟨h3, h.2.2.2.mp.fr f h.2.2.2.nb, h4, fun g2 o2 e2 => by
    cases e2
    have l1 := heap_lt h.2.2.2.blk
    have l2 := h.2.2.2.mp.lt
    omega, h.2.2.2.nb⟩, f⟩
theorem wpl_neqJ {w : World} {ops : Array Oper} {rest : List Oper} {o : Oper} {a : Act} {Q : Exit → Act → World → Prop} (hwant : Region.wanted o (yielded ops a.tmps) = true) (x y : Operand) (ho : o.op = .binOp .neq 42 x y 42) (A : List UInt8) (hA : A.length = 32) (hx : a.eval x = .agg (hbs A)) (hy : a.eval y = .agg (hbs A))
    (h : wpList Tryz.prog ops Q rest (a.put o.dst (.bool false)) w) : wpList Tryz.prog ops Q (o :: rest) a w := by
  refine wpList_step fun K hK => ?_
  rw [if_pos hwant]
  unfold Oper.wp execOp
  simp only [ho, hx, hy, run_eqGuard, hbs_neq A hA w, Sem.run_bind, Sem.run_pure, Result.andThen_ok]
  exact hK _ _ h
theorem cut_hlhU (g o n cap x y : Nat) (hk : x < y) (hn : y ≤ cap) (w : World) : (Instr.sliceAt 25 (.slice (some ⟨g, o, none⟩) n cap) (some (.int .u64 (x : Int))) (some (.int .u64 (y : Int))) none).run Tryz.prog w = .ok (.slice (some ⟨g, o + x * 32, none⟩) (y - x) (cap - x)) w := by
  rw [run_sliceAt_slice w _ _ _ _ _ undHu, run_slice_lh w _ (some ⟨g, o, none⟩) n cap undHu .u64 .u64 x y (by omega) (by omega) (by omega), elemHu, Tryz.sizeOf42 w]
  have : ¬ cap = x := by omega
  simp [sliced, this, Addr.add]
section
variable {w : World} {o : Oper} {a : Act} {K : Act → Prop}
theorem quiet_cutJ {C : World → Prop} (x y z : Operand) (ho : o.op = .slice 25 x (some y) (some z) none) (X Y Z V : Value) (hx : a.eval x = X) (hy : a.eval y = Y) (hz : a.eval z = Z) (hr : ∀ W, (Instr.sliceAt 25 X (some Y) (some Z) none).run Tryz.prog W = .ok V W) (hk : K (a.put o.dst V)) : o.quiet Tryz.prog a C K := by
  refine quiet_val V (fun W => ?_) hk
  unfold execOp
  simp only [ho, hx, hy, hz, hr, Option.map_some, Option.map_none, Sem.run_bind, Sem.run_pure, Result.andThen_ok]
theorem quiet_cellJ {t : TypeId} (x : Operand) (ho : o.op = .load t x) (g off : Nat) (hx : a.eval x = .pointer (some ⟨g, off, none⟩)) (ht : ∀ W, (isAgg t).run Tryz.prog W = .ok false W) (v : Value) (hc : w.cell? ⟨g, off, none⟩ = some v) (hk : K (a.put o.dst v)) : o.quiet Tryz.prog a (fun w' => ∃ x : Grw w, w' = x.val) K := by
  refine ⟨v, ?_, hk⟩
  rintro W ⟨y, rfl⟩
  have h1 := y.cell hc
  unfold Oper.quietAt execOp
  simp only [ho, hx, Instr.loadAt, sure, loadVar, Sem.run_bind, Sem.run_pure, Sem.run_ite, ht, Result.andThen_ok, run_load, h1, if_false, Bool.false_eq_true]
  exact ⟨rfl, rfl⟩
end
end Go.Proofs.YtbkhdnceblgljaaGreatDoor
