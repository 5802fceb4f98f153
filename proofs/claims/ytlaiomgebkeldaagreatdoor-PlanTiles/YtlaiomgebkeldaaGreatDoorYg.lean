/- plan: parts and tiles compared; Fold. -/
import Derived.Test.YtlaiomgebkeldaaGreatDoorYf
import Derived.Test.YtlaiomgebkeldaaGreatDoorHq
import Derived.Test.YtlaiomgebkeldaaGreatDoorY1
namespace Go.Proofs.YtlaiomgebkeldaaGreatDoor
open Go.RowKit Go.Shelf
set_option linter.unusedVariables false
set_option linter.unusedSimpArgs false
/-- The cells of a row of tiles. -/
theorem tic_cellsP {w : World} {base : Nat} {ad : Option Addr} {c : Nat} {l : List Ti} (h : w.ownsRow base 104 3 (.slice ad l.length c) l.length (tic l)) (k : Nat) (t : Ti) (ht : l[k]? = some t) :
    ∃ g, ad = some ⟨g, 0, none⟩ ∧ w.cell? ⟨g, k * 3, none⟩ = some (.int .u8 (t.L : Int)) ∧ w.cell? ⟨g, k * 3 + 1, none⟩ = some (.int .u64 (t.I : Int)) ∧ w.cell? ⟨g, k * 3 + 2, none⟩ = some (.int .i64 (t.W : Int)) := by
  rcases h.2 with ⟨e, h0⟩ | ⟨g, cap, cur, e, _⟩
  · have := (List.getElem?_eq_some_iff.1 ht).1; omega
  · injection e with e1 e2 e3
    subst e1
    obtain ⟨q1, q2, q3⟩ := tic_at l k t ht
    have a := h.cells (g := g) rfl _ _ q1
    have b := h.cells (g := g) rfl _ _ q2
    have c := h.cells (g := g) rfl _ _ q3
    rw [addZ] at a b c
    exact ⟨g, rfl, a, b, c⟩
set_option maxHeartbeats 2000000 in
theorem samet_yesP (l : List Ti) (ad bd : Option Addr) (ca cb b1 b2 : Nat) (w : World) (hu : w.ownsRow b1 104 3 (.slice ad l.length ca) l.length (tic l)) (hv : w.ownsRow b2 104 3 (.slice bd l.length cb) l.length (tic l)) (hl : l.length < 4611686018427387904) :
    Calls Tryz.prog 25 #[.slice ad l.length ca, .slice bd l.length cb] w fun e w' => e = .returned (.bool true) ∧ Nw w w' := by
  have HU : Hid (w.ownsRow b1 104 3 (.slice ad l.length ca) l.length (tic l)) := hu
  have HV : Hid (w.ownsRow b2 104 3 (.slice bd l.length cb) l.length (tic l)) := hv
  clear hu hv
  obtain ⟨n, hn⟩ : ∃ n, n = l.length := ⟨_, rfl⟩
  have HN : Hid (n = l.length) := hn
  rw [← hn] at hl ⊢
  clear hn
  go_enter Tryz.func25, Tryz.ntmps25
  go_wp2
  go_loopw [5] (fun i wr => ∃ k : Nat, k ≤ n ∧ i = .int .i64 k ∧ Nw w wr) (fun i _ => n - (intOf i).toNat)
  case atStart => exact ⟨0, by omega, rfl, nwr w⟩
  case round =>
    obtain ⟨k, hk, rfl, hnw⟩ := hrel
    by_cases hlt : k < n
    · obtain ⟨t, ht⟩ : ∃ t, l[k]? = some t := ⟨_, List.getElem?_eq_getElem (by rw [← HN.out]; exact hlt)⟩
      obtain ⟨g, rfl, g1, g2, g3⟩ := tic_cellsP HU.out k t ht
      obtain ⟨p, rfl, p1, p2, p3⟩ := tic_cellsP HV.out k t ht
      have g1' := hnw.cellOf g1
      have g2' := hnw.cellOf g2
      have g3' := hnw.cellOf g3
      have p1' := hnw.cellOf p1
      have p2' := hnw.cellOf p2
      have p3' := hnw.cellOf p3
      clear g1 g2 g3 p1 p2 p3 ht
      have hki : (k : Int) < (n : Int) := by omega
      go_wp2
      go_quiet (fail)
      go_wp2
      exact ⟨⟨k + 1, by omega, by go_num, hnw.drewN nq⟩, by simp [intOf]; omega⟩
    · obtain rfl : k = n := by omega
      go_wp2
      go_ret
      exact ⟨rfl, hnw⟩
section
variable {w : World} {o : Oper} {a : Act} {K : Act → Prop}
theorem quiet_cellP {t : TypeId} (x : Operand) (ho : o.op = .load t x) (g off : Nat) (hx : a.eval x = .pointer (some ⟨g, off, none⟩)) (ht : ∀ W, (isAgg t).run Tryz.prog W = .ok false W) (v : Value) (hc : w.cell? ⟨g, off, none⟩ = some v) (hk : K (a.put o.dst v)) : o.quiet Tryz.prog a (fun w' => ∃ x : Grw w, w' = x.val) K := by
  refine ⟨v, ?_, hk⟩
  rintro W ⟨y, rfl⟩
  have h1 := y.cell hc
  unfold Oper.quietAt execOp
  simp only [ho, hx, Instr.loadAt, sure, loadVar, Sem.run_bind, Sem.run_pure, Sem.run_ite, ht, Result.andThen_ok, run_load, h1, if_false, Bool.false_eq_true]
  exact ⟨rfl, rfl⟩
end
theorem noaggC (W : World) : (isAgg 25).run Tryz.prog W = .ok false W := by kernel_rfl
set_option maxHeartbeats 2000000 in
theorem samep_ne (u v : Value) (l m : List (List (Nat × Nat))) (w : World) (hu : Prt w u l) (hv : Prt w v m) (h : l.length ≠ m.length) (hl : l.length < 4611686018427387904) (hm : m.length < 4611686018427387904) :
    Calls Tryz.prog 11 #[u, v] w fun e w' => e = .returned (.bool false) ∧ w' = w := by
  obtain ⟨ad, ca, rfl, _⟩ := hu
  obtain ⟨bd, cb, rfl, _⟩ := hv
  have hne : ((l.length : Int) == (m.length : Int)) = false := by simp; omega
  go_enter Tryz.func11, Tryz.ntmps11
  go_wp2
  go_ret
  exact ⟨rfl, rfl⟩
set_option maxHeartbeats 2000000 in
theorem samep_yes (u v : Value) (ls : List (List (Nat × Nat))) (w : World) (hu : Prt w u ls) (hv : Prt w v ls) (hl : ls.length < 4611686018427387904) (hl3 : ∀ l ∈ ls, l.length < 4611686018427387904) :
    Calls Tryz.prog 11 #[u, v] w fun e w' => e = .returned (.bool true) ∧ Nw w w' := by
  obtain ⟨ad, ca, rfl, hu⟩ := hu
  obtain ⟨bd, cb, rfl, hv⟩ := hv
  have HU : Hid (∀ k l, ls[k]? = some l → ∃ g off x, ad = some ⟨g, off, none⟩ ∧ g < w.heap.size ∧ w.cell? ⟨g, off + k, none⟩ = some x ∧ Crd w x l) := hu
  have HV : Hid (∀ k l, ls[k]? = some l → ∃ g off x, bd = some ⟨g, off, none⟩ ∧ g < w.heap.size ∧ w.cell? ⟨g, off + k, none⟩ = some x ∧ Crd w x l) := hv
  have HL3 : Hid (∀ l ∈ ls, l.length < 4611686018427387904) := hl3
  clear hu hv hl3
  obtain ⟨n, hn⟩ : ∃ n, n = ls.length := ⟨_, rfl⟩
  have HN : Hid (n = ls.length) := hn
  rw [← hn] at hl ⊢
  clear hn
  go_enter Tryz.func11, Tryz.ntmps11
  go_wp2
  go_loopw [5] (fun i wr => ∃ k : Nat, k ≤ n ∧ i = .int .i64 k ∧ Nw w wr) (fun i _ => n - (intOf i).toNat)
  case atStart => exact ⟨0, by omega, rfl, nwr w⟩
  case round =>
    obtain ⟨k, hk, rfl, hnw⟩ := hrel
    by_cases hlt : k < n
    · obtain ⟨l, ht⟩ : ∃ t, ls[k]? = some t := ⟨_, List.getElem?_eq_getElem (by rw [← HN.out]; exact hlt)⟩
      obtain ⟨g, off, x, rfl, g1, g2, g3⟩ := HU.out k l ht
      obtain ⟨p, of2, y, rfl, p1, p2, p3⟩ := HV.out k l ht
      have g2' := hnw.cellOf g2
      have p2' := hnw.cellOf p2
      have g3' := g3.nw hnw
      have p3' := p3.nw hnw
      have HQ : Hid (∀ V, Nw wr V → Calls Tryz.prog 8 #[x, y] V fun e w' => e = .returned (.bool true) ∧ Nw V w') := fun V nV => same_yes x y l V (g3'.nw nV) (p3'.nw nV) (HL3.out l (List.mem_of_getElem? ht))
      have HW : Hid (Nw w wr) := hnw
      clear g2 p2 g3 p3 ht g3' p3' hnw
      have hki : (k : Int) < (n : Int) := by omega
      go_wp2
      (refine wp_region_grown (by kernel_rfl) (by kernel_rfl) ?_; (repeat (first | go_big_quiet_skip | (go_big_quiet_want; first | (refine quiet_cellP (.tmp 20) rfl g (off + k) rfl noaggC x g2' ?_; ((try simp only [Act.put, List.setIfInBounds_toArray, List.set_cons_zero, List.set_cons_succ]); go_big_quiet_on)) | (refine quiet_cellP (.tmp 25) rfl p (of2 + k) rfl noaggC y p2' ?_; ((try simp only [Act.put, List.setIfInBounds_toArray, List.set_cons_zero, List.set_cons_succ]); go_big_quiet_on)) | (go_big_quiet_op; first | go_big_quiet_on | go_big_quiet_call (first | rfl | with_reducible exact grw_call HQ.out (nwr _) _))))); refine wpQuiet_nil ?_; rintro W ⟨⟨_, nW⟩, rfl⟩)
      go_wp2
      exact ⟨⟨k + 1, by omega, by go_num, HW.out.tr nW⟩, by simp [intOf]; omega⟩
    · obtain rfl : k = n := by omega
      go_wp2
      go_ret
      exact ⟨rfl, hnw⟩
end Go.Proofs.YtlaiomgebkeldaaGreatDoor
