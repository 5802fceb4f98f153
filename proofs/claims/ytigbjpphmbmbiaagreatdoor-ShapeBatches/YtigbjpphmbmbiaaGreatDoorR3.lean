/- The document's Proof. -/
import Derived.Test.YtigbjpphmbmbiaaGreatDoorR2
namespace Go.Proofs.YtigbjpphmbmbiaaGreatDoor
open Go.RowKit
set_option linter.unusedVariables false
set_option linter.unusedSimpArgs false

/-- A row of one stretch that was made. -/
theorem own_one (w : World) (b e : Nat) : (w.alloc (.cells #[.int .u64 (b : Int), .int .u64 (e : Int)] 74)).ownsRow w.heap.size 74 2 (.slice (some ⟨w.heap.size, 0, none⟩) 1 1) [(b, e)].length (fs [(b, e)]) :=
  ⟨rfl, .inr ⟨w.heap.size, 1, _, rfl, Nat.le_refl _, heap_new _ _, by simp, by unfold maxLen; omega, by simp, by simp [fs]⟩⟩

set_option maxRecDepth 100000 in
set_option maxHeartbeats 4000000 in
theorem rsub_any : ∀ (n i b e : Nat) (known : Bool) (w : World), e - b ≤ n → b < i → i ≤ e → e ≤ 9223372036854775808 → (prf i b e known).length ≤ 200 →
    Calls Tryz.prog 31 #[.int .u64 ((i - b : Nat) : Int), sp b e, .bool known] w fun x w' => ∃ v, x = .returned v ∧ w'.ownsRow w.heap.size 74 2 v (prf i b e known).length (fs (prf i b e known)) ∧ Nw w w' := by
  obtain ⟨i0, hi, hz0, hz1, hz2⟩ := info_parts infoS
  intro n
  induction n with
  | zero => intro i b e known w h1 h2 h3; omega
  | succ n ih =>
    intro i b e known w hn hb he h63 hlen
    have IH := show Hid _ from ih
    clear ih
    obtain ⟨j, hj⟩ : ∃ j, j = i - b := ⟨_, rfl⟩
    rw [← hj]
    by_cases hie : i = e
    · subst hie
      have hq : (i : Int) - (b : Int) = (j : Int) := by omega
      have hj2 : j < 18446744073709551616 := by omega
      clear hj
      cases known with
      | true =>
        rw [prf_known]
        go_enter Tryz.func31, Tryz.ntmps31
        go_wp2_with fail
        exact bodyPost_ret (v := .slice none 0 0) (by simp [results, Tryz.results31]) rfl ⟨_, rfl, World.ownsRow_nil _ _ _ _, nwa w _⟩
      | false =>
        rw [prf_whole]
        have ho := own_one (w.alloc (.cells #[.int .u64 (b : Int), .int .u64 (i : Int)] 74)) b i
        rw [World.size_alloc] at ho
        have HO := show Hid _ from ho
        clear ho
        go_enter Tryz.func31, Tryz.ntmps31
        go_wp2_with fail
        exact bodyPost_ret (v := .slice (some ⟨w.heap.size + 1, 0, none⟩) 1 1) (by simp [results, Tryz.results31]) rfl ⟨_, rfl, ownsRow_base HO.out (by omega), (nwa w _).alloc _⟩
    · have h2 : 2 ≤ e - b := by omega
      have h1 := spl_lt h2
      have h0 := spl_pos (e - b)
      have hee : (e : Int) - (b : Int) = ((e - b : Nat) : Int) := by omega
      have hq : ((j : Int) == ((e - b : Nat) : Int)) = false := by simp; omega
      have QC := show Hid _ from rsplit_yes (e - b) h2 (by omega)
      obtain ⟨m, hm⟩ : ∃ m, m = spl (e - b) := ⟨_, rfl⟩
      obtain ⟨k, hk⟩ : ∃ k, k = b + m := ⟨_, rfl⟩
      have HM : Hid (b + spl (e - b) = k) := by show _ = _; rw [hk, hm]
      rw [← hm] at QC h1 h0
      have hbk : (b : Int) + (m : Int) = (k : Int) := by omega
      have hkb : b < k ∧ k < e := by omega
      have hjb : i = b + j := by omega
      by_cases hlt : i ≤ k
      · have HL := prf_left (known := known) h2 hie (by rw [HM.out]; exact hlt)
        rw [HM.out] at HL
        rw [HL] at hlen ⊢
        have hik : (j : Int) ≤ (m : Int) := by omega
        have hl1 : (prf i b k known).length ≤ 199 := by simp at hlen; omega
        have HIH : Hid (∀ (W' : World), Calls Tryz.prog 31 #[.int .u64 (j : Int), sp b k, .bool known] W' fun x w' => ∃ v, x = .returned v ∧ w'.ownsRow W'.heap.size 74 2 v (prf i b k known).length (fs (prf i b k known)) ∧ Nw W' w') := fun W' => by
          have := IH.out i b k known W' (by omega) hb hlt (by omega) (by omega)
          rw [← hj] at this
          exact this
        have HF : Hid (∀ (v' : Value) (w5 : World), w5.ownsRow w.heap.size 74 2 v' ((prf i b k known).length + 1) (fs (prf i b k known) ++ [.int .u64 (k : Int), .int .u64 (e : Int)]) → w5.ownsRow w.heap.size 74 2 v' (prf i b k known ++ [(k, e)]).length (fs (prf i b k known ++ [(k, e)]))) := fun v' w5 o => by rw [List.length_append, fs_app]; exact o
        clear HL hlen hj hk hm hie hjb
        go_enter Tryz.func31, Tryz.ntmps31
        go_wp2_with fail
        refine (QC.out _).mono ?_
        rintro x w1 ⟨rfl, rfl⟩
        go_wp2_with fail
        refine gen_world (fun W => W.heap[w.heap.size + 1]? = some (.cells #[.int .u64 (b : Int), .int .u64 (k : Int)] 74) ∧ W.heap[w.heap.size + 1 + 1]? = some (.cells #[.int .u64 (k : Int), .int .u64 (e : Int)] 74) ∧ Nw w W) ⟨by (repeat first | with_reducible exact heap_next _ _ _ | with_reducible exact heap_new _ _ | with_reducible exact heap_next _ _ _ | with_reducible exact heap_third _ _ _ _ | with_reducible refine hp_dr ?_ | (with_reducible refine hp_ne ?_ ?_; focus omega) | (with_reducible refine hp_al ?_ ?_; focus (first | omega | (simp <;> omega))) | with_reducible apply hp_set) <;> rfl, heap_third _ _ _ _, (by repeat first | with_reducible exact nwr w | with_reducible refine Fr.alloc ?_ _ | with_reducible refine Fr.drew ?_ | (with_reducible refine Fr.setCell ?_ _ _ (fun h => ?_); rotate_left; focus (simp only at h; omega)))⟩ ?_
        rintro W ⟨bl, br, nW⟩
        have NWW : Hid (Nw w W) := nW
        have lW := heap_lt br
        have lW1 := heap_lt bl
        have cl0 := cell2a bl
        have cl1 := cell2b bl
        have cx := cell2a br
        have cy := cell2b br
        clear bl br nW
        have HC := show Hid _ from HIH.out
        go_region_law (first
          | (show if Region.wanted (Oper.mk _ (.call ⟨.value (.func 31), _, _⟩) _ _ _ _) _ = true then _ else _; refine step_calls rfl 31 #[.int .u64 (j : Int), sp b k, .bool known] (by go_simp) (HC.out _) ?_; rintro v2 w2 ⟨o2, n2⟩; have nx : Nw W w2 := Nw.tr (by repeat first | with_reducible exact nwr W | with_reducible refine Fr.alloc ?_ _ | with_reducible refine Fr.drew ?_ | (with_reducible refine Fr.setCell ?_ _ _ (fun h => ?_); rotate_left; focus (simp only at h; omega))) n2; have O2 : Hid (w2.ownsRow w.heap.size 74 2 v2 (prf i b k known).length (fs (prf i b k known))) := ownsRow_base o2 (by first | (simp; omega) | (have := NWW.out.size; simp; omega)); have NX : Hid (Nw W w2) := nx; have r0 := nx.cellOf cx; have r1 := nx.cellOf cy; have lx := Nat.lt_of_lt_of_le lW nx.size; (try (have HNC : Hid (∀ j u, [Value.int .u64 (k : Int), .int .u64 (e : Int)][j]? = some u → w2.cell? ((⟨W.heap.size, 0, none⟩ : Addr).add j) = some u) := fun j u h => n2.cellOf (sp_new (w := W) (k : Int) (e : Int) 74 j u h))); obtain ⟨va, vc, rfl⟩ := ownsRow_form O2.out; clear o2 n2 nx)
          | (refine step_append_own rfl (.tmp 50) (.tmp 52) 25 rfl w.heap.size 74 i0 (sp 0 0) 2 16 Tryz.underlying25 hi hz0 hz1 hz2 rfl (by decide) (.slice va (prf i b k known).length vc) (prf i b k known).length (fs (prf i b k known)) rfl (O2.out.alloc _) ⟨w2.heap.size, 0, none⟩ 1 1 [.int .u64 (k : Int), .int .u64 (e : Int)] rfl rfl (sp_new (w := w2) (k : Int) (e : Int) 74) (by simp [Value.oneCell']) (by unfold maxLen; omega) (by omega) (by have := NX.out.size; have := NWW.out.size; simp; omega) ?_; intro v' w5 o5 g5; have n5 : Hid (Nw w w5) := ((NWW.out.tr NX.out).alloc _).grown g5 (fun q hq hlt => by have := (O2.out.lt q hq).1; omega); have HF5 := show Hid _ from HF.out v' w5 o5; obtain ⟨xa, xc, rfl⟩ := ownsRow_form o5; clear o5 g5)
          | (refine step_append_own rfl (.tmp 50) (.tmp 52) 25 rfl w.heap.size 74 i0 (sp 0 0) 2 16 Tryz.underlying25 hi hz0 hz1 hz2 rfl (by decide) (.slice va (prf i b k known).length vc) (prf i b k known).length (fs (prf i b k known)) rfl O2.out ⟨W.heap.size, 0, none⟩ 1 1 [.int .u64 (k : Int), .int .u64 (e : Int)] rfl rfl HNC.out (by simp [Value.oneCell']) (by unfold maxLen; omega) (by omega) (by have := NX.out.size; have := NWW.out.size; omega) ?_; intro v' w5 o5 g5; have n5 : Hid (Nw w w5) := (NWW.out.tr NX.out).grown g5 (fun q hq hlt => by have := (O2.out.lt q hq).1; omega); have HF5 := show Hid _ from HF.out v' w5 o5; obtain ⟨xa, xc, rfl⟩ := ownsRow_form o5; clear o5 g5))
        all_goals
          try simp only [List.getElem_toArray, List.getElem_cons_succ, List.getElem_cons_zero, Act.put, List.setIfInBounds_toArray, List.set_cons_succ, List.set_cons_zero]
          go_wp2_with fail
          exact bodyPost_ret (v := .slice xa ((prf i b k known).length + 1) xc) (by simp [results, Tryz.results31]) rfl ⟨_, rfl, HF5.out, n5.out⟩
      · have HL := prf_right (known := known) h2 hie (by rw [HM.out]; exact hlt)
        rw [HM.out] at HL
        rw [HL] at hlen ⊢
        have hik : ¬ (j : Int) ≤ (m : Int) := by omega
        have hl1 : (prf i k e false).length ≤ 199 := by simp at hlen; omega
        obtain ⟨j2, hj2⟩ : ∃ j2, j2 = i - k := ⟨_, rfl⟩
        have hjj : (j : Int) - (m : Int) = (j2 : Int) := by omega
        have HIH : Hid (∀ (W' : World), Calls Tryz.prog 31 #[.int .u64 (j2 : Int), sp k e, .bool false] W' fun x w' => ∃ v, x = .returned v ∧ w'.ownsRow W'.heap.size 74 2 v (prf i k e false).length (fs (prf i k e false)) ∧ Nw W' w') := fun W' => by
          have := IH.out i k e false W' (by omega) (by omega) he (by omega) (by omega)
          rw [← hj2] at this
          exact this
        have HF : Hid (∀ (v' : Value) (w5 : World), w5.ownsRow w.heap.size 74 2 v' ((prf i k e false).length + 1) (fs (prf i k e false) ++ [.int .u64 (b : Int), .int .u64 (k : Int)]) → w5.ownsRow w.heap.size 74 2 v' (prf i k e false ++ [(b, k)]).length (fs (prf i k e false ++ [(b, k)]))) := fun v' w5 o => by rw [List.length_append, fs_app]; exact o
        have hjw : IntKind.u64.wrap (j2 : Int) = (j2 : Int) := by rw [w64]; omega
        clear HL hlen hj hk hm hie hjb hj2
        go_enter Tryz.func31, Tryz.ntmps31
        go_wp2_with fail
        refine (QC.out _).mono ?_
        rintro x w1 ⟨rfl, rfl⟩
        go_wp2_with fail
        refine gen_world (fun W => W.heap[w.heap.size + 1]? = some (.cells #[.int .u64 (b : Int), .int .u64 (k : Int)] 74) ∧ W.heap[w.heap.size + 1 + 1]? = some (.cells #[.int .u64 (k : Int), .int .u64 (e : Int)] 74) ∧ Nw w W) ⟨by (repeat first | with_reducible exact heap_next _ _ _ | with_reducible exact heap_new _ _ | with_reducible exact heap_next _ _ _ | with_reducible exact heap_third _ _ _ _ | with_reducible refine hp_dr ?_ | (with_reducible refine hp_ne ?_ ?_; focus omega) | (with_reducible refine hp_al ?_ ?_; focus (first | omega | (simp <;> omega))) | with_reducible apply hp_set) <;> rfl, heap_third _ _ _ _, (by repeat first | with_reducible exact nwr w | with_reducible refine Fr.alloc ?_ _ | with_reducible refine Fr.drew ?_ | (with_reducible refine Fr.setCell ?_ _ _ (fun h => ?_); rotate_left; focus (simp only at h; omega)))⟩ ?_
        rintro W ⟨br, bl, nW⟩
        have NWW : Hid (Nw w W) := nW
        have lW := heap_lt br
        have lW1 := heap_lt bl
        have cl0 := cell2a bl
        have cl1 := cell2b bl
        have cx := cell2a br
        have cy := cell2b br
        clear bl br nW
        have HC := show Hid _ from HIH.out
        go_region_law (first
          | (show if Region.wanted (Oper.mk _ (.call ⟨.value (.func 31), _, _⟩) _ _ _ _) _ = true then _ else _; refine step_calls rfl 31 #[.int .u64 (j2 : Int), sp k e, .bool false] (by go_simp) (HC.out _) ?_; rintro v2 w2 ⟨o2, n2⟩; have nx : Nw W w2 := Nw.tr (by repeat first | with_reducible exact nwr W | with_reducible refine Fr.alloc ?_ _ | with_reducible refine Fr.drew ?_ | (with_reducible refine Fr.setCell ?_ _ _ (fun h => ?_); rotate_left; focus (simp only at h; omega))) n2; have O2 : Hid (w2.ownsRow w.heap.size 74 2 v2 (prf i k e false).length (fs (prf i k e false))) := ownsRow_base o2 (by first | (simp; omega) | (have := NWW.out.size; simp; omega)); have NX : Hid (Nw W w2) := nx; have r0 := nx.cellOf cx; have r1 := nx.cellOf cy; have lx := Nat.lt_of_lt_of_le lW nx.size; (try (have HNC : Hid (∀ j u, [Value.int .u64 (b : Int), .int .u64 (k : Int)][j]? = some u → w2.cell? ((⟨W.heap.size, 0, none⟩ : Addr).add j) = some u) := fun j u h => n2.cellOf (sp_new (w := W) (b : Int) (k : Int) 74 j u h))); obtain ⟨va, vc, rfl⟩ := ownsRow_form O2.out; clear o2 n2 nx)
          | (refine step_append_own rfl (.tmp 58) (.tmp 60) 25 rfl w.heap.size 74 i0 (sp 0 0) 2 16 Tryz.underlying25 hi hz0 hz1 hz2 rfl (by decide) (.slice va (prf i k e false).length vc) (prf i k e false).length (fs (prf i k e false)) rfl (O2.out.alloc _) ⟨w2.heap.size, 0, none⟩ 1 1 [.int .u64 (b : Int), .int .u64 (k : Int)] rfl rfl (sp_new (w := w2) (b : Int) (k : Int) 74) (by simp [Value.oneCell']) (by unfold maxLen; omega) (by omega) (by have := NX.out.size; have := NWW.out.size; simp; omega) ?_; intro v' w5 o5 g5; have n5 : Hid (Nw w w5) := ((NWW.out.tr NX.out).alloc _).grown g5 (fun q hq hlt => by have := (O2.out.lt q hq).1; omega); have HF5 := show Hid _ from HF.out v' w5 o5; obtain ⟨xa, xc, rfl⟩ := ownsRow_form o5; clear o5 g5)
          | (refine step_append_own rfl (.tmp 58) (.tmp 60) 25 rfl w.heap.size 74 i0 (sp 0 0) 2 16 Tryz.underlying25 hi hz0 hz1 hz2 rfl (by decide) (.slice va (prf i k e false).length vc) (prf i k e false).length (fs (prf i k e false)) rfl O2.out ⟨W.heap.size, 0, none⟩ 1 1 [.int .u64 (b : Int), .int .u64 (k : Int)] rfl rfl HNC.out (by simp [Value.oneCell']) (by unfold maxLen; omega) (by omega) (by have := NX.out.size; have := NWW.out.size; omega) ?_; intro v' w5 o5 g5; have n5 : Hid (Nw w w5) := (NWW.out.tr NX.out).grown g5 (fun q hq hlt => by have := (O2.out.lt q hq).1; omega); have HF5 := show Hid _ from HF.out v' w5 o5; obtain ⟨xa, xc, rfl⟩ := ownsRow_form o5; clear o5 g5))
        all_goals
          try simp only [List.getElem_toArray, List.getElem_cons_succ, List.getElem_cons_zero, Act.put, List.setIfInBounds_toArray, List.set_cons_succ, List.set_cons_zero]
          go_wp2_with fail
          exact bodyPost_ret (v := .slice xa ((prf i k e false).length + 1) xc) (by simp [results, Tryz.results31]) rfl ⟨_, rfl, HF5.out, n5.out⟩

set_option maxHeartbeats 1000000 in
theorem rProof_no (i n : Nat) (h : ¬ (0 < i ∧ i ≤ n ∧ n ≤ 9223372036854775808)) (w : World) :
    Calls Tryz.prog 13 #[.int .u64 (i : Int), .int .u64 (n : Int)] w fun x w' => x = .returned (.tuple #[.slice none 0 0, .agg #[.int .i64 5, .int .i64 (-1)]]) ∧ Nw w w' := by
  have hn : (9223372036854775808 : Int) < (n : Int) ∨ (¬ (9223372036854775808 : Int) < (n : Int) ∧ ((i : Int) == 0) = true) ∨ (¬ (9223372036854775808 : Int) < (n : Int) ∧ ((i : Int) == 0) = false ∧ (n : Int) < (i : Int)) := by first | omega | (simp; omega)
  clear h
  go_enter Tryz.func13, Tryz.ntmps13
  rcases hn with hn | ⟨hn, hn2⟩ | ⟨hn, hn2, hn3⟩
  all_goals
    go_wp2_with fail
    refine (rfault_t _).mono ?_
    rintro x w1 ⟨rfl, n1⟩
    have b1 : w1.heap[w.heap.size]? = some (cF 0 0) := (n1.block _ (by simp) (fun f => f)).trans (heap_new w _)
    have n2 : Nw w w1 := Nw.tr (nwa w _) n1
    have c0 := cell2a b1
    have c1 := cell2b b1
    have z0 := frozen_of b1 0
    have z1 := frozen_of b1 1
    have B1 := show Hid _ from b1
    clear n1 b1
    go_wp2
    refine bodyPost_ret (results_slot_cell (V := #[.int .i64 5, .int .i64 (-1)]) (ty := 31) (f := (0, 0)) Tryz.results13 Tryz.isAgg31 Tryz.sizeOf31 rfl _ rfl ?_ rfl) rfl ⟨rfl, (by repeat first | with_reducible exact n2 | with_reducible refine Fr.alloc ?_ _ | with_reducible refine Fr.drew ?_ | (with_reducible refine Fr.setCell ?_ _ _ (fun h => ?_); rotate_left; focus (simp only at h; omega)))⟩
    (repeat first | with_reducible exact B1.out | with_reducible exact heap_new _ _ | with_reducible exact heap_next _ _ _ | with_reducible exact heap_third _ _ _ _ | with_reducible refine hp_dr ?_ | (with_reducible refine hp_ne ?_ ?_; focus omega) | (with_reducible refine hp_al ?_ ?_; focus (first | omega | (simp <;> omega))) | with_reducible apply hp_set) <;> rfl
set_option maxHeartbeats 1000000 in
theorem rProof_yes (i n : Nat) (h0 : 0 < i) (h : i ≤ n) (hn : n ≤ 9223372036854775808) (w : World) :
    Calls Tryz.prog 13 #[.int .u64 (i : Int), .int .u64 (n : Int)] w fun x w' => ∃ v, x = .returned (.tuple #[v, .agg #[.int .i64 0, .int .i64 0]]) ∧ w'.ownsRow w.heap.size 74 2 v (prf i 0 n true).length (fs (prf i 0 n true)) ∧ Nw w w' := by
  have hin : ¬ (n : Int) < (i : Int) := by omega
  have hiz : ((i : Int) == 0) = false := by simp; omega
  have hl := prf_len 63 i 0 n true (by rw [p63]; omega) h0 h
  have HL : Hid ((prf i 0 n true).length ≤ 200) := by show _ ≤ _; omega
  clear hl
  go_enter Tryz.func13, Tryz.ntmps13
  go_wp2_with fail
  refine (rsub_any n i 0 n true _ (by omega) (by omega) h hn HL.out).mono ?_
  rintro x w1 ⟨v, rfl, o1, n1⟩
  obtain ⟨va, vc, rfl⟩ := ownsRow_form o1
  have b1 : w1.heap[w.heap.size]? = some (cF 0 0) := (n1.block _ (by simp) (fun f => f)).trans (heap_new w _)
  have n2 : Nw w w1 := Nw.tr (nwa w _) n1
  have O1 : Hid (w1.ownsRow (w.heap.size + 1) 74 2 (.slice va (prf i 0 n true).length vc) (prf i 0 n true).length (fs (prf i 0 n true))) := by
    have := o1
    rw [World.size_alloc] at this
    exact this
  have B1 := show Hid _ from b1
  have N2 : Hid (Nw w w1) := n2
  clear n1 b1 n2 o1
  go_wp2_with fail
  refine (rfault_f _).mono ?_
  rintro x w2 ⟨rfl, n3⟩
  have b2 := (n3.block _ (heap_lt B1.out) (fun f => f)).trans B1.out
  have N3 : Hid (Nw w w2) := N2.out.tr n3
  have O2 : Hid (w2.ownsRow (w.heap.size + 1) 74 2 (.slice va (prf i 0 n true).length vc) (prf i 0 n true).length (fs (prf i 0 n true))) := ownsRow_keep O1.out (fun g hg => n3.block g (O1.out.lt g hg).2 (fun f => f))
  have c0 := cell2a b2
  have c1 := cell2b b2
  have z0 := frozen_of b2 0
  have z1 := frozen_of b2 1
  have B2 := show Hid _ from b2
  clear n3 b2
  go_wp2
  refine bodyPost_ret (results_slot_cell (V := #[.int .i64 0, .int .i64 0]) (ty := 31) (f := (0, 0)) Tryz.results13 Tryz.isAgg31 Tryz.sizeOf31 rfl _ rfl ?_ rfl) rfl ⟨_, rfl, ?_, (by repeat first | with_reducible exact N3.out | with_reducible refine Fr.alloc ?_ _ | with_reducible refine Fr.drew ?_ | (with_reducible refine Fr.setCell ?_ _ _ (fun h => ?_); rotate_left; focus (simp only at h; omega)))⟩
  · (repeat first | with_reducible exact B2.out | with_reducible exact heap_new _ _ | with_reducible exact heap_next _ _ _ | with_reducible exact heap_third _ _ _ _ | with_reducible refine hp_dr ?_ | (with_reducible refine hp_ne ?_ ?_; focus omega) | (with_reducible refine hp_al ?_ ?_; focus (first | omega | (simp <;> omega))) | with_reducible apply hp_set) <;> rfl
  · refine ownsRow_keep (ownsRow_base O2.out (by omega)) (fun q hq => ?_)
    have := (O2.out.lt q hq).1
    rw [heap_set_ne (by omega), heap_set_ne (by omega)]
end Go.Proofs.YtigbjpphmbmbiaaGreatDoor
