/- The document's Batch. -/
import Derived.Test.YtigbjpphmbmbiaaGreatDoorR3
namespace Go.Proofs.YtigbjpphmbmbiaaGreatDoor
open Go.RowKit
set_option linter.unusedVariables false
set_option linter.unusedSimpArgs false

theorem run_append_none {P : Program} (w : World) (t ty e : TypeId) (i : TypeInfo) (ht : P.underlying t = some (.slice e)) (hi : P.info? e = some i) {base size : Nat} {v : Value} {n : Nat} {xs : List Value} (hown : w.ownsRow base e size v n xs) :
    (Builtin.append_ #[t, t] ty #[v, .slice none 0 0]).run P w = .ok v w := by
  have hsrc : Src P i.size t (.slice none 0 0) 0 [] w := Src.ofNil w ht 0
  rcases hown.2 with ⟨rfl, rfl⟩ | ⟨g, cap, cur, rfl, _, _, hnc, _⟩
  · rcases hsrc.kind with ⟨e', hk⟩ | hk <;> simp [Builtin.append_, run_underlying ht, run_underlying hk, sizeOf, typeInfo, hi, hsrc.len, hsrc.cells, storeCells]
  · have hr := run_append_room_src (P := P) w t t ty e i ht hi g 0 n cap (.slice none 0 0) 0 [] hsrc (by omega) (fun j hj => by simp at hj) (fun j hj => by simp at hj)
    simpa [World.setCells] using hr
theorem wpList_append_none {P : Program} {w : World} {ops : Array Oper} {rest : List Oper} {o : Oper} {a : Act} {Q : Exit → Act → World → Prop} (hgd : o.guard = none) (s x : Operand) (t : TypeId)
    (ho : o.op = .call { callee := .builtin .append, args := #[s, x], argTypes := #[t, t] }) (e : TypeId) (i : TypeInfo) (ht : P.underlying t = some (.slice e)) (hi : P.info? e = some i)
    {base size : Nat} (v : Value) {n : Nat} {xs : List Value} (hs : a.eval s = v) (hown : w.ownsRow base e size v n xs) (hx : a.eval x = .slice none 0 0)
    (h : wpList P ops Q rest (a.put o.dst v) w) : wpList P ops Q (o :: rest) a w := by
  refine wpList_plain hgd fun K hK => ?_
  have hr := run_append_none (P := P) w t o.type e i ht hi hown
  unfold Oper.wp execOp
  simp only [ho, resolve, invoke, builtin, Sem.run_bind, Sem.run_pure, Result.andThen_ok, List.map_toArray, List.map_cons, List.map_nil, hs, hx, hr]
  exact hK _ _ h

theorem wpList_append_crd {w : World} {ops : Array Oper} {rest : List Oper} {o : Oper} {a : Act} {Q : Exit → Act → World → Prop} (hgd : o.guard = none) (s x : Operand)
    (ho : o.op = .call { callee := .builtin .append, args := #[s, x], argTypes := #[25, 25] }) (base : Nat)
    (v : Value) (l : List (Nat × Nat)) (hs : a.eval s = v) (hown : w.ownsRow base 74 2 v l.length (fs l)) (u : Value) (m : List (Nat × Nat)) (hx : a.eval x = u) {b2 : Nat} (hu : w.ownsRow b2 74 2 u m.length (fs m))
    (hn : l.length + m.length ≤ 1000) (hbase : base ≤ w.heap.size)
    (h : ∀ v' w', w'.ownsRow base 74 2 v' (l ++ m).length (fs (l ++ m)) → w.grownBy w' v.ownBlock → wpList Tryz.prog ops Q rest (a.put o.dst v') w') : wpList Tryz.prog ops Q (o :: rest) a w := by
  obtain ⟨i0, hi, hz0, hz1, hz2⟩ := info_parts infoS
  rcases hu.2 with ⟨rfl, hm⟩ | ⟨g, cap, cur, rfl, _⟩
  · have hm0 : m = [] := List.length_eq_zero_iff.1 hm
    subst hm0
    refine wpList_append_none hgd s x _ ho _ i0 Tryz.underlying25 hi v hs hown hx ?_
    refine h v w ?_ ⟨rfl, rfl, rfl, Nat.le_refl _, fun _ _ _ => rfl⟩
    rw [List.append_nil]
    exact hown
  · refine wpList_append_own w hgd s x _ ho base _ i0 (sp 0 0) 2 16 Tryz.underlying25 hi hz0 hz1 hz2 rfl (by decide) v l.length (fs l) hs hown ⟨g, 0, none⟩ m.length cap (fs m) hx (fs_len m) (hu.cells (g := g) rfl) (fs_one m) (by unfold maxLen; omega) (by omega) hbase ?_
    intro v' w' h1 h2 _
    refine h v' w' ?_ h2
    rw [List.length_append, fs_app]
    exact h1
set_option maxRecDepth 100000 in
set_option maxHeartbeats 4000000 in
theorem rbatch_any (x y : Nat) : ∀ (n b e : Nat) (w : World), e - b ≤ n → b < e → e ≤ 9223372036854775808 → (bat x y b e).length ≤ 200 →
    Calls Tryz.prog 32 #[.int .u64 (x : Int), .int .u64 (y : Int), sp b e] w fun z w' => ∃ v, z = .returned v ∧ w'.ownsRow w.heap.size 74 2 v (bat x y b e).length (fs (bat x y b e)) ∧ Nw w w' := by
  intro n
  induction n with
  | zero => intro b e w h1 h2 h3; omega
  | succ n ih =>
    intro b e w hn hbe h63 hlen
    have IH := show Hid _ from ih
    clear ih
    by_cases hout : y ≤ b ∨ e ≤ x
    · rw [bat_out hout]
      have ho := own_one (w.alloc (.cells #[.int .u64 (b : Int), .int .u64 (e : Int)] 74)) b e
      rw [World.size_alloc] at ho
      have HO := show Hid _ from ho
      have hw : (y : Int) ≤ (b : Int) ∨ (¬ (y : Int) ≤ (b : Int) ∧ (e : Int) ≤ (x : Int)) := by omega
      clear ho hout hlen
      rcases hw with hw | ⟨hw1, hw2⟩
      all_goals
        go_enter Tryz.func32, Tryz.ntmps32
        go_wp2_with fail
        exact bodyPost_ret (v := .slice (some ⟨w.heap.size + 1, 0, none⟩) 1 1) (by simp [results, Tryz.results32]) rfl ⟨_, rfl, ownsRow_base HO.out (by omega), (nwa w _).alloc _⟩
    · have h1 : ¬ (y : Int) ≤ (b : Int) := by omega
      have h2 : ¬ (e : Int) ≤ (x : Int) := by omega
      by_cases hin : x ≤ b ∧ e ≤ y
      · rw [bat_in hout hin]
        have h3 : (x : Int) ≤ (b : Int) := by omega
        have h4 : (e : Int) ≤ (y : Int) := by omega
        clear hout hin hlen
        go_enter Tryz.func32, Tryz.ntmps32
        go_wp2_with fail
        exact bodyPost_ret (v := .slice none 0 0) (by simp [results, Tryz.results32]) rfl ⟨_, rfl, World.ownsRow_nil _ _ _ _, nwa w _⟩
      · have h2e : 2 ≤ e - b := by omega
        have HL := bat_cut hout hin
        have s1 := spl_lt h2e
        have s0 := spl_pos (e - b)
        have hee : (e : Int) - (b : Int) = ((e - b : Nat) : Int) := by omega
        have QC := show Hid _ from rsplit_yes (e - b) h2e (by omega)
        have hw : ¬ (x : Int) ≤ (b : Int) ∨ ((x : Int) ≤ (b : Int) ∧ ¬ (e : Int) ≤ (y : Int)) := by omega
        obtain ⟨m, hm⟩ : ∃ m, m = spl (e - b) := ⟨_, rfl⟩
        obtain ⟨k, hk⟩ : ∃ k, k = b + m := ⟨_, rfl⟩
        have HM : b + spl (e - b) = k := by rw [hk, hm]
        rw [HM] at HL
        rw [← hm] at QC s1 s0
        have hbk : (b : Int) + (m : Int) = (k : Int) := by omega
        have hkb : b < k ∧ k < e := by omega
        rw [HL] at hlen ⊢
        have hll : (bat x y b k).length + (bat x y k e).length ≤ 200 := by simpa using hlen
        have HA : Hid (∀ (W : World), Calls Tryz.prog 32 #[.int .u64 (x : Int), .int .u64 (y : Int), sp b k] W fun z w' => ∃ v, z = .returned v ∧ w'.ownsRow W.heap.size 74 2 v (bat x y b k).length (fs (bat x y b k)) ∧ Nw W w') := fun W => IH.out b k W (by omega) (by omega) (by omega) (by omega)
        have HB : Hid (∀ (W : World), Calls Tryz.prog 32 #[.int .u64 (x : Int), .int .u64 (y : Int), sp k e] W fun z w' => ∃ v, z = .returned v ∧ w'.ownsRow W.heap.size 74 2 v (bat x y k e).length (fs (bat x y k e)) ∧ Nw W w') := fun W => IH.out k e W (by omega) (by omega) (by omega) (by omega)
        obtain ⟨A, hA⟩ : ∃ A, A = bat x y b k := ⟨_, rfl⟩
        obtain ⟨B, hB⟩ : ∃ B, B = bat x y k e := ⟨_, rfl⟩
        rw [← hA, ← hB] at hll ⊢
        rw [← hA] at HA
        rw [← hB] at HB
        clear hlen HL HM hm hk hA hB hout hin
        rcases hw with hw | ⟨hw1, hw2⟩
        all_goals
          go_enter Tryz.func32, Tryz.ntmps32
          go_wp2_with fail
          refine (QC.out _).mono ?_
          rintro z w1 ⟨rfl, rfl⟩
          go_wp2_with fail
          refine (HA.out _).mono ?_
          rintro z w2 ⟨v2, rfl, o2, n2⟩
          obtain ⟨l0, b0, n2'⟩ := one_made n2
          have c0 := cell2a b0
          have c1 := cell2b b0
          have O2 : Hid (w2.ownsRow w.heap.size 74 2 v2 A.length (fs A)) := ownsRow_base o2 (by simp)
          have N2 : Hid (Nw w w2) := n2'
          clear n2 b0 n2' o2
          go_wp2_with fail
          refine (HB.out _).mono ?_
          rintro z w3 ⟨v3, rfl, o3, n3⟩
          have O3 : Hid (w3.ownsRow w.heap.size 74 2 v2 A.length (fs A)) := ownsRow_keep O2.out (fun g hg => n3.block g (O2.out.lt g hg).2 (fun f => f))
          have N3 : Hid (Nw w w3) := N2.out.tr n3
          have P3 : Hid (w3.ownsRow w2.heap.size 74 2 v3 B.length (fs B)) := o3
          clear n3 o3 c0 c1
          have s3 := N3.out.size
          go_wp2_with (at_builtin; refine wpList_append_crd rfl (.tmp 51) (.tmp 61) rfl w.heap.size v2 A rfl O3.out v3 B rfl P3.out (by omega) s3 ?_; intro v' w5 o5 g5; have n5 : Hid (Nw w w5) := N3.out.grown g5 (fun q hq hlt => by have := (O3.out.lt q hq).1; omega); have O5 := show Hid _ from o5; obtain ⟨xa, xc, rfl⟩ := ownsRow_form o5; clear o5 g5)
          exact bodyPost_ret (v := .slice xa (A ++ B).length xc) (by simp [results, Tryz.results32]) rfl ⟨_, rfl, O5.out, n5.out⟩

set_option maxHeartbeats 1000000 in
theorem rBatch_no (x y n : Nat) (h : ¬ (x < y ∧ y ≤ n ∧ n ≤ 9223372036854775808)) (w : World) :
    Calls Tryz.prog 15 #[.int .u64 (x : Int), .int .u64 (y : Int), .int .u64 (n : Int)] w fun z w' => z = .returned (.tuple #[.slice none 0 0, .agg #[.int .i64 5, .int .i64 (-1)]]) ∧ Nw w w' := by
  have hn : (9223372036854775808 : Int) < (n : Int) ∨ (¬ (9223372036854775808 : Int) < (n : Int) ∧ (n : Int) < (y : Int)) ∨ (¬ (9223372036854775808 : Int) < (n : Int) ∧ ¬ (n : Int) < (y : Int) ∧ (y : Int) ≤ (x : Int)) := by first | omega | (simp; omega)
  clear h
  go_enter Tryz.func15, Tryz.ntmps15
  rcases hn with hn | ⟨hn, hn2⟩ | ⟨hn, hn2, hn3⟩
  all_goals
    go_wp2_with fail
    refine (rfault_t _).mono ?_
    rintro z w1 ⟨rfl, n1⟩
    have b1 : w1.heap[w.heap.size]? = some (cF 0 0) := (n1.block _ (by simp) (fun f => f)).trans (heap_new w _)
    have n2 : Nw w w1 := Nw.tr (nwa w _) n1
    have c0 := cell2a b1
    have c1 := cell2b b1
    have z0 := frozen_of b1 0
    have z1 := frozen_of b1 1
    have B1 := show Hid _ from b1
    clear n1 b1
    go_wp2
    refine bodyPost_ret (results_slot_cell (V := #[.int .i64 5, .int .i64 (-1)]) (ty := 31) (f := (0, 0)) Tryz.results15 Tryz.isAgg31 Tryz.sizeOf31 rfl _ rfl ?_ rfl) rfl ⟨rfl, (by repeat first | with_reducible exact n2 | with_reducible refine Fr.alloc ?_ _ | with_reducible refine Fr.drew ?_ | (with_reducible refine Fr.setCell ?_ _ _ (fun h => ?_); rotate_left; focus (simp only at h; omega)))⟩
    (repeat first | with_reducible exact B1.out | with_reducible exact heap_new _ _ | with_reducible exact heap_next _ _ _ | with_reducible exact heap_third _ _ _ _ | with_reducible refine hp_dr ?_ | (with_reducible refine hp_ne ?_ ?_; focus omega) | (with_reducible refine hp_al ?_ ?_; focus (first | omega | (simp <;> omega))) | with_reducible apply hp_set) <;> rfl
set_option maxHeartbeats 1000000 in
theorem rBatch_yes (x y n : Nat) (hxy : x < y) (hy : y ≤ n) (hn : n ≤ 9223372036854775808) (w : World) :
    Calls Tryz.prog 15 #[.int .u64 (x : Int), .int .u64 (y : Int), .int .u64 (n : Int)] w fun z w' => ∃ v, z = .returned (.tuple #[v, .agg #[.int .i64 0, .int .i64 0]]) ∧ w'.ownsRow w.heap.size 74 2 v (bat x y 0 n).length (fs (bat x y 0 n)) ∧ Nw w w' := by
  have h1 : ¬ (n : Int) < (y : Int) := by omega
  have h2 : ¬ (y : Int) ≤ (x : Int) := by omega
  have hl := bat_len 63 x y 0 n (by rw [p63]; omega)
  have HL : Hid ((bat x y 0 n).length ≤ 200) := by show _ ≤ _; omega
  clear hl
  go_enter Tryz.func15, Tryz.ntmps15
  go_wp2_with fail
  refine (rbatch_any x y n 0 n _ (by omega) (by omega) hn HL.out).mono ?_
  rintro z w1 ⟨v, rfl, o1, n1⟩
  obtain ⟨va, vc, rfl⟩ := ownsRow_form o1
  have b1 : w1.heap[w.heap.size]? = some (cF 0 0) := (n1.block _ (by simp) (fun f => f)).trans (heap_new w _)
  have n2 : Nw w w1 := Nw.tr (nwa w _) n1
  have O1 : Hid (w1.ownsRow (w.heap.size + 1) 74 2 (.slice va (bat x y 0 n).length vc) (bat x y 0 n).length (fs (bat x y 0 n))) := by
    have := o1
    rw [World.size_alloc] at this
    exact this
  have B1 := show Hid _ from b1
  have N2 : Hid (Nw w w1) := n2
  clear n1 b1 n2 o1
  go_wp2_with fail
  refine (rfault_f _).mono ?_
  rintro z w2 ⟨rfl, n3⟩
  have b2 := (n3.block _ (heap_lt B1.out) (fun f => f)).trans B1.out
  have N3 : Hid (Nw w w2) := N2.out.tr n3
  have O2 : Hid (w2.ownsRow (w.heap.size + 1) 74 2 (.slice va (bat x y 0 n).length vc) (bat x y 0 n).length (fs (bat x y 0 n))) := ownsRow_keep O1.out (fun g hg => n3.block g (O1.out.lt g hg).2 (fun f => f))
  have c0 := cell2a b2
  have c1 := cell2b b2
  have z0 := frozen_of b2 0
  have z1 := frozen_of b2 1
  have B2 := show Hid _ from b2
  clear n3 b2
  go_wp2
  refine bodyPost_ret (results_slot_cell (V := #[.int .i64 0, .int .i64 0]) (ty := 31) (f := (0, 0)) Tryz.results15 Tryz.isAgg31 Tryz.sizeOf31 rfl _ rfl ?_ rfl) rfl ⟨_, rfl, ?_, (by repeat first | with_reducible exact N3.out | with_reducible refine Fr.alloc ?_ _ | with_reducible refine Fr.drew ?_ | (with_reducible refine Fr.setCell ?_ _ _ (fun h => ?_); rotate_left; focus (simp only at h; omega)))⟩
  · (repeat first | with_reducible exact B2.out | with_reducible exact heap_new _ _ | with_reducible exact heap_next _ _ _ | with_reducible exact heap_third _ _ _ _ | with_reducible refine hp_dr ?_ | (with_reducible refine hp_ne ?_ ?_; focus omega) | (with_reducible refine hp_al ?_ ?_; focus (first | omega | (simp <;> omega))) | with_reducible apply hp_set) <;> rfl
  · refine ownsRow_keep (ownsRow_base O2.out (by omega)) (fun q hq => ?_)
    have := (O2.out.lt q hq).1
    rw [heap_set_ne (by omega), heap_set_ne (by omega)]
end Go.Proofs.YtigbjpphmbmbiaaGreatDoor
