/- What the document answers: Cover, tree by tree, level by level. -/
import Derived.Test.YtibkmcmgolbhhaaGreatDoorD1
import Derived.Test.YtibkmcmgolbhhaaGreatDoorC8
import Derived.Test.YtibkmcmgolbhhaaGreatDoorE6
namespace Go.Proofs.YtibkmcmgolbhhaaGreatDoor
open Go.RowKit
set_option linter.unusedVariables false
set_option linter.unusedSimpArgs false

/-- The greatest level below n at which a tree begins at p and does not go beyond e. -/
def Bst (p e n M : Nat) : Prop := fits p e M ∧ M < n ∧ ∀ j, j < n → fits p e j → j ≤ M
theorem bst_zero {p e : Nat} (h : p < e) : Bst p e 1 0 := ⟨⟨by simp, by simp; omega⟩, by omega, fun j hj _ => by omega⟩
theorem bst_yes {p e n M : Nat} (h : Bst p e n M) (hf : fits p e n) : Bst p e (n + 1) n := ⟨hf, by omega, fun j hj _ => by omega⟩
theorem bst_no {p e n M : Nat} (h : Bst p e n M) (hf : ¬ fits p e n) : Bst p e (n + 1) M :=
  ⟨h.1, by have := h.2.1; omega, fun j hj hk => h.2.2 j (by rcases Nat.lt_or_ge j n with q | q; exact q; exact absurd (by rwa [show j = n by omega] at hk) hf) hk⟩
theorem bst_lev {p e M : Nat} (h : Bst p e 64 M) (hW : IsW p e (lev p e)) (hc : e ≤ 2 ^ 63) : M = lev p e :=
  Nat.le_antisymm (isW_max hW h.1) (h.2.2 _ (by have := isW_le hW hc; omega) hW.1)
theorem fits_span {p e l x y : Nat} {ok : Bool} (hs : SpanIs l (p / 2 ^ l) x y ok) (hf : fits p e l) (hl : l ≤ 63) (hc : e ≤ 2 ^ 63) : ok = true ∧ x = p ∧ y ≤ e := by
  have hd : p / 2 ^ l * 2 ^ l = p := Nat.div_mul_cancel hf.1
  have he : (p / 2 ^ l + 1) * 2 ^ l = p + 2 ^ l := by rw [Nat.add_mul, Nat.one_mul, hd]
  have hm : may l (p / 2 ^ l) := ⟨hl, by rw [he]; exact Nat.le_trans hf.2 hc⟩
  rcases hs with ⟨_, a, b, c⟩ | ⟨a, _⟩
  · exact ⟨c, by rw [a, hd], by rw [b, he]; exact hf.2⟩
  · exact absurd hm a
theorem span_fits {p e l x y : Nat} {ok : Bool} (hs : SpanIs l (p / 2 ^ l) x y ok) (h : ok = true) (hx : x = p) (hy : y ≤ e) : fits p e l := by
  rcases hs with ⟨_, a, b, _⟩ | ⟨_, _, _, c⟩
  · rw [hx] at a
    refine ⟨⟨p / 2 ^ l, by rw [Nat.mul_comm]; exact a⟩, ?_⟩
    rw [b, Nat.add_mul, Nat.one_mul, ← a] at hy
    exact hy
  · rw [h] at c; cases c
theorem results_slot_cell {P : Program} {w : World} {fn : Func} {i j : Nat} {t : TypeId} {n g : Nat} {tmps : Array Value} {V : Array Value} {ty : TypeId} {f : Nat × Nat} (hr : fn.results = #[.tmp j, .cell i t]) (hagg : ∀ W : World, (isAgg t).run P W = .ok true W) (hsz : ∀ W : World, (sizeOf t).run P W = .ok n W)
    (hx : tmps.getD i undef = .pointer (some ⟨g, 0, none⟩)) (v : Value) (hj : tmps.getD j undef = v) (hg : w.heap[g]? = some (.cells V ty f)) (hV : V.size = n) : (results fn tmps).run P w = .ok (.tuple #[v, .agg V]) w := by
  have hl : (loadCells ⟨g, 0, none⟩ n).run P w = .ok V w := by
    have := run_loadCells_list (P := P) w ⟨g, 0, none⟩ V.toList (fun j v hv => by
      rw [addZ, cell_of hg]
      simpa using hv)
    simpa [hV] using this
  have ha : ∀ W : World, (asAddr (.pointer (some ⟨g, 0, none⟩))).run P W = .ok ⟨g, 0, none⟩ W := fun W => by simp [asAddr]
  have hx2 : tmps[i]?.getD undef = .pointer (some ⟨g, 0, none⟩) := by rw [← hx]; simp [Array.getD]; split <;> simp_all
  have hj2 : tmps[j]?.getD undef = v := by rw [← hj]; simp [Array.getD]; split <;> simp_all
  simp [results, hr, hx2, hj2, ha, loadVar, hagg, hsz, hl]
abbrev cF (c p : Int) : Obj := .cells #[.int .i64 c, .int .i64 p] 27

set_option maxHeartbeats 1000000 in
theorem rcover_no (b e : Nat) (h : ¬ (b ≤ e ∧ e ≤ 9223372036854775808)) (hb : b < 18446744073709551616) (he : e < 18446744073709551616) (w : World) :
    Calls Tryz.prog 4 #[sp b e] w fun x w' => x = .returned (.tuple #[.slice none 0 0, .agg #[.int .i64 5, .int .i64 (-1)]]) ∧ Nw w w' := by
  have hn : (e : Int) < (b : Int) ∨ ((b : Int) ≤ (e : Int) ∧ (9223372036854775808 : Int) < (e : Int)) := by omega
  clear h
  go_enter Tryz.func4, Tryz.ntmps4
  rcases hn with hn | ⟨hn, hn2⟩
  all_goals
    go_wp2_with fail
    refine (plain_any 5 _ (by decide)).mono ?_
    rintro x w1 ⟨rfl, n1⟩
    have b1 : w1.heap[w.heap.size + 1]? = some (cF 0 0) := (n1.block _ (by simp) (fun f => f)).trans (heap_next w _ _)
    have n2 : Nw w w1 := Nw.tr (by repeat first | with_reducible exact nwr w | with_reducible refine Fr.alloc ?_ _ | with_reducible refine Fr.drew ?_ | (with_reducible refine Fr.setCell ?_ _ _ (fun h => ?_); rotate_left; focus (simp only at h; omega))) n1
    have c0 := cell2a b1
    have c1 := cell2b b1
    have z0 := frozen_of b1 0
    have z1 := frozen_of b1 1
    have B1 := show Hid _ from b1
    clear n1 b1
    go_wp2
    refine bodyPost_ret (results_slot_cell (V := #[.int .i64 5, .int .i64 (-1)]) (ty := 27) (f := (0, 0)) Tryz.results4 Tryz.isAgg27 Tryz.sizeOf27 rfl _ rfl ?_ rfl) rfl ⟨rfl, (by repeat first | with_reducible exact n2 | with_reducible refine Fr.alloc ?_ _ | with_reducible refine Fr.drew ?_ | (with_reducible refine Fr.setCell ?_ _ _ (fun h => ?_); rotate_left; focus (simp only at h; omega)))⟩
    (repeat first | with_reducible exact B1.out | with_reducible exact heap_new _ _ | with_reducible exact heap_next _ _ _ | with_reducible exact heap_third _ _ _ _ | with_reducible refine hp_dr ?_ | (with_reducible refine hp_ne ?_ ?_; focus omega) | (with_reducible refine hp_al ?_ ?_; focus (first | omega | (simp <;> omega))) | with_reducible apply hp_set) <;> rfl

set_option maxRecDepth 100000 in
set_option maxHeartbeats 4000000 in
theorem rcover_yes (b e : Nat) (hbe : b ≤ e) (he : e ≤ 9223372036854775808) (w : World) :
    Calls Tryz.prog 4 #[sp b e] w fun x w' => ∃ v, x = .returned (.tuple #[v, .agg #[.int .i64 0, .int .i64 0]]) ∧ w'.ownsRow w.heap.size 59 2 v (cov b e).length (fl (cov b e)) ∧ Nw w w' := by
  have hlen : Hid ((cov b e).length ≤ 128) := cov_len b e (by rw [p63]; exact he)
  obtain ⟨i0, hi, hz0, hz1, hz2⟩ := info_parts infoC
  have hn : (b : Int) ≤ (e : Int) := by omega
  have hn2 : (e : Int) ≤ 9223372036854775808 := by omega
  have hn3 : decide ((9223372036854775808 : Int) < (e : Int)) = false := by simp; omega
  have hn4 : decide (9223372036854775808 < e) = false := by simp; omega
  have hn5 : decide ((e : Int) < (b : Int)) = false := by simp; omega
  have hn6 : decide (e < b) = false := by simp; omega
  go_enter Tryz.func4, Tryz.ntmps4
  go_wp2
  go_loopw [4, 5] (fun v at_ wr => ∃ (p : Nat) (pre : List (Nat × Nat)), at_ = .int .u64 (p : Int) ∧ cov b e = pre ++ cov p e ∧ p ≤ e ∧ wr.heap[w.heap.size]? = some (.cells #[.int .u64 (b : Int), .int .u64 (e : Int)] 24) ∧ wr.heap[w.heap.size + 1]? = some (cF 0 0) ∧ wr.ownsRow (w.heap.size + 1 + 1) 59 2 v pre.length (fl pre) ∧ Nw w wr) (fun _ at_ _ => e - (intOf at_).toNat)
  case atStart => exact ⟨b, [], rfl, rfl, hbe, by (repeat first | with_reducible exact heap_new w _ | with_reducible exact heap_new _ _ | with_reducible exact heap_next _ _ _ | with_reducible exact heap_third _ _ _ _ | with_reducible refine hp_dr ?_ | (with_reducible refine hp_ne ?_ ?_; focus omega) | (with_reducible refine hp_al ?_ ?_; focus (first | omega | (simp <;> omega))) | with_reducible apply hp_set) <;> rfl, by (repeat first | with_reducible exact heap_next w _ _ | with_reducible exact heap_new _ _ | with_reducible exact heap_next _ _ _ | with_reducible exact heap_third _ _ _ _ | with_reducible refine hp_dr ?_ | (with_reducible refine hp_ne ?_ ?_; focus omega) | (with_reducible refine hp_al ?_ ?_; focus (first | omega | (simp <;> omega))) | with_reducible apply hp_set) <;> rfl, World.ownsRow_nil _ _ _ _, (by repeat first | with_reducible exact nwr w | with_reducible refine Fr.alloc ?_ _ | with_reducible refine Fr.drew ?_ | (with_reducible refine Fr.setCell ?_ _ _ (fun h => ?_); rotate_left; focus (simp only at h; omega)))⟩
  case round =>
    obtain ⟨p, pre, rfl, hcov, hpe, j0, j1, hown, hnw⟩ := hrel
    have HC : Hid (cov b e = pre ++ cov p e) := hcov
    have hpl : pre.length ≤ 128 := by
      have := hlen.out
      rw [hcov, List.length_append] at this
      omega
    clear hcov
    have c1 := cell2b j0
    have l0 := heap_lt j0
    have l1 := heap_lt j1
    have J0 : Hid (wr.heap[w.heap.size]? = some (.cells #[.int .u64 (b : Int), .int .u64 (e : Int)] 24)) := j0
    have J1 : Hid (wr.heap[w.heap.size + 1]? = some (cF 0 0)) := j1
    have HO : Hid (wr.ownsRow (w.heap.size + 1 + 1) 59 2 u4 pre.length (fl pre)) := hown
    have HW0 : Hid (Nw w wr) := hnw
    clear j0 hown hnw
    by_cases hlt : p < e
    · clear j1
      obtain ⟨ua, uc, hu⟩ := ownsRow_form HO.out
      subst hu
      have hW := lev_is hlt
      have HW : Hid (IsW p e (lev p e)) := hW
      have HB0 : Hid (Bst p e 1 0) := bst_zero hlt
      have hi1 : (p : Int) < (e : Int) := by omega
      clear hW
      go_wp2
      clear c1
      obtain ⟨bb, hbb⟩ : ∃ bb, bb = wr.heap.size := ⟨_, rfl⟩
      have HBB : Hid (bb = wr.heap.size) := hbb
      obtain ⟨w1, hw1⟩ : ∃ w1, wr.alloc (.cells #[.int .u8 0, .int .u64 (p : Int)] 59) = w1 := ⟨_, rfl⟩
      have n1 : Hid (Nw wr w1) := by rw [← hw1]; exact nwa wr _
      have k1 : Hid (w1.heap[bb]? = some (.cells #[.int .u8 ((0 : Nat) : Int), .int .u64 ((p / 2 ^ 0 : Nat) : Int)] 59)) := by rw [← hw1, hbb, Nat.pow_zero, Nat.div_one]; exact heap_new _ _
      rw [hw1, ← hbb]
      have hb0 : w.heap.size ≠ bb := by omega
      have hb1 : w.heap.size + 1 ≠ bb := by omega
      clear hw1 hbb l0 l1
      go_loopw [7] (fun v w2 => ∃ n M : Nat, n ≤ 64 ∧ v = .int .i64 n ∧ Bst p e n M ∧ w2.heap[bb]? = some (.cells #[.int .u8 (M : Int), .int .u64 ((p / 2 ^ M : Nat) : Int)] 59) ∧ Nw wr w2) (fun v _ => 64 - (intOf v).toNat)
      case atStart => exact ⟨1, 0, by omega, rfl, HB0.out, k1.out, n1.out⟩
      case round =>
        obtain ⟨n, M, hn64, rfl, hB, kb, hn2'⟩ := hrel
        have HB : Hid (Bst p e n M) := hB
        have KB : Hid (wr.heap[bb]? = some (.cells #[.int .u8 (M : Int), .int .u64 ((p / 2 ^ M : Nat) : Int)] 59)) := kb
        have HN2 := show Hid _ from hn2'
        have q0 := (hn2'.block _ (heap_lt J0.out) (fun f => f)).trans J0.out
        have Q0 := show Hid _ from q0
        clear hB
        by_cases hlt2 : n ≤ 63
        · have hi2 : (n : Int) ≤ 63 := by omega
          have hdv : (p : Int) / 2 ^ n = ((p / 2 ^ n : Nat) : Int) := castd p n
          have hdl : p / 2 ^ n ≤ p := Nat.div_le_self _ _
          obtain ⟨q, hq⟩ : ∃ q, q = p / 2 ^ n := ⟨_, rfl⟩
          rw [← hq] at hdv hdl
          have HQ : Hid (q = p / 2 ^ n) := hq
          clear hq kb q0
          obtain ⟨x, y, o2, hs, hx, hy⟩ := spanIs_ex n q
          have HS : Hid (SpanIs n q x y o2) := hs
          clear hs
          have lw := heap_lt Q0.out
          have lb := heap_lt KB.out
          go_wp2_with fail
          refine (rspan_any HS.out (by omega) (by omega) _).mono ?_
          rintro e1 w2 ⟨rfl, n2⟩
          have k0 : w2.heap[w.heap.size]? = some (.cells #[.int .u64 (b : Int), .int .u64 (e : Int)] 24) := (n2.block _ (by simp <;> omega) (fun f => f)).trans (by (repeat first | with_reducible exact Q0.out | with_reducible exact heap_new _ _ | with_reducible exact heap_next _ _ _ | with_reducible exact heap_third _ _ _ _ | with_reducible refine hp_dr ?_ | (with_reducible refine hp_ne ?_ ?_; focus omega) | (with_reducible refine hp_al ?_ ?_; focus (first | omega | (simp <;> omega))) | with_reducible apply hp_set) <;> rfl)
          have k2 : w2.heap[wr.heap.size]? = some (.cells #[.int .u8 (n : Int), .int .u64 (q : Int)] 59) := (n2.block _ (by simp) (fun f => f)).trans (by (repeat first | with_reducible exact Q0.out | with_reducible exact heap_new _ _ | with_reducible exact heap_next _ _ _ | with_reducible exact heap_third _ _ _ _ | with_reducible refine hp_dr ?_ | (with_reducible refine hp_ne ?_ ?_; focus omega) | (with_reducible refine hp_al ?_ ?_; focus (first | omega | (simp <;> omega))) | with_reducible apply hp_set) <;> rfl)
          have kb2 : w2.heap[bb]? = some (.cells #[.int .u8 (M : Int), .int .u64 ((p / 2 ^ M : Nat) : Int)] 59) := (n2.block _ (by simp <;> omega) (fun f => f)).trans (by (repeat first | with_reducible exact KB.out | with_reducible exact heap_new _ _ | with_reducible exact heap_next _ _ _ | with_reducible exact heap_third _ _ _ _ | with_reducible refine hp_dr ?_ | (with_reducible refine hp_ne ?_ ?_; focus omega) | (with_reducible refine hp_al ?_ ?_; focus (first | omega | (simp <;> omega))) | with_reducible apply hp_set) <;> rfl)
          have n3 := Nw.tr (Fr.alloc HN2.out (.cells #[.int .u8 (n : Int), .int .u64 (q : Int)] 59)) n2
          have KB2 : Hid (w2.heap[bb]? = some (.cells #[.int .u8 (M : Int), .int .u64 ((p / 2 ^ M : Nat) : Int)] 59)) := kb2
          have N3 := show Hid _ from n3
          have lb2 := heap_lt kb2
          have lw2 := heap_lt k0
          have lk2 := heap_lt k2
          have c1 := cell2b k0
          have d0 := cell2a k2
          have d1 := cell2b k2
          have g0 := cell2a kb2
          have g1 := cell2b kb2
          have z0 := frozen_of kb2 0
          have z1 := frozen_of kb2 1
          have hwb : wr.heap.size ≠ bb := by omega
          have hbl : bb ≥ _ := Nat.le_of_eq HBB.out.symm
          clear n2 hn2' k0 k2 kb2 n3 lw lb
          by_cases hf : fits p e n
          · have h1 := HS.out
            rw [HQ.out] at h1
            obtain ⟨h2, h3, h4⟩ := fits_span h1 hf hlt2 (by rw [p63]; exact he)
            have h5 : p = x := h3.symm
            subst h5
            subst h2
            have hyi : (y : Int) ≤ (e : Int) := by omega
            have HFt : Hid (fits p e n) := hf
            clear h1 h3 hf
            go_wp2
            refine ⟨⟨n + 1, n, by omega, by go_num, bst_yes HB.out HFt.out, ?_, (by repeat first | with_reducible exact N3.out | with_reducible refine Fr.alloc ?_ _ | with_reducible refine Fr.drew ?_ | (with_reducible refine Fr.setCell ?_ _ _ (fun h => ?_); rotate_left; focus (simp only at h; omega)))⟩, by simp [intOf]; omega⟩
            rw [← HQ.out]
            (repeat first | with_reducible exact KB2.out | with_reducible exact heap_new _ _ | with_reducible exact heap_next _ _ _ | with_reducible exact heap_third _ _ _ _ | with_reducible refine hp_dr ?_ | (with_reducible refine hp_ne ?_ ?_; focus omega) | (with_reducible refine hp_al ?_ ?_; focus (first | omega | (simp <;> omega))) | with_reducible apply hp_set) <;> rfl
          · have HFt : Hid (¬ fits p e n) := hf
            have hne : o2 = false ∨ (o2 = true ∧ ((x : Int) == (p : Int)) = false) ∨ (o2 = true ∧ p = x ∧ ¬ (y : Int) ≤ (e : Int)) := by
              have h1 := HS.out
              rw [HQ.out] at h1
              cases o2 with
              | false => exact .inl rfl
              | true =>
                by_cases hxp : x = p
                · exact .inr (.inr ⟨rfl, hxp.symm, fun h => hf (span_fits h1 rfl hxp (by omega))⟩)
                · exact .inr (.inl ⟨rfl, by simp; omega⟩)
            clear hf
            rcases hne with h2 | ⟨h2, hne⟩ | ⟨h2, h3, hne⟩
            · subst h2
              go_wp2
              exact ⟨⟨n + 1, M, by omega, by go_num, bst_no HB.out HFt.out, by (repeat first | with_reducible exact KB2.out | with_reducible exact heap_new _ _ | with_reducible exact heap_next _ _ _ | with_reducible exact heap_third _ _ _ _ | with_reducible refine hp_dr ?_ | (with_reducible refine hp_ne ?_ ?_; focus omega) | (with_reducible refine hp_al ?_ ?_; focus (first | omega | (simp <;> omega))) | with_reducible apply hp_set) <;> rfl, (by repeat first | with_reducible exact N3.out | with_reducible refine Fr.alloc ?_ _ | with_reducible refine Fr.drew ?_ | (with_reducible refine Fr.setCell ?_ _ _ (fun h => ?_); rotate_left; focus (simp only at h; omega)))⟩, by simp [intOf]; omega⟩
            · subst h2
              go_wp2
              exact ⟨⟨n + 1, M, by omega, by go_num, bst_no HB.out HFt.out, by (repeat first | with_reducible exact KB2.out | with_reducible exact heap_new _ _ | with_reducible exact heap_next _ _ _ | with_reducible exact heap_third _ _ _ _ | with_reducible refine hp_dr ?_ | (with_reducible refine hp_ne ?_ ?_; focus omega) | (with_reducible refine hp_al ?_ ?_; focus (first | omega | (simp <;> omega))) | with_reducible apply hp_set) <;> rfl, (by repeat first | with_reducible exact N3.out | with_reducible refine Fr.alloc ?_ _ | with_reducible refine Fr.drew ?_ | (with_reducible refine Fr.setCell ?_ _ _ (fun h => ?_); rotate_left; focus (simp only at h; omega)))⟩, by simp [intOf]; omega⟩
            · subst h2
              subst h3
              go_wp2
              exact ⟨⟨n + 1, M, by omega, by go_num, bst_no HB.out HFt.out, by (repeat first | with_reducible exact KB2.out | with_reducible exact heap_new _ _ | with_reducible exact heap_next _ _ _ | with_reducible exact heap_third _ _ _ _ | with_reducible refine hp_dr ?_ | (with_reducible refine hp_ne ?_ ?_; focus omega) | (with_reducible refine hp_al ?_ ?_; focus (first | omega | (simp <;> omega))) | with_reducible apply hp_set) <;> rfl, (by repeat first | with_reducible exact N3.out | with_reducible refine Fr.alloc ?_ _ | with_reducible refine Fr.drew ?_ | (with_reducible refine Fr.setCell ?_ _ _ (fun h => ?_); rotate_left; focus (simp only at h; omega)))⟩, by simp [intOf]; omega⟩
        · obtain rfl : n = 64 := by omega
          have hM := bst_lev HB.out HW.out (by rw [p63]; exact he)
          have hWM : IsW p e M := by rw [hM]; exact HW.out
          have hM63 := isW_le hWM (by rw [p63]; exact he)
          have hmay : Hid (may M (p / 2 ^ M)) := isW_may hWM (by rw [p63]; exact he)
          have hst : Hid (cov p e = (M, p / 2 ^ M) :: cov (p + 2 ^ M) e) := cov_step hWM
          have hfit := hWM.1.2
          have hE : Hid ((p / 2 ^ M + 1) * 2 ^ M = p + 2 ^ M) := by show _ = _; rw [Nat.add_mul, Nat.one_mul, Nat.div_mul_cancel hWM.1.1]
          have hp2 := Nat.two_pow_pos M
          have hil : p / 2 ^ M ≤ p := Nat.div_le_self _ _
          clear hWM hM
          obtain ⟨I, hI⟩ : ∃ I, I = p / 2 ^ M := ⟨_, rfl⟩
          rw [← hI] at kb hmay hst hE hil
          clear hI q0 KB
          have KB : Hid (wr.heap[bb]? = some (.cells #[.int .u8 (M : Int), .int .u64 (I : Int)] 59)) := kb
          have g0 := cell2a kb
          have g1 := cell2b kb
          have lb := heap_lt kb
          have own5 : Hid ((wr.alloc (.cells #[.int .u8 (M : Int), .int .u64 (I : Int)] 59)).ownsRow (w.heap.size + 1 + 1) 59 2 (.slice ua pre.length uc) pre.length (fl pre)) := World.ownsRow.alloc (ownsRow_keep HO.out (fun g hg => hn2'.block g (HO.out.lt g hg).2 (fun f => f))) _
          have HNew : Hid (∀ j u, [Value.int .u8 (M : Int), .int .u64 (I : Int)][j]? = some u → (wr.alloc (.cells #[.int .u8 (M : Int), .int .u64 (I : Int)] 59)).cell? ((⟨wr.heap.size, 0, none⟩ : Addr).add j) = some u) := cd_new (w := wr) (M : Int) (I : Int) 59
          have HG : Hid (∀ g, (Value.slice ua pre.length uc).ownBlock = some g → w.heap.size + 1 + 1 ≤ g ∧ g ≠ bb) := fun g hg => ⟨(HO.out.lt g hg).1, by have := (HO.out.lt g hg).2; have := HBB.out; omega⟩
          have Q1 : Hid (wr.heap[w.heap.size + 1]? = some (cF 0 0)) := (hn2'.block _ (heap_lt J1.out) (fun f => f)).trans J1.out
          have n9 : Hid (Nw w wr) := Nw.tr HW0.out hn2'
          have lw := heap_lt Q1.out
          clear hn2' kb
          go_wp2_with (at_builtin; refine wpList_append_own _ rfl (.tmp 63) (.tmp 65) 25 rfl (w.heap.size + 1 + 1) 59 i0 (cd 0 0) 2 16 Tryz.underlying25 hi hz0 hz1 hz2 rfl (by decide) (.slice ua pre.length uc) pre.length (fl pre) rfl own5.out ⟨wr.heap.size, 0, none⟩ 1 1 [.int .u8 (M : Int), .int .u64 (I : Int)] rfl rfl HNew.out (by simp [Value.oneCell']) (by unfold maxLen; omega) (by omega) (by simp; omega) ?_; intro v' w5 hown' hgrow _; obtain ⟨va, vc, rfl⟩ := ownsRow_form hown'; have m0 : w5.heap[w.heap.size]? = some (.cells #[.int .u64 (b : Int), .int .u64 (e : Int)] 24) := (hgrow.block _ (by simp; omega) (fun q => by have := (HG.out _ q.symm).1; omega)).trans (by (repeat first | with_reducible exact Q0.out | with_reducible exact heap_new _ _ | with_reducible exact heap_next _ _ _ | with_reducible exact heap_third _ _ _ _ | with_reducible refine hp_dr ?_ | (with_reducible refine hp_ne ?_ ?_; focus omega) | (with_reducible refine hp_al ?_ ?_; focus (first | omega | (simp <;> omega))) | with_reducible apply hp_set) <;> rfl); have m1 : w5.heap[w.heap.size + 1]? = some (cF 0 0) := (hgrow.block _ (by simp; omega) (fun q => by have := (HG.out _ q.symm).1; omega)).trans (by (repeat first | with_reducible exact Q1.out | with_reducible exact heap_new _ _ | with_reducible exact heap_next _ _ _ | with_reducible exact heap_third _ _ _ _ | with_reducible refine hp_dr ?_ | (with_reducible refine hp_ne ?_ ?_; focus omega) | (with_reducible refine hp_al ?_ ?_; focus (first | omega | (simp <;> omega))) | with_reducible apply hp_set) <;> rfl); have mb : w5.heap[bb]? = some (.cells #[.int .u8 (M : Int), .int .u64 (I : Int)] 59) := (hgrow.block _ (by simp; omega) (fun q => (HG.out _ q.symm).2 rfl)).trans (by (repeat first | with_reducible exact KB.out | with_reducible exact heap_new _ _ | with_reducible exact heap_next _ _ _ | with_reducible exact heap_third _ _ _ _ | with_reducible refine hp_dr ?_ | (with_reducible refine hp_ne ?_ ?_; focus omega) | (with_reducible refine hp_al ?_ ?_; focus (first | omega | (simp <;> omega))) | with_reducible apply hp_set) <;> rfl); have n6 : Hid (Nw w w5) := (n9.out.alloc _).grown hgrow (fun k q hk => by have := (HG.out _ q).1; omega); have HO5 : Hid (w5.ownsRow (w.heap.size + 1 + 1) 59 2 (.slice va (pre.length + 1) vc) (pre.length + 1) (fl pre ++ [.int .u8 (M : Int), .int .u64 (I : Int)])) := hown'; have M0 := show Hid _ from m0; have M1 := show Hid _ from m1; have b0 := cell2a mb; have b1 := cell2b mb; clear hown' hgrow m0 m1 mb g0 g1)
          refine (rspan_yes M I hmay.out _).mono ?_
          rintro e1 w7 ⟨rfl, n7⟩
          rw [hE.out]
          have HF7 : Hid (Nw w5 w7) := n7
          obtain ⟨E, hEE⟩ : ∃ E, E = p + 2 ^ M := ⟨_, rfl⟩
          rw [← hEE] at hst hfit ⊢
          have hpE : p < E := by omega
          clear hEE n7 hE b0 b1
          go_wp2
          have lw7 : w.heap.size + 1 < w7.heap.size := Nat.lt_of_lt_of_le (heap_lt M1.out) HF7.out.size
          have r0 := (HF7.out.block _ (heap_lt M0.out) (fun f => f)).trans M0.out
          have r1 := (HF7.out.block _ (heap_lt M1.out) (fun f => f)).trans M1.out
          refine ⟨⟨E, pre ++ [(M, I)], rfl, ?_, hfit, by (repeat first | with_reducible exact r0 | with_reducible exact heap_new _ _ | with_reducible exact heap_next _ _ _ | with_reducible exact heap_third _ _ _ _ | with_reducible refine hp_dr ?_ | (with_reducible refine hp_ne ?_ ?_; focus omega) | (with_reducible refine hp_al ?_ ?_; focus (first | omega | (simp <;> omega))) | with_reducible apply hp_set) <;> rfl, by (repeat first | with_reducible exact r1 | with_reducible exact heap_new _ _ | with_reducible exact heap_next _ _ _ | with_reducible exact heap_third _ _ _ _ | with_reducible refine hp_dr ?_ | (with_reducible refine hp_ne ?_ ?_; focus omega) | (with_reducible refine hp_al ?_ ?_; focus (first | omega | (simp <;> omega))) | with_reducible apply hp_set) <;> rfl, ?_, (by repeat first | with_reducible exact (Nw.tr n6.out HF7.out) | with_reducible refine Fr.alloc ?_ _ | with_reducible refine Fr.drew ?_ | (with_reducible refine Fr.setCell ?_ _ _ (fun h => ?_); rotate_left; focus (simp only at h; omega)))⟩, by simp [intOf]; omega⟩
          · rw [HC.out, hst.out, List.append_assoc]; rfl
          · rw [List.length_append, fl_app]
            exact World.ownsRow.alloc (ownsRow_keep HO5.out (fun g hg => HF7.out.block g (HO5.out.lt g hg).2 (fun f => f))) _
    · have hpq : p = e := by omega
      have HP : Hid (cov b e = pre) := by
        have h1 := HC.out
        rw [cov_nil (a := p) (c := e) (by omega), List.append_nil] at h1
        exact h1
      clear hpq
      have hi1 : ¬ (p : Int) < (e : Int) := by omega
      have d0 := cell2a j1
      have d1 := cell2b j1
      have z0 := frozen_of j1 0
      have z1 := frozen_of j1 1
      obtain ⟨ua, uc, hu⟩ := ownsRow_form HO.out
      subst hu
      clear j1
      go_wp2
      refine bodyPost_ret (results_slot_cell (V := #[.int .i64 0, .int .i64 0]) (ty := 27) (f := (0, 0)) Tryz.results4 Tryz.isAgg27 Tryz.sizeOf27 rfl _ rfl ?_ rfl) rfl ⟨_, rfl, ?_, (by repeat first | with_reducible exact HW0.out | with_reducible refine Fr.alloc ?_ _ | with_reducible refine Fr.drew ?_ | (with_reducible refine Fr.setCell ?_ _ _ (fun h => ?_); rotate_left; focus (simp only at h; omega)))⟩
      · (repeat first | with_reducible exact J1.out | with_reducible exact heap_new _ _ | with_reducible exact heap_next _ _ _ | with_reducible exact heap_third _ _ _ _ | with_reducible refine hp_dr ?_ | (with_reducible refine hp_ne ?_ ?_; focus omega) | (with_reducible refine hp_al ?_ ?_; focus (first | omega | (simp <;> omega))) | with_reducible apply hp_set) <;> rfl
      · rw [HP.out]
        refine ownsRow_keep (ownsRow_base HO.out (by omega)) (fun q hq => ?_)
        have := (HO.out.lt q hq).1
        rw [heap_set_ne (by omega), heap_set_ne (by omega)]
end Go.Proofs.YtibkmcmgolbhhaaGreatDoor
