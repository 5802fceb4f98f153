/- The document's Powers and Peaks. -/
import Derived.Test.YtigbjpphmbmbiaaGreatDoorR2
import Derived.Test.YtigbjpphmbmbiaaGreatDoorPo
import Derived.Test.YtigbjpphmbmbiaaGreatDoorC8
namespace Go.Proofs.YtigbjpphmbmbiaaGreatDoor
open Go.RowKit
set_option linter.unusedVariables false
set_option linter.unusedSimpArgs false

/-- Powers of two as cells. -/
def pw (l : List Nat) : List Value := l.map fun k => .int .u64 ((2 ^ k : Nat) : Int)
theorem pw_len (l : List Nat) : (pw l).length = l.length * 1 := by simp [pw]
theorem pw_app (l m : List Nat) : pw (l ++ m) = pw l ++ pw m := by simp [pw]
theorem infoN : (Tryz.prog.info? 22).map (fun i => (i.zero, i.size, i.bytes)) = some (some (.int .u64 0), 1, 8) := by kernel_rfl
theorem n_new {w : World} (v : Value) (t : TypeId) : ∀ j u, [v][j]? = some u → (w.alloc (.cells #[v] t)).cell? ((⟨w.heap.size, 0, none⟩ : Addr).add j) = some u := by
  intro j u h
  rw [addZ, cell_of (heap_new w _)]
  match j, h with
  | 0, h => exact h

set_option maxRecDepth 100000 in
set_option maxHeartbeats 2000000 in
theorem rpowers_any (x : Nat) (hx : x < 18446744073709551616) (w : World) :
    Calls Tryz.prog 34 #[.int .u64 (x : Int)] w fun e w' => ∃ v, e = .returned v ∧ w'.ownsRow w.heap.size 22 1 v (exs x).length (pw (exs x)) ∧ Nw w w' := by
  obtain ⟨i0, hi, hz0, hz1, hz2⟩ := info_parts infoN
  have hlen : Hid ((exs x).length ≤ 64) := exs_len x hx
  go_enter Tryz.func34, Tryz.ntmps34
  go_wp2_with fail
  go_loopw [0, 3, 4] (fun n l p wr => ∃ (pre : List Nat) (r P : Nat), n = .int .u64 (r : Int) ∧ p = .int .u64 (P : Int) ∧ exs x = pre ++ exs r ∧ ((P = 0 ∧ r = 0) ∨ ∃ j, j ≤ 63 ∧ P = 2 ^ j ∧ r < 2 * 2 ^ j) ∧ wr.ownsRow w.heap.size 22 1 l pre.length (pw pre) ∧ Nw w wr) (fun _ _ p _ => (intOf p).toNat)
  case atStart => exact ⟨[], x, 9223372036854775808, rfl, rfl, rfl, .inr ⟨63, by omega, rfl, hx⟩, World.ownsRow_nil _ _ _ _, nwr w⟩
  case round =>
    obtain ⟨pre, r, P, rfl, rfl, hxs, hP, hrow, hnw⟩ := hrel
    have hpl : pre.length ≤ 64 := by have := hlen.out; rw [hxs] at this; simp at this; omega
    have HX : Hid (exs x = pre ++ exs r) := hxs
    have HO : Hid (wr.ownsRow w.heap.size 22 1 u3 pre.length (pw pre)) := hrow
    have HNW : Hid (Nw w wr) := hnw
    obtain ⟨pa, pc, rfl⟩ := ownsRow_form hrow
    clear hxs hrow hnw
    rcases hP with ⟨rfl, rfl⟩ | ⟨j, hj, hPj, hr⟩
    · have HE : Hid (exs x = pre) := by have := HX.out; rw [exs_zero, List.append_nil] at this; exact this
      go_wp2
      refine bodyPost_ret (v := .slice pa pre.length pc) (by simp [results, Tryz.results34]) rfl ⟨_, rfl, ?_, HNW.out⟩
      rw [HE.out]
      exact HO.out
    · have hPp : 0 < P := by rw [hPj]; exact Nat.two_pow_pos j
      have hPm : P ≤ 9223372036854775808 := by rw [hPj]; exact two_le hj
      have HH : Hid (∀ r', r' < P → ((P / 2 = 0 ∧ r' = 0) ∨ ∃ i, i ≤ 63 ∧ P / 2 = 2 ^ i ∧ r' < 2 * 2 ^ i)) := by
        intro r' hr'
        cases j with
        | zero => left; simp at hPj; omega
        | succ i => right; exact ⟨i, by omega, by rw [hPj, Nat.pow_succ]; omega, by rw [hPj, Nat.pow_succ] at hr'; omega⟩
      have hr2 : r ≤ 18446744073709551615 := by omega
      by_cases hge : P ≤ r
      · have HS : Hid (exs r = j :: exs (r - P)) := by show _ = _; rw [hPj]; exact exs_step (by omega) hr
        have HJ : Hid (P = 2 ^ j) := hPj
        have hsub : r - P < P := by omega
        have h1 : (P : Int) ≤ (r : Int) := by omega
        have h2 : (r : Int) - (P : Int) = ((r - P : Nat) : Int) := by omega
        have h0 : (0 : Int) < (P : Int) := by omega
        have hlt : pre.length < 64 := by have := hlen.out; rw [HX.out, HS.out] at this; simp at this; omega
        have own5 : Hid ((wr.alloc (.cells #[.int .u64 (P : Int)] 22)).ownsRow w.heap.size 22 1 (.slice pa pre.length pc) pre.length (pw pre)) := HO.out.alloc _
        have HNew : Hid (∀ q u, [Value.int .u64 (P : Int)][q]? = some u → (wr.alloc (.cells #[.int .u64 (P : Int)] 22)).cell? ((⟨wr.heap.size, 0, none⟩ : Addr).add q) = some u) := n_new _ _
        have hws := HNW.out.size
        have HF : Hid (∀ (v' : Value) (w5 : World), w5.ownsRow w.heap.size 22 1 v' (pre.length + 1) (pw pre ++ [.int .u64 (P : Int)]) → w5.ownsRow w.heap.size 22 1 v' (pre ++ [j]).length (pw (pre ++ [j]))) := fun v' w5 o => by rw [List.length_append, pw_app]; rw [HJ.out] at o; exact o
        clear hPj hr
        go_wp2_with (at_builtin; refine wpList_append_own _ rfl (.tmp 10) (.tmp 12) 85 rfl w.heap.size 22 i0 (.int .u64 0) 1 8 Tryz.underlying85 hi hz0 hz1 hz2 rfl (by decide) (.slice pa pre.length pc) pre.length (pw pre) rfl own5.out ⟨wr.heap.size, 0, none⟩ 1 1 [.int .u64 (P : Int)] rfl rfl HNew.out (by simp [Value.oneCell']) (by unfold maxLen; omega) (by omega) (by simp; omega) ?_; intro v' w5 o5 g5 _; have n5 : Hid (Nw w w5) := (HNW.out.alloc _).grown g5 (fun q hq hlt => by have := (HO.out.lt q hq).1; omega); have HF5 := HF.out v' w5 o5; have HF5' : Hid (w5.ownsRow w.heap.size 22 1 v' (pre ++ [j]).length (pw (pre ++ [j]))) := HF5; obtain ⟨xa, xc, rfl⟩ := ownsRow_form o5; clear o5 g5 HF5)
        refine ⟨⟨pre ++ [j], r - P, P / 2, by go_num, by go_num, by rw [HX.out, HS.out]; simp, HH.out _ hsub, HF5'.out, n5.out⟩, ?_⟩
        simp [intOf]; omega
      · have h1 : ¬ (P : Int) ≤ (r : Int) := by omega
        have h0 : (0 : Int) < (P : Int) := by omega
        clear hPj hr
        go_wp2
        refine ⟨⟨pre, r, P / 2, rfl, by go_num, HX.out, HH.out _ (by omega), HO.out, HNW.out⟩, ?_⟩
        simp [intOf]; omega
/-- The document's Log of a power of two. -/
theorem rlog_pow (k : Nat) (hk : k ≤ 63) (w : World) : Calls Tryz.prog 35 #[.int .u64 ((2 ^ k : Nat) : Int)] w fun e w' => e = .returned (.tuple #[.int .i64 (k : Int), .bool true]) ∧ w' = w := by
  cases k with
  | zero => exact rlog_one w
  | succ j =>
    have h1 := pow_up j
    have h2 := pow_pos' j
    have h3 := pow_63 hk
    have q := rlog_of (2 ^ (j + 1)) j w (by omega) (by omega) (by omega) (by omega)
    rw [pow_cast]
    exact_mod_cast q

theorem pw_get (l : List Nat) (j k : Nat) (h : l[j]? = some k) : (pw l)[j]? = some (.int .u64 ((2 ^ k : Nat) : Int)) := by simp [pw, h]
/-- What has been added up. -/
def upS (l : List Nat) : Nat := (l.map fun k => 2 ^ k).sum
theorem upS_app (l m : List Nat) : upS (l ++ m) = upS l + upS m := by simp [upS]
theorem upS_one (k : Nat) : upS [k] = 2 ^ k := by simp [upS]

set_option maxRecDepth 100000 in
set_option maxHeartbeats 4000000 in
theorem rPeaks_yes (n : Nat) (hn : n ≤ 9223372036854775808) (w : World) :
    Calls Tryz.prog 17 #[.int .u64 (n : Int)] w fun x w' => ∃ v, x = .returned (.tuple #[v, .agg #[.int .i64 0, .int .i64 0]]) ∧ w'.ownsRow w.heap.size 69 2 v (cov 0 n).length (fl (cov 0 n)) ∧ Nw w w' := by
  obtain ⟨i0, hi, hz0, hz1, hz2⟩ := info_parts infoC
  have hlen : Hid ((exs n).length ≤ 64) := exs_len n (by omega)
  have hsum : Hid (upS (exs n) = n) := exs_sum n
  have hfal : Hid (∀ j ∈ exs n, j < 64) := exs_fall (n := n) (k := 64) (by rw [show (2 : Nat) ^ 64 = 18446744073709551616 by decide]; omega)
  have q := rpowers_any n (by omega)
  have Q := show Hid _ from q
  rw [cov_zero]
  obtain ⟨E, hE⟩ : ∃ E, E = exs n := ⟨_, rfl⟩
  rw [← hE] at hlen hsum hfal Q ⊢
  have hd : decide ((9223372036854775808 : Int) < (n : Int)) = false := by simp; omega
  clear q hE
  go_enter Tryz.func17, Tryz.ntmps17
  go_wp2_with fail
  refine (Q.out _).mono ?_
  rintro x w1 ⟨v1, rfl, o1, n1⟩
  obtain ⟨pa, pc, rfl⟩ := ownsRow_form o1
  have B1 : Hid (w1.heap[w.heap.size]? = some (cF 0 0)) := (n1.block _ (by simp) (fun f => f)).trans (heap_new w _)
  have N1 : Hid (Nw w w1) := Nw.tr (nwa w _) n1
  have OP : Hid (w1.ownsRow (w.alloc (cF 0 0)).heap.size 22 1 (.slice pa E.length pc) E.length (pw E)) := o1
  have hws1 := N1.out.size
  obtain ⟨el, hell⟩ : ∃ el, el = E.length := ⟨_, rfl⟩
  rw [← hell] at OP ⊢
  have HEL : Hid (el = E.length) := hell
  clear n1 o1 hell
  go_wp2_with fail
  go_loopw [4, 6, 7] (fun l at_ i wr => ∃ (pre rest : List Nat), E = pre ++ rest ∧ at_ = .int .u64 (upS pre : Int) ∧ i = .int .i64 (pre.length : Int) ∧ wr.ownsRow w1.heap.size 69 2 l pre.length (fl (cvs 0 pre)) ∧ Nw w1 wr) (fun _ _ i _ => el - (intOf i).toNat)
  case atStart => exact ⟨[], E, rfl, rfl, rfl, World.ownsRow_nil _ _ _ _, nwr w1⟩
  case round =>
    obtain ⟨pre, rest, hE, rfl, rfl, hown, hnw⟩ := hrel
    have HE : Hid (E = pre ++ rest) := hE
    have HO : Hid (wr.ownsRow w1.heap.size 69 2 u4 pre.length (fl (cvs 0 pre))) := hown
    have HNW : Hid (Nw w1 wr) := hnw
    obtain ⟨la, lc, rfl⟩ := ownsRow_form hown
    have hel : el = pre.length + rest.length := by rw [HEL.out, hE]; simp
    have hl64 : el ≤ 64 := by rw [HEL.out]; exact hlen.out
    obtain ⟨A, hA⟩ : ∃ A, A = upS pre := ⟨_, rfl⟩
    rw [← hA]
    have HA : Hid (A = upS pre) := hA
    obtain ⟨pl, hpl⟩ : ∃ pl, pl = pre.length := ⟨_, rfl⟩
    rw [← hpl] at HO hel ⊢
    have HPL : Hid (pl = pre.length) := hpl
    have HLL : Hid (el = pl + rest.length) := hel
    clear hE hown hnw hA hpl hel
    cases rest with
    | nil =>
      have HF : Hid (E = pre) := by have := HE.out; rw [List.append_nil] at this; exact this
      have hin : ¬ (pl : Int) < (el : Int) := by have hel := HLL.out; simp at hel; omega
      go_wp2_with fail
      refine (rfault_f _).mono ?_
      rintro x w2 ⟨rfl, n2⟩
      have b2 := ((HNW.out.tr n2).block _ (heap_lt B1.out) (fun f => f)).trans B1.out
      have N3 : Hid (Nw w w2) := N1.out.tr (HNW.out.tr n2)
      have O2 : Hid (w2.ownsRow w1.heap.size 69 2 (.slice la pl lc) pl (fl (cvs 0 pre))) := ownsRow_keep HO.out (fun g hg => n2.block g (HO.out.lt g hg).2 (fun f => f))
      have c0 := cell2a b2
      have c1 := cell2b b2
      have z0 := frozen_of b2 0
      have z1 := frozen_of b2 1
      have B2 := show Hid _ from b2
      have lw := heap_lt B1.out
      clear n2 b2
      go_wp2
      refine bodyPost_ret (results_slot_cell (V := #[.int .i64 0, .int .i64 0]) (ty := 31) (f := (0, 0)) Tryz.results17 Tryz.isAgg31 Tryz.sizeOf31 rfl _ rfl ?_ rfl) rfl ⟨_, rfl, ?_, (by repeat first | with_reducible exact N3.out | with_reducible refine Fr.alloc ?_ _ | with_reducible refine Fr.drew ?_ | (with_reducible refine Fr.setCell ?_ _ _ (fun h => ?_); rotate_left; focus (simp only at h; omega)))⟩
      · (repeat first | with_reducible exact B2.out | with_reducible exact heap_new _ _ | with_reducible exact heap_next _ _ _ | with_reducible exact heap_third _ _ _ _ | with_reducible refine hp_dr ?_ | (with_reducible refine hp_ne ?_ ?_; focus omega) | (with_reducible refine hp_al ?_ ?_; focus (first | omega | (simp <;> omega))) | with_reducible apply hp_set) <;> rfl
      · rw [HF.out, cvs_len, ← HPL.out]
        refine ownsRow_keep (ownsRow_base O2.out hws1) (fun q hq => ?_)
        have := (O2.out.lt q hq).1
        rw [heap_set_ne (by omega), heap_set_ne (by omega)]
    | cons k rest =>
      have hk : k < 64 := hfal.out k (by rw [HE.out]; simp)
      have hin : (pl : Int) < (el : Int) := by have hel := HLL.out; simp at hel; omega
      have HC : Hid (cvs 0 (pre ++ [k]) = cvs 0 pre ++ [(k, A / 2 ^ k)]) := by
        show _ = _
        rw [cvs_app, Nat.zero_add, HA.out]
        rfl
      have hup : A + 2 ^ k ≤ n := by
        have h1 := hsum.out
        rw [HE.out, upS_app, ← HA.out] at h1
        have h2 : upS (k :: rest) = 2 ^ k + upS rest := by simp [upS]
        omega
      obtain ⟨g, hg⟩ : ∃ g, pa = some ⟨g, 0, none⟩ := by
        rcases OP.out.2 with ⟨h1, h2⟩ | ⟨g, c, cur, h1, _⟩
        · omega
        · cases h1; exact ⟨g, rfl⟩
      subst hg
      have hcl := OP.out.cells (g := g) rfl pl _ (pw_get E pl k (by rw [HE.out, HPL.out]; simp))
      rw [addZ] at hcl
      have hc2 := HNW.out.cellOf hcl
      have QL := show Hid _ from rlog_pow k (by omega)
      obtain ⟨P, hP⟩ : ∃ P, P = 2 ^ k := ⟨_, rfl⟩
      have hPp : 0 < P := by rw [hP]; exact Nat.two_pow_pos k
      rw [← hP] at hc2 hup HC QL
      have HPP : Hid (P = 2 ^ k) := hP
      have hz : ((P : Int) == 0) = false := by simp; omega
      have hdiv : (A : Int) / (P : Int) = ((A / P : Nat) : Int) := (Int.natCast_ediv _ _).symm
      clear hcl hP
      have hA63 : A ≤ 9223372036854775808 := by omega
      obtain ⟨D, hD⟩ : ∃ D, D = A / P := ⟨_, rfl⟩
      rw [← hD] at HC hdiv
      have hDA : D ≤ A := by rw [hD]; exact Nat.div_le_self _ _
      clear hD
      go_wp2_with fail
      refine (QL.out _).mono ?_
      rintro x w2 ⟨rfl, rfl⟩
      have own5 : Hid ((w2.alloc (.cells #[.int .u8 (k : Int), .int .u64 (D : Int)] 69)).ownsRow w1.heap.size 69 2 (.slice la pl lc) pl (fl (cvs 0 pre))) := HO.out.alloc _
      have HNew : Hid (∀ j u, [Value.int .u8 (k : Int), .int .u64 (D : Int)][j]? = some u → (w2.alloc (.cells #[.int .u8 (k : Int), .int .u64 (D : Int)] 69)).cell? ((⟨w2.heap.size, 0, none⟩ : Addr).add j) = some u) := cd_new (w := w2) (k : Int) (D : Int) 69
      have hs2 := HNW.out.size
      have hG : Hid (∀ q, (Value.slice la pl lc).ownBlock = some q → w1.heap.size ≤ q) := fun q hq => (HO.out.lt q hq).1
      have hgl : g < w1.heap.size := (OP.out.lt g rfl).2
      have HCL : Hid (w1.cell? ⟨g, pl, none⟩ = some (.int .u64 (P : Int))) := by
        have := OP.out.cells (g := g) rfl pl _ (pw_get E pl k (by rw [HE.out, HPL.out]; simp))
        rw [addZ, ← HPP.out] at this
        exact this
      go_wp2_with (at_builtin; refine wpList_append_own _ rfl (.tmp 29) (.tmp 39) 39 rfl w1.heap.size 69 i0 (cd 0 0) 2 16 Tryz.underlying39 hi hz0 hz1 hz2 rfl (by decide) (.slice la pl lc) pl (fl (cvs 0 pre)) rfl own5.out ⟨w2.heap.size, 0, none⟩ 1 1 [.int .u8 (k : Int), .int .u64 (D : Int)] rfl rfl HNew.out (by simp [Value.oneCell']) (by unfold maxLen; omega) (by omega) (by simp; omega) ?_; intro v' w5 o5 g5 _; have n5 : Hid (Nw w1 w5) := (HNW.out.alloc _).grown g5 (fun q hq hlt => by have := hG.out q hq; omega); have c5 := n5.out.cellOf HCL.out; have O5 : Hid (w5.ownsRow w1.heap.size 69 2 v' (pl + 1) (fl (cvs 0 pre) ++ [.int .u8 (k : Int), .int .u64 (D : Int)])) := o5; obtain ⟨xa, xc, rfl⟩ := ownsRow_form o5; clear o5 g5)
      refine ⟨⟨pre ++ [k], rest, by rw [HE.out]; simp, ?_, ?_, ?_, n5.out⟩, ?_⟩
      · rw [upS_app, upS_one, ← HA.out, ← HPP.out]; go_num
      · rw [List.length_append, ← HPL.out]; go_num
      · rw [HC.out, fl_app, List.length_append, ← HPL.out]
        exact O5.out
      · simp [intOf]; omega
end Go.Proofs.YtigbjpphmbmbiaaGreatDoor
