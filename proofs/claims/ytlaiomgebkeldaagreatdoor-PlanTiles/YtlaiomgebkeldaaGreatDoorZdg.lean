/- plan: how big parts are; the marks of trees; a twin of trees. -/
import Derived.Test.YtlaiomgebkeldaaGreatDoorYg
import Derived.Test.YtlaiomgebkeldaaGreatDoorTh
import Derived.Test.YtlaiomgebkeldaaGreatDoorTz
import Derived.Deep.Slices
namespace Go.Proofs.YtlaiomgebkeldaaGreatDoor
open Go.RowKit
set_option linter.unusedVariables false
set_option linter.unusedSimpArgs false
/-- Beyond, of numbers that may be somewhat greater. -/
theorem beyond_more (p : Option Addr) (c : Nat) (l : List Nat) (w : World) (hi : Ints w p l) (hx : ∀ j, l.getD j 0 < 4611686018428487904) (hl : l.length < 4611686018427387904) :
    Calls Tryz.prog 20 #[.slice p l.length c] w fun e w' => e = .returned (.bool (decide (1048576 < l.sum))) ∧ w' = w := by
  have HI : Hid (Ints w p l) := hi
  have HX : Hid (∀ j, l.getD j 0 < 4611686018428487904) := hx
  clear hi hx
  obtain ⟨n, hn⟩ : ∃ n, n = l.length := ⟨_, rfl⟩
  rw [← hn] at hl ⊢
  have Hn : Hid (n = l.length) := hn
  clear hn
  obtain ⟨R, hR⟩ : ∃ R, R = decide (1048576 < l.sum) := ⟨_, rfl⟩
  have HR : Hid (R = decide (1048576 < l.sum)) := hR
  rw [← hR]
  clear hR
  go_enter Tryz.func20, Tryz.ntmps20
  go_wp2
  go_loop [3, 4] (fun s i => ∃ k m : Nat, k ≤ n ∧ i = .int .i64 k ∧ s = .int .i64 m ∧ m = (l.take k).sum ∧ m ≤ 1048576) (fun _ i => n - (intOf i).toNat)
  case atStart => exact ⟨0, 0, by omega, rfl, rfl, rfl, by omega⟩
  case round =>
    obtain ⟨k, m, hk, rfl, rfl, hm, hm2⟩ := hrel
    have HM : Hid (m = (l.take k).sum) := hm
    clear hm
    by_cases hlt : k < n
    · obtain ⟨g, o, rfl, hc⟩ := HI.out k (by have := Hn.out; omega)
      have hx := HX.out k
      have hst : Hid ((l.take (k + 1)).sum = (l.take k).sum + l.getD k 0) := sum_step l k (by have := Hn.out; omega)
      generalize l.getD k 0 = x at hc hx hst
      have hki : (k : Int) < (n : Int) := by omega
      by_cases hbig : 1048576 < m + x
      · have hb : (1048576 : Int) < (m : Int) + (x : Int) := by omega
        go_wp2
        go_ret
        refine ⟨?_, rfl⟩
        have : R = true := by
          rw [HR.out]
          have h1 := sum_le l (k + 1)
          rw [hst.out, ← HM.out] at h1
          exact decide_eq_true (by omega)
        rw [this]; rfl
      · have hb : ¬ (1048576 : Int) < (m : Int) + (x : Int) := by omega
        go_wp2
        exact ⟨⟨k + 1, m + x, by omega, by go_num, by go_num, by rw [hst.out, ← HM.out], by omega⟩, by simp [intOf]; omega⟩
    · have hge : ¬ (k : Int) < (n : Int) := by omega
      have : R = false := by
        rw [HR.out]
        have h1 := HM.out
        rw [List.take_of_length_le (by have := Hn.out; omega)] at h1
        exact decide_eq_false (by omega)
      have HRF : Hid (R = false) := this
      clear this hlt
      go_wp2
      go_ret
      exact ⟨by rw [HRF.out]; rfl, rfl⟩
/-- Each part and each of its trees. -/
def psz (ls : List (List (Nat × Nat))) : Nat := (ls.map fun l => 1 + l.length).sum
theorem psz_take {ls : List (List (Nat × Nat))} {k : Nat} {l : List (Nat × Nat)} (h : ls[k]? = some l) : psz (ls.take (k + 1)) = psz (ls.take k) + (1 + l.length) := by
  unfold psz
  rw [List.take_add_one, h]
  simp
theorem psz_le (ls : List (List (Nat × Nat))) (k : Nat) : psz (ls.take k) ≤ psz ls := by
  conv => rhs; rw [← List.take_append_drop k ls]
  unfold psz
  rw [List.map_append, List.sum_append]
  omega
theorem psz_len (ls : List (List (Nat × Nat))) : ls.length ≤ psz ls ∧ ls.flatten.length ≤ psz ls ∧ ∀ l ∈ ls, l.length ≤ psz ls := by
  unfold psz
  induction ls with
  | nil => simp
  | cons a r ih =>
    obtain ⟨i1, i2, i3⟩ := ih
    simp only [List.length_cons, List.map_cons, List.sum_cons, List.flatten_cons, List.length_append, List.mem_cons, forall_eq_or_imp]
    exact ⟨by omega, by omega, by omega, fun l hl => by have := i3 l hl; omega⟩
set_option maxRecDepth 100000 in
set_option maxHeartbeats 2000000 in
theorem psize_any (u : Value) (ls : List (List (Nat × Nat))) (w : World) (hu : Prt w u ls) (hl : ls.length < 4611686018427387904) (hl3 : ∀ l ∈ ls, l.length < 4611686018427387904) :
    Calls Tryz.prog 21 #[u] w fun e w' => (∃ N : Nat, e = .returned (.int .i64 (N : Int)) ∧ N < 4611686018428487904 ∧ (N ≤ 1048576 → N = psz ls) ∧ (psz ls ≤ 1048576 → N = psz ls)) ∧ Nw w w' := by
  obtain ⟨ad, ca, rfl, hu⟩ := hu
  have HU : Hid (∀ k l, ls[k]? = some l → ∃ g off x, ad = some ⟨g, off, none⟩ ∧ g < w.heap.size ∧ w.cell? ⟨g, off + k, none⟩ = some x ∧ Crd w x l) := hu
  have HL3 : Hid (∀ l ∈ ls, l.length < 4611686018427387904) := hl3
  obtain ⟨n, hn⟩ : ∃ n, n = ls.length := ⟨_, rfl⟩
  have HN : Hid (n = ls.length) := hn
  rw [← hn] at hl ⊢
  clear hu hl3 hn
  go_enter Tryz.func21, Tryz.ntmps21
  go_wp2
  go_loopw [3, 4] (fun s i wr => ∃ (k N : Nat), k ≤ n ∧ i = .int .i64 k ∧ s = .int .i64 N ∧ N = psz (ls.take k) ∧ N < 4611686018428487904 ∧ Nw w wr) (fun _ i _ => n - (intOf i).toNat)
  case atStart => exact ⟨0, 0, by omega, rfl, rfl, by simp [psz], by omega, nwr w⟩
  case round =>
    obtain ⟨k, N, hk, rfl, rfl, hN, hNb, hnw⟩ := hrel
    have HNN : Hid (N = psz (ls.take k)) := hN
    have HW : Hid (Nw w wr) := hnw
    by_cases hlt : k < n
    · have hki : (k : Int) < (n : Int) := by omega
      by_cases hm : N ≤ 1048576
      · have hmi : (N : Int) ≤ 1048576 := by omega
        obtain ⟨l, hl9⟩ : ∃ l, ls[k]? = some l := ⟨_, List.getElem?_eq_getElem (by rw [← HN.out]; exact hlt)⟩
        obtain ⟨g, off, x, rfl, g1, g2, g3⟩ := HU.out k l hl9
        obtain ⟨bd, cb, rfl, _⟩ := g3
        have g2' := hnw.cellOf g2
        have hb := HL3.out l (List.mem_of_getElem? hl9)
        have HT : Hid (psz (ls.take (k + 1)) = psz (ls.take k) + (1 + l.length)) := psz_take hl9
        obtain ⟨m, hm9⟩ : ∃ m, m = l.length := ⟨_, rfl⟩
        rw [← hm9] at g2' hb HT
        clear hN hnw g1 g2 hl9 hm9
        go_wp2
        exact ⟨⟨k + 1, N + 1 + m, by omega, by go_num, by go_num, by rw [HT.out, ← HNN.out]; omega, by omega, HW.out⟩, by simp [intOf]; omega⟩
      · have hmi : ¬ (N : Int) ≤ 1048576 := by omega
        have HX : Hid (1048576 < psz ls) := by have := psz_le ls k; show _ < _; omega
        clear hN hnw
        go_wp2
        go_ret
        exact ⟨⟨N, rfl, hNb, fun q => absurd q hm, fun q => by have := HX.out; omega⟩, HW.out⟩
    · obtain rfl : k = n := by omega
      have HX : Hid (psz (ls.take k) = psz ls) := by show _ = _; rw [HN.out, List.take_length]
      clear hN hnw
      go_wp2
      go_ret
      exact ⟨⟨N, rfl, hNb, fun _ => by rw [HNN.out, HX.out], fun _ => by rw [HNN.out, HX.out]⟩, HW.out⟩
end Go.Proofs.YtlaiomgebkeldaaGreatDoor
namespace Go.Proofs.YtlaiomgebkeldaaGreatDoor
open Go.RowKit
set_option linter.unusedVariables false
set_option linter.unusedSimpArgs false
theorem fl_set : ∀ (xs : List (Nat × Nat)) (k : Nat) (t : Nat × Nat), k < xs.length → fl (xs.set k t) = (fl xs).take (k * 2) ++ [.int .u8 (t.1 : Int), .int .u64 (t.2 : Int)] ++ (fl xs).drop (k * 2 + 2)
  | [], k, t, h => by simp at h
  | x :: r, 0, t, h => by simp [fl]
  | x :: r, k + 1, t, h => by
    have := fl_set r k t (by simpa using h)
    rw [List.set_cons_succ, fl, this, show (k + 1) * 2 = k * 2 + 1 + 1 by omega, fl, List.take_succ_cons, List.take_succ_cons, show k * 2 + 1 + 1 + 2 = (k * 2 + 2) + 1 + 1 by omega, List.drop_succ_cons, List.drop_succ_cons]
    simp
theorem made_fl (n : Nat) : madeCells (Value.agg #[.int .u8 0, .int .u64 0]).cells (n * 2) = (fl (List.replicate n (0, 0))).toArray := by
  apply Array.ext
  · rw [size_madeCells]; simp [fl_len]
  · intro j h1 h2
    rw [size_madeCells] at h1
    have hk : j / 2 < n := by omega
    obtain ⟨q1, q2⟩ := fl_get (List.replicate n (0, 0)) (j / 2) (0, 0) (by simp [hk])
    simp only [madeCells, Array.getElem_map, Array.getElem_range, Value.cells, List.getElem_toArray]
    rcases Nat.mod_two_eq_zero_or_one j with h | h
    · rw [show j / 2 * 2 = j by omega] at q1
      obtain ⟨_, q1⟩ := List.getElem?_eq_some_iff.1 q1
      rw [q1]
      show #[Value.int .u8 0, .int .u64 0][j % 2]! = _
      rw [h]; rfl
    · rw [show j / 2 * 2 + 1 = j by omega] at q2
      obtain ⟨_, q2⟩ := List.getElem?_eq_some_iff.1 q2
      rw [q2]
      show #[Value.int .u8 0, .int .u64 0][j % 2]! = _
      rw [h]; rfl
theorem infoCo : (Tryz.prog.info? 87).map (fun i => (i.zero, i.size, i.bytes)) = some (some (cd 0 0), 2, 16) := by kernel_rfl
theorem make_co (n : Nat) (m : Int) (hm : m = (n : Int)) (hl : n ≤ 1048577) (w : World) : (Instr.makeSlice 25 (.int .i64 m) (.int .i64 m)).run Tryz.prog w = .ok (.slice (some ⟨w.heap.size, 0, none⟩) n n) (w.alloc (.cells (fl (List.replicate n (0, 0))).toArray 87)) := by
  obtain ⟨i, hi, he⟩ := Option.map_eq_some_iff.1 infoCo
  simp only [Prod.mk.injEq] at he
  obtain ⟨hz0, hz1, hz2⟩ := he
  subst hm
  rw [run_make w 25 87 i (cd 0 0) Tryz.underlying25 hi hz0 .i64 .i64 _ _ (by omega) (by omega) (by rw [hz2]; omega) (by omega), hz1]
  rw [Int.toNat_natCast]
  have := made_fl n
  rw [show (cd 0 0).cells = (Value.agg #[.int .u8 0, .int .u64 0]).cells from rfl, this]
set_option maxHeartbeats 1000000 in
theorem markc_any (w : World) : Calls Tryz.prog 119 #[.int .i64 7777] w fun e w' => e = .returned (cd 201 7777) ∧ Nw w w' := by
  go_enter Tryz.func119, Tryz.ntmps119
  go_wp2
  (refine bodyPost_ret (results_cell (V := #[.int .u8 201, .int .u64 7777]) (ty := 87) (f := (0, 0)) Tryz.results119 Tryz.isAgg87 Tryz.sizeOf87 rfl ?_ rfl) rfl ⟨rfl, (by repeat first | with_reducible exact nwr w | with_reducible refine Fr.alloc ?_ _ | with_reducible refine Fr.drew ?_ | (with_reducible refine Fr.setCell ?_ _ _ (fun h => ?_); rotate_left; focus (simp only at h; omega)))⟩; (repeat first | with_reducible exact heap_new _ _ | with_reducible exact heap_new _ _ | with_reducible exact heap_next _ _ _ | with_reducible exact heap_third _ _ _ _ | with_reducible refine hp_dr ?_ | (with_reducible refine hp_ne ?_ ?_; focus omega) | (with_reducible refine hp_al ?_ ?_; focus (first | omega | (simp <;> omega))) | with_reducible apply hp_set) <;> rfl)
set_option maxRecDepth 100000 in
set_option maxHeartbeats 4000000 in
theorem twinc_any (v : Value) (L : List (Nat × Nat)) (w : World) (hs : Crd w v L) (hl : L.length ≤ 1048576) :
    Calls Tryz.prog 93 #[v] w fun e w' => e = .returned (.slice (some ⟨w.heap.size, 0, none⟩) L.length (L.length + 1)) ∧ w'.heap[w.heap.size]? = some (.cells (fl (L ++ [(201, 7777)])).toArray 87) ∧ Nw w w' := by
  obtain ⟨ad, c, rfl, hs⟩ := hs
  have HS : Hid (∀ k t, L[k]? = some t → ∃ g off, ad = some ⟨g, off, none⟩ ∧ g < w.heap.size ∧ w.cell? ⟨g, off + k * 2, none⟩ = some (.int .u8 (t.1 : Int)) ∧ w.cell? ⟨g, off + k * 2 + 1, none⟩ = some (.int .u64 (t.2 : Int))) := hs
  obtain ⟨n, hn⟩ : ∃ n, n = L.length := ⟨_, rfl⟩
  have Hn : Hid (L.length = n) := hn.symm
  rw [← hn] at hl ⊢
  clear hn hs
  have hmk := make_co (n + 1) ((n : Int) + 1) (by omega) (by omega) w
  obtain ⟨w1, hw1⟩ : ∃ w1, w1 = w.alloc (.cells (fl (List.replicate (n + 1) (0, 0))).toArray 87) := ⟨_, rfl⟩
  rw [← hw1] at hmk
  have N1 : Hid (Nw w w1) := by rw [hw1]; exact nwa w _
  have OM : Hid (w1.heap[w.heap.size]? = some (.cells (fl (List.replicate (n + 1) (0, 0))).toArray 87)) := by rw [hw1]; exact heap_new _ _
  obtain ⟨g, hg⟩ : ∃ g, g = w.heap.size := ⟨_, rfl⟩
  rw [← hg] at hmk OM ⊢
  have HG : Hid (g = w.heap.size) := hg
  clear hw1 hg
  go_enter Tryz.func93, Tryz.ntmps93
  go_wp2
  go_loopw [4] (fun i wr => ∃ (k : Nat) (xs : List (Nat × Nat)), k ≤ n ∧ i = .int .i64 k ∧ xs.length = n + 1 ∧ (∀ q, q < k → xs[q]? = L[q]?) ∧ wr.heap[g]? = some (.cells (fl xs).toArray 87) ∧ Nw w wr) (fun i _ => n - (intOf i).toNat)
  case atStart => exact ⟨0, _, by omega, rfl, by simp, fun q hq => by omega, OM.out, N1.out⟩
  case round =>
    obtain ⟨k, xs, hk, rfl, hxl, hxq, hown, hnw⟩ := hrel
    have HXL : Hid (xs.length = n + 1) := hxl
    have HXQ : Hid (∀ q, q < k → xs[q]? = L[q]?) := hxq
    have HOW : Hid (wr.heap[g]? = some (.cells (fl xs).toArray 87)) := hown
    have HNW : Hid (Nw w wr) := hnw
    clear hxl hxq hown hnw
    by_cases hlt : k < n
    · obtain ⟨x, hx⟩ : ∃ x, L[k]? = some x := ⟨_, List.getElem?_eq_getElem (by rw [Hn.out]; exact hlt)⟩
      have HX : Hid (L[k]? = some x) := hx
      obtain ⟨p, off, rfl, _, c0, c1⟩ := HS.out k x hx
      have c0' := HNW.out.cellOf c0
      have c1' := HNW.out.cellOf c1
      obtain ⟨a, b⟩ := x
      simp only at c0' c1'
      clear hx c0 c1
      have hki : (k : Int) < (n : Int) := by omega
      go_wp2_with (refine wp_store_agg rfl (.tmp 21) (.tmp 20) 87 2 rfl Tryz.sizeOf87 g (k * 2) rfl (fl xs).toArray 87 HOW.out #[.int .u8 (a : Int), .int .u64 (b : Int)] rfl rfl (by simp [Value.oneCell']) (by simp only [List.size_toArray, fl_len]; have := HXL.out; omega) (fl (xs.set k (a, b))).toArray (by simpa using fl_set xs k (a, b) (by have := HXL.out; omega)) ?_; intro w3 j3 f3 z3; clear z3)
      refine ⟨⟨k + 1, xs.set k (a, b), by omega, by go_num, by rw [List.length_set]; exact HXL.out, fun q hq => ?_, j3, HNW.out.trans f3 (fun b hb q => by have := HG.out; omega)⟩, by simp [intOf]; omega⟩
      by_cases hqk : q = k
      · subst hqk
        rw [List.getElem?_set_self (by rw [HXL.out]; omega), HX.out]
      · rw [List.getElem?_set_ne (by omega)]
        exact HXQ.out q (by omega)
    · obtain rfl : k = n := by omega
      have hki : ¬ (k : Int) < (k : Int) := by omega
      go_wp2_with fail
      refine (markc_any _).mono ?_
      rintro e w3 ⟨rfl, n3⟩
      have O3 : Hid (w3.heap[g]? = some (.cells (fl xs).toArray 87)) := (n3.block _ (heap_lt HOW.out) (fun f => f)).trans HOW.out
      have N3 : Hid (Nw w w3) := HNW.out.tr n3
      clear n3
      have hk0 : (k : Int) < (k : Int) + 1 := by omega
      go_wp2_with (refine wp_store_agg rfl (.tmp 26) (.tmp 25) 87 2 rfl Tryz.sizeOf87 g (k * 2) rfl (fl xs).toArray 87 O3.out #[.int .u8 201, .int .u64 7777] rfl rfl (by simp [Value.oneCell']) (by simp only [List.size_toArray, fl_len]; have := HXL.out; omega) (fl (xs.set k (201, 7777))).toArray (by simpa using fl_set xs k (201, 7777) (by have := HXL.out; omega)) ?_; intro w4 j4 f4 z4; clear z4)
      have e : xs.set k (201, 7777) = L ++ [(201, 7777)] := by
        apply List.ext_getElem?
        intro q
        rcases Nat.lt_trichotomy q k with h | h | h
        · rw [List.getElem?_set_ne (by omega), HXQ.out q h, List.getElem?_append_left (by rw [Hn.out]; exact h)]
        · subst h
          rw [List.getElem?_set_self (by rw [HXL.out]; omega), List.getElem?_append_right (by rw [Hn.out]; omega), Hn.out]
          simp
        · rw [List.getElem?_eq_none (by rw [List.length_set, HXL.out]; omega), List.getElem?_eq_none (by rw [List.length_append, Hn.out]; simp; omega)]
      rw [e] at j4
      go_wp2
      go_ret
      exact ⟨rfl, j4, N3.out.trans f4 (fun b hb q => by have := HG.out; omega)⟩
end Go.Proofs.YtlaiomgebkeldaaGreatDoor
namespace Go.Proofs.YtlaiomgebkeldaaGreatDoor
open Go.RowKit
set_option linter.unusedVariables false
set_option linter.unusedSimpArgs false
/-- A twin of trees in memory, its mark behind it. -/
def Tco (w : World) (x : Value) (l : List (Nat × Nat)) : Prop := ∃ g, x = .slice (some ⟨g, 0, none⟩) l.length (l.length + 1) ∧ w.heap[g]? = some (.cells (fl (l ++ [(201, 7777)])).toArray 87)
theorem Tco.nw {w w' : World} {x : Value} {l : List (Nat × Nat)} (h : Tco w x l) (n : Nw w w') : Tco w' x l := by
  obtain ⟨g, rfl, h⟩ := h
  exact ⟨g, rfl, (n.block _ (heap_lt h) (fun f => f)).trans h⟩
theorem Tco.fr {w w' : World} {x : Value} {l : List (Nat × Nat)} {g : Nat} {cs : Array Value} (h : Tco w x l) (hg : w.heap[g]? = some (.cells cs 27)) (f : Fr (fun j => j = g) w w') : Tco w' x l := by
  obtain ⟨p, rfl, h⟩ := h
  refine ⟨p, rfl, (f.block _ (heap_lt h) (fun e => ?_)).trans h⟩
  subst e
  rw [h] at hg
  simp only [Option.some.injEq, Obj.cells.injEq] at hg
  exact absurd hg.2.1 (by decide)
theorem Tco.crd {w : World} {x : Value} {l : List (Nat × Nat)} (h : Tco w x l) : Crd w x l := by
  obtain ⟨g, rfl, h⟩ := h
  refine ⟨_, _, rfl, fun k t ht => ⟨g, 0, rfl, heap_lt h, ?_, ?_⟩⟩
  · have := (fl_get (l ++ [(201, 7777)]) k t (by rw [List.getElem?_append_left (List.getElem?_eq_some_iff.1 ht).1]; exact ht)).1
    rw [cell_of h, Nat.zero_add]
    simpa using this
  · have := (fl_get (l ++ [(201, 7777)]) k t (by rw [List.getElem?_append_left (List.getElem?_eq_some_iff.1 ht).1]; exact ht)).2
    rw [cell_of h, Nat.zero_add]
    simpa using this
/-- A twin of parts in memory, its mark behind it. -/
def Tpa (w : World) (g : Nat) (ls : List (List (Nat × Nat))) : Prop := ∃ xs : List Value, xs.length = ls.length + 1 ∧ w.heap[g]? = some (.cells xs.toArray 27) ∧ (∀ (k : Nat) (l : List (Nat × Nat)), ls[k]? = some l → ∃ x, xs[k]? = some x ∧ Tco w x l) ∧
  ∃ gm, xs[ls.length]? = some (.slice (some ⟨gm, 0, none⟩) 1 1) ∧ w.heap[gm]? = some (.cells #[.int .u8 201, .int .u64 7777] 87)
theorem Tpa.nw {w w' : World} {g : Nat} {ls : List (List (Nat × Nat))} (h : Tpa w g ls) (n : Nw w w') : Tpa w' g ls := by
  obtain ⟨xs, h1, h2, h3, gm, h4, h5⟩ := h
  refine ⟨xs, h1, (n.block _ (heap_lt h2) (fun f => f)).trans h2, fun k l hl => ?_, gm, h4, (n.block _ (heap_lt h5) (fun f => f)).trans h5⟩
  obtain ⟨x, q1, q2⟩ := h3 k l hl
  exact ⟨x, q1, q2.nw n⟩
theorem Tpa.prt {w : World} {g c : Nat} {ls : List (List (Nat × Nat))} (h : Tpa w g ls) : Prt w (.slice (some ⟨g, 0, none⟩) ls.length c) ls := by
  obtain ⟨xs, h1, h2, h3, _⟩ := h
  refine ⟨_, _, rfl, fun k l hl => ?_⟩
  obtain ⟨x, q1, q2⟩ := h3 k l hl
  exact ⟨g, 0, x, rfl, heap_lt h2, by rw [cell_of h2, Nat.zero_add]; simpa using q1, q2.crd⟩
theorem made_pa (n : Nat) : madeCells (Value.agg #[.slice none 0 0]).cells (n * 1) = (List.replicate n (Value.slice none 0 0)).toArray := by
  apply Array.ext
  · rw [size_madeCells]; simp
  · intro j h1 h2
    simp only [madeCells, Array.getElem_map, Array.getElem_range, Value.cells, List.getElem_toArray, List.getElem_replicate]
    show #[Value.slice none 0 0][j % 1]! = _
    rw [Nat.mod_one]; rfl
theorem infoPa : (Tryz.prog.info? 27).map (fun i => (i.zero, i.size, i.bytes)) = some (some (.agg #[.slice none 0 0]), 1, 24) := by kernel_rfl
theorem make_pa (n : Nat) (m : Int) (hm : m = (n : Int)) (hl : n ≤ 1048577) (w : World) : (Instr.makeSlice 38 (.int .i64 m) (.int .i64 m)).run Tryz.prog w = .ok (.slice (some ⟨w.heap.size, 0, none⟩) n n) (w.alloc (.cells (List.replicate n (Value.slice none 0 0)).toArray 27)) := by
  obtain ⟨i, hi, he⟩ := Option.map_eq_some_iff.1 infoPa
  simp only [Prod.mk.injEq] at he
  obtain ⟨hz0, hz1, hz2⟩ := he
  subst hm
  rw [run_make w 38 27 i (.agg #[.slice none 0 0]) Tryz.underlying38 hi hz0 .i64 .i64 _ _ (by omega) (by omega) (by rw [hz2]; omega) (by omega), hz1]
  rw [Int.toNat_natCast, made_pa]
set_option maxHeartbeats 1000000 in
theorem markp_any (w : World) : Calls Tryz.prog 94 #[.int .i64 7777] w fun e w' => (∃ gm, e = .returned (.agg #[.slice (some ⟨gm, 0, none⟩) 1 1]) ∧ w'.heap[gm]? = some (.cells #[.int .u8 201, .int .u64 7777] 87)) ∧ Nw w w' := by
  have HB : Hid ((w.alloc (.cells #[.slice none 0 0] 27)).heap[w.heap.size]? = some (.cells #[.slice none 0 0] 27)) := heap_new _ _
  go_enter Tryz.func94, Tryz.ntmps94
  go_wp2_with fail
  refine (markc_any _).mono ?_
  rintro _ w1 ⟨rfl, n1⟩
  have b1 := (n1.block _ (heap_lt HB.out) (fun f => f)).trans HB.out
  have N1 : Hid (Nw w w1) := (nwa w _).tr n1
  have y0 := cell1 b1
  have z0 := frozen_of b1 0
  have l1 := heap_lt b1
  clear n1
  go_wp2
  have hn : ((w1.setCell ⟨w.heap.size, 0, none⟩ (.slice (some ⟨w1.heap.size, 0, none⟩) 1 1)).alloc (.cells #[.int .u8 201, .int .u64 7777] 87)).heap[w1.heap.size]? = some (.cells #[.int .u8 201, .int .u64 7777] 87) := by
    have := heap_new (w1.setCell ⟨w.heap.size, 0, none⟩ (.slice (some ⟨w1.heap.size, 0, none⟩) 1 1)) (.cells #[.int .u8 201, .int .u64 7777] 87)
    simpa using this
  refine bodyPost_ret (results_cell (V := #[.slice (some ⟨w1.heap.size, 0, none⟩) 1 1]) (ty := 27) (f := (0, 0)) Tryz.results94 Tryz.isAgg27 Tryz.sizeOf27 rfl ?_ rfl) rfl ⟨⟨w1.heap.size, rfl, hn⟩, (N1.out.setCell _ _ (fun h => by simp only at h; omega)).alloc _⟩
  exact hp_al (by simp; omega) (hp_set b1 rfl)
set_option maxRecDepth 100000 in
set_option maxHeartbeats 4000000 in
theorem twinp_any (v : Value) (ls : List (List (Nat × Nat))) (w : World) (hs : Prt w v ls) (hl : ls.length ≤ 1048576) (hl3 : ∀ l ∈ ls, l.length ≤ 1048576) :
    Calls Tryz.prog 22 #[v] w fun e w' => e = .returned (.slice (some ⟨w.heap.size, 0, none⟩) ls.length (ls.length + 1)) ∧ Tpa w' w.heap.size ls ∧ Nw w w' := by
  obtain ⟨ad, c, rfl, hs⟩ := hs
  have HS : Hid (∀ k l, ls[k]? = some l → ∃ g off x, ad = some ⟨g, off, none⟩ ∧ g < w.heap.size ∧ w.cell? ⟨g, off + k, none⟩ = some x ∧ Crd w x l) := hs
  have HL3 : Hid (∀ l ∈ ls, l.length ≤ 1048576) := hl3
  obtain ⟨n, hn⟩ : ∃ n, n = ls.length := ⟨_, rfl⟩
  have Hn : Hid (ls.length = n) := hn.symm
  rw [← hn] at hl ⊢
  clear hn hs hl3
  have hmk := make_pa (n + 1) ((n : Int) + 1) (by omega) (by omega) w
  obtain ⟨w1, hw1⟩ : ∃ w1, w1 = w.alloc (.cells (List.replicate (n + 1) (Value.slice none 0 0)).toArray 27) := ⟨_, rfl⟩
  rw [← hw1] at hmk
  have N1 : Hid (Nw w w1) := by rw [hw1]; exact nwa w _
  have OM : Hid (w1.heap[w.heap.size]? = some (.cells (List.replicate (n + 1) (Value.slice none 0 0)).toArray 27)) := by rw [hw1]; exact heap_new _ _
  obtain ⟨g, hg⟩ : ∃ g, g = w.heap.size := ⟨_, rfl⟩
  rw [← hg] at hmk OM ⊢
  have HG : Hid (g = w.heap.size) := hg
  clear hw1 hg
  go_enter Tryz.func22, Tryz.ntmps22
  go_wp2
  go_loopw [4] (fun i wr => ∃ (k : Nat) (xs : List Value), k ≤ n ∧ i = .int .i64 k ∧ xs.length = n + 1 ∧ (∀ q l, q < k → ls[q]? = some l → ∃ x, xs[q]? = some x ∧ Tco wr x l) ∧ wr.heap[g]? = some (.cells xs.toArray 27) ∧ Nw w wr) (fun i _ => n - (intOf i).toNat)
  case atStart => exact ⟨0, _, by omega, rfl, by simp, fun q l hq => by omega, OM.out, N1.out⟩
  case round =>
    obtain ⟨k, xs, hk, rfl, hxl, hxq, hown, hnw⟩ := hrel
    have HXL : Hid (xs.length = n + 1) := hxl
    have HXQ : Hid (∀ q l, q < k → ls[q]? = some l → ∃ x, xs[q]? = some x ∧ Tco wr x l) := hxq
    have HOW : Hid (wr.heap[g]? = some (.cells xs.toArray 27)) := hown
    have HNW : Hid (Nw w wr) := hnw
    clear hxl hxq hown hnw
    by_cases hlt : k < n
    · obtain ⟨l, hx⟩ : ∃ x, ls[k]? = some x := ⟨_, List.getElem?_eq_getElem (by rw [Hn.out]; exact hlt)⟩
      have HX : Hid (ls[k]? = some l) := hx
      obtain ⟨p, off, x, rfl, _, c0, hcr⟩ := HS.out k l hx
      have c0' := HNW.out.cellOf c0
      have QT : Hid (Calls Tryz.prog 93 #[x] wr fun e w' => e = .returned (.slice (some ⟨wr.heap.size, 0, none⟩) l.length (l.length + 1)) ∧ w'.heap[wr.heap.size]? = some (.cells (fl (l ++ [(201, 7777)])).toArray 87) ∧ Nw wr w') := twinc_any x l wr (hcr.nw HNW.out) (HL3.out l (List.mem_of_getElem? hx))
      obtain ⟨m, hm⟩ : ∃ m, m = l.length := ⟨_, rfl⟩
      have HM : Hid (m = l.length) := hm
      rw [← hm] at QT
      clear hx c0 hcr hm
      have hki : (k : Int) < (n : Int) := by omega
      go_wp2_with fail
      refine QT.out.mono ?_
      rintro _ w3 ⟨rfl, b3, n3⟩
      obtain ⟨gc, hgc⟩ : ∃ q, q = wr.heap.size := ⟨_, rfl⟩
      rw [← hgc] at b3 ⊢
      have TC : Hid (Tco w3 (.slice (some ⟨gc, 0, none⟩) m (m + 1)) l) := by rw [HM.out]; exact ⟨gc, rfl, b3⟩
      have O3 : Hid (w3.heap[g]? = some (.cells xs.toArray 27)) := (n3.block _ (heap_lt HOW.out) (fun f => f)).trans HOW.out
      have N3 : Hid (Nw wr w3) := n3
      clear n3 b3 hgc c0'
      go_wp2_with (refine wp_store_agg rfl (.tmp 24) (.tmp 23) 27 1 rfl Tryz.sizeOf27 g k rfl xs.toArray 27 O3.out #[.slice (some ⟨gc, 0, none⟩) m (m + 1)] rfl rfl (by simp [Value.oneCell']) (by simp only [List.size_toArray]; have := HXL.out; omega) (xs.set k (.slice (some ⟨gc, 0, none⟩) m (m + 1))).toArray (by simp only [List.set_eq_take_append_cons_drop]; rw [if_pos (by have := HXL.out; omega)]; simp) ?_; intro w4 j4 f4 z4; clear z4)
      refine ⟨⟨k + 1, xs.set k (.slice (some ⟨gc, 0, none⟩) m (m + 1)), by omega, by go_num, by rw [List.length_set]; exact HXL.out, fun q l' hq hl' => ?_, j4, (HNW.out.tr N3.out).trans f4 (fun b hb q => by have := HG.out; omega)⟩, by simp [intOf]; omega⟩
      by_cases hqk : q = k
      · subst hqk
        have e : l' = l := by have := HX.out; rw [hl'] at this; exact Option.some.inj this
        subst e
        exact ⟨_, List.getElem?_set_self (by rw [HXL.out]; omega), TC.out.fr O3.out f4⟩
      · obtain ⟨y, y1, y2⟩ := HXQ.out q l' (by omega) hl'
        exact ⟨y, by rw [List.getElem?_set_ne (by omega)]; exact y1, (y2.nw N3.out).fr O3.out f4⟩
    · obtain rfl : k = n := by omega
      have hki : ¬ (k : Int) < (k : Int) := by omega
      go_wp2_with fail
      refine (markp_any _).mono ?_
      rintro _ w3 ⟨⟨gm, rfl, b3⟩, n3⟩
      have O3 : Hid (w3.heap[g]? = some (.cells xs.toArray 27)) := (n3.block _ (heap_lt HOW.out) (fun f => f)).trans HOW.out
      have B3 : Hid (w3.heap[gm]? = some (.cells #[.int .u8 201, .int .u64 7777] 87)) := b3
      have N3 : Hid (Nw wr w3) := n3
      clear n3 b3
      have hk0 : (k : Int) < (k : Int) + 1 := by omega
      go_wp2_with (refine wp_store_agg rfl (.tmp 29) (.tmp 28) 27 1 rfl Tryz.sizeOf27 g k rfl xs.toArray 27 O3.out #[.slice (some ⟨gm, 0, none⟩) 1 1] rfl rfl (by simp [Value.oneCell']) (by simp only [List.size_toArray]; have := HXL.out; omega) (xs.set k (.slice (some ⟨gm, 0, none⟩) 1 1)).toArray (by simp only [List.set_eq_take_append_cons_drop]; rw [if_pos (by have := HXL.out; omega)]; simp) ?_; intro w4 j4 f4 z4; clear z4)
      have gne : gm ≠ g := fun e => by
        subst e
        have h1 := O3.out
        rw [B3.out] at h1
        simp only [Option.some.injEq, Obj.cells.injEq] at h1
        exact absurd h1.2.1 (by decide)
      have T4 : Hid (Tpa w4 g ls) := by
        refine ⟨_, by rw [List.length_set, HXL.out, Hn.out], j4, fun q l hl => ?_, gm, ?_, (f4.block _ (heap_lt B3.out) gne).trans B3.out⟩
        · have hq := (List.getElem?_eq_some_iff.1 hl).1
          rw [Hn.out] at hq
          obtain ⟨y, y1, y2⟩ := HXQ.out q l hq hl
          exact ⟨y, by rw [List.getElem?_set_ne (by omega)]; exact y1, (y2.nw N3.out).fr O3.out f4⟩
        · rw [Hn.out, List.getElem?_set_self (by rw [HXL.out]; omega)]
      have N4 : Hid (Nw w w4) := (HNW.out.tr N3.out).trans f4 (fun b hb q => by have := HG.out; omega)
      clear j4 f4 gne
      go_wp2
      go_ret
      exact ⟨rfl, T4.out, N4.out⟩
end Go.Proofs.YtlaiomgebkeldaaGreatDoor
namespace Go.Proofs.YtlaiomgebkeldaaGreatDoor
open Go.RowKit
set_option linter.unusedVariables false
set_option linter.unusedSimpArgs false
theorem elemCo : Tryz.prog.elem 25 = 87 := by kernel_rfl
theorem undCo : Tryz.prog.underlying 25 = some (.slice (Tryz.prog.elem 25)) := by rw [elemCo]; exact Tryz.underlying25
theorem elemPa : Tryz.prog.elem 38 = 27 := by kernel_rfl
theorem undPa : Tryz.prog.underlying 38 = some (.slice (Tryz.prog.elem 38)) := by rw [elemPa]; exact Tryz.underlying38
theorem cut_co (ad : Option Addr) (n cap k : Nat) (hk : k ≤ cap) (w : World) : (Instr.sliceAt 25 (.slice ad n cap) none (some (.int .i64 (k : Int))) none).run Tryz.prog w = .ok (.slice ad k cap) w := by
  rw [run_sliceAt_slice w _ _ _ _ _ undCo, run_slice_h w _ ad n cap undCo .i64 k (by omega) (by omega), elemCo, Tryz.sizeOf87 w]
  cases ad <;> simp [sliced, Addr.add]
theorem cut_pa (ad : Option Addr) (n cap k : Nat) (hk : k ≤ cap) (w : World) : (Instr.sliceAt 38 (.slice ad n cap) none (some (.int .i64 (k : Int))) none).run Tryz.prog w = .ok (.slice ad k cap) w := by
  rw [run_sliceAt_slice w _ _ _ _ _ undPa, run_slice_h w _ ad n cap undPa .i64 k (by omega) (by omega), elemPa, Tryz.sizeOf27 w]
  cases ad <;> simp [sliced, Addr.add]
set_option maxHeartbeats 1000000 in
theorem isc_any (w : World) : Calls Tryz.prog 134 #[cd 201 7777, .int .i64 7777] w fun e w' => e = .returned (.bool true) ∧ Nw w w' := by
  go_enter Tryz.func134, Tryz.ntmps134
  go_wp2
  go_ret
  exact ⟨rfl, nwa w _⟩
set_option maxHeartbeats 2000000 in
theorem isp_any (w : World) (gm : Nat) (h : w.heap[gm]? = some (.cells #[.int .u8 201, .int .u64 7777] 87)) : Calls Tryz.prog 101 #[.agg #[.slice (some ⟨gm, 0, none⟩) 1 1], .int .i64 7777] w fun e w' => e = .returned (.bool true) ∧ Nw w w' := by
  have c0 := cell2a (((nwa w (.cells #[.slice (some ⟨gm, 0, none⟩) 1 1] 27)).block _ (heap_lt h) (fun f => f)).trans h)
  have c1 := cell2b (((nwa w (.cells #[.slice (some ⟨gm, 0, none⟩) 1 1] 27)).block _ (heap_lt h) (fun f => f)).trans h)
  clear h
  go_enter Tryz.func101, Tryz.ntmps101
  go_wp2_with fail
  refine (isc_any _).mono ?_
  rintro _ w1 ⟨rfl, n1⟩
  have N1 : Hid (Nw w w1) := (nwa w _).tr n1
  clear n1 c0 c1
  go_wp2
  go_ret
  exact ⟨rfl, N1.out⟩
set_option maxRecDepth 100000 in
set_option maxHeartbeats 4000000 in
theorem leftc_any (x y : Value) (l : List (Nat × Nat)) (w : World) (hx : Tco w x l) (hy : Crd w y l) (hl : l.length ≤ 1048576) :
    Calls Tryz.prog 100 #[x, y] w fun e w' => e = .returned (.bool true) ∧ Nw w w' := by
  have QS : Hid (Calls Tryz.prog 8 #[x, y] w fun e w' => e = .returned (.bool true) ∧ Nw w w') := same_yes x y l w hx.crd hy (by omega)
  obtain ⟨g, rfl, hg⟩ := hx
  obtain ⟨bd, cb, rfl, _⟩ := hy
  have HM : Hid (∀ V, Nw w V → V.cell? ⟨g, l.length * 2, none⟩ = some (.int .u8 201) ∧ V.cell? ⟨g, l.length * 2 + 1, none⟩ = some (.int .u64 7777)) := fun V nV => by
    obtain ⟨q1, q2⟩ := fl_get (l ++ [(201, 7777)]) l.length (201, 7777) (by simp)
    exact ⟨nV.cellOf (by rw [cell_of hg]; simpa using q1), nV.cellOf (by rw [cell_of hg]; simpa using q2)⟩
  have HCUT := show Hid _ from cut_co (some ⟨g, 0, none⟩) l.length (l.length + 1) (l.length + 1) (Nat.le_refl _)
  clear hg
  generalize l.length = n at *
  rw [Int.natCast_add] at HCUT
  go_enter Tryz.func100, Tryz.ntmps100
  go_wp2_with fail
  refine QS.out.mono ?_
  rintro _ w1 ⟨rfl, n1⟩
  have N1 : Hid (Nw w w1) := n1
  obtain ⟨m0, m1⟩ := HM.out w1 n1
  have hcut : (Instr.sliceAt 25 (.slice (some ⟨g, 0, none⟩) n (n + 1)) none (some (.int .i64 ((n : Int) + 1))) none).run Tryz.prog w1 = .ok (.slice (some ⟨g, 0, none⟩) (n + 1) (n + 1)) w1 := HCUT.out w1
  have hk0 : (n : Int) < (n : Int) + 1 := by omega
  clear n1
  go_wp2_with fail
  refine (isc_any _).mono ?_
  rintro _ w2 ⟨rfl, n2⟩
  have N2 : Hid (Nw w w2) := N1.out.tr n2
  clear n2 m0 m1 hcut
  go_wp2
  go_ret
  exact ⟨rfl, N2.out⟩
set_option maxRecDepth 100000 in
set_option maxHeartbeats 4000000 in
theorem leftp_any (g : Nat) (v : Value) (ls : List (List (Nat × Nat))) (w : World) (ht : Tpa w g ls) (hv : Prt w v ls) (hl : ls.length ≤ 1048576) (hl3 : ∀ l ∈ ls, l.length ≤ 1048576) :
    Calls Tryz.prog 26 #[.slice (some ⟨g, 0, none⟩) ls.length (ls.length + 1), v] w fun e w' => e = .returned (.bool true) ∧ Nw w w' := by
  obtain ⟨ad, c, rfl, hv⟩ := hv
  have HV : Hid (∀ k l, ls[k]? = some l → ∃ g off x, ad = some ⟨g, off, none⟩ ∧ g < w.heap.size ∧ w.cell? ⟨g, off + k, none⟩ = some x ∧ Crd w x l) := hv
  have HL3 : Hid (∀ l ∈ ls, l.length ≤ 1048576) := hl3
  have HT : Hid (Tpa w g ls) := ht
  obtain ⟨n, hn⟩ : ∃ n, n = ls.length := ⟨_, rfl⟩
  have Hn : Hid (ls.length = n) := hn.symm
  rw [← hn] at hl ⊢
  clear hn hv hl3 ht
  have HCUT := show Hid _ from cut_pa (some ⟨g, 0, none⟩) n (n + 1) (n + 1) (Nat.le_refl _)
  rw [Int.natCast_add] at HCUT
  go_enter Tryz.func26, Tryz.ntmps26
  go_wp2
  go_loopw [5] (fun i wr => ∃ (k : Nat), k ≤ n ∧ i = .int .i64 k ∧ Nw w wr) (fun i _ => n - (intOf i).toNat)
  case atStart => exact ⟨0, by omega, rfl, nwr w⟩
  case round =>
    obtain ⟨k, hk, rfl, hnw⟩ := hrel
    have HNW : Hid (Nw w wr) := hnw
    by_cases hlt : k < n
    · obtain ⟨l, hx⟩ : ∃ x, ls[k]? = some x := ⟨_, List.getElem?_eq_getElem (by rw [Hn.out]; exact hlt)⟩
      obtain ⟨p, off, y, rfl, _, c0, hcr⟩ := HV.out k l hx
      obtain ⟨xs, x1, x2, x3, _⟩ := HT.out
      obtain ⟨x, x4, x5⟩ := x3 k l hx
      have d0 : w.cell? ⟨g, k, none⟩ = some x := by rw [cell_of x2]; simpa using x4
      have c0' := hnw.cellOf c0
      have d0' := hnw.cellOf d0
      have HQ : Hid (∀ V, Nw wr V → Calls Tryz.prog 100 #[x, y] V fun e w' => e = .returned (.bool true) ∧ Nw V w') := fun V nV => leftc_any x y l V (x5.nw (HNW.out.tr nV)) (hcr.nw (HNW.out.tr nV)) (HL3.out l (List.mem_of_getElem? hx))
      have hki : (k : Int) < (n : Int) := by omega
      clear hx c0 hcr x1 x2 x3 x4 x5 d0 hnw
      go_wp2
      (refine wp_region_grown (by kernel_rfl) (by kernel_rfl) ?_; (repeat (first | go_big_quiet_skip | (go_big_quiet_want; first | (refine quiet_cellP (.tmp 20) rfl g k rfl noaggC x d0' ?_; ((try simp only [Act.put, List.setIfInBounds_toArray, List.set_cons_zero, List.set_cons_succ]); go_big_quiet_on)) | (refine quiet_cellP (.tmp 25) rfl p (off + k) rfl noaggC y c0' ?_; ((try simp only [Act.put, List.setIfInBounds_toArray, List.set_cons_zero, List.set_cons_succ]); go_big_quiet_on)) | (go_big_quiet_op; first | go_big_quiet_on | go_big_quiet_call (first | rfl | with_reducible exact grw_call HQ.out (nwr _) _))))); refine wpQuiet_nil ?_; rintro W ⟨⟨_, nW⟩, rfl⟩)
      go_wp2
      exact ⟨⟨k + 1, by omega, by go_num, HNW.out.tr nW⟩, by simp [intOf]; omega⟩
    · obtain rfl : k = n := by omega
      obtain ⟨xs, x1, x2, x3, gm, x4, x5⟩ := HT.out
      have d0 : w.cell? ⟨g, k, none⟩ = some (.slice (some ⟨gm, 0, none⟩) 1 1) := by rw [cell_of x2, ← Hn.out]; simpa using x4
      have d0' := hnw.cellOf d0
      have HQ : Hid (∀ V, Nw wr V → Calls Tryz.prog 101 #[.agg #[.slice (some ⟨gm, 0, none⟩) 1 1], .int .i64 7777] V fun e w' => e = .returned (.bool true) ∧ Nw V w') := fun V nV => isp_any V gm (((HNW.out.tr nV).block _ (heap_lt x5) (fun f => f)).trans x5)
      have hcut : (Instr.sliceAt 38 (.slice (some ⟨g, 0, none⟩) k (k + 1)) none (some (.int .i64 ((k : Int) + 1))) none).run Tryz.prog wr = .ok (.slice (some ⟨g, 0, none⟩) (k + 1) (k + 1)) wr := HCUT.out wr
      have hk0 : (k : Int) < (k : Int) + 1 := by omega
      have hk1 : ¬ (k : Int) < (k : Int) := by omega
      clear d0 hnw x1 x2 x3 x4 x5
      go_wp2_with fail
      refine (HQ.out _ (nwr _)).mono ?_
      rintro _ w2 ⟨rfl, n2⟩
      have N2 : Hid (Nw w w2) := HNW.out.tr n2
      clear n2 d0' hcut
      go_wp2
      go_ret
      exact ⟨rfl, N2.out⟩
end Go.Proofs.YtlaiomgebkeldaaGreatDoor
