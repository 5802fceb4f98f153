/- What the outright statements ask of stretches: whether they lie one behind the other, and how many there may be. -/
import Derived.Test.YtigbjpphmbmbiabDoorS6
import Derived.Test.YtigbjpphmbmbiabDoorN3
import Derived.Laws.MakeOwn
namespace Go.Proofs.YtigbjpphmbmbiabDoor
open Go.RowKit
set_option linter.unusedVariables false
set_option linter.unusedSimpArgs false

/-- c is Log of a number. -/
def IsL (n c : Nat) : Prop := (n = 1 ∧ c = 0) ∨ ∃ k, c = k + 1 ∧ 2 ^ k < n ∧ n ≤ 2 * 2 ^ k ∧ k ≤ 63
theorem isL_ex {n : Nat} (h0 : 0 < n) (h : n ≤ 9223372036854775808) : ∃ c, IsL n c ∧ n ≤ 2 ^ c := by
  by_cases h1 : n = 1
  · exact ⟨0, .inl ⟨h1, rfl⟩, by simp; omega⟩
  · obtain ⟨k, e, k1, k2⟩ := spl_ex (n := n) (by omega)
    exact ⟨k + 1, .inr ⟨k, rfl, k1, k2, by have := pow_lt_inv (k := k) (L := 63) (by rw [p63]; omega); omega⟩, by rw [Nat.pow_succ']; exact k2⟩
theorem log_any {n c : Nat} (h : IsL n c) (w : World) : Calls Tryd.prog 24 #[.int .u64 (n : Int)] w fun e w' => e = .returned (.tuple #[.int .i64 (c : Int), .bool true]) ∧ w' = w := by
  rcases h with ⟨rfl, rfl⟩ | ⟨k, rfl, k1, k2, hk⟩
  · exact log_one w
  · have := log_of (n : Int) k w hk (by have := pow_cast k; omega) (by have := pow_cast k; omega)
    exact_mod_cast this
theorem most_yes (m n more c : Nat) (h : IsL n c) (hm : m ≤ c + more) (h1 : m ≤ 1000) (h2 : more ≤ 1) (w : World) :
    Calls Tryd.prog 9 #[.int .i64 (m : Int), .int .u64 (n : Int), .int .i64 (more : Int)] w fun e w' => e = .returned (.bool true) ∧ Nw w w' := by
  have q := log_any h w
  have hc : c ≤ 64 := by rcases h with ⟨_, rfl⟩ | ⟨k, rfl, _, _, hk⟩ <;> omega
  have hle : (m : Int) ≤ (c : Int) + (more : Int) := by omega
  clear h
  go_enter Tryd.func9, Tryd.ntmps9
  go_wp2_with fail
  refine q.mono ?_
  rintro e w1 ⟨rfl, rfl⟩
  go_wp2_with fail
  go_ret
  exact ⟨rfl, nwr w1⟩
theorem spanL_any (b e : Nat) (w : World) : Calls Tryd.prog 20 #[.int .u64 (b : Int), .int .u64 (e : Int)] w fun x w' => x = .returned (sp b e) ∧ Nw w w' := by
  go_enter Tryd.func20, Tryd.ntmps20
  go_wp2
  (refine bodyPost_ret (results_cell (V := #[.int .u64 (b : Int), .int .u64 (e : Int)]) (ty := 33) (f := (0, 0)) Tryd.results20 Tryd.isAgg33 Tryd.sizeOf33 rfl ?_ rfl) rfl ⟨rfl, (by repeat first | with_reducible exact nwr w | with_reducible refine Fr.alloc ?_ _ | with_reducible refine Fr.drew ?_ | (with_reducible refine Fr.setCell ?_ _ _ (fun h => ?_); rotate_left; focus (simp only at h; omega)))⟩; (repeat first | with_reducible exact heap_new _ _ | with_reducible exact heap_new _ _ | with_reducible exact heap_next _ _ _ | with_reducible exact heap_third _ _ _ _ | with_reducible refine hp_dr ?_ | (with_reducible refine hp_ne ?_ ?_; focus omega) | (with_reducible refine hp_al ?_ ?_; focus (first | omega | (simp <;> omega))) | with_reducible apply hp_set) <;> rfl)
theorem sized_any (n : Nat) (w : World) : Calls Tryd.prog 7 #[.int .u64 (n : Int)] w fun x w' => x = .returned (.bool (decide (n ≤ 9223372036854775808))) ∧ Nw w w' := by
  by_cases h : n ≤ 9223372036854775808
  · have h1 : (n : Int) ≤ 9223372036854775808 := by omega
    rw [show decide (n ≤ 9223372036854775808) = true by simp [h]]
    clear h
    go_enter Tryd.func7, Tryd.ntmps7
    go_wp2
    go_ret
    exact ⟨rfl, nwr w⟩
  · have h1 : ¬ (n : Int) ≤ 9223372036854775808 := by omega
    rw [show decide (n ≤ 9223372036854775808) = false by simp [h]]
    clear h
    go_enter Tryd.func7, Tryd.ntmps7
    go_wp2
    go_ret
    exact ⟨rfl, nwr w⟩
/-- Truths as cells. -/
def bs (us : List Bool) : Array Value := (us.map Value.bool).toArray

theorem infoB : (Tryd.prog.info? 4).map (fun i => (i.zero, i.size, i.bytes)) = some (some (.bool false), 1, 1) := by kernel_rfl
theorem made_bs (n : Nat) : madeCells (Value.bool false).cells n = bs (List.replicate n false) := by
  apply Array.ext'
  simp only [madeCells, bs]
  apply List.ext_getElem?
  intro j
  by_cases hj : j < n
  · simp [hj, Value.cells, Nat.mod_one]
  · simp [hj, Value.cells]
theorem make_bs (n : Nat) (hn : n ≤ 2000) (w : World) : (Instr.makeSlice 57 (.int .i64 (n : Int)) (.int .i64 (n : Int))).run Tryd.prog w = .ok (.slice (some ⟨w.heap.size, 0, none⟩) n n) (w.alloc (.cells (bs (List.replicate n false)) 4)) := by
  obtain ⟨i0, hi, hz0, hz1, hz2⟩ := info_parts infoB
  have := run_make (P := Tryd.prog) w 57 4 i0 (.bool false) Tryd.underlying57 hi hz0 .i64 .i64 n n (by omega) (Int.le_refl _) (by rw [hz2]; omega) (by omega)
  rw [hz1, Int.toNat_natCast, Nat.mul_one, made_bs] at this
  exact this
theorem bs_get (us : List Bool) (j : Nat) (u : Bool) (h : us[j]? = some u) : (bs us)[j]? = some (.bool u) := by simp [bs, h]
theorem bs_set (us : List Bool) (j : Nat) (u : Bool) : (bs us).setIfInBounds j (.bool u) = bs (us.set j u) := by
  apply Array.ext'
  simp [bs, List.map_set]

set_option maxRecDepth 100000 in
set_option maxHeartbeats 4000000 in
theorem tiles_yes (v : Value) (l : List (Nat × Nat)) (a c : Nat) (w : World) (hv : Spn w v l) (hl : l.length ≤ 1000) (ht : Tls a c l) :
    Calls Tryd.prog 10 #[v, .int .u64 (a : Int), .int .u64 (c : Int)] w fun e w' => e = .returned (.bool true) ∧ Nw w w' := by
  obtain ⟨ad, ca, rfl, hv⟩ := hv
  have HV := show Hid _ from hv
  have HT : Hid (Tls a c l) := ht
  obtain ⟨n, hn⟩ : ∃ n, n = l.length := ⟨_, rfl⟩
  have HN : Hid (n = l.length) := hn
  rw [← hn] at hl ⊢
  have hmk := make_bs n (by omega) w
  clear hn hv ht
  go_enter Tryd.func10, Tryd.ntmps10
  go_wp2
  obtain ⟨bu, hbu⟩ : ∃ bu, bu = w.heap.size := ⟨_, rfl⟩
  have HBU : Hid (bu = w.heap.size) := hbu
  refine gen_world (fun W => W.heap[bu]? = some (.cells (bs (List.replicate n false)) 4) ∧ Nw w W) ⟨by rw [hbu]; exact heap_new _ _, nwa w _⟩ ?_
  rintro w0 ⟨b0, n0⟩
  have N0 : Hid (Nw w w0) := n0
  have B0 := show Hid _ from b0
  rw [← hbu]
  clear hmk hbu b0 n0
  go_loopw [1, 8] (fun f i wr => ∃ (k p : Nat) (us : List Bool), i = .int .i64 (k : Int) ∧ f = .int .u64 (p : Int) ∧ us.length = n ∧ (unu l us).length + k = n ∧ Tls p c (unu l us) ∧ wr.heap[bu]? = some (.cells (bs us) 4) ∧ Nw w wr) (fun _ i _ => n - (intOf i).toNat)
  case atStart => exact ⟨0, a, List.replicate n false, rfl, rfl, by simp, by rw [HN.out, unu_all]; simp, by rw [HN.out, unu_all]; exact HT.out, B0.out, N0.out⟩
  case round =>
    obtain ⟨k, p, us, rfl, rfl, hus, hun, htl, hb, hnw⟩ := hrel
    have HUS : Hid (us.length = n) := hus
    have HUN : Hid ((unu l us).length + k = n) := hun
    have HTL : Hid (Tls p c (unu l us)) := htl
    have HB : Hid (wr.heap[bu]? = some (.cells (bs us) 4)) := hb
    have HNW : Hid (Nw w wr) := hnw
    have hkn : k ≤ n := by omega
    clear hus hun htl hb hnw
    by_cases hlt : k < n
    · have hki : (k : Int) < (n : Int) := by omega
      have HEX : Hid (∃ (i : Nat) (t : Nat × Nat), l[i]? = some t ∧ us[i]? = some false ∧ t.1 = p ∧ p < t.2) := tls_find HTL.out (fun h => by have := HUN.out; rw [h] at this; simp at this; omega)
      go_wp2
      go_loopw [1, 9, 10] (fun f fd i w2 => (∃ j : Nat, i = .int .i64 (j : Int) ∧ f = .int .u64 (p : Int) ∧ fd = .bool false ∧ j ≤ n ∧ (∃ (q : Nat) (t : Nat × Nat), j ≤ q ∧ l[q]? = some t ∧ us[q]? = some false ∧ t.1 = p ∧ p < t.2) ∧ w2.heap[bu]? = some (.cells (bs us) 4) ∧ Nw w w2) ∨
          (∃ (j p' : Nat) (us' : List Bool), i = .int .i64 (j : Int) ∧ f = .int .u64 (p' : Int) ∧ fd = .bool true ∧ j ≤ n ∧ us'.length = n ∧ (unu l us').length + (k + 1) = n ∧ Tls p' c (unu l us') ∧ w2.heap[bu]? = some (.cells (bs us') 4) ∧ Nw w w2)) (fun _ _ i _ => n + 1 - (intOf i).toNat)
      case atStart =>
        obtain ⟨q, t, h1, h2, h3, h4⟩ := HEX.out
        exact .inl ⟨0, rfl, rfl, rfl, by omega, ⟨q, t, by omega, h1, h2, h3, h4⟩, HB.out, HNW.out⟩
      case round =>
        rcases hrel with ⟨j, rfl, rfl, rfl, hj, ⟨q, t, hjq, h1, h2, h3, h4⟩, hb2, hnw2⟩ | ⟨j, p', us', rfl, rfl, rfl, hj, hus', hun', htl', hb2, hnw2⟩
        · have hqn : q < n := by have := (List.getElem?_eq_some_iff.1 h1).1; have := HN.out; omega
          have hji : (j : Int) < (n : Int) := by omega
          obtain ⟨s, hs⟩ : ∃ s, l[j]? = some s := ⟨_, List.getElem?_eq_getElem (by have := HN.out; omega)⟩
          obtain ⟨u, hu⟩ : ∃ u, us[j]? = some u := ⟨_, List.getElem?_eq_getElem (by have := HUS.out; omega)⟩
          obtain ⟨g, off, rfl, g1, g2, g3⟩ := HV.out j s hs
          have g2' := hnw2.cellOf g2
          have g3' := hnw2.cellOf g3
          have cu : wr.cell? ⟨bu, j, none⟩ = some (.bool u) := (cell_of hb2 j).trans (bs_get us j u hu)
          have fu := frozen_of hb2 j
          have hgb : g ≠ bu := by have := HBU.out; omega
          have HB2 : Hid (wr.heap[bu]? = some (.cells (bs us) 4)) := hb2
          have HNW2 : Hid (Nw w wr) := hnw2
          have hbw : Hid (bu = w.heap.size) := HBU.out
          clear g2 g3 hb2 hnw2
          obtain ⟨x, y⟩ := s
          by_cases hm : u = false ∧ x = p ∧ p < y
          · obtain ⟨rfl, hxp, hpy⟩ := hm
            have hxp' : (x : Int) = (p : Int) := by omega
            have hpy' : (p : Int) < (y : Int) := by omega
            have HS : Hid (l[j]? = some (x, y)) := hs
            have HU : Hid (us[j]? = some false) := hu
            have HXP : Hid (x = p) := hxp
            subst hxp
            clear hxp' hs hu
            go_wp2
            refine ⟨.inr ⟨j + 1, y, us.set j true, by go_num, rfl, rfl, by omega, by rw [List.length_set]; exact HUS.out, ?_, tls_take HTL.out HS.out HU.out rfl, ?_, ?_⟩, by simp [intOf]; omega⟩
            · have := unu_len HS.out HU.out
              have := HUN.out
              omega
            · rw [heap_set HB2.out, bs_set]
            · exact HNW2.out.setCell _ _ (fun h => by have := hbw.out; simp only at h; omega)
          · have hne : Hid (q ≠ j) := by
              rintro rfl
              rw [h1] at hs
              cases hs
              rw [h2] at hu
              cases hu
              exact hm ⟨rfl, h3, h4⟩
            have HQ : Hid (∃ (q : Nat) (t : Nat × Nat), j + 1 ≤ q ∧ l[q]? = some t ∧ us[q]? = some false ∧ t.1 = p ∧ p < t.2) := ⟨q, t, by have := hne.out; omega, h1, h2, h3, h4⟩
            have hway : u = true ∨ (u = false ∧ ((x : Int) == (p : Int)) = false) ∨ (u = false ∧ x = p ∧ ¬ (p : Int) < (y : Int)) := by
              cases u with
              | true => exact .inl rfl
              | false =>
                by_cases hx : x = p
                · exact .inr (.inr ⟨rfl, hx, fun h => hm ⟨rfl, hx, by omega⟩⟩)
                · exact .inr (.inl ⟨rfl, by simp; omega⟩)
            clear hm hs hu h1 h2 h3 h4
            rcases hway with rfl | ⟨rfl, hx⟩ | ⟨rfl, rfl, hx⟩
            all_goals
              go_wp2
              exact ⟨.inl ⟨j + 1, by go_num, rfl, rfl, by omega, HQ.out, HB2.out, HNW2.out⟩, by simp [intOf]; omega⟩
        · have HUS' : Hid (us'.length = n) := hus'
          have HUN' : Hid ((unu l us').length + (k + 1) = n) := hun'
          have HTL' : Hid (Tls p' c (unu l us')) := htl'
          have HB2 : Hid (wr.heap[bu]? = some (.cells (bs us') 4)) := hb2
          have HNW2 : Hid (Nw w wr) := hnw2
          clear hus' hun' htl' hb2 hnw2
          by_cases hjn : j < n
          · have hji : (j : Int) < (n : Int) := by omega
            go_wp2
            exact ⟨⟨k + 1, p', us', by go_num, rfl, HUS'.out, HUN'.out, HTL'.out, HB2.out, HNW2.out⟩, by simp [intOf]; omega⟩
          · have hji : ¬ (j : Int) < (n : Int) := by omega
            go_wp2
            exact ⟨⟨k + 1, p', us', by go_num, rfl, HUS'.out, HUN'.out, HTL'.out, HB2.out, HNW2.out⟩, by simp [intOf]; omega⟩
    · obtain rfl : k = n := by omega
      have hnil : unu l us = [] := List.length_eq_zero_iff.1 (by have := HUN.out; omega)
      have hpc : p = c := by have := HTL.out; rw [hnil] at this; exact tls_nil this
      subst hpc
      clear hnil
      go_wp2
      go_ret
      exact ⟨rfl, HNW.out⟩
end Go.Proofs.YtigbjpphmbmbiabDoor
