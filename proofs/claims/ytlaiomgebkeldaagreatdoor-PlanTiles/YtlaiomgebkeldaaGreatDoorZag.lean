/- plan: the document's May and Span (stage 6's text). -/
import Derived.Test.YtlaiomgebkeldaaGreatDoorYg
import Derived.Test.YtlaiomgebkeldaaGreatDoorEg
namespace Go.Proofs.YtlaiomgebkeldaaGreatDoor
open Go.RowKit
set_option linter.unusedVariables false
set_option linter.unusedSimpArgs false
theorem end_div (L : Nat) (h : L ≤ 63) : (9223372036854775808 : Int) / 2 ^ L = ((2 ^ (63 - L) : Nat) : Int) := by
  have e : (9223372036854775808 : Int) = ((9223372036854775808 : Nat) : Int) := rfl
  rw [e, castd, ← p63]
  congr 1
  exact Nat.pow_div h (by decide)
set_option maxHeartbeats 1000000 in
theorem rmay (L I : Nat) (b : Bool) (hb : b = true ↔ may L I) (hL : L ≤ 255) (hI : I < 18446744073709551616) (w : World) :
    Calls Tryz.prog 146 #[cd L I] w fun e w' => e = .returned (.bool b) ∧ Nw w w' := by
  have HB : Hid (b = true ↔ may L I) := hb
  clear hb
  by_cases h : L ≤ 63
  · have hi : ¬ (L : Int) > 63 := by omega
    have hd := end_div L h
    have HL := may_lt (I := I) h
    have HM : Hid (may L I ↔ I < 2 ^ (63 - L)) := HL
    clear HL
    obtain ⟨q, hq⟩ : ∃ q, q = 2 ^ (63 - L) := ⟨_, rfl⟩
    rw [← hq] at hd HM
    clear hq
    go_enter Tryz.func146, Tryz.ntmps146
    go_wp2
    go_ret
    refine ⟨ret_b ?_, nwa w _⟩
    rw [Bool.eq_iff_iff, HB.out, HM.out]
    simp
  · have hi : (L : Int) > 63 := by omega
    have hn : ¬ may L I := fun k => h k.1
    obtain rfl : b = false := by rcases b with _ | _; rfl; exact absurd (HB.out.1 rfl) hn
    go_enter Tryz.func146, Tryz.ntmps146
    go_wp2
    go_ret
    exact ⟨rfl, nwa w _⟩

set_option maxHeartbeats 1000000 in
theorem rspan_yes (L I : Nat) (h : may L I) (w : World) :
    Calls Tryz.prog 95 #[cd L I] w fun e w' => e = .returned (.tuple #[sp (I * 2 ^ L) ((I + 1) * 2 ^ L), .bool true]) ∧ Nw w w' := by
  have H : Hid (may L I) := h
  have hL := h.1
  have hI := may_bd h
  rw [p63] at hI
  have hb := h.2
  rw [p63] at hb
  have h2L := two_le hL
  have hp := Nat.two_pow_pos L
  have e0 : IntKind.u64.wrap (2 ^ L) = ((2 ^ L : Nat) : Int) := by rw [← pow_cast, w64]; omega
  obtain ⟨q, hq⟩ : ∃ q, q = 2 ^ L := ⟨_, rfl⟩
  rw [← hq] at hb h2L hp e0 ⊢
  have hle : I * q + q ≤ 9223372036854775808 := by rw [Nat.add_mul, Nat.one_mul] at hb; exact hb
  have e1 : IntKind.u64.wrap ((I : Int) * (q : Int)) = ((I * q : Nat) : Int) := by rw [w64, ← Int.natCast_mul]; omega
  have e2 : (I + 1) * q = I * q + q := by rw [Nat.add_mul, Nat.one_mul]
  rw [e2]
  obtain ⟨x, hx⟩ : ∃ x, x = I * q := ⟨_, rfl⟩
  rw [← hx] at e1 hle ⊢
  clear h hb hq hx e2
  go_enter Tryz.func95, Tryz.ntmps95
  go_wp2_with fail
  refine (rmay L I true (by simp [H.out]) (by omega) (by omega) _).mono ?_
  rintro e w1 ⟨rfl, n1⟩
  obtain ⟨⟨l0, l1⟩, b0, b1, n2⟩ := two_made n1
  have c0 := cell2a b0
  have c1 := cell2b b0
  have d0 := cell2a b1
  have d1 := cell2b b1
  have z0 := frozen_of b1 0
  have z1 := frozen_of b1 1
  clear n1
  go_wp2
  (refine bodyPost_ret (results_cell_slot (V := #[.int .u64 (x : Int), .int .u64 ((x : Int) + (q : Int))]) (ty := 81) (f := (0, 0)) Tryz.results95 Tryz.isAgg81 Tryz.sizeOf81 rfl _ rfl ?_ rfl) rfl ⟨rfl, (by repeat first | with_reducible exact n2 | with_reducible refine Fr.alloc ?_ _ | with_reducible refine Fr.drew ?_ | (with_reducible refine Fr.setCell ?_ _ _ (fun h => ?_); rotate_left; focus (simp only at h; omega)))⟩; (repeat first | with_reducible exact b1 | with_reducible exact heap_new _ _ | with_reducible exact heap_next _ _ _ | with_reducible exact heap_third _ _ _ _ | with_reducible refine hp_dr ?_ | (with_reducible refine hp_ne ?_ ?_; focus omega) | (with_reducible refine hp_al ?_ ?_; focus (first | omega | (simp <;> omega))) | with_reducible apply hp_set) <;> rfl)
set_option maxHeartbeats 1000000 in
theorem rspan_no (L I : Nat) (h : ¬ may L I) (hL : L ≤ 255) (hI : I < 18446744073709551616) (w : World) :
    Calls Tryz.prog 95 #[cd L I] w fun e w' => e = .returned (.tuple #[sp 0 0, .bool false]) ∧ Nw w w' := by
  go_enter Tryz.func95, Tryz.ntmps95
  go_wp2_with fail
  refine (rmay L I false (by simp [h]) (by omega) (by omega) _).mono ?_
  rintro e w1 ⟨rfl, n1⟩
  obtain ⟨⟨l0, l1⟩, b0, b1, n2⟩ := two_made n1
  have d0 := cell2a b1
  have d1 := cell2b b1
  have z0 := frozen_of b1 0
  have z1 := frozen_of b1 1
  clear n1
  go_wp2
  (refine bodyPost_ret (results_cell_slot (V := #[.int .u64 0, .int .u64 0]) (ty := 81) (f := (0, 0)) Tryz.results95 Tryz.isAgg81 Tryz.sizeOf81 rfl _ rfl ?_ rfl) rfl ⟨rfl, (by repeat first | with_reducible exact n2 | with_reducible refine Fr.alloc ?_ _ | with_reducible refine Fr.drew ?_ | (with_reducible refine Fr.setCell ?_ _ _ (fun h => ?_); rotate_left; focus (simp only at h; omega)))⟩; (repeat first | with_reducible exact b1 | with_reducible exact heap_new _ _ | with_reducible exact heap_next _ _ _ | with_reducible exact heap_third _ _ _ _ | with_reducible refine hp_dr ?_ | (with_reducible refine hp_ne ?_ ?_; focus omega) | (with_reducible refine hp_al ?_ ?_; focus (first | omega | (simp <;> omega))) | with_reducible apply hp_set) <;> rfl)

end Go.Proofs.YtlaiomgebkeldaaGreatDoor
namespace Go.Proofs.YtlaiomgebkeldaaGreatDoor
open Go.RowKit
set_option linter.unusedVariables false
set_option linter.unusedSimpArgs false
set_option maxHeartbeats 2000000 in
theorem dtile_any (S L I : Nat) (h : gdT S (L, I)) (hS : S ≤ 9223372036854775808) (w : World) :
    Calls Tryz.prog 96 #[cd L I, .int .u64 (S : Int)] w fun e w' => e = .returned (tl (L / 8) (ofA L I / 256) (wid (L / 8) (ofA L I / 256) S)) ∧ Nw w w' := by
  have hL := h.1.1
  have hb := ofA_bd h.1
  have hr := gd_room h hS
  have hp := Nat.two_pow_pos (L % 8)
  have hI := may_bd h.1
  rw [p63] at hI
  obtain ⟨A, hA⟩ : ∃ A, A = ofA L I := ⟨_, rfl⟩
  rw [← hA] at hb hr ⊢
  have e1 : IntKind.u64.wrap ((I : Int) * 2 ^ (L % 8)) = (A : Int) := by rw [castm, w64, hA]; unfold ofA; unfold ofA at hA; omega
  obtain ⟨l, hl⟩ : ∃ l, l = L / 8 := ⟨_, rfl⟩
  have e0 : (L : Int) / 8 = (l : Int) := by omega
  rw [← hl] at hr ⊢
  obtain ⟨N, hN, hNb, ed⟩ := nod_lift l S hS
  rw [← hN] at hr
  obtain ⟨i, hi⟩ : ∃ i, i = A / 256 := ⟨_, rfl⟩
  have e2 : (A : Int) / 256 = (i : Int) := by omega
  rw [← hi]
  obtain ⟨D, hD⟩ : ∃ D, D = N - 256 * i := ⟨_, rfl⟩
  have e3 : (N : Int) - 256 * (i : Int) = (D : Int) := by omega
  have hw : wid l i S = if 256 < D then 256 else D := by unfold wid; rw [if_neg (by omega), ← hN]; split <;> omega
  rw [hw]
  have hDb : D ≤ 9223372036854775808 := by omega
  have hl7 : l ≤ 7 := by omega
  have hib : i ≤ 36028797018963968 := by omega
  clear hw h hA hl hN hi hD hr hp
  go_enter Tryz.func96, Tryz.ntmps96
  by_cases hD2 : 256 < D
  · have h2i : (256 : Int) < (D : Int) := by omega
    rw [if_pos hD2]
    go_wp2
    (refine bodyPost_ret (results_cell (V := #[.int .u8 (l : Int), .int .u64 (i : Int), .int .i64 256]) (ty := 104) (f := (0, 0)) Tryz.results96 Tryz.isAgg104 Tryz.sizeOf104 rfl ?_ rfl) rfl ⟨rfl, (by repeat first | with_reducible exact nwr w | with_reducible refine Fr.alloc ?_ _ | with_reducible refine Fr.drew ?_ | (with_reducible refine Fr.setCell ?_ _ _ (fun h => ?_); rotate_left; focus (simp only at h; omega)))⟩; (repeat first | with_reducible exact heap_new _ _ | with_reducible exact heap_new _ _ | with_reducible exact heap_next _ _ _ | with_reducible exact heap_third _ _ _ _ | with_reducible refine hp_dr ?_ | (with_reducible refine hp_ne ?_ ?_; focus omega) | (with_reducible refine hp_al ?_ ?_; focus (first | omega | (simp <;> omega))) | with_reducible apply hp_set) <;> rfl)
  · have h2i : ¬ (256 : Int) < (D : Int) := by omega
    rw [if_neg hD2]
    go_wp2
    (refine bodyPost_ret (results_cell (V := #[.int .u8 (l : Int), .int .u64 (i : Int), .int .i64 (D : Int)]) (ty := 104) (f := (0, 0)) Tryz.results96 Tryz.isAgg104 Tryz.sizeOf104 rfl ?_ rfl) rfl ⟨rfl, (by repeat first | with_reducible exact nwr w | with_reducible refine Fr.alloc ?_ _ | with_reducible refine Fr.drew ?_ | (with_reducible refine Fr.setCell ?_ _ _ (fun h => ?_); rotate_left; focus (simp only at h; omega)))⟩; (repeat first | with_reducible exact heap_new _ _ | with_reducible exact heap_new _ _ | with_reducible exact heap_next _ _ _ | with_reducible exact heap_third _ _ _ _ | with_reducible refine hp_dr ?_ | (with_reducible refine hp_ne ?_ ?_; focus omega) | (with_reducible refine hp_al ?_ ?_; focus (first | omega | (simp <;> omega))) | with_reducible apply hp_set) <;> rfl)
end Go.Proofs.YtlaiomgebkeldaaGreatDoor
namespace Go.Proofs.YtlaiomgebkeldaaGreatDoor
open Go.RowKit
set_option linter.unusedVariables false
set_option linter.unusedSimpArgs false
theorem results_slot_cell {P : Program} {w : World} {fn : Func} {i j : Nat} {t : TypeId} {n g : Nat} {tmps : Array Value} {V : Array Value} {ty : TypeId} {f : Nat × Nat} (hr : fn.results = #[.tmp j, .cell i t]) (hagg : ∀ W : World, (isAgg t).run P W = .ok true W) (hsz : ∀ W : World, (sizeOf t).run P W = .ok n W)
    (hx : tmps.getD i undef = .pointer (some ⟨g, 0, none⟩)) (v : Value) (hj : tmps.getD j undef = v) (hg : w.heap[g]? = some (.cells V ty f)) (hV : V.size = n) : (results fn tmps).run P w = .ok (.tuple #[v, .agg V]) w := by
  have hl : (loadCells ⟨g, 0, none⟩ n).run P w = .ok V w := by
    have := run_loadCells_list (P := P) w ⟨g, 0, none⟩ V.toList (fun j v hv => by
      rw [addZ, cell_of hg]
      simpa using hv)
    simpa [hV] using this
  have ha : ∀ W : World, (asAddr (.pointer (some ⟨g, 0, none⟩))).run P W = .ok ⟨g, 0, none⟩ W := fun W => by simp [asAddr]
  have hx2 : tmps[i]?.getD undef = .pointer (some ⟨g, 0, none⟩) := by rw [← hx]; simp [Array.getD]; split <;> simp_all
  have hj2 : tmps[j]?.getD undef = v := by rw [← hj]; simp [Array.getD]; split <;> simp_all
  simp [results, hr, hx2, hj2, ha, loadVar, hagg, hsz, hl]
/-- What the document's Tiles keeps, of a world W at its beginning: the fault, its tiles. -/
structure Dts (W w : World) (v : Value) (out : List Ti) : Prop where
  nw : Nw W w
  fb : w.heap[W.heap.size]? = some (.cells #[.int .i64 0, .int .i64 0] 33)
  own : w.ownsRow (W.heap.size + 1) 104 3 v out.length (tic out)
theorem Dts.up {W w w' : World} {v : Value} {out : List Ti} (h : Dts W w v out) (n : Nw w w') : Dts W w' v out :=
  ⟨h.nw.tr n, (n.block _ (heap_lt h.fb) (fun f => f)).trans h.fb, ownsRow_keep h.own (fun g hg => n.block g (h.own.lt g hg).2 (fun f => f))⟩
theorem Dts.fin {W w6 w7 : World} {v v' : Value} {out : List Ti} {t : Ti} {xs : List Value} (h : Dts W w6 v out) (ho : w7.ownsRow (W.heap.size + 1) 104 3 v' (out.length + 1) (tic out ++ t.c)) (two : Two w6 w7 104 3 v v' out.length 1 xs) : Dts W w7 v' (out ++ [t]) := by
  refine ⟨h.nw.trans two.fr (fun j hj q => by have := (h.own.lt j q).1; omega), (two.fr.block _ (heap_lt h.fb) (fun q => by have := (h.own.lt _ q).1; omega)).trans h.fb, ?_⟩
  rw [List.length_append, tic_app, tic_one]
  exact ho
/-- What the document's Span says of a tree. -/
theorem spanS (S L I : Nat) (hL : L ≤ 255) (hI : I < 18446744073709551616) (hS : S ≤ 9223372036854775808) : ∃ (x y : Nat) (ok : Bool), x ≤ 9223372036854775808 ∧ y ≤ 9223372036854775808 ∧ (gdT S (L, I) ↔ ok = true ∧ y ≤ S) ∧
    ∀ V : World, Calls Tryz.prog 95 #[cd L I] V fun e w' => e = .returned (.tuple #[.agg #[.int .u64 (x : Int), .int .u64 (y : Int)], .bool ok]) ∧ Nw V w' := by
  by_cases h : may L I
  · have h2 := h.2
    rw [p63] at h2
    have h3 : I * 2 ^ L ≤ (I + 1) * 2 ^ L := Nat.mul_le_mul_right _ (by omega)
    exact ⟨I * 2 ^ L, (I + 1) * 2 ^ L, true, by omega, h2, by unfold gdT; simp [h], fun V => rspan_yes L I h V⟩
  · exact ⟨0, 0, false, by omega, by omega, by unfold gdT; simp [h], fun V => rspan_no L I h hL hI V⟩
theorem ti_ne {a b : Ti} (h : a ≠ b) : ¬ (a.L = b.L ∧ a.I = b.I ∧ a.W = b.W) := fun q => h (by obtain ⟨x, y, z⟩ := a; obtain ⟨p, r, s⟩ := b; simp only at q; obtain ⟨rfl, rfl, rfl⟩ := q; rfl)
set_option maxRecDepth 100000 in
set_option maxHeartbeats 8000000 in
theorem dtiles_any (u : Value) (ls : List (List (Nat × Nat))) (S : Nat) (w : World) (hu : Prt w u ls) (hb : ∀ c ∈ ls.flatten, c.1 ≤ 255 ∧ c.2 < 18446744073709551616) (hS : S ≤ 9223372036854775808) (hl : ls.length ≤ 1099511627776) (hl2 : ls.flatten.length ≤ 1099511627776) (hl3 : ∀ l ∈ ls, l.length ≤ 1099511627776) :
    Calls Tryz.prog 23 #[u, .int .u64 (S : Int)] w fun e w' =>
      (gdA S ls.flatten → ∃ v, e = .returned (.tuple #[v, .agg #[.int .i64 0, .int .i64 0]]) ∧ w'.ownsRow (w.heap.size + 1) 104 3 v (tls S ls.flatten).length (tic (tls S ls.flatten)) ∧ Nw w w') ∧ (¬ gdA S ls.flatten → e = .returned (.tuple #[.slice none 0 0, .agg #[.int .i64 5, .int .i64 (-1)]]) ∧ Nw w w') := by
  obtain ⟨ad, ca, rfl, hu⟩ := hu
  have HU : Hid (∀ k l, ls[k]? = some l → ∃ g off x, ad = some ⟨g, off, none⟩ ∧ g < w.heap.size ∧ w.cell? ⟨g, off + k, none⟩ = some x ∧ Crd w x l) := hu
  have HB : Hid (∀ c ∈ ls.flatten, c.1 ≤ 255 ∧ c.2 < 18446744073709551616) := hb
  have HL2 : Hid (ls.flatten.length ≤ 1099511627776) := hl2
  have HL3 : Hid (∀ l ∈ ls, l.length ≤ 1099511627776) := hl3
  clear hu hb hl2 hl3
  obtain ⟨n, hn⟩ : ∃ n, n = ls.length := ⟨_, rfl⟩
  have HN : Hid (n = ls.length) := hn
  rw [← hn] at hl ⊢
  clear hn
  have hSi : ¬ (9223372036854775808 : Int) < (S : Int) := by omega
  go_enter Tryz.func23, Tryz.ntmps23
  go_upto_region 3 with fail
  refine gen_wq (fun V => Dts w V (.slice none 0 0) []) ⟨nwa w _, heap_new _ _, World.ownsRow_nil _ _ _ _⟩ ?_
  rintro w0 t0
  have T0 : Hid (Dts w w0 (.slice none 0 0) []) := t0
  obtain ⟨p, hp⟩ : ∃ p, p = w.heap.size := ⟨_, rfl⟩
  have HP : Hid (p = w.heap.size) := hp
  rw [← hp]
  clear hp t0
  go_wp2
  go_loopw [6, 7] (fun v i wr => ∃ (k : Nat), k ≤ n ∧ i = .int .i64 k ∧ gdA S (ls.take k).flatten ∧ Dts w wr v (tls S (ls.take k).flatten)) (fun _ i _ => n - (intOf i).toNat)
  case atStart => exact ⟨0, by omega, rfl, (fun c hc => by simp at hc), T0.out⟩
  case round =>
    obtain ⟨k, hk, rfl, hgd, hts⟩ := hrel
    have HG : Hid (gdA S (ls.take k).flatten) := hgd
    by_cases hlt : k < n
    · obtain ⟨l, hl9⟩ : ∃ l, ls[k]? = some l := ⟨_, List.getElem?_eq_getElem (by rw [← HN.out]; exact hlt)⟩
      obtain ⟨g, off, x, rfl, g1, g2, g3⟩ := HU.out k l hl9
      have HK : Hid (ls[k]? = some l) := hl9
      obtain ⟨bd, cb, rfl, hc⟩ := g3
      have HC : Hid (∀ k t, l[k]? = some t → ∃ g off, bd = some ⟨g, off, none⟩ ∧ g < w.heap.size ∧ w.cell? ⟨g, off + k * 2, none⟩ = some (.int .u8 (t.1 : Int)) ∧ w.cell? ⟨g, off + k * 2 + 1, none⟩ = some (.int .u64 (t.2 : Int))) := hc
      have hml := HL3.out l (List.mem_of_getElem? hl9)
      obtain ⟨m, hm⟩ : ∃ m, m = l.length := ⟨_, rfl⟩
      have HM : Hid (m = l.length) := hm
      rw [← hm] at g2 hml
      have HT : Hid (Dts w wr _ (tls S (ls.take k).flatten)) := hts
      have HG2 : Hid (w.cell? ⟨g, off + k, none⟩ = some (.slice bd m cb)) := g2
      clear hc hl9 hm g2 hgd hts
      have hki : (k : Int) < (n : Int) := by omega
      go_wp2
      go_loopw [6, 8] (fun v i wr => ∃ (j : Nat), j ≤ m ∧ i = .int .i64 j ∧ gdA S ((ls.take k).flatten ++ l.take j) ∧ Dts w wr v (tls S ((ls.take k).flatten ++ l.take j))) (fun _ i _ => m - (intOf i).toNat)
      case atStart => exact ⟨0, by omega, rfl, by simpa using HG.out, by simpa using HT.out⟩
      case round =>
        obtain ⟨j, hj, rfl, hgd, hts2⟩ := hrel
        have HG3 : Hid (gdA S ((ls.take k).flatten ++ l.take j)) := hgd
        have g2' := hts2.nw.cellOf HG2.out
        obtain ⟨va, vc, rfl⟩ := ownsRow_form hts2.own
        have HT3 : Hid (Dts w wr (.slice va (tls S ((ls.take k).flatten ++ l.take j)).length vc) (tls S ((ls.take k).flatten ++ l.take j))) := hts2
        by_cases hlj : j < m
        · obtain ⟨t, ht⟩ : ∃ t, l[j]? = some t := ⟨_, List.getElem?_eq_getElem (by rw [← HM.out]; exact hlj)⟩
          obtain ⟨h, of2, rfl, q1, q2, q3⟩ := HC.out j t ht
          obtain ⟨L, I⟩ := t
          have q2' := hts2.nw.cellOf q2
          have q3' := hts2.nw.cellOf q3
          have hji : (j : Int) < (m : Int) := by omega
          have hmem : (L, I) ∈ ls.flatten := List.mem_flatten.2 ⟨l, List.mem_of_getElem? HK.out, List.mem_of_getElem? ht⟩
          obtain ⟨b1, b2⟩ := HB.out _ hmem
          simp only at b1 b2
          have HJ : Hid ((ls.take k).flatten ++ l.take (j + 1) = ((ls.take k).flatten ++ l.take j) ++ [(L, I)]) := by show _ = _; rw [List.take_add_one, ht]; simp
          have HLN : Hid ((tls S ((ls.take k).flatten ++ l.take j)).length ≤ 1099511627776) := by
            refine Nat.le_trans (tls_len _ _) (Nat.le_trans ?_ HL2.out)
            have e1 : ls = ls.take k ++ l :: ls.drop (k + 1) := by
              have h1 := (List.getElem?_eq_some_iff.1 HK.out)
              obtain ⟨hk1, hk2⟩ := h1
              rw [← hk2, ← List.drop_eq_getElem_cons hk1, List.take_append_drop]
            have e2 : ls.flatten.length = (ls.take k).flatten.length + (l.length + (ls.drop (k + 1)).flatten.length) := by
              conv => lhs; rw [e1]
              simp [List.length_append]
            rw [e2, List.length_append, List.length_take]
            omega
          obtain ⟨X, Y, ok, hX, hY, hgo, qs⟩ := spanS S L I b1 b2 hS
          have QS : Hid (∀ V : World, Calls Tryz.prog 95 #[cd L I] V fun e w' => e = .returned (.tuple #[.agg #[.int .u64 (X : Int), .int .u64 (Y : Int)], .bool ok]) ∧ Nw V w') := qs
          have QT : Hid (gdT S (L, I) → ∀ V : World, Calls Tryz.prog 96 #[cd L I, .int .u64 (S : Int)] V fun e w' => e = .returned (.agg #[.int .u8 ((tiN S (L, I)).L : Int), .int .u64 ((tiN S (L, I)).I : Int), .int .i64 ((tiN S (L, I)).W : Int)]) ∧ Nw V w') := fun hg V => dtile_any S L I hg hS V
          have HNG : Hid (¬ gdT S (L, I) → ¬ gdA S ls.flatten) := fun hg q => hg (q _ hmem)
          have HGO : Hid (gdT S (L, I) ↔ ok = true ∧ Y ≤ S) := hgo
          obtain ⟨T, hT⟩ : ∃ T, T = tiN S (L, I) := ⟨_, rfl⟩
          rw [← hT] at QT
          have HTT : Hid (T = tiN S (L, I)) := hT
          obtain ⟨out, hout⟩ : ∃ out, out = tls S ((ls.take k).flatten ++ l.take j) := ⟨_, rfl⟩
          have HO : Hid (out = tls S ((ls.take k).flatten ++ l.take j)) := hout
          rw [← hout] at HT3 HLN ⊢
          clear q2 q3 ht qs hgo hT hout hmem hgd hts2
          go_upto_region 11 with fail
          refine gen_wq (fun V => Dts w V (.slice va out.length vc) out ∧ V.heap[wr.heap.size]? = some (.cells #[.int .u8 (L : Int), .int .u64 (I : Int)] 87)) ⟨HT3.out.up (by repeat first | with_reducible exact nwr wr | with_reducible refine Fr.alloc ?_ _ | with_reducible refine Fr.drew ?_ | (with_reducible refine Fr.setCell ?_ _ _ (fun h => ?_); rotate_left; focus (simp only at h; omega))), by (repeat first | with_reducible exact heap_new _ _ | with_reducible exact heap_new _ _ | with_reducible exact heap_next _ _ _ | with_reducible exact heap_third _ _ _ _ | with_reducible refine hp_dr ?_ | (with_reducible refine hp_ne ?_ ?_; focus omega) | (with_reducible refine hp_al ?_ ?_; focus (first | omega | (simp <;> omega))) | with_reducible apply hp_set) <;> rfl⟩ ?_
          rintro w3 ⟨t3, b3⟩
          obtain ⟨cb9, hcb⟩ : ∃ q, q = wr.heap.size := ⟨_, rfl⟩
          have HCB : Hid (cb9 = wr.heap.size) := hcb
          rw [← hcb] at b3 ⊢
          have T3 : Hid (Dts w w3 (.slice va out.length vc) out) := t3
          have B3 : Hid (w3.heap[cb9]? = some (.cells #[.int .u8 (L : Int), .int .u64 (I : Int)] 87)) := b3
          have x0 := cell2a b3
          have x1 := cell2b b3
          clear t3 b3 hcb q2' q3' g2'
          go_wp2_with fail
          refine (QS.out _).mono ?_
          rintro _ w4 ⟨rfl, n4⟩
          have T4 : Hid (Dts w w4 (.slice va out.length vc) out) := T3.out.up n4
          have B4 : Hid (w4.heap[cb9]? = some (.cells #[.int .u8 (L : Int), .int .u64 (I : Int)] 87)) := (n4.block _ (heap_lt B3.out) (fun f => f)).trans B3.out
          clear n4 x0 x1
          by_cases hg : gdT S (L, I)
          · obtain ⟨rfl, hYS⟩ := HGO.out.1 hg
            have hYi : ¬ (S : Int) < (Y : Int) := by omega
            have QT2 := fun V => QT.out hg V
            have HGT : Hid (gdT S (L, I)) := hg
            clear hg
            go_upto_region 14 with fail
            refine gen_wq (fun V => Dts w V (.slice va out.length vc) out ∧ V.heap[cb9]? = some (.cells #[.int .u8 (L : Int), .int .u64 (I : Int)] 87)) ⟨T4.out.up (by repeat first | with_reducible exact nwr w4 | with_reducible refine Fr.alloc ?_ _ | with_reducible refine Fr.drew ?_ | (with_reducible refine Fr.setCell ?_ _ _ (fun h => ?_); rotate_left; focus (simp only at h; omega))), ((nwa w4 _).block _ (heap_lt B4.out) (fun f => f)).trans B4.out⟩ ?_
            rintro w5 ⟨t5, b5⟩
            have T5 : Hid (Dts w w5 (.slice va out.length vc) out) := t5
            have x0 := cell2a b5
            have x1 := cell2b b5
            clear t5 b5
            go_wp2_with fail
            refine (QT2 _).mono ?_
            rintro _ w6 ⟨rfl, n6⟩
            have T6 : Hid (Dts w w6 (.slice va out.length vc) out) := T5.out.up n6
            clear n6 x0 x1 QT2
            go_upto_region 15 with fail
            obtain ⟨tL, tI, tW⟩ := T
            obtain ⟨T, hTe⟩ : ∃ T, T = (⟨tL, tI, tW⟩ : Ti) := ⟨_, rfl⟩
            have HTE : Hid (T = (⟨tL, tI, tW⟩ : Ti)) := hTe
            have HTT2 : Hid (T = tiN S (L, I)) := hTe.trans HTT.out
            clear hTe
            refine gen_wq (fun V => Dts w V (.slice va out.length vc) out ∧ V.heap[w6.heap.size]? = some (.cells #[.int .u8 (tL : Int), .int .u64 (tI : Int), .int .i64 (tW : Int)] 104)) ⟨T6.out.up (by repeat first | with_reducible exact nwr w6 | with_reducible refine Fr.alloc ?_ _ | with_reducible refine Fr.drew ?_ | (with_reducible refine Fr.setCell ?_ _ _ (fun h => ?_); rotate_left; focus (simp only at h; omega))), heap_new _ _⟩ ?_
            rintro w7 ⟨t7, b7⟩
            obtain ⟨tb, htb⟩ : ∃ q, q = w6.heap.size := ⟨_, rfl⟩
            rw [← htb] at b7 ⊢
            have T7 : Hid (Dts w w7 (.slice va out.length vc) out) := t7
            have B7 : Hid (w7.heap[tb]? = some (.cells #[.int .u8 (tL : Int), .int .u64 (tI : Int), .int .i64 (tW : Int)] 104)) := b7
            obtain ⟨N, hN⟩ : ∃ N, N = out.length := ⟨_, rfl⟩
            have HNN : Hid (N = out.length) := hN
            rw [← hN] at HLN ⊢
            have hNb := HLN.out
            clear t7 b7 htb hN
            go_wp2
            go_loopw [13, 14] (fun b i wz => ∃ r : Nat, r ≤ N ∧ b = .bool (decide (T ∈ out.take r)) ∧ i = .int .i64 r ∧ Nw w7 wz) (fun _ i _ => N - (intOf i).toNat)
            case atStart => exact ⟨0, by omega, by simp, rfl, nwr w7⟩
            case round =>
              obtain ⟨r, hr, rfl, rfl, hnr⟩ := hrel
              have HNR : Hid (Nw w7 wr) := hnr
              by_cases hrl : r < N
              · obtain ⟨t, ht⟩ : ∃ t, out[r]? = some t := ⟨_, List.getElem?_eq_getElem (by rw [← HNN.out]; exact hrl)⟩
                obtain ⟨gg, rfl, y0, y1, y2⟩ := tic_cellsP T7.out.own r t ht
                have HTK : Hid (out.take (r + 1) = out.take r ++ [t]) := by show _ = _; rw [List.take_add_one, ht]; rfl
                have y0' := hnr.cellOf y0
                have y1' := hnr.cellOf y1
                have y2' := hnr.cellOf y2
                obtain ⟨z0, z1, z2⟩ := cell3 ((hnr.block _ (heap_lt B7.out) (fun f => f)).trans B7.out)
                have hri : (r : Int) < (N : Int) := by omega
                clear y0 y1 y2 ht hnr
                by_cases hm : T ∈ out.take r
                · have HM2 : Hid (T ∈ out.take r) := hm
                  rw [decide_eq_true hm]
                  clear hm
                  go_wp2
                  go_quiet (fail)
                  go_wp2
                  exact ⟨⟨r + 1, by omega, by rw [decide_eq_true (by rw [HTK.out]; exact List.mem_append_left _ HM2.out)], by go_num, HNR.out.drewN nq⟩, by simp [intOf]; omega⟩
                · obtain ⟨pL, pI, pW⟩ := t
                  simp only at y0' y1' y2'
                  have HM2 : Hid (T ∉ out.take r) := hm
                  have QN : Hid ((⟨pL, pI, pW⟩ : Ti) ≠ ⟨tL, tI, tW⟩ → ¬ T ∈ out.take (r + 1)) := fun q hq => by
                    rw [HTK.out] at hq
                    rcases List.mem_append.1 hq with hq | hq
                    · exact HM2.out hq
                    · rw [List.mem_singleton, HTE.out] at hq
                      exact q hq.symm
                  have QY : Hid ((⟨pL, pI, pW⟩ : Ti) = T → T ∈ out.take (r + 1)) := fun q => by rw [HTK.out, q]; simp
                  rw [decide_eq_false hm]
                  clear hm
                  by_cases c1 : pL = tL
                  · subst c1
                    by_cases c2 : pI = tI
                    · subst c2
                      by_cases c3 : pW = tW
                      · subst c3
                        go_wp2
                        go_quiet (fail)
                        go_wp2
                        exact ⟨⟨r + 1, by omega, by rw [decide_eq_true (QY.out (by rw [HTE.out]))], by go_num, HNR.out.drewN nq⟩, by simp [intOf]; omega⟩
                      · have r1 : ((pW : Int) == (tW : Int)) = false := by simp only [beq_eq_false_iff_ne]; omega
                        have r2 : (pW == tW) = false := by simp only [beq_eq_false_iff_ne]; omega
                        go_wp2
                        go_quiet (fail)
                        go_wp2
                        exact ⟨⟨r + 1, by omega, by rw [decide_eq_false (QN.out (fun q => by cases q; omega))], by go_num, HNR.out.drewN nq⟩, by simp [intOf]; omega⟩
                    · have r1 : ((pI : Int) == (tI : Int)) = false := by simp only [beq_eq_false_iff_ne]; omega
                      have r2 : (pI == tI) = false := by simp only [beq_eq_false_iff_ne]; omega
                      go_wp2
                      go_quiet (fail)
                      go_wp2
                      exact ⟨⟨r + 1, by omega, by rw [decide_eq_false (QN.out (fun q => by cases q; omega))], by go_num, HNR.out.drewN nq⟩, by simp [intOf]; omega⟩
                  · have r1 : ((pL : Int) == (tL : Int)) = false := by simp only [beq_eq_false_iff_ne]; omega
                    have r2 : (pL == tL) = false := by simp only [beq_eq_false_iff_ne]; omega
                    go_wp2
                    go_quiet (fail)
                    go_wp2
                    exact ⟨⟨r + 1, by omega, by rw [decide_eq_false (QN.out (fun q => by cases q; omega))], by go_num, HNR.out.drewN nq⟩, by simp [intOf]; omega⟩
              · obtain rfl : r = N := by omega
                have HTK : Hid (out.take r = out) := by show _ = _; rw [HNN.out, List.take_length]
                by_cases hm : T ∈ out.take r
                · have HA : Hid (addT out T = out) := by show _ = _; unfold addT; rw [if_pos (by rw [← HTK.out]; exact hm)]
                  rw [decide_eq_true hm]
                  clear hm
                  go_wp2
                  refine ⟨⟨j + 1, by omega, by go_num, ?_, ?_⟩, by simp [intOf]; omega⟩
                  · rw [HJ.out]
                    intro c hc
                    rcases List.mem_append.1 hc with hc | hc
                    · exact HG3.out c hc
                    · simp at hc
                      subst hc
                      exact HGT.out
                  · rw [HJ.out, tls_add, ← HO.out, ← HTT2.out, HA.out]
                    have := T7.out.up HNR.out
                    rw [HNN.out]
                    exact this
                · have HA : Hid (addT out T = out ++ [T]) := by show _ = _; unfold addT; rw [if_neg (by rw [← HTK.out]; exact hm)]
                  rw [decide_eq_false hm]
                  clear hm
                  go_upto_region 21 with fail
                  have T8 : Hid (Dts w wr (.slice va r vc) out) := by rw [HNN.out]; exact T7.out.up HNR.out
                  have B8 : Hid (wr.heap[tb]? = some (.cells #[.int .u8 (tL : Int), .int .u64 (tI : Int), .int .i64 (tW : Int)] 104)) := (HNR.out.block _ (heap_lt B7.out) (fun f => f)).trans B7.out
                  obtain ⟨z0, z1, z2⟩ := cell3 B8.out
                  have HO8 : Hid ((wr.alloc (.cells #[.int .u8 (tL : Int), .int .u64 (tI : Int), .int .i64 (tW : Int)] 104)).ownsRow (p + 1) 104 3 (.slice va r vc) r (tic out)) := by
                    have := T8.out.own
                    rw [← HNN.out, ← HP.out] at this
                    exact this.alloc _
                  have HNew : Hid (∀ j y, [Value.int .u8 (tL : Int), .int .u64 (tI : Int), .int .i64 (tW : Int)][j]? = some y → (wr.alloc (.cells #[.int .u8 (tL : Int), .int .u64 (tI : Int), .int .i64 (tW : Int)] 104)).cell? ((⟨wr.heap.size, 0, none⟩ : Addr).add j) = some y) := tl_new (w := wr) _ _ _ _
                  obtain ⟨i0, hi, hz0, hz1, hz2⟩ := info_partsTl
                  have l8 := heap_lt T8.out.fb
                  have hbase : p + 1 ≤ (wr.alloc (.cells #[.int .u8 (tL : Int), .int .u64 (tI : Int), .int .i64 (tW : Int)] 104)).heap.size := by have := HP.out; simp; omega
                  clear l8
                  go_wp2_with (at_builtin; refine wpList_two _ rfl (.tmp 76) (.tmp 78) 71 rfl (p + 1) 104 i0 (tl 0 0 0) 3 24 Tryz.underlying71 hi hz0 hz1 hz2 rfl (by decide) (.slice va r vc) r (tic out) rfl HO8.out ⟨wr.heap.size, 0, none⟩ 1 1 [.int .u8 (tL : Int), .int .u64 (tI : Int), .int .i64 (tW : Int)] rfl rfl HNew.out (by simp [Value.oneCell']) (by unfold maxLen; omega) (by omega) hbase ?_; intro v' w9 hown' htwo; have HW9 : Hid (w9.ownsRow (p + 1) 104 3 v' (r + 1) (tic out ++ [.int .u8 (tL : Int), .int .u64 (tI : Int), .int .i64 (tW : Int)])) := hown'; have HTW : Hid (Two _ w9 104 3 (.slice va r vc) v' r 1 _) := htwo; clear hown' htwo)
                  refine ⟨⟨j + 1, by omega, by go_num, ?_, ?_⟩, by simp [intOf]; omega⟩
                  · rw [HJ.out]
                    intro c hc
                    rcases List.mem_append.1 hc with hc | hc
                    · exact HG3.out c hc
                    · simp at hc
                      subst hc
                      exact HGT.out
                  · rw [HJ.out, tls_add, ← HO.out, ← HTT2.out, HA.out]
                    have e1 := HW9.out
                    have e2 := HTW.out
                    rw [HP.out, HNN.out] at e1
                    rw [HNN.out] at e2
                    exact Dts.fin (t := T) (T8.out.up (nwa _ _)) (by rw [HTE.out]; exact e1) (by rw [← HNN.out]; rw [← HNN.out] at e2; exact e2)
          · by_cases hok : ok = true
            · subst hok
              have hYi : (S : Int) < (Y : Int) := by
                have : ¬ Y ≤ S := fun q => hg (HGO.out.2 ⟨rfl, q⟩)
                omega
              have HX : Hid (¬ gdA S ls.flatten) := HNG.out hg
              clear hg
              go_wp2_with (go_at_call 29; refine (plain_any 5 _ (by decide)).mono ?_; rintro e w5 ⟨rfl, n5⟩; have T5 : Hid (Dts w w5 (.slice va out.length vc) out) := (T4.out.up (nwa w4 _)).up n5; have fb5 := T5.out.fb; rw [← HP.out] at fb5; have y0 := (cell_of fb5 0).trans rfl; have y1 := (cell_of fb5 1).trans rfl; have u0 := frozen_of fb5 0; have u1 := frozen_of fb5 1; have lb5 := heap_lt fb5)
              refine bodyPost_ret (results_slot_cell (V := #[.int .i64 5, .int .i64 (-1)]) (ty := 33) (f := (0, 0)) Tryz.results23 Tryz.isAgg33 Tryz.sizeOf33 rfl (.slice none 0 0) rfl ?_ rfl) rfl ⟨fun q => absurd q HX.out, fun _ => ⟨rfl, ?_⟩⟩
              · exact hp_set (hp_set fb5 rfl) rfl
              · exact (T5.out.nw.setCell _ _ (fun h => by have := HP.out; simp only at h; omega)).setCell _ _ (fun h => by have := HP.out; simp only at h; omega)
            · obtain rfl : ok = false := by cases ok <;> simp_all
              have HX : Hid (¬ gdA S ls.flatten) := HNG.out hg
              clear hg
              go_wp2_with (go_at_call 29; refine (plain_any 5 _ (by decide)).mono ?_; rintro e w5 ⟨rfl, n5⟩; have T5 : Hid (Dts w w5 (.slice va out.length vc) out) := (T4.out.up (nwa w4 _)).up n5; have fb5 := T5.out.fb; rw [← HP.out] at fb5; have y0 := (cell_of fb5 0).trans rfl; have y1 := (cell_of fb5 1).trans rfl; have u0 := frozen_of fb5 0; have u1 := frozen_of fb5 1; have lb5 := heap_lt fb5)
              refine bodyPost_ret (results_slot_cell (V := #[.int .i64 5, .int .i64 (-1)]) (ty := 33) (f := (0, 0)) Tryz.results23 Tryz.isAgg33 Tryz.sizeOf33 rfl (.slice none 0 0) rfl ?_ rfl) rfl ⟨fun q => absurd q HX.out, fun _ => ⟨rfl, ?_⟩⟩
              · exact hp_set (hp_set fb5 rfl) rfl
              · exact (T5.out.nw.setCell _ _ (fun h => by have := HP.out; simp only at h; omega)).setCell _ _ (fun h => by have := HP.out; simp only at h; omega)
        · obtain rfl : j = m := by omega
          have HE : Hid ((ls.take k).flatten ++ l.take j = (ls.take (k + 1)).flatten) := by show _ = _; rw [List.take_add_one, HK.out, HM.out, List.take_length]; simp
          clear hgd hts2
          go_wp2
          refine ⟨⟨k + 1, by omega, by go_num, ?_, ?_⟩, by simp [intOf]; omega⟩
          · rw [← HE.out]; exact HG3.out
          · rw [← HE.out]; exact HT3.out
    · obtain rfl : k = n := by omega
      have HE : Hid ((ls.take k).flatten = ls.flatten) := by show _ = _; rw [HN.out, List.take_length]
      obtain ⟨va, vc, rfl⟩ := ownsRow_form hts.own
      have HTS : Hid (Dts w wr (.slice va (tls S (ls.take k).flatten).length vc) (tls S (ls.take k).flatten)) := hts
      have fb5 := hts.fb
      rw [← HP.out] at fb5
      have y0 := (cell_of fb5 0).trans rfl
      have y1 := (cell_of fb5 1).trans rfl
      have u0 := frozen_of fb5 0
      have u1 := frozen_of fb5 1
      have lb5 := heap_lt fb5
      clear hgd hts
      go_wp2
      refine bodyPost_ret (results_slot_cell (V := #[.int .i64 0, .int .i64 0]) (ty := 33) (f := (0, 0)) Tryz.results23 Tryz.isAgg33 Tryz.sizeOf33 rfl _ rfl ?_ rfl) rfl ⟨fun _ => ⟨_, rfl, ?_, ?_⟩, fun q => absurd (by rw [← HE.out]; exact HG.out) q⟩
      · exact hp_set (hp_set fb5 rfl) rfl
      · rw [← HE.out]
        exact ownsRow_setCell_other (ownsRow_setCell_other HTS.out.own (fun q => by have q1 : w.heap.size + 1 ≤ p := (HTS.out.own.lt _ q).1; have q2 := HP.out; omega) _) (fun q => by have q1 : w.heap.size + 1 ≤ p := (HTS.out.own.lt _ q).1; have q2 := HP.out; omega) _
      · exact (HTS.out.nw.setCell _ _ (fun h => by have := HP.out; simp only at h; omega)).setCell _ _ (fun h => by have := HP.out; simp only at h; omega)
set_option maxHeartbeats 1000000 in
theorem dtiles_big (u : Value) (S : Nat) (w : World) (hS : 9223372036854775808 < S) (hS2 : S < 18446744073709551616) :
    Calls Tryz.prog 23 #[u, .int .u64 (S : Int)] w fun e w' => e = .returned (.tuple #[.slice none 0 0, .agg #[.int .i64 5, .int .i64 (-1)]]) ∧ Nw w w' := by
  have hSi : (9223372036854775808 : Int) < (S : Int) := by omega
  obtain ⟨p, hp⟩ : ∃ p, p = w.heap.size := ⟨_, rfl⟩
  have HP : Hid (p = w.heap.size) := hp
  have B0 : Hid ((w.alloc (.cells #[.int .i64 0, .int .i64 0] 33)).heap[w.heap.size]? = some (.cells #[.int .i64 0, .int .i64 0] 33)) := heap_new _ _
  clear hp
  go_enter Tryz.func23, Tryz.ntmps23
  go_wp2_with (go_at_call 29; refine (plain_any 5 _ (by decide)).mono ?_; rintro e w5 ⟨rfl, n5⟩; have fb5 := (n5.block _ (heap_lt B0.out) (fun f => f)).trans B0.out; have N5 : Hid (Nw w w5) := (nwa w _).tr n5; have y0 := (cell_of fb5 0).trans rfl; have y1 := (cell_of fb5 1).trans rfl; have u0 := frozen_of fb5 0; have u1 := frozen_of fb5 1; have lb5 := heap_lt fb5)
  refine bodyPost_ret (results_slot_cell (V := #[.int .i64 5, .int .i64 (-1)]) (ty := 33) (f := (0, 0)) Tryz.results23 Tryz.isAgg33 Tryz.sizeOf33 rfl (.slice none 0 0) rfl ?_ rfl) rfl ⟨rfl, ?_⟩
  · exact hp_set (hp_set fb5 rfl) rfl
  · exact (N5.out.setCell _ _ (fun h => by simp only at h; omega)).setCell _ _ (fun h => by simp only at h; omega)
end Go.Proofs.YtlaiomgebkeldaaGreatDoor
