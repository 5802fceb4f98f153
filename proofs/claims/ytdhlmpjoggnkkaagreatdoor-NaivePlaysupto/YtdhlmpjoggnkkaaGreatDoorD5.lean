/- What the document's log answers. -/
import Derived.Test.YtdhlmpjoggnkkaaGreatDoorD4
import Derived.Test.YtdhlmpjoggnkkaaGreatDoorG3
namespace Go.Proofs.YtdhlmpjoggnkkaaGreatDoor
open Go.RowKit
set_option linter.unusedVariables false
set_option linter.unusedSimpArgs false

theorem results_cells {P : Program} {w : World} {fn : Func} {i j : Nat} {t u : TypeId} {n m g k : Nat} {tmps : Array Value} {V U : Array Value} {ty tz : TypeId} {f f2 : Nat × Nat} (hr : fn.results = #[.cell i t, .cell j u]) (hagg : ∀ W : World, (isAgg t).run P W = .ok true W) (hsz : ∀ W : World, (sizeOf t).run P W = .ok n W)
    (hagg2 : ∀ W : World, (isAgg u).run P W = .ok true W) (hsz2 : ∀ W : World, (sizeOf u).run P W = .ok m W)
    (hx : tmps.getD i undef = .pointer (some ⟨g, 0, none⟩)) (hy : tmps.getD j undef = .pointer (some ⟨k, 0, none⟩)) (hg : w.heap[g]? = some (.cells V ty f)) (hV : V.size = n) (hk : w.heap[k]? = some (.cells U tz f2)) (hU : U.size = m) : (results fn tmps).run P w = .ok (.tuple #[.agg V, .agg U]) w := by
  have hl : (loadCells ⟨g, 0, none⟩ n).run P w = .ok V w := by
    have := run_loadCells_list (P := P) w ⟨g, 0, none⟩ V.toList (fun j v hv => by
      rw [addZ, cell_of hg]
      simpa using hv)
    simpa [hV] using this
  have hl2 : (loadCells ⟨k, 0, none⟩ m).run P w = .ok U w := by
    have := run_loadCells_list (P := P) w ⟨k, 0, none⟩ U.toList (fun j v hv => by
      rw [addZ, cell_of hk]
      simpa using hv)
    simpa [hU] using this
  have ha : ∀ (W : World) (q : Nat), (asAddr (.pointer (some ⟨q, 0, none⟩))).run P W = .ok ⟨q, 0, none⟩ W := fun W q => by simp [asAddr]
  have hx2 : tmps[i]?.getD undef = .pointer (some ⟨g, 0, none⟩) := by rw [← hx]; simp [Array.getD]; split <;> simp_all
  have hy2 : tmps[j]?.getD undef = .pointer (some ⟨k, 0, none⟩) := by rw [← hy]; simp [Array.getD]; split <;> simp_all
  simp [results, hr, hx2, hy2, ha, loadVar, hagg, hsz, hl, hagg2, hsz2, hl2]


set_option maxRecDepth 100000 in
set_option maxHeartbeats 1000000 in
theorem dleaf_any {w : World} {b base : Nat} {v : Value} {L : List ByteArray} (h : Dg w b base v L) (k : Nat) (hk : k < 18446744073709551616) :
    Calls Tryz.prog 26 #[.pointer (some ⟨b, 0, none⟩), .int .u64 (k : Int)] w fun e w' => e = .returned (.tuple #[.string (L.getD k ⟨#[]⟩), if k < L.length then flt 0 0 else flt 5 (-1)]) ∧ Nw w w' := by
  have hle := h.len
  by_cases hc : k < L.length
  · rw [if_pos hc]
    obtain ⟨x, hx⟩ : ∃ x, L[k]? = some x := ⟨_, List.getElem?_eq_getElem hc⟩
    have hg : L.getD k ⟨#[]⟩ = x := by rw [List.getD_eq_getElem?_getD, hx]; rfl
    rw [hg]
    have Q := show Hid (∀ W, Nw w W → Calls Tryz.prog 9 #[.pointer (some ⟨b, 0, none⟩)] W fun e w' => e = .returned (.int .u64 (L.length : Int)) ∧ w' = W) from fun W hW => dsize_any (h.nw hW)
    obtain ⟨p, c, rfl, hp, _⟩ := h.form
    obtain ⟨g, o, rfl, hc1⟩ := hp k x hx
    have e1 : ∀ ob, (w.alloc ob).cell? ⟨b, 0, none⟩ = some (.slice (some ⟨g, o, none⟩) L.length c) := fun ob => (nwa w ob).cellOf h.cv
    have e2 : ∀ ob, (w.alloc ob).cell? ⟨g, o + k, none⟩ = some (.string x) := fun ob => (nwa w ob).cellOf hc1
    have lb := heap_lt h.blk
    have hk2 : ¬ (L.length : Int) ≤ (k : Int) := by omega
    have hk3 : (k : Int) < (L.length : Int) := by omega
    clear h hp hx hg hc1
    go_enter Tryz.func26, Tryz.ntmps26
    go_wp2_with fail
    refine (Q.out _ (nwa w _)).mono ?_
    rintro e w1 ⟨rfl, rfl⟩
    go_wp2
    refine bodyPost_ret (results_slot_cell (V := #[.int .i64 0, .int .i64 0]) (ty := 61) (f := (0, 0)) Tryz.results26 Tryz.isAgg61 Tryz.sizeOf61 rfl _ rfl ?_ rfl) rfl ⟨rfl, (by repeat first | with_reducible exact nwr w | with_reducible refine Fr.alloc ?_ _ | with_reducible refine Fr.drew ?_ | (with_reducible refine Fr.setCell ?_ _ _ (fun h => ?_); rotate_left; focus (simp only at h; omega)))⟩
    (repeat first | with_reducible exact heap_new _ _ | with_reducible exact heap_new _ _ | with_reducible exact heap_next _ _ _ | with_reducible exact heap_third _ _ _ _ | with_reducible refine hp_dr ?_ | (with_reducible refine hp_ne ?_ ?_; focus omega) | (with_reducible refine hp_al ?_ ?_; focus (first | omega | (simp <;> omega))) | with_reducible apply hp_set) <;> rfl
  · rw [if_neg hc]
    have hg : L.getD k ⟨#[]⟩ = ⟨#[]⟩ := by rw [List.getD_eq_getElem?_getD, List.getElem?_eq_none (by omega)]; rfl
    rw [hg]
    have Q := show Hid (∀ W, Nw w W → Calls Tryz.prog 9 #[.pointer (some ⟨b, 0, none⟩)] W fun e w' => e = .returned (.int .u64 (L.length : Int)) ∧ w' = W) from fun W hW => dsize_any (h.nw hW)
    have QW := show Hid (∀ W, Calls Tryz.prog 116 #[] W fun e w' => e = .returned (flt 5 (-1)) ∧ Nw W w') from wrong_any
    have hk2 : (L.length : Int) ≤ (k : Int) := by omega
    clear h hg
    go_enter Tryz.func26, Tryz.ntmps26
    go_wp2_with fail
    refine (Q.out _ (nwa w _)).mono ?_
    rintro e w1 ⟨rfl, rfl⟩
    go_wp2_with fail
    refine (QW.out _).mono ?_
    rintro e w2 ⟨rfl, n1⟩
    obtain ⟨l0, b0, n2⟩ := one_made n1
    have d0 := cell2a b0
    have d1 := cell2b b0
    have f0 := frozen_of b0 0
    have f1 := frozen_of b0 1
    clear n1
    go_wp2
    refine bodyPost_ret (results_slot_cell (V := #[.int .i64 5, .int .i64 (-1)]) (ty := 61) (f := (0, 0)) Tryz.results26 Tryz.isAgg61 Tryz.sizeOf61 rfl _ rfl ?_ rfl) rfl ⟨rfl, (by repeat first | with_reducible exact n2 | with_reducible refine Fr.alloc ?_ _ | with_reducible refine Fr.drew ?_ | (with_reducible refine Fr.setCell ?_ _ _ (fun h => ?_); rotate_left; focus (simp only at h; omega)))⟩
    (repeat first | with_reducible exact b0 | with_reducible exact heap_new _ _ | with_reducible exact heap_next _ _ _ | with_reducible exact heap_third _ _ _ _ | with_reducible refine hp_dr ?_ | (with_reducible refine hp_ne ?_ ?_; focus omega) | (with_reducible refine hp_al ?_ ?_; focus (first | omega | (simp <;> omega))) | with_reducible apply hp_set) <;> rfl
theorem sub0 (n : Nat) : n - 0 = n := rfl

set_option maxRecDepth 100000 in
set_option maxHeartbeats 2000000 in
theorem dPath_any {w : World} {b base : Nat} {v : Value} {L : List ByteArray} (h : Dg w b base v L) (i n : Nat) (hi : i < 18446744073709551616) (hn : n < 18446744073709551616) :
    Calls Tryz.prog 29 #[.pointer (some ⟨b, 0, none⟩), .int .u64 (i : Int), .int .u64 (n : Int)] w fun e w' => ∃ u, e = .returned (.tuple #[u, if (i < n) ∧ n ≤ L.length then flt 0 0 else flt 5 (-1)]) ∧ w'.ownsRow w.heap.size 56 32 u ((TP L i n).map (hst L)).length (hsc ((TP L i n).map (hst L))) ∧ Nw w w' := by
  have hle := h.len
  have Q := show Hid (∀ W, Nw w W → Calls Tryz.prog 9 #[.pointer (some ⟨b, 0, none⟩)] W fun e w' => e = .returned (.int .u64 (L.length : Int)) ∧ w' = W) from fun W hW => dsize_any (h.nw hW)
  by_cases hc : (i < n) ∧ n ≤ L.length
  · rw [if_pos hc]
    have hT : TP L i n = pth i 0 n := if_pos hc
    rw [hT]
    obtain ⟨hc1, hc2⟩ := hc
    obtain ⟨p, c, rfl, hp, hlc⟩ := h.form
    have hcut : ∀ W : World, (Instr.sliceAt 25 (.slice p L.length c) none (some (.int .u64 (n : Int))) none).run Tryz.prog W = .ok (.slice p n c) W := fun W => by
      rcases p with _ | ⟨g, o, sp⟩
      · obtain ⟨x, hx⟩ : ∃ x, L[0]? = some x := ⟨_, List.getElem?_eq_getElem (by omega)⟩
        obtain ⟨g, o, hp, _⟩ := hp 0 x hx
        cases hp
      · obtain ⟨x, hx⟩ : ∃ x, L[0]? = some x := ⟨_, List.getElem?_eq_getElem (by omega)⟩
        obtain ⟨g', o', hp', _⟩ := hp 0 x hx
        cases hp'
        exact cut_h g o L.length c n .u64 (by omega) W
    have hps : Strs w p (sbl L 0 n) := by
      have := hp.cut 0 n c hlc
      rcases p with _ | ⟨g, o, sp⟩
      · split at this <;> exact this
      · obtain ⟨x, hx⟩ : ∃ x, L[0]? = some x := ⟨_, List.getElem?_eq_getElem (by omega)⟩
        obtain ⟨g', o', hp', _⟩ := hp 0 x hx
        cases hp'
        have t1 : (if c = 0 then some (⟨g, o, none⟩ : Addr) else (some ⟨g, o, none⟩ : Option Addr).map (·.add (0 * 1))) = some ⟨g, o, none⟩ := by split <;> simp [Addr.add]
        rw [t1] at this
        exact this
    have QR : Hid (∀ W, Nw w W → Calls Tryz.prog 117 #[.int .i64 (i : Int), .slice p n c] W fun r w' => Rwd W w' ((pth i 0 n).map (hst L)) r) := fun W hW => by
      have q := rpath_any L h.len h.sz n i 0 n p c W (by omega) (by omega) hc1 hc2 (by omega) (hps.nw hW)
      exact q
    have e1 : ∀ ob, (w.alloc ob).cell? ⟨b, 0, none⟩ = some (.slice p L.length c) := fun ob => (nwa w ob).cellOf h.cv
    have lb := heap_lt h.blk
    have g1 : ¬ (L.length : Int) < (n : Int) := by omega
    have g2 : ¬ (n : Int) ≤ (i : Int) := by omega
    have g3 : IntKind.i64.wrap (i : Int) = (i : Int) := by rw [IntKind.wrap_i64]; omega
    obtain ⟨l, hl⟩ : ∃ l, l = (pth i 0 n).map (hst L) := ⟨_, rfl⟩
    rw [← hl] at QR ⊢
    clear h hp hps hl hT
    go_enter Tryz.func29, Tryz.ntmps29
    go_wp2_with fail
    refine (Q.out _ (nwa w _)).mono ?_
    rintro e w1 ⟨rfl, h1⟩
    rw [h1]
    clear h1
    go_wp2_with fail
    refine (QR.out _ (nwa w _)).mono ?_
    rintro e w2 ⟨u, rfl, o2, m2⟩
    obtain ⟨l0, b0, n2⟩ := one_made m2
    have O2 : Hid (w2.ownsRow w.heap.size 56 32 u l.length (hsc l)) := ownsRow_base o2 (by simp)
    have GU : Hid (∀ g, u.ownBlock = some g → w.heap.size < g) := fun g hg => by have := (o2.lt g hg).1; simp at this; omega
    have d0 := cell2a b0
    have d1 := cell2b b0
    have f0 := frozen_of b0 0
    have f1 := frozen_of b0 1
    obtain ⟨ua, uc, rfl⟩ := ownsRow_form o2
    clear o2 m2
    go_wp2
    refine bodyPost_ret (results_slot_cell (V := #[.int .i64 0, .int .i64 0]) (ty := 61) (f := (0, 0)) Tryz.results29 Tryz.isAgg61 Tryz.sizeOf61 rfl (.slice ua l.length uc) rfl ?_ rfl) rfl ⟨_, rfl, ownsRow_setCell_other (ownsRow_setCell_other O2.out (fun q => by have := GU.out _ q; simp only at this; omega) _) (fun q => by have := GU.out _ q; simp only at this; omega) _, (by repeat first | with_reducible exact n2 | with_reducible refine Fr.alloc ?_ _ | with_reducible refine Fr.drew ?_ | (with_reducible refine Fr.setCell ?_ _ _ (fun h => ?_); rotate_left; focus (simp only at h; omega)))⟩
    (repeat first | with_reducible exact b0 | with_reducible exact heap_new _ _ | with_reducible exact heap_next _ _ _ | with_reducible exact heap_third _ _ _ _ | with_reducible refine hp_dr ?_ | (with_reducible refine hp_ne ?_ ?_; focus omega) | (with_reducible refine hp_al ?_ ?_; focus (first | omega | (simp <;> omega))) | with_reducible apply hp_set) <;> rfl
  · rw [if_neg hc]
    have hT : TP L i n = [] := if_neg hc
    rw [hT, List.map_nil]
    have QW := show Hid (∀ W, Calls Tryz.prog 116 #[] W fun e w' => e = .returned (flt 5 (-1)) ∧ Nw W w') from wrong_any
    have hw : (L.length : Int) < (n : Int) ∨ (¬ (L.length : Int) < (n : Int) ∧ (n : Int) ≤ (i : Int)) := by omega
    clear h hc hT
    rcases hw with g1 | ⟨g1, g2⟩
    all_goals
      go_enter Tryz.func29, Tryz.ntmps29
      go_wp2_with fail
      refine (Q.out _ (nwa w _)).mono ?_
      rintro e w1 ⟨rfl, h1⟩
      rw [h1]
      clear h1
      go_wp2_with fail
      refine (QW.out _).mono ?_
      rintro e w2 ⟨rfl, n1⟩
      obtain ⟨l0, b0, n2⟩ := one_made n1
      have d0 := cell2a b0
      have d1 := cell2b b0
      have f0 := frozen_of b0 0
      have f1 := frozen_of b0 1
      clear n1
      go_wp2
      refine bodyPost_ret (results_slot_cell (V := #[.int .i64 5, .int .i64 (-1)]) (ty := 61) (f := (0, 0)) Tryz.results29 Tryz.isAgg61 Tryz.sizeOf61 rfl (.slice none 0 0) rfl ?_ rfl) rfl ⟨_, rfl, World.ownsRow_nil _ _ _ _, (by repeat first | with_reducible exact n2 | with_reducible refine Fr.alloc ?_ _ | with_reducible refine Fr.drew ?_ | (with_reducible refine Fr.setCell ?_ _ _ (fun h => ?_); rotate_left; focus (simp only at h; omega)))⟩
      (repeat first | with_reducible exact b0 | with_reducible exact heap_new _ _ | with_reducible exact heap_next _ _ _ | with_reducible exact heap_third _ _ _ _ | with_reducible refine hp_dr ?_ | (with_reducible refine hp_ne ?_ ?_; focus omega) | (with_reducible refine hp_al ?_ ?_; focus (first | omega | (simp <;> omega))) | with_reducible apply hp_set) <;> rfl

set_option maxRecDepth 100000 in
set_option maxHeartbeats 2000000 in
theorem dProof_any {w : World} {b base : Nat} {v : Value} {L : List ByteArray} (h : Dg w b base v L) (i n : Nat) (hi : i < 18446744073709551616) (hn : n < 18446744073709551616) :
    Calls Tryz.prog 30 #[.pointer (some ⟨b, 0, none⟩), .int .u64 (i : Int), .int .u64 (n : Int)] w fun e w' => ∃ u, e = .returned (.tuple #[u, if (0 < i ∧ i ≤ n) ∧ n ≤ L.length then flt 0 0 else flt 5 (-1)]) ∧ w'.ownsRow w.heap.size 56 32 u ((TR L i n).map (hst L)).length (hsc ((TR L i n).map (hst L))) ∧ Nw w w' := by
  have hle := h.len
  have Q := show Hid (∀ W, Nw w W → Calls Tryz.prog 9 #[.pointer (some ⟨b, 0, none⟩)] W fun e w' => e = .returned (.int .u64 (L.length : Int)) ∧ w' = W) from fun W hW => dsize_any (h.nw hW)
  by_cases hc : (0 < i ∧ i ≤ n) ∧ n ≤ L.length
  · rw [if_pos hc]
    have hT : TR L i n = prf i 0 n true := if_pos hc
    rw [hT]
    obtain ⟨hc1, hc2⟩ := hc
    obtain ⟨p, c, rfl, hp, hlc⟩ := h.form
    have hcut : ∀ W : World, (Instr.sliceAt 25 (.slice p L.length c) none (some (.int .u64 (n : Int))) none).run Tryz.prog W = .ok (.slice p n c) W := fun W => by
      rcases p with _ | ⟨g, o, sp⟩
      · obtain ⟨x, hx⟩ : ∃ x, L[0]? = some x := ⟨_, List.getElem?_eq_getElem (by omega)⟩
        obtain ⟨g, o, hp, _⟩ := hp 0 x hx
        cases hp
      · obtain ⟨x, hx⟩ : ∃ x, L[0]? = some x := ⟨_, List.getElem?_eq_getElem (by omega)⟩
        obtain ⟨g', o', hp', _⟩ := hp 0 x hx
        cases hp'
        exact cut_h g o L.length c n .u64 (by omega) W
    have hps : Strs w p (sbl L 0 n) := by
      have := hp.cut 0 n c hlc
      rcases p with _ | ⟨g, o, sp⟩
      · split at this <;> exact this
      · obtain ⟨x, hx⟩ : ∃ x, L[0]? = some x := ⟨_, List.getElem?_eq_getElem (by omega)⟩
        obtain ⟨g', o', hp', _⟩ := hp 0 x hx
        cases hp'
        have t1 : (if c = 0 then some (⟨g, o, none⟩ : Addr) else (some ⟨g, o, none⟩ : Option Addr).map (·.add (0 * 1))) = some ⟨g, o, none⟩ := by split <;> simp [Addr.add]
        rw [t1] at this
        exact this
    have QR : Hid (∀ W, Nw w W → Calls Tryz.prog 118 #[.int .i64 (i : Int), .slice p n c] W fun r w' => Rwd W w' ((prf i 0 n true).map (hst L)) r) := fun W hW => by
      have q := rsub_any L h.len h.sz n i 0 n true p c W (by omega) hc1.1 hc1.2 hc2 (by omega) (hps.nw hW)
      exact rproof_any i n c p _ q
    have e1 : ∀ ob, (w.alloc ob).cell? ⟨b, 0, none⟩ = some (.slice p L.length c) := fun ob => (nwa w ob).cellOf h.cv
    have lb := heap_lt h.blk
    have g1 : ¬ (L.length : Int) < (n : Int) := by omega
    have g2 : ¬ (n : Int) < (i : Int) := by omega
    have g4 : ((i : Int) == 0) = false := by simp; omega
    have g3 : IntKind.i64.wrap (i : Int) = (i : Int) := by rw [IntKind.wrap_i64]; omega
    obtain ⟨l, hl⟩ : ∃ l, l = (prf i 0 n true).map (hst L) := ⟨_, rfl⟩
    rw [← hl] at QR ⊢
    clear h hp hps hl hT
    go_enter Tryz.func30, Tryz.ntmps30
    go_wp2_with fail
    refine (Q.out _ (nwa w _)).mono ?_
    rintro e w1 ⟨rfl, h1⟩
    rw [h1]
    clear h1
    go_wp2_with fail
    refine (QR.out _ (nwa w _)).mono ?_
    rintro e w2 ⟨u, rfl, o2, m2⟩
    obtain ⟨l0, b0, n2⟩ := one_made m2
    have O2 : Hid (w2.ownsRow w.heap.size 56 32 u l.length (hsc l)) := ownsRow_base o2 (by simp)
    have GU : Hid (∀ g, u.ownBlock = some g → w.heap.size < g) := fun g hg => by have := (o2.lt g hg).1; simp at this; omega
    have d0 := cell2a b0
    have d1 := cell2b b0
    have f0 := frozen_of b0 0
    have f1 := frozen_of b0 1
    obtain ⟨ua, uc, rfl⟩ := ownsRow_form o2
    clear o2 m2
    go_wp2
    refine bodyPost_ret (results_slot_cell (V := #[.int .i64 0, .int .i64 0]) (ty := 61) (f := (0, 0)) Tryz.results30 Tryz.isAgg61 Tryz.sizeOf61 rfl (.slice ua l.length uc) rfl ?_ rfl) rfl ⟨_, rfl, ownsRow_setCell_other (ownsRow_setCell_other O2.out (fun q => by have := GU.out _ q; simp only at this; omega) _) (fun q => by have := GU.out _ q; simp only at this; omega) _, (by repeat first | with_reducible exact n2 | with_reducible refine Fr.alloc ?_ _ | with_reducible refine Fr.drew ?_ | (with_reducible refine Fr.setCell ?_ _ _ (fun h => ?_); rotate_left; focus (simp only at h; omega)))⟩
    (repeat first | with_reducible exact b0 | with_reducible exact heap_new _ _ | with_reducible exact heap_next _ _ _ | with_reducible exact heap_third _ _ _ _ | with_reducible refine hp_dr ?_ | (with_reducible refine hp_ne ?_ ?_; focus omega) | (with_reducible refine hp_al ?_ ?_; focus (first | omega | (simp <;> omega))) | with_reducible apply hp_set) <;> rfl
  · rw [if_neg hc]
    have hT : TR L i n = [] := if_neg hc
    rw [hT, List.map_nil]
    have QW := show Hid (∀ W, Calls Tryz.prog 116 #[] W fun e w' => e = .returned (flt 5 (-1)) ∧ Nw W w') from wrong_any
    have hw : (L.length : Int) < (n : Int) ∨ (¬ (L.length : Int) < (n : Int) ∧ (n : Int) < (i : Int)) ∨ (¬ (L.length : Int) < (n : Int) ∧ ¬ (n : Int) < (i : Int) ∧ ((i : Int) == 0) = true) := by simp; omega
    clear h hc hT
    rcases hw with g1 | ⟨g1, g2⟩ | ⟨g1, g2, g3⟩
    all_goals
      go_enter Tryz.func30, Tryz.ntmps30
      go_wp2_with fail
      refine (Q.out _ (nwa w _)).mono ?_
      rintro e w1 ⟨rfl, h1⟩
      rw [h1]
      clear h1
      go_wp2_with fail
      refine (QW.out _).mono ?_
      rintro e w2 ⟨rfl, n1⟩
      obtain ⟨l0, b0, n2⟩ := one_made n1
      have d0 := cell2a b0
      have d1 := cell2b b0
      have f0 := frozen_of b0 0
      have f1 := frozen_of b0 1
      clear n1
      go_wp2
      refine bodyPost_ret (results_slot_cell (V := #[.int .i64 5, .int .i64 (-1)]) (ty := 61) (f := (0, 0)) Tryz.results30 Tryz.isAgg61 Tryz.sizeOf61 rfl (.slice none 0 0) rfl ?_ rfl) rfl ⟨_, rfl, World.ownsRow_nil _ _ _ _, (by repeat first | with_reducible exact n2 | with_reducible refine Fr.alloc ?_ _ | with_reducible refine Fr.drew ?_ | (with_reducible refine Fr.setCell ?_ _ _ (fun h => ?_); rotate_left; focus (simp only at h; omega)))⟩
      (repeat first | with_reducible exact b0 | with_reducible exact heap_new _ _ | with_reducible exact heap_next _ _ _ | with_reducible exact heap_third _ _ _ _ | with_reducible refine hp_dr ?_ | (with_reducible refine hp_ne ?_ ?_; focus omega) | (with_reducible refine hp_al ?_ ?_; focus (first | omega | (simp <;> omega))) | with_reducible apply hp_set) <;> rfl

set_option maxRecDepth 100000 in
set_option maxHeartbeats 2000000 in
theorem dBatch_any {w : World} {b base : Nat} {v : Value} {L : List ByteArray} (h : Dg w b base v L) (x y n : Nat) (hx : x < 18446744073709551616) (hy : y < 18446744073709551616) (hn : n < 18446744073709551616) :
    Calls Tryz.prog 31 #[.pointer (some ⟨b, 0, none⟩), .int .u64 (x : Int), .int .u64 (y : Int), .int .u64 (n : Int)] w fun e w' => ∃ u, e = .returned (.tuple #[u, if (x < y ∧ y ≤ n) ∧ n ≤ L.length then flt 0 0 else flt 5 (-1)]) ∧ w'.ownsRow w.heap.size 56 32 u ((TB L x y n).map (hst L)).length (hsc ((TB L x y n).map (hst L))) ∧ Nw w w' := by
  have hle := h.len
  have Q := show Hid (∀ W, Nw w W → Calls Tryz.prog 9 #[.pointer (some ⟨b, 0, none⟩)] W fun e w' => e = .returned (.int .u64 (L.length : Int)) ∧ w' = W) from fun W hW => dsize_any (h.nw hW)
  by_cases hc : (x < y ∧ y ≤ n) ∧ n ≤ L.length
  · rw [if_pos hc]
    have hT : TB L x y n = bat x y 0 n := if_pos hc
    rw [hT]
    obtain ⟨hc1, hc2⟩ := hc
    obtain ⟨p, c, rfl, hp, hlc⟩ := h.form
    have hcut : ∀ W : World, (Instr.sliceAt 25 (.slice p L.length c) none (some (.int .u64 (n : Int))) none).run Tryz.prog W = .ok (.slice p n c) W := fun W => by
      rcases p with _ | ⟨g, o, sp⟩
      · obtain ⟨x, hx⟩ : ∃ x, L[0]? = some x := ⟨_, List.getElem?_eq_getElem (by omega)⟩
        obtain ⟨g, o, hp, _⟩ := hp 0 x hx
        cases hp
      · obtain ⟨x, hx⟩ : ∃ x, L[0]? = some x := ⟨_, List.getElem?_eq_getElem (by omega)⟩
        obtain ⟨g', o', hp', _⟩ := hp 0 x hx
        cases hp'
        exact cut_h g o L.length c n .u64 (by omega) W
    have hps : Strs w p (sbl L 0 n) := by
      have := hp.cut 0 n c hlc
      rcases p with _ | ⟨g, o, sp⟩
      · split at this <;> exact this
      · obtain ⟨x, hx⟩ : ∃ x, L[0]? = some x := ⟨_, List.getElem?_eq_getElem (by omega)⟩
        obtain ⟨g', o', hp', _⟩ := hp 0 x hx
        cases hp'
        have t1 : (if c = 0 then some (⟨g, o, none⟩ : Addr) else (some ⟨g, o, none⟩ : Option Addr).map (·.add (0 * 1))) = some ⟨g, o, none⟩ := by split <;> simp [Addr.add]
        rw [t1] at this
        exact this
    have QR : Hid (∀ W, Nw w W → Calls Tryz.prog 119 #[.int .i64 (x : Int), .int .i64 (y : Int), .slice p n c, .int .i64 0] W fun r w' => Rwd W w' ((bat x y 0 n).map (hst L)) r) := fun W hW => by
      have q := rbat_any L h.len h.sz x y hc1.1 (by omega) n 0 n p c W (by omega) (by omega) hc2 (by omega) (hps.nw hW)
      exact q
    have e1 : ∀ ob, (w.alloc ob).cell? ⟨b, 0, none⟩ = some (.slice p L.length c) := fun ob => (nwa w ob).cellOf h.cv
    have lb := heap_lt h.blk
    have g1 : ¬ (L.length : Int) < (n : Int) := by omega
    have g2 : ¬ (n : Int) < (y : Int) := by omega
    have g4 : ¬ (y : Int) ≤ (x : Int) := by omega
    have g3 : IntKind.i64.wrap (x : Int) = (x : Int) := by rw [IntKind.wrap_i64]; omega
    have g5 : IntKind.i64.wrap (y : Int) = (y : Int) := by rw [IntKind.wrap_i64]; omega
    obtain ⟨l, hl⟩ : ∃ l, l = (bat x y 0 n).map (hst L) := ⟨_, rfl⟩
    rw [← hl] at QR ⊢
    clear h hp hps hl hT
    go_enter Tryz.func31, Tryz.ntmps31
    go_wp2_with fail
    refine (Q.out _ (nwa w _)).mono ?_
    rintro e w1 ⟨rfl, h1⟩
    rw [h1]
    clear h1
    go_wp2_with fail
    refine (QR.out _ (nwa w _)).mono ?_
    rintro e w2 ⟨u, rfl, o2, m2⟩
    obtain ⟨l0, b0, n2⟩ := one_made m2
    have O2 : Hid (w2.ownsRow w.heap.size 56 32 u l.length (hsc l)) := ownsRow_base o2 (by simp)
    have GU : Hid (∀ g, u.ownBlock = some g → w.heap.size < g) := fun g hg => by have := (o2.lt g hg).1; simp at this; omega
    have d0 := cell2a b0
    have d1 := cell2b b0
    have f0 := frozen_of b0 0
    have f1 := frozen_of b0 1
    obtain ⟨ua, uc, rfl⟩ := ownsRow_form o2
    clear o2 m2
    go_wp2
    refine bodyPost_ret (results_slot_cell (V := #[.int .i64 0, .int .i64 0]) (ty := 61) (f := (0, 0)) Tryz.results31 Tryz.isAgg61 Tryz.sizeOf61 rfl (.slice ua l.length uc) rfl ?_ rfl) rfl ⟨_, rfl, ownsRow_setCell_other (ownsRow_setCell_other O2.out (fun q => by have := GU.out _ q; simp only at this; omega) _) (fun q => by have := GU.out _ q; simp only at this; omega) _, (by repeat first | with_reducible exact n2 | with_reducible refine Fr.alloc ?_ _ | with_reducible refine Fr.drew ?_ | (with_reducible refine Fr.setCell ?_ _ _ (fun h => ?_); rotate_left; focus (simp only at h; omega)))⟩
    (repeat first | with_reducible exact b0 | with_reducible exact heap_new _ _ | with_reducible exact heap_next _ _ _ | with_reducible exact heap_third _ _ _ _ | with_reducible refine hp_dr ?_ | (with_reducible refine hp_ne ?_ ?_; focus omega) | (with_reducible refine hp_al ?_ ?_; focus (first | omega | (simp <;> omega))) | with_reducible apply hp_set) <;> rfl
  · rw [if_neg hc]
    have hT : TB L x y n = [] := if_neg hc
    rw [hT, List.map_nil]
    have QW := show Hid (∀ W, Calls Tryz.prog 116 #[] W fun e w' => e = .returned (flt 5 (-1)) ∧ Nw W w') from wrong_any
    have hw : (L.length : Int) < (n : Int) ∨ (¬ (L.length : Int) < (n : Int) ∧ (n : Int) < (y : Int)) ∨ (¬ (L.length : Int) < (n : Int) ∧ ¬ (n : Int) < (y : Int) ∧ (y : Int) ≤ (x : Int)) := by omega
    clear h hc hT
    rcases hw with g1 | ⟨g1, g2⟩ | ⟨g1, g2, g3⟩
    all_goals
      go_enter Tryz.func31, Tryz.ntmps31
      go_wp2_with fail
      refine (Q.out _ (nwa w _)).mono ?_
      rintro e w1 ⟨rfl, h1⟩
      rw [h1]
      clear h1
      go_wp2_with fail
      refine (QW.out _).mono ?_
      rintro e w2 ⟨rfl, n1⟩
      obtain ⟨l0, b0, n2⟩ := one_made n1
      have d0 := cell2a b0
      have d1 := cell2b b0
      have f0 := frozen_of b0 0
      have f1 := frozen_of b0 1
      clear n1
      go_wp2
      refine bodyPost_ret (results_slot_cell (V := #[.int .i64 5, .int .i64 (-1)]) (ty := 61) (f := (0, 0)) Tryz.results31 Tryz.isAgg61 Tryz.sizeOf61 rfl (.slice none 0 0) rfl ?_ rfl) rfl ⟨_, rfl, World.ownsRow_nil _ _ _ _, (by repeat first | with_reducible exact n2 | with_reducible refine Fr.alloc ?_ _ | with_reducible refine Fr.drew ?_ | (with_reducible refine Fr.setCell ?_ _ _ (fun h => ?_); rotate_left; focus (simp only at h; omega)))⟩
      (repeat first | with_reducible exact b0 | with_reducible exact heap_new _ _ | with_reducible exact heap_next _ _ _ | with_reducible exact heap_third _ _ _ _ | with_reducible refine hp_dr ?_ | (with_reducible refine hp_ne ?_ ?_; focus omega) | (with_reducible refine hp_al ?_ ?_; focus (first | omega | (simp <;> omega))) | with_reducible apply hp_set) <;> rfl
end Go.Proofs.YtdhlmpjoggnkkaaGreatDoor
