/- The document's log. -/
import Derived.Test.YtdhlmpjoggnkkaaGreatDoorD3
namespace Go.Proofs.YtdhlmpjoggnkkaaGreatDoor
open Go.RowKit
set_option linter.unusedVariables false
set_option linter.unusedSimpArgs false

/-- The document's log in memory. -/
structure Dg (w : World) (c base : Nat) (u : Value) (L : List ByteArray) : Prop where
  blk : w.heap[c]? = some (.cells #[u] 31)
  own : w.ownsRow base 9 1 u L.length (ts L)
  lt : c < base ∧ base ≤ w.heap.size
  len : L.length ≤ 1048576
  sz : ∀ x ∈ L, x.size ≤ 65536
theorem Dg.fr {S : Nat → Prop} {w w' : World} {b base : Nat} {v : Value} {L : List ByteArray} (h : Dg w b base v L) (f : Fr S w w') (h1 : ¬ S b) (h2 : ∀ g, v.ownBlock = some g → ¬ S g) : Dg w' b base v L :=
  ⟨(f.block _ (heap_lt h.blk) h1).trans h.blk, ownsRow_keep h.own (fun g hg => f.block g (h.own.lt g hg).2 (h2 g hg)), by have := h.lt; have := f.size; omega, h.len, h.sz⟩
theorem Dg.nw {w w' : World} {b base : Nat} {v : Value} {L : List ByteArray} (h : Dg w b base v L) (f : Nw w w') : Dg w' b base v L := h.fr f (fun q => q) (fun _ _ q => q)
theorem Dg.form {w : World} {b base : Nat} {v : Value} {L : List ByteArray} (h : Dg w b base v L) : ∃ p c, v = .slice p L.length c ∧ Strs w p L ∧ L.length ≤ c := by
  have hl := h.own.lt
  have ho := h.own
  rcases h.own.2 with ⟨hv, hn⟩ | ⟨g, cap, cur, hv, hb, hh, h3, h4, h5, h6⟩
  · have : L = [] := List.length_eq_zero_iff.1 hn
    subst this
    exact ⟨none, 0, hv, fun j x hx => by simp at hx, by simp⟩
  · subst hv
    refine ⟨_, cap, rfl, fun j x hx => ⟨g, 0, rfl, ?_⟩, by omega⟩
    have := ho.cells (g := g) rfl j (.string x) (by rw [ts, List.getElem?_map, hx]; rfl)
    rw [addZ] at this
    rw [Nat.zero_add]; exact this
theorem Dg.cv {w : World} {b base : Nat} {v : Value} {L : List ByteArray} (h : Dg w b base v L) : w.cell? ⟨b, 0, none⟩ = some v := (cell_of h.blk 0).trans rfl
abbrev flt (c p : Int) : Value := .agg #[.int .i64 c, .int .i64 p]
theorem results_slot_cell {P : Program} {w : World} {fn : Func} {i j : Nat} {t : TypeId} {n g : Nat} {tmps : Array Value} {V : Array Value} {ty : TypeId} {f : Nat × Nat} (hr : fn.results = #[.tmp j, .cell i t]) (hagg : ∀ W : World, (isAgg t).run P W = .ok true W) (hsz : ∀ W : World, (sizeOf t).run P W = .ok n W)
    (hx : tmps.getD i undef = .pointer (some ⟨g, 0, none⟩)) (v : Value) (hj : tmps.getD j undef = v) (hg : w.heap[g]? = some (.cells V ty f)) (hV : V.size = n) : (results fn tmps).run P w = .ok (.tuple #[v, .agg V]) w := by
  have hl : (loadCells ⟨g, 0, none⟩ n).run P w = .ok V w := by
    have := run_loadCells_list (P := P) w ⟨g, 0, none⟩ V.toList (fun j v hv => by
      rw [addZ, cell_of hg]
      simpa using hv)
    simpa [hV] using this
  have ha : ∀ W : World, (asAddr (.pointer (some ⟨g, 0, none⟩))).run P W = .ok ⟨g, 0, none⟩ W := fun W => by simp [asAddr]
  have hx2 : tmps[i]?.getD undef = .pointer (some ⟨g, 0, none⟩) := by rw [← hx]; simp [Array.getD]; split <;> simp_all
  have hj2 : tmps[j]?.getD undef = v := by rw [← hj]; simp [Array.getD]; split <;> simp_all
  simp [results, hr, hx2, hj2, ha, loadVar, hagg, hsz, hl]
theorem dsize_any {w : World} {b base : Nat} {v : Value} {L : List ByteArray} (h : Dg w b base v L) :
    Calls Tryz.prog 9 #[.pointer (some ⟨b, 0, none⟩)] w fun e w' => e = .returned (.int .u64 (L.length : Int)) ∧ w' = w := by
  have hl := h.len
  have c1 := h.cv
  have lb := heap_lt h.blk
  obtain ⟨p, c, rfl, _⟩ := h.form
  clear h
  go_enter Tryz.func9, Tryz.ntmps9
  go_wp2
  go_ret
  exact ⟨rfl, rfl⟩
set_option maxHeartbeats 1000000 in
theorem wrong_any (w : World) : Calls Tryz.prog 116 #[] w fun e w' => e = .returned (flt 5 (-1)) ∧ Nw w w' := by
  have Q := show Hid (∀ W, Calls Tryz.prog 7 #[.int .i64 5] W fun e w' => e = .returned (.agg #[.int .i64 5, .int .i64 (-1)]) ∧ Nw W w') from fun W => plain_any 5 W (by decide)
  go_enter Tryz.func116, Tryz.ntmps116
  go_wp2_with fail
  refine (Q.out _).mono ?_
  rintro e w1 ⟨rfl, n1⟩
  obtain ⟨l0, b0, n2⟩ := one_made n1
  have c0 := cell2a b0
  have c1 := cell2b b0
  have f0 := frozen_of b0 0
  have f1 := frozen_of b0 1
  clear n1
  go_wp2
  (refine bodyPost_ret (results_cell (V := #[.int .i64 5, .int .i64 (-1)]) (ty := 61) (f := (0, 0)) Tryz.results116 Tryz.isAgg61 Tryz.sizeOf61 rfl ?_ rfl) rfl ⟨rfl, (by repeat first | with_reducible exact n2 | with_reducible refine Fr.alloc ?_ _ | with_reducible refine Fr.drew ?_ | (with_reducible refine Fr.setCell ?_ _ _ (fun h => ?_); rotate_left; focus (simp only at h; omega)))⟩; (repeat first | with_reducible exact b0 | with_reducible exact heap_new _ _ | with_reducible exact heap_next _ _ _ | with_reducible exact heap_third _ _ _ _ | with_reducible refine hp_dr ?_ | (with_reducible refine hp_ne ?_ ?_; focus omega) | (with_reducible refine hp_al ?_ ?_; focus (first | omega | (simp <;> omega))) | with_reducible apply hp_set) <;> rfl)
set_option maxRecDepth 100000 in
set_option maxHeartbeats 1000000 in
theorem dappend_lim {w : World} {b base : Nat} {v : Value} {L : List ByteArray} (h : Dg w b base v L) (s : ByteArray) (hs : s.size < 9223372036854775807) (hl : 65536 < s.size ∨ 1048576 ≤ L.length) :
    Calls Tryz.prog 25 #[.pointer (some ⟨b, 0, none⟩), .string s] w fun e w' => e = .returned (.tuple #[.int .u64 0, flt 4 (-1)]) ∧ Nw w w' := by
  have Q := show Hid (∀ W, Calls Tryz.prog 7 #[.int .i64 4] W fun e w' => e = .returned (.agg #[.int .i64 4, .int .i64 (-1)]) ∧ Nw W w') from fun W => plain_any 4 W (by decide)
  have c1 : ∀ ob, (w.alloc ob).cell? ⟨b, 0, none⟩ = some v := fun ob => (nwa w ob).cellOf h.cv
  have lb := heap_lt h.blk
  have hle := h.len
  obtain ⟨va, vc, hv⟩ := ownsRow_form h.own
  subst hv
  have hw : (65536 : Int) < (s.size : Int) ∨ (¬ (65536 : Int) < (s.size : Int) ∧ (1048576 : Int) ≤ (L.length : Int)) := by omega
  clear h hl
  rcases hw with hw | ⟨hw1, hw2⟩
  all_goals
    go_enter Tryz.func25, Tryz.ntmps25
    go_wp2_with fail
    refine (Q.out _).mono ?_
    rintro e w1 ⟨rfl, n1⟩
    obtain ⟨l0, b0, n2⟩ := one_made n1
    have d0 := cell2a b0
    have d1 := cell2b b0
    have f0 := frozen_of b0 0
    have f1 := frozen_of b0 1
    clear n1
    go_wp2
    refine bodyPost_ret (results_slot_cell (V := #[.int .i64 4, .int .i64 (-1)]) (ty := 61) (f := (0, 0)) Tryz.results25 Tryz.isAgg61 Tryz.sizeOf61 rfl _ rfl ?_ rfl) rfl ⟨rfl, (by repeat first | with_reducible exact n2 | with_reducible refine Fr.alloc ?_ _ | with_reducible refine Fr.drew ?_ | (with_reducible refine Fr.setCell ?_ _ _ (fun h => ?_); rotate_left; focus (simp only at h; omega)))⟩
    (repeat first | with_reducible exact b0 | with_reducible exact heap_new _ _ | with_reducible exact heap_next _ _ _ | with_reducible exact heap_third _ _ _ _ | with_reducible refine hp_dr ?_ | (with_reducible refine hp_ne ?_ ?_; focus omega) | (with_reducible refine hp_al ?_ ?_; focus (first | omega | (simp <;> omega))) | with_reducible apply hp_set) <;> rfl
theorem stays_ne {w2 : World} {v v' : Value} {g j : Nat} (h : Stays w2 v v') (hg : v'.ownBlock = some g) (h1 : ∀ g, v.ownBlock = some g → g < j) (h2 : j < w2.heap.size) : g ≠ j := by
  rcases h with e | ⟨g', hg', hl⟩
  · have := h1 g (by rw [← e]; exact hg); omega
  · rw [hg'] at hg; injection hg with hg; omega
theorem text_next (w : World) (ob : Obj) (x : Value) (t : TypeId) : ∀ j u, [x][j]? = some u → ((w.alloc ob).alloc (.cells #[x] t)).cell? ((⟨w.heap.size + 1, 0, none⟩ : Addr).add j) = some u := by
  intro j u hj
  rw [addZ, cell_of (heap_next w _ _)]
  match j, hj with
  | 0, hj => simpa using hj
/-- Behind the document's append. -/
theorem Dg.put {w w2 w5 : World} {b base : Nat} {v v' : Value} {L : List ByteArray} {s : ByteArray} (h : Dg w b base v L) (hs : s.size ≤ 65536) (hl : L.length < 1048576) (n2 : Nw w w2)
    (o5 : w5.ownsRow base 9 1 v' (L.length + 1) (ts L ++ [.string s])) (t5 : Two w2 w5 9 1 v v' L.length 1 (ts L ++ [.string s])) :
    w5.heap[b]? = some (.cells #[v] 31) ∧ Dg (w5.setCell ⟨b, 0, none⟩ v') b base v' (L ++ [s]) ∧ Stays w v v' ∧ Fr (fun k => k = b ∨ v.ownBlock = some k) w (w5.setCell ⟨b, 0, none⟩ v') := by
  have hlt := h.lt
  have hb2 := (n2.block b (heap_lt h.blk) (fun q => q)).trans h.blk
  have hb5 := (t5.fr.block b (heap_lt hb2) (fun q => by have := (h.own.lt b q).1; omega)).trans hb2
  have s2 := n2.size
  have s5 := t5.fr.size
  refine ⟨hb5, ⟨hp_set hb5 rfl, ?_, ?_, ?_, ?_⟩, ?_, ?_⟩
  · rw [List.length_append, ts_app]
    exact ownsRow_setCell_other o5 (fun q => by have := (o5.lt _ q).1; simp only at this; omega) _
  · simp only [World.setCell, Array.size_modify]; omega
  · rw [List.length_append, List.length_singleton]; omega
  · intro x hx
    rcases List.mem_append.1 hx with hx | hx
    · exact h.sz x hx
    · rw [List.mem_singleton.1 hx]; exact hs
  · exact (t5.stays (by omega)).mono s2
  · refine Fr.setCell ?_ _ _ (fun _ => .inl rfl)
    exact (n2.mono (fun _ _ f => f.elim)).trans t5.fr (fun j _ q => .inr q)
set_option maxRecDepth 100000 in
set_option maxHeartbeats 2000000 in
theorem dappend_yes {w : World} {b base : Nat} {v : Value} {L : List ByteArray} (h : Dg w b base v L) (s : ByteArray) (hs : s.size ≤ 65536) (hl : L.length < 1048576) :
    Calls Tryz.prog 25 #[.pointer (some ⟨b, 0, none⟩), .string s] w fun e w' => e = .returned (.tuple #[.int .u64 (L.length : Int), flt 0 0]) ∧ ∃ v', Dg w' b base v' (L ++ [s]) ∧ Stays w v v' ∧ Fr (fun k => k = b ∨ v.ownBlock = some k) w w' := by
  obtain ⟨i0, hi, hz0, hz1, hz2⟩ := info_parts infoT
  have c1 : ∀ ob, (w.alloc ob).cell? ⟨b, 0, none⟩ = some v := fun ob => (nwa w ob).cellOf h.cv
  have c2 : ∀ ob oc, ((w.alloc ob).alloc oc).cell? ⟨b, 0, none⟩ = some v := fun ob oc => Nw.cellOf ((nwa w ob).alloc oc) h.cv
  have lb := heap_lt h.blk
  have HL : Hid (Dg w b base v L) := h
  have hlt3 : Hid (b < base ∧ base ≤ w.heap.size) := h.lt
  have HF : Hid (∀ w2 v' w5, Nw w w2 → w5.ownsRow base 9 1 v' (L.length + 1) (ts L ++ [.string s]) → Two w2 w5 9 1 v v' L.length 1 (ts L ++ [.string s]) → _) := fun w2 v' w5 n o t => h.put hs hl n o t
  have hs2 : ¬ (65536 : Int) < (s.size : Int) := by omega
  have hl2 : decide ((1048576 : Int) ≤ (L.length : Int)) = false := by simp; omega
  have hl3 : Hid (L.length < 1048576) := hl
  have hwa : wrap64 (L.length : Int) = (L.length : Int) := by unfold wrap64; omega
  have hwb : IntKind.u64.wrap (L.length : Int) = (L.length : Int) := by rw [w64]; omega
  obtain ⟨va, vc, hv⟩ := ownsRow_form h.own
  subst hv
  clear h hl
  go_enter Tryz.func25, Tryz.ntmps25
  go_wp2_with (at_builtin; refine wpList_two _ rfl (.tmp 22) (.tmp 24) 25 rfl base 9 i0 (.string ⟨#[]⟩) 1 16 Tryz.underlying25 hi hz0 hz1 hz2 rfl (by decide) (.slice va L.length vc) L.length (ts L) rfl ((HL.out.nw ((nwa w _).alloc _)).own) ⟨w.heap.size + 1, 0, none⟩ 1 1 [.string s] rfl rfl (text_next _ _ _ _) (by simp [Value.oneCell']) (by have := hl3.out; unfold maxLen; omega) (by have := hl3.out; omega) (by have := hlt3.out; simp; omega) ?_; intro v' w5 o5 t5; obtain ⟨hb5, HF5⟩ := HF.out _ v' w5 ((nwa w _).alloc _) o5 t5; have cb5 := (cell_of hb5 0).trans rfl; have fb5 := frozen_of hb5 0; have lb5 := heap_lt hb5; have HF6 := show Hid _ from HF5; have hfl : w5.heap[w.heap.size]? = some (.cells #[.int .i64 0, .int .i64 0] 61) := (t5.fr.block _ (by simp; omega) (fun q => by have := (HL.out.own.lt _ q).2; omega)).trans (hp_al (by simp) (heap_new _ _)); have HFL := show Hid _ from hfl; have hne : w.heap.size ≠ b := (by omega); have ho5 : Hid (∀ g, v'.ownBlock = some g → g ≠ w.heap.size) := (fun g hg => stays_ne (t5.stays (by omega)) hg (fun g hg => (HL.out.own.lt g hg).2) (by simp; omega)); obtain ⟨xa, xc, rfl⟩ := ownsRow_form o5; have hz := hp_ne (o := 0) (u := .slice xa (L.length + 1) xc) hne hfl; have z0 := cell2a hz; have z1 := cell2b hz; have y0 := frozen_of hz 0; have y1 := frozen_of hz 1; have HZ := show Hid _ from hz; have sz5 : Hid ((w5.setCell ⟨b, 0, none⟩ (.slice xa (L.length + 1) xc)).heap.size = w5.heap.size) := (by simp [World.setCell, Hid]); clear o5 t5 hb5 HF5 hfl hz)
  refine bodyPost_ret (results_slot_cell (V := #[.int .i64 0, .int .i64 0]) (ty := 61) (f := (0, 0)) Tryz.results25 Tryz.isAgg61 Tryz.sizeOf61 rfl _ rfl ?_ rfl) rfl ⟨rfl, _, HF6.out.1.fr (S := fun k => k = w.heap.size) (Fr.setCell (S := fun k => k = w.heap.size) (Fr.setCell (S := fun k => k = w.heap.size) (Fr.refl _ _) _ _ (fun _ => rfl)) _ _ (fun _ => rfl)) (fun q => hne q.symm) (fun g hg q => ho5.out g hg q), HF6.out.2.1, (HF6.out.2.2.setCell _ _ (fun q => by simp only at q; omega)).setCell _ _ (fun q => by simp only at q; omega)⟩
  (repeat first | with_reducible exact HZ.out | with_reducible exact heap_new _ _ | with_reducible exact heap_next _ _ _ | with_reducible exact heap_third _ _ _ _ | with_reducible refine hp_dr ?_ | (with_reducible refine hp_ne ?_ ?_; focus omega) | (with_reducible refine hp_al ?_ ?_; focus (first | omega | (simp <;> omega))) | with_reducible apply hp_set) <;> rfl
end Go.Proofs.YtdhlmpjoggnkkaaGreatDoor
