/- The document's cache: New, Keys. -/
import Derived.Test.YtgdjoaiahigjpaaGreatDoorRc5
import Derived.Test.YtgdjoaiahigjpaaGreatDoorEg
namespace Go.Proofs.YtgdjoaiahigjpaaGreatDoor
namespace RC
open Go.RowKit
open CI (tk tk_none tk_some getA dropA putA)
set_option linter.unusedVariables false
set_option linter.unusedSimpArgs false
theorem results_slot_cell {P : Program} {w : World} {fn : Func} {i j : Nat} {t : TypeId} {n g : Nat} {tmps : Array Value} {V : Array Value} {ty : TypeId} {f : Nat × Nat} (hr : fn.results = #[.tmp j, .cell i t]) (hagg : ∀ W : World, (isAgg t).run P W = .ok true W) (hsz : ∀ W : World, (sizeOf t).run P W = .ok n W)
    (v : Value) (hv : tmps.getD j undef = v) (hx : tmps.getD i undef = .pointer (some ⟨g, 0, none⟩)) (hg : w.heap[g]? = some (.cells V ty f)) (hV : V.size = n) : (results fn tmps).run P w = .ok (.tuple #[v, .agg V]) w := by
  have hl : (loadCells ⟨g, 0, none⟩ n).run P w = .ok V w := by
    have := run_loadCells_list (P := P) w ⟨g, 0, none⟩ V.toList (fun j v hv => by
      rw [addZ, cell_of hg]
      simpa using hv)
    simpa [hV] using this
  have ha : ∀ (W : World) (q : Nat), (asAddr (.pointer (some ⟨q, 0, none⟩))).run P W = .ok ⟨q, 0, none⟩ W := fun W q => by simp [asAddr]
  have hx2 : tmps[i]?.getD undef = .pointer (some ⟨g, 0, none⟩) := by rw [← hx]; simp [Array.getD]; split <;> simp_all
  have hv2 : tmps[j]?.getD undef = v := by rw [← hv]; simp [Array.getD]; split <;> simp_all
  simp [results, hr, hx2, hv2, ha, loadVar, hagg, hsz, hl]
abbrev flt (c p : Int) : Obj := .cells #[.int .i64 c, .int .i64 p] 35
set_option maxRecDepth 100000 in
theorem dnew_yes {w : World} (cap : Nat) (hc : cap ≤ 1024) :
    Calls Tryz.prog 5 #[.int .i64 (cap : Int)] w fun e w' => ∃ b, e = .returned (.tuple #[.pointer (some ⟨b, 0, none⟩), .agg #[.int .i64 0, .int .i64 0]]) ∧ Dc w' (fun k => w.heap.size ≤ k) b cap [] ∧ Nw w w' := by
  have hc0 : ¬ (cap : Int) < 0 := by omega
  have hc1 : ¬ (1024 : Int) < cap := by omega
  obtain ⟨w1, hw1⟩ : ∃ w1, w.alloc (flt 0 0) = w1 := ⟨_, rfl⟩
  have b1 : w1.heap[w.heap.size]? = some (flt 0 0) := by rw [← hw1]; exact heap_new _ _
  have n1 : Nw w w1 := by rw [← hw1]; exact (Fr.refl _ _).alloc _
  have s1 : w1.heap.size = w.heap.size + 1 := by rw [← hw1]; simp
  have c0 : w1.cell? ⟨w.heap.size, 0, none⟩ = some (.int .i64 0) := (cell_of b1 0).trans rfl
  have c1 : w1.cell? ⟨w.heap.size, 1, none⟩ = some (.int .i64 0) := (cell_of b1 1).trans rfl
  have f0 := frozen_of b1 0
  have f1 := frozen_of b1 1
  have l1 : w.heap.size < w1.heap.size := by omega
  have HW1 : Hid (w.alloc (flt 0 0) = w1) := hw1
  have HS1 : Hid (w1.heap.size = w.heap.size + 1) := s1
  have HN1 : Hid (Nw w w1) := n1
  have HB1 : Hid (w1.heap[w.heap.size]? = some (flt 0 0)) := b1
  clear hw1 s1 n1 b1
  go_enter Tryz.func5, Tryz.ntmps5
  go_wp2_with fail
  rw [HW1.out]
  go_wp2
  have n2 : Nw w1 (w1.alloc (dcc cap (.slice none 0 0))) := (Fr.refl _ _).alloc _
  have hs := HS1.out
  refine bodyPost_ret (results_slot_cell Tryz.results5 Tryz.isAgg35 Tryz.sizeOf35 _ rfl rfl ((n2.block _ l1 (fun e => e)).trans HB1.out) rfl) rfl ⟨w.heap.size + 1, rfl, ⟨none, 0, ?_, .inl ⟨rfl, rfl, rfl⟩, by omega⟩, HN1.out.tr n2⟩
  rw [← hs]
  exact heap_new _ _
set_option maxRecDepth 100000 in
theorem dnew_no {w : World} (cap : Int) (hc : cap < 0 ∨ 1024 < cap) :
    Calls Tryz.prog 5 #[.int .i64 cap] w fun e w' => e = .returned (.tuple #[.pointer none, .agg #[.int .i64 2, .int .i64 (-1)]]) ∧ Nw w w' := by
  obtain ⟨w1, hw1⟩ : ∃ w1, w.alloc (flt 0 0) = w1 := ⟨_, rfl⟩
  have b1 : w1.heap[w.heap.size]? = some (flt 0 0) := by rw [← hw1]; exact heap_new _ _
  have n1 : Nw w w1 := by rw [← hw1]; exact (Fr.refl _ _).alloc _
  have q := plain_any 2 w1 (by decide)
  have HW1 : Hid (w.alloc (flt 0 0) = w1) := hw1
  have HB1 : Hid (w1.heap[w.heap.size]? = some (flt 0 0)) := b1
  have HN1 : Hid (Nw w w1) := n1
  clear hw1 b1 n1
  have HF : Hid (∀ w2, Nw w1 w2 → w2.heap[w.heap.size]? = some (flt 0 0) ∧ w2.cell? ⟨w.heap.size, 0, none⟩ = some (.int .i64 0) ∧ w2.cell? ⟨w.heap.size, 1, none⟩ = some (.int .i64 0) ∧ w2.frozen? ⟨w.heap.size, 0, none⟩ = false ∧ w2.frozen? ⟨w.heap.size, 1, none⟩ = false ∧ w.heap.size < w2.heap.size) := fun w2 n2 => by
    have b2 := (n2.block _ (heap_lt HB1.out) (fun e => e)).trans HB1.out
    exact ⟨b2, (cell_of b2 0).trans rfl, (cell_of b2 1).trans rfl, frozen_of b2 0, frozen_of b2 1, heap_lt b2⟩
  by_cases h0 : cap < 0
  · clear hc
    go_enter Tryz.func5, Tryz.ntmps5
    go_wp2_with fail
    rw [HW1.out]
    refine q.mono ?_
    rintro e w2 ⟨rfl, n2⟩
    have N2 : Hid (Nw w1 w2) := n2
    obtain ⟨_, c0, c1, f0, f1, l2⟩ := HF.out w2 n2
    clear n2 q
    go_wp2
    exact bodyPost_ret (results_slot_cell Tryz.results5 Tryz.isAgg35 Tryz.sizeOf35 _ rfl rfl ((heap_set (heap_set (HF.out w2 N2.out).1 _) _).trans rfl) rfl) rfl ⟨rfl, (((HN1.out.tr N2.out).setCell _ _ (fun h => by simp only at h; omega)).setCell _ _ (fun h => by simp only at h; omega))⟩
  · have h1 : 1024 < cap := by omega
    clear hc
    go_enter Tryz.func5, Tryz.ntmps5
    go_wp2_with fail
    rw [HW1.out]
    refine q.mono ?_
    rintro e w2 ⟨rfl, n2⟩
    have N2 : Hid (Nw w1 w2) := n2
    obtain ⟨_, c0, c1, f0, f1, l2⟩ := HF.out w2 n2
    clear n2 q
    go_wp2
    exact bodyPost_ret (results_slot_cell Tryz.results5 Tryz.isAgg35 Tryz.sizeOf35 _ rfl rfl ((heap_set (heap_set (HF.out w2 N2.out).1 _) _).trans rfl) rfl) rfl ⟨rfl, (((HN1.out.tr N2.out).setCell _ _ (fun h => by simp only at h; omega)).setCell _ _ (fun h => by simp only at h; omega))⟩
def kis (l : List Int) : List Value := l.map (Value.int .i64)
set_option maxRecDepth 100000 in
set_option maxHeartbeats 1000000 in
theorem dkeys_any {W : World} {S : Nat → Prop} {b most : Nat} {L : LT} (h : Dc W S b most L) (hl : L.length ≤ 1500) :
    Calls Tryz.prog 17 #[.pointer (some ⟨b, 0, none⟩)] W fun e w' => ∃ v, e = .returned v ∧ w'.ownsRow W.heap.size 3 1 v L.length (kis (L.map Prod.fst)) ∧ Nw W w' := by
  obtain ⟨va, vc, hb, hi, hS⟩ := h
  have lb := heap_lt hb
  obtain ⟨n, hn⟩ : ∃ n, n = L.length := ⟨_, rfl⟩
  have Hn : Hid (n = L.length) := hn
  have hl2 : n ≤ 1500 := by omega
  have HB : Hid (∀ V, Nw W V → V.cell? ⟨b, 1, none⟩ = some (.slice va n vc) ∧ b < V.heap.size) := fun V nV => by
    have bV := (nV.block b lb (fun e => e)).trans hb
    rw [hn]
    exact ⟨(cell_of bV 1).trans rfl, heap_lt bV⟩
  have HI : Hid (∀ V, Nw W V → ∀ j x, L[j]? = some x → ∃ g, va = some ⟨g, 0, none⟩ ∧ V.cell? ⟨g, j * 2, none⟩ = some (.int .i64 x.1)) := fun V nV j x hx => by
    obtain ⟨g, e, q1, _⟩ := (hi.fr nV (fun _ _ _ _ e => e)).cell hx
    exact ⟨g, e, q1⟩
  obtain ⟨i0, hi0, hz0, hz1, hz2⟩ := IB.info_parts IB.infoS
  have HI0 : Hid (Tryz.prog.info? 3 = some i0 ∧ i0.zero = some (.int .i64 0) ∧ i0.size = 1 ∧ i0.bytes = 8) := ⟨hi0, hz0, hz1, hz2⟩
  rw [← hn]
  clear hb hi hn hl hi0 hz0 hz1 hz2
  go_enter Tryz.func17, Tryz.ntmps17
  go_wp2
  go_loopw [3, 4] (fun v3 v4 wx => ∃ (i : Nat) (xa : Option Addr) (xc : Nat), i ≤ n ∧ v4 = .int .i64 i ∧ v3 = .slice xa i xc ∧ wx.ownsRow W.heap.size 3 1 (.slice xa i xc) i (kis ((L.take i).map Prod.fst)) ∧ Nw W wx) (fun _ v4 _ => n - (intOf v4).toNat)
  case atStart => exact ⟨0, none, 0, by omega, rfl, rfl, by simpa [kis] using World.ownsRow_nil _ _ _ _, Fr.refl _ _⟩
  case round =>
    obtain ⟨i, xa, xc, hin, rfl, rfl, hown, nwx⟩ := hrel
    obtain ⟨c1, lb1⟩ := HB.out wr nwx
    by_cases hlt : i < n
    · have hil : (i : Int) < (n : Int) := by omega
      have hget : L[i]? = some (L[i]'(by rw [← Hn.out]; exact hlt)) := List.getElem?_eq_getElem _
      obtain ⟨g, rfl, e0⟩ := HI.out wr nwx i _ hget
      obtain ⟨x, hx⟩ : ∃ x, x = (L[i]'(by rw [← Hn.out]; exact hlt)).1 := ⟨_, rfl⟩
      rw [← hx] at e0
      have HTK : Hid (kis ((L.take i).map Prod.fst) ++ [Value.int .i64 x] = kis ((L.take (i + 1)).map Prod.fst)) := by
        show _ = _
        rw [List.take_add_one, hget, Option.toList_some, List.map_append, List.map_cons, List.map_nil, ← hx]
        simp [kis]
      have OWN : Hid ((wr.alloc (.cells #[.int .i64 x] 3)).ownsRow W.heap.size 3 1 (.slice xa i xc) i (kis ((L.take i).map Prod.fst))) := hown.alloc _
      have HSZ : Hid (W.heap.size ≤ (wr.alloc (.cells #[.int .i64 x] 3)).heap.size) := by show _ ≤ _; have := nwx.size; simp; omega
      have HNew : Hid (∀ j u, [Value.int .i64 x][j]? = some u → (wr.alloc (.cells #[.int .i64 x] 3)).cell? ((⟨wr.heap.size, 0, none⟩ : Addr).add j) = some u) := IB.one_new wr _ _
      have HFF : Hid (∀ v' w5, w5.ownsRow W.heap.size 3 1 v' (i + 1) (kis ((L.take i).map Prod.fst) ++ [Value.int .i64 x]) → Two (wr.alloc (.cells #[.int .i64 x] 3)) w5 3 1 (.slice xa i xc) v' i 1 (kis ((L.take i).map Prod.fst) ++ [Value.int .i64 x]) → ∃ ya yc, v' = .slice ya (i + 1 : Nat) yc ∧ w5.ownsRow W.heap.size 3 1 (.slice ya (i + 1 : Nat) yc) (i + 1) (kis ((L.take (i + 1)).map Prod.fst)) ∧ Nw W w5) := by
        intro v' w5 o5 t5
        rw [HTK.out] at o5
        obtain ⟨ya, yc, rfl⟩ : ∃ ya yc, v' = .slice ya (i + 1 : Nat) yc := by
          rcases o5.2 with ⟨_, h0⟩ | ⟨g, cap, cur, hv, _⟩
          · omega
          · exact ⟨_, _, hv⟩
        exact ⟨ya, yc, rfl, o5, (nwx.alloc _).trans t5.fr (fun j hj e => by have := (hown.lt j e).1; omega)⟩
      clear hown nwx hget hx
      go_wp2_with (at_builtin; refine wpList_two _ rfl (.tmp 14) (.tmp 23) 55 rfl W.heap.size 3 i0 (.int .i64 0) 1 8 Tryz.underlying55 HI0.out.1 HI0.out.2.1 HI0.out.2.2.1 HI0.out.2.2.2 rfl (by decide) (.slice xa i xc) i (kis ((L.take i).map Prod.fst)) rfl OWN.out ⟨wr.heap.size, 0, none⟩ 1 1 [Value.int .i64 x] rfl rfl HNew.out (by simp [Value.oneCell']) (by unfold maxLen; omega) (by omega) HSZ.out ?_; intro v' w5 o5 t5; have HX5 : Hid _ := HFF.out v' w5 o5 t5; clear o5 t5; obtain ⟨ya, yc, rfl, ho5, n5⟩ := HX5.out; have HO5 : Hid (w5.ownsRow W.heap.size 3 1 (.slice ya (i + 1 : Nat) yc) (i + 1) (kis ((L.take (i + 1)).map Prod.fst))) := ho5; have HN5 : Hid (Nw W w5) := n5; clear ho5 n5 HX5 e0)
      exact ⟨⟨i + 1, ya, yc, by omega, by go_num, rfl, HO5.out, HN5.out⟩, by simp [intOf]; omega⟩
    · obtain rfl : i = n := by omega
      have hil : ¬ (i : Int) < (i : Int) := by omega
      have e1 : L.take i = L := by rw [Hn.out, List.take_length]
      rw [e1] at hown
      have HO : Hid (wr.ownsRow W.heap.size 3 1 (.slice xa i xc) i (kis (L.map Prod.fst))) := hown
      have HN : Hid (Nw W wr) := nwx
      clear hown nwx e1
      go_wp2
      go_ret
      exact ⟨.slice xa i xc, rfl, HO.out, HN.out⟩
end RC
end Go.Proofs.YtgdjoaiahigjpaaGreatDoor
