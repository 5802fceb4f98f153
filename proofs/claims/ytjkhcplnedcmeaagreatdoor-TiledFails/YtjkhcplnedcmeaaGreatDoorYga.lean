/- plan: the part of a stretch; Root. -/
import Derived.Test.YtjkhcplnedcmeaaGreatDoorSh2
import Derived.Test.YtjkhcplnedcmeaaGreatDoorSg
namespace Go.Proofs.YtjkhcplnedcmeaaGreatDoor
open Go.RowKit
set_option linter.unusedVariables false
set_option linter.unusedSimpArgs false
abbrev zp : Value := .agg #[.slice none 0 0]
theorem infoP : (Tryz.prog.info? 177).map (fun i => (i.zero, i.size, i.bytes)) = some (some zp, 1, 24) := by kernel_rfl
theorem info_partsP : ∃ i, Tryz.prog.info? 177 = some i ∧ i.zero = some zp ∧ i.size = 1 ∧ i.bytes = 24 := by
  obtain ⟨i, hi, he⟩ := Option.map_eq_some_iff.1 infoP
  simp only [Prod.mk.injEq] at he
  exact ⟨i, hi, he.1, he.2.1, he.2.2⟩
theorem cell1 {w : World} {b : Nat} {x : Value} {t : TypeId} {f : Nat × Nat} (h : w.heap[b]? = some (.cells #[x] t f)) : w.cell? ⟨b, 0, none⟩ = some x := (cell_of h 0).trans rfl
set_option maxHeartbeats 1000000 in
theorem ppart_yes (b e : Nat) (hbe : b ≤ e) (he : e ≤ 9223372036854775808) (w : World) (hT : TabAt w) :
    Calls Tryz.prog 131 #[sp b e] w fun x w' => ∃ v, x = .returned (.tuple #[.agg #[v], .nilIface]) ∧ w'.ownsRow w.heap.size 273 2 v (cov b e).length (fl (cov b e)) ∧ Nw w w' := by
  have HT : Hid (TabAt w) := hT
  clear hT
  go_enter Tryz.func131, Tryz.ntmps131
  go_wp2_with fail
  refine (cover_yes b e hbe he _ (HT.out.nw (by repeat first | with_reducible exact nwr w | with_reducible refine Fr.alloc ?_ _ | with_reducible refine Fr.drew ?_ | (with_reducible refine Fr.setCell ?_ _ _ (fun h => ?_); rotate_left; focus (simp only at h; omega))))).mono ?_
  rintro x w1 ⟨v, rfl, o1, n1⟩
  obtain ⟨va, vc, rfl⟩ := ownsRow_form o1
  obtain ⟨⟨l0, l1⟩, b0, b1, n2⟩ := two_made n1
  have O1 : Hid (w1.ownsRow w.heap.size 273 2 (.slice va (cov b e).length vc) (cov b e).length (fl (cov b e))) := ownsRow_base o1 (by simp; omega)
  have HG : Hid (∀ g, (Value.slice va (cov b e).length vc).ownBlock = some g → w.heap.size + 1 + 1 ≤ g) := fun g hg => by have := (o1.lt g hg).1; simp at this; omega
  clear o1 n1
  have z0 := frozen_of b1 0
  have y0 := cell1 b1
  go_wp2
  refine bodyPost_ret (results_cell_slot (V := #[.slice va (cov b e).length vc]) (ty := 177) (f := (0, 0)) Tryz.results131 Tryz.isAgg177 Tryz.sizeOf177 rfl _ rfl ?_ rfl) rfl ⟨_, rfl, ownsRow_setCell_other O1.out (fun q => by have := HG.out _ q; simp only at this; omega) _, (by repeat first | with_reducible exact n2 | with_reducible refine Fr.alloc ?_ _ | with_reducible refine Fr.drew ?_ | (with_reducible refine Fr.setCell ?_ _ _ (fun h => ?_); rotate_left; focus (simp only at h; omega)))⟩
  (repeat first | with_reducible exact b1 | with_reducible exact heap_new _ _ | with_reducible exact heap_next _ _ _ | with_reducible exact heap_third _ _ _ _ | with_reducible refine hp_dr ?_ | (with_reducible refine hp_ne ?_ ?_; focus omega) | (with_reducible refine hp_al ?_ ?_; focus (first | omega | (simp <;> omega))) | with_reducible apply hp_set) <;> rfl
set_option maxHeartbeats 1000000 in
theorem proot_yes (n : Nat) (hn : n ≤ 9223372036854775808) (w : World) (hT : TabAt w) :
    Calls Tryz.prog 91 #[.int .u64 (n : Int)] w fun x w' => ∃ v, x = .returned (.tuple #[.agg #[v], .nilIface]) ∧ w'.ownsRow w.heap.size 273 2 v (cov 0 n).length (fl (cov 0 n)) ∧ Nw w w' := by
  have HT : Hid (TabAt w) := hT
  clear hT
  go_enter Tryz.func91, Tryz.ntmps91
  go_wp2_with fail
  refine (ppart_yes 0 n (by omega) hn _ (HT.out.nw (by repeat first | with_reducible exact nwr w | with_reducible refine Fr.alloc ?_ _ | with_reducible refine Fr.drew ?_ | (with_reducible refine Fr.setCell ?_ _ _ (fun h => ?_); rotate_left; focus (simp only at h; omega))))).mono ?_
  rintro x w1 ⟨v, rfl, o1, n1⟩
  obtain ⟨va, vc, rfl⟩ := ownsRow_form o1
  obtain ⟨l1, b1, n2⟩ := one_made n1
  have O1 : Hid (w1.ownsRow w.heap.size 273 2 (.slice va (cov 0 n).length vc) (cov 0 n).length (fl (cov 0 n))) := ownsRow_base o1 (by simp)
  have HG : Hid (∀ g, (Value.slice va (cov 0 n).length vc).ownBlock = some g → w.heap.size + 1 ≤ g) := fun g hg => by have := (o1.lt g hg).1; simp at this; omega
  clear o1 n1
  have z0 := frozen_of b1 0
  have y0 := cell1 b1
  go_wp2
  refine bodyPost_ret (results_cell_slot (V := #[.slice va (cov 0 n).length vc]) (ty := 177) (f := (0, 0)) Tryz.results91 Tryz.isAgg177 Tryz.sizeOf177 rfl _ rfl ?_ rfl) rfl ⟨_, rfl, ownsRow_setCell_other O1.out (fun q => by have := HG.out _ q; simp only at this; omega) _, (by repeat first | with_reducible exact n2 | with_reducible refine Fr.alloc ?_ _ | with_reducible refine Fr.drew ?_ | (with_reducible refine Fr.setCell ?_ _ _ (fun h => ?_); rotate_left; focus (simp only at h; omega)))⟩
  (repeat first | with_reducible exact b1 | with_reducible exact heap_new _ _ | with_reducible exact heap_next _ _ _ | with_reducible exact heap_third _ _ _ _ | with_reducible refine hp_dr ?_ | (with_reducible refine hp_ne ?_ ?_; focus omega) | (with_reducible refine hp_al ?_ ?_; focus (first | omega | (simp <;> omega))) | with_reducible apply hp_set) <;> rfl
end Go.Proofs.YtjkhcplnedcmeaaGreatDoor
namespace Go.Proofs.YtjkhcplnedcmeaaGreatDoor
open Go.RowKit
set_option linter.unusedVariables false
set_option linter.unusedSimpArgs false
theorem row_neT {w : World} {b1 b2 : Nat} {e1 e2 : TypeId} {s1 s2 n1 n2 : Nat} {v1 v2 : Value} {x1 x2 : List Value} (h1 : w.ownsRow b1 e1 s1 v1 n1 x1) (h2 : w.ownsRow b2 e2 s2 v2 n2 x2) (hne : e1 ≠ e2) : ∀ g, v1.ownBlock = some g → v2.ownBlock ≠ some g := by
  intro g hg1 hg2
  rcases h1.2 with ⟨rfl, _⟩ | ⟨g1, c1, cur1, rfl, z1, z2⟩
  · simp [Value.ownBlock] at hg1
  · rcases h2.2 with ⟨rfl, _⟩ | ⟨g2, c2, cur2, rfl, y1, y2⟩
    · simp [Value.ownBlock] at hg2
    · simp only [Value.ownBlock, Option.some.injEq] at hg1 hg2
      subst hg1
      subst hg2
      have q := z2.1.symm.trans y2.1
      simp only [Option.some.injEq, Obj.cells.injEq] at q
      exact hne q.2.1
/-- Rows of trees, each of its own, the later one in a later block. -/
def Rs (w : World) (base : Nat) (xs : List Value) (ls : List (List (Nat × Nat))) : Prop :=
  xs.length = ls.length ∧ (∀ (k : Nat) x l, xs[k]? = some x → ls[k]? = some l → w.ownsRow base 273 2 x l.length (fl l)) ∧
    xs.Pairwise (fun x y => ∀ g g', x.ownBlock = some g → y.ownBlock = some g' → g < g')
theorem Rs.nil (w : World) (base : Nat) : Rs w base [] [] := ⟨rfl, fun k x l h => by simp at h, List.Pairwise.nil⟩
theorem Rs.keep {w w' : World} {base : Nat} {xs : List Value} {ls : List (List (Nat × Nat))} (h : Rs w base xs ls) (hk : ∀ x ∈ xs, ∀ g, g < w.heap.size → x.ownBlock = some g → w'.heap[g]? = w.heap[g]?) : Rs w' base xs ls :=
  ⟨h.1, fun k x l hx hl => ownsRow_keep (h.2.1 k x l hx hl) (fun g hg => hk x (List.mem_of_getElem? hx) g ((h.2.1 k x l hx hl).lt g hg).2 hg), h.2.2⟩
theorem Rs.nw {w w' : World} {base : Nat} {xs : List Value} {ls : List (List (Nat × Nat))} (h : Rs w base xs ls) (n : Nw w w') : Rs w' base xs ls := h.keep fun x _ g hg _ => n.block g hg (fun f => f)
theorem Rs.at {w : World} {base : Nat} {xs : List Value} {ls : List (List (Nat × Nat))} (h : Rs w base xs ls) {x : Value} (hx : x ∈ xs) : ∃ l, w.ownsRow base 273 2 x l.length (fl l) := by
  obtain ⟨k, hk⟩ := List.getElem?_of_mem hx
  have hkl := (List.getElem?_eq_some_iff.1 hk).1
  obtain ⟨l, hl⟩ : ∃ l, ls[k]? = some l := ⟨_, List.getElem?_eq_getElem (by rw [← h.1]; exact hkl)⟩
  exact ⟨l, h.2.1 k x l hk hl⟩
theorem Rs.put {w : World} {base : Nat} {xs : List Value} {ls : List (List (Nat × Nat))} (h : Rs w base xs ls) {x : Value} {l : List (Nat × Nat)} (hx : w.ownsRow base 273 2 x l.length (fl l))
    (hn : ∀ y ∈ xs, ∀ g g', y.ownBlock = some g → x.ownBlock = some g' → g < g') : Rs w base (xs ++ [x]) (ls ++ [l]) := by
  refine ⟨by simp [h.1], fun k y m hy hm => ?_, ?_⟩
  · by_cases hk : k < xs.length
    · rw [List.getElem?_append_left hk] at hy
      rw [List.getElem?_append_left (by rw [← h.1]; exact hk)] at hm
      exact h.2.1 k y m hy hm
    · rw [List.getElem?_append_right (by omega)] at hy
      rw [List.getElem?_append_right (by rw [← h.1]; omega)] at hm
      rw [← h.1] at hm
      obtain ⟨d, hd⟩ : ∃ d, d = k - xs.length := ⟨_, rfl⟩
      rw [← hd] at hy hm
      rcases d with _ | d
      · simp at hy hm
        subst hy hm
        exact hx
      · simp at hy
  · rw [List.pairwise_append]
    exact ⟨h.2.2, List.pairwise_singleton _ _, fun a ha b hb => by simp at hb; subst hb; exact hn a ha⟩
/-- Parts of one's own in memory. -/
def Pts (w : World) (base : Nat) (v : Value) (xs : List Value) (ls : List (List (Nat × Nat))) : Prop :=
  w.ownsRow base 177 1 v ls.length xs ∧ Rs w base xs ls
theorem Pts.nw {w w' : World} {base : Nat} {v : Value} {xs : List Value} {ls : List (List (Nat × Nat))} (h : Pts w base v xs ls) (n : Nw w w') : Pts w' base v xs ls :=
  ⟨ownsRow_keep h.1 (fun g hg => n.block g (h.1.lt g hg).2 (fun f => f)), h.2.nw n⟩
theorem Pts.low {w : World} {base base' : Nat} {v : Value} {xs : List Value} {ls : List (List (Nat × Nat))} (h : Pts w base v xs ls) (hb : base' ≤ base) : Pts w base' v xs ls :=
  ⟨ownsRow_base h.1 hb, h.2.1, fun k x l hx hl => ownsRow_base (h.2.2.1 k x l hx hl) hb, h.2.2.2⟩
abbrev cvr (s : Nat × Nat) : List (Nat × Nat) := cov s.1 s.2
theorem pt_new {w : World} (x : Value) (t : TypeId) : ∀ j u, [x][j]? = some u → (w.alloc (.cells #[x] t)).cell? ((⟨w.heap.size, 0, none⟩ : Addr).add j) = some u := by
  intro j u h
  rcases j with _ | j
  · simp at h
    subst h
    rw [addZ]
    exact (cell_of (heap_new _ _) 0).trans rfl
  · simp at h
set_option maxRecDepth 100000 in
set_option maxHeartbeats 4000000 in
theorem pparts_yes (u : Value) (l : List (Nat × Nat)) (hl : l.length ≤ 1000) (hok : ∀ s ∈ l, s.1 ≤ s.2 ∧ s.2 ≤ 9223372036854775808) (w : World) (hu : Spn w u l) (hT : TabAt w) :
    Calls Tryz.prog 132 #[u, .nilIface] w fun x w' => ∃ v xs, x = .returned (.tuple #[v, .nilIface]) ∧ Pts w' w.heap.size v xs (l.map cvr) ∧ Nw w w' := by
  have HT : Hid (TabAt w) := hT
  have HOK : Hid (∀ s ∈ l, s.1 ≤ s.2 ∧ s.2 ≤ 9223372036854775808) := hok
  obtain ⟨i0, hi, hz0, hz1, hz2⟩ := info_partsP
  obtain ⟨ad, ca, rfl, hu⟩ := hu
  have HU : Hid (∀ k t, l[k]? = some t → ∃ g off, ad = some ⟨g, off, none⟩ ∧ g < w.heap.size ∧ w.cell? ⟨g, off + k * 2, none⟩ = some (.int .u64 (t.1 : Int)) ∧ w.cell? ⟨g, off + k * 2 + 1, none⟩ = some (.int .u64 (t.2 : Int))) := hu
  clear hu hT hok
  obtain ⟨n, hn⟩ : ∃ n, n = l.length := ⟨_, rfl⟩
  have HN : Hid (n = l.length) := hn
  rw [← hn] at hl ⊢
  clear hn
  go_enter Tryz.func132, Tryz.ntmps132
  go_wp2
  go_loopw [6, 16] (fun v i wr => ∃ (k : Nat) (xs : List Value), k ≤ n ∧ i = .int .i64 k ∧ xs.length = k ∧ wr.ownsRow w.heap.size 177 1 v k xs ∧ Rs wr w.heap.size xs ((l.take k).map cvr) ∧ Nw w wr) (fun _ i _ => n - (intOf i).toNat)
  case atStart => exact ⟨0, [], by omega, rfl, rfl, World.ownsRow_nil _ _ _ _, Rs.nil _ _, nwr w⟩
  case round =>
    obtain ⟨k, xs, hk, rfl, hxl, hown, hrs, hnw⟩ := hrel
    by_cases hlt : k < n
    · obtain ⟨t, ht⟩ : ∃ t, l[k]? = some t := ⟨_, List.getElem?_eq_getElem (by rw [← HN.out]; exact hlt)⟩
      obtain ⟨g, off, rfl, g1, g2, g3⟩ := HU.out k t ht
      obtain ⟨x, y⟩ := t
      have g2' := hnw.cellOf g2
      have g3' := hnw.cellOf g3
      obtain ⟨o1, o2⟩ := HOK.out _ (List.mem_of_getElem? ht)
      have HX : Hid ((l.take (k + 1)).map cvr = (l.take k).map cvr ++ [cov x y]) := by show _ = _; rw [List.take_add_one, ht]; simp
      have HO : Hid (wr.ownsRow w.heap.size 177 1 u6 k xs) := hown
      have HR : Hid (Rs wr w.heap.size xs ((l.take k).map cvr)) := hrs
      have HW : Hid (Nw w wr) := hnw
      have HL : Hid (xs.length = k) := hxl
      clear g2 g3 ht hown hrs hnw hxl
      have hki : (k : Int) < (n : Int) := by omega
      go_wp2_with fail
      refine (ppart_yes x y o1 o2 _ (HT.out.nw (by repeat first | with_reducible exact HW.out | with_reducible refine Fr.alloc ?_ _ | with_reducible refine Fr.drew ?_ | (with_reducible refine Fr.setCell ?_ _ _ (fun h => ?_); rotate_left; focus (simp only at h; omega))))).mono ?_
      rintro e w1 ⟨v1, rfl, q1, n1⟩
      obtain ⟨va, vc, rfl⟩ := ownsRow_form q1
      have HQ : Hid (w1.ownsRow wr.heap.size 273 2 (.slice va (cov x y).length vc) (cov x y).length (fl (cov x y))) := ownsRow_base q1 (by simp)
      have N1 : Hid (Nw wr w1) := Nw.tr (nwa wr _) n1
      have O2 : w1.ownsRow w.heap.size 177 1 u6 k xs := ownsRow_keep HO.out (fun g hg => N1.out.block g (HO.out.lt g hg).2 (fun f => f))
      have own5 : Hid (((w1.alloc (.cells #[.slice va (cov x y).length vc] 177)).alloc (.cells #[.slice va (cov x y).length vc] 177)).ownsRow w.heap.size 177 1 u6 k xs) := (O2.alloc _).alloc _
      have hnew := pt_new (w := w1.alloc (.cells #[.slice va (cov x y).length vc] 177)) (.slice va (cov x y).length vc) 177
      rw [World.size_alloc] at hnew
      have HNew : Hid (∀ j u, [Value.slice va (cov x y).length vc][j]? = some u → ((w1.alloc (.cells #[.slice va (cov x y).length vc] 177)).alloc (.cells #[.slice va (cov x y).length vc] 177)).cell? ((⟨w1.heap.size + 1, 0, none⟩ : Addr).add j) = some u) := hnew
      have HSZ : Hid (w.heap.size ≤ w1.heap.size ∧ wr.heap.size ≤ w1.heap.size) := ⟨Nat.le_trans HW.out.size N1.out.size, N1.out.size⟩
      have hbase : w.heap.size ≤ ((w1.alloc (.cells #[.slice va (cov x y).length vc] 177)).alloc (.cells #[.slice va (cov x y).length vc] 177)).heap.size := by have := HSZ.out.1; simp; omega
      have hkk : k + 1 ≤ 1000 := by omega
      clear q1 n1 O2 hnew
      go_wp2_with (at_builtin; refine wpList_two _ rfl (.tmp 28) (.tmp 30) 174 rfl w.heap.size 177 i0 zp 1 24 Tryz.underlying174 hi hz0 hz1 hz2 rfl (by decide) u6 k xs rfl own5.out ⟨w1.heap.size + 1, 0, none⟩ 1 1 [.slice va (cov x y).length vc] rfl rfl HNew.out (by simp [Value.oneCell']) (by unfold maxLen; omega) (by omega) hbase ?_; intro v' w5 hown' htwo)
      obtain ⟨wa, hwa⟩ : ∃ wa, wa = (w1.alloc (.cells #[.slice va (cov x y).length vc] 177)).alloc (.cells #[.slice va (cov x y).length vc] 177) := ⟨_, rfl⟩
      rw [← hwa] at htwo own5
      have NA : Nw w1 wa := by rw [hwa]; exact (nwa w1 _).alloc _
      have FT := htwo.fr
      have R1 : Rs wa w.heap.size xs ((l.take k).map cvr) := HR.out.nw (N1.out.tr NA)
      have hsep : ∀ z, (∃ m : List (Nat × Nat), wa.ownsRow w.heap.size 273 2 z m.length (fl m)) → ∀ g, z.ownBlock = some g → u6.ownBlock ≠ some g := fun z ⟨m, hz⟩ g hg => row_neT hz own5.out (by decide) g hg
      have R5 : Rs w5 w.heap.size xs ((l.take k).map cvr) := R1.keep fun z hz g hg ho => FT.block g hg (fun q => hsep z (R1.at hz) g ho q)
      have Q2 : wa.ownsRow w.heap.size 273 2 (.slice va (cov x y).length vc) (cov x y).length (fl (cov x y)) := ownsRow_base (ownsRow_keep HQ.out (fun g hg => NA.block g (HQ.out.lt g hg).2 (fun f => f))) HW.out.size
      have Q5 : w5.ownsRow w.heap.size 273 2 (.slice va (cov x y).length vc) (cov x y).length (fl (cov x y)) := ownsRow_keep Q2 (fun g hg => FT.block g (Q2.lt g hg).2 (fun q => hsep _ ⟨_, Q2⟩ g hg q))
      have hlater : ∀ z ∈ xs, ∀ g g', z.ownBlock = some g → (Value.slice va (cov x y).length vc).ownBlock = some g' → g < g' := fun z hz g g' h1 h2 => by
        obtain ⟨m, hm⟩ := HR.out.at hz
        have a1 := (hm.lt g h1).2
        have a2 := (HQ.out.lt g' h2).1
        omega
      have N5 : Nw w w5 := ((HW.out.tr N1.out).tr NA).trans FT (fun j hj q => by
        have := (HO.out.lt j q).1
        omega)
      have P5 := R5.put Q5 hlater
      rw [← HX.out] at P5
      have P6 : Hid (Rs w5 w.heap.size (xs ++ [.slice va (cov x y).length vc]) ((l.take (k + 1)).map cvr)) := P5
      have HN5 : Hid (Nw w w5) := N5
      have HO5 : Hid (w5.ownsRow w.heap.size 177 1 v' (k + 1) (xs ++ [.slice va (cov x y).length vc])) := hown'
      clear P5 N5 hlater Q5 Q2 R5 hsep R1 FT NA hwa hown' htwo
      go_wp2
      exact ⟨⟨k + 1, xs ++ [.slice va (cov x y).length vc], by omega, by go_num, by simp [HL.out], HO5.out, P6.out, HN5.out⟩, by simp [intOf]; omega⟩
    · obtain rfl : k = n := by omega
      obtain ⟨va, vc, rfl⟩ := ownsRow_form hown
      have HO : Hid (wr.ownsRow w.heap.size 177 1 (.slice va k vc) k xs) := hown
      have HR : Hid (Rs wr w.heap.size xs ((l.take k).map cvr)) := hrs
      have HW : Hid (Nw w wr) := hnw
      clear hown hrs hnw
      go_wp2
      refine bodyPost_ret (v := .tuple #[.slice va k vc, .nilIface]) (by simp [results, Tryz.results132]) rfl ⟨_, xs, rfl, ?_, HW.out⟩
      have := HR.out
      rw [List.take_of_length_le (by rw [HN.out]; exact Nat.le_refl _)] at this
      exact ⟨by rw [List.length_map, ← HN.out]; exact HO.out, this⟩
end Go.Proofs.YtjkhcplnedcmeaaGreatDoor
