/- tiled: a tree's hash out of pieces. -/
import Derived.Test.YtjkhcplnedcmeaaGreatDoorIa
import Derived.Test.YtjkhcplnedcmeaaGreatDoorJgy
import Derived.Test.YtjkhcplnedcmeaaGreatDoorYgc
import Derived.Test.YtjkhcplnedcmeaaGreatDoorYgd
import Derived.Test.YtjkhcplnedcmeaaGreatDoorLg1
namespace Go.Proofs.YtjkhcplnedcmeaaGreatDoor
open Go.RowKit
set_option linter.unusedVariables false
set_option linter.unusedSimpArgs false
set_option maxRecDepth 100000 in
theorem place_any (L I W : Nat) (hL : L ≤ 255) (hI : I < 18446744073709551616) (w : World) :
    Calls Tryz.prog 166 #[tl L I W] w fun e w' => e = .returned (.agg #[.int .u8 (L : Int), .int .u64 (I : Int)]) ∧ Nw w w' := by
  go_enter Tryz.func166, Tryz.ntmps166
  go_wp2
  (refine bodyPost_ret (results_cell (V := #[.int .u8 (L : Int), .int .u64 (I : Int)]) (ty := 280) (f := (0, 0)) Tryz.results166 Tryz.isAgg280 Tryz.sizeOf280 rfl ?_ rfl) rfl ⟨rfl, (by repeat first | with_reducible exact Fr.refl _ w | with_reducible refine Fr.alloc ?_ _ | with_reducible refine Fr.drew ?_ | (with_reducible refine Fr.setCell ?_ _ _ (fun h => ?_); rotate_left; focus (simp only at h; omega)))⟩; (repeat first | with_reducible exact heap_next w _ _ | with_reducible exact heap_new _ _ | with_reducible exact heap_next _ _ _ | with_reducible exact heap_third _ _ _ _ | with_reducible refine hp_dr ?_ | (with_reducible refine hp_ne ?_ ?_; focus omega) | (with_reducible refine hp_al ?_ ?_; focus (first | omega | (simp <;> omega))) | with_reducible apply hp_set) <;> rfl)
/-- A place as a key. -/
def plK (L I : Nat) (h : L ≤ 255 ∧ I < 18446744073709551616) : PM.KT := ⟨(L, I), h⟩
/-- The hash of a whole tree of the log. -/
def thL (l : List (List UInt8)) (c : Nat × Nat) : List UInt8 := ovr c.1 ((l.drop (c.2 * 2 ^ c.1)).take (2 ^ c.1))
theorem thL_32 {l : List (List UInt8)} (h : ∀ x ∈ l, x.length = 32) (c : Nat × Nat) : (thL l c).length = 32 := ovr_32 _ _ (fun x hx => h x (List.mem_of_mem_drop (List.mem_of_mem_take hx)))
/-- Block b is a map in which the hashes of the tiles stand that lie at the places K. -/
def Pcs (w : World) (b : Nat) (l : List (List UInt8)) (K : Nat → Nat → Prop) : Prop :=
  ∃ N M, PM.Mp w b N M ∧ ∀ q i h, K q i → ∃ g c, M (plK q i h) = some (g, wid q i l.length, c) ∧ Rw w (some ⟨g, 0, none⟩) c (tlH l q i (wid q i l.length)) ∧ g < w.heap.size
theorem Pcs.nw {w w' : World} {b : Nat} {l : List (List UInt8)} {K : Nat → Nat → Prop} (h : Pcs w b l K) (h32 : ∀ x ∈ l, x.length = 32) (n : Nw w w') : Pcs w' b l K := by
  obtain ⟨N, M, h1, h2⟩ := h
  refine ⟨N, M, h1.fr n (fun f => f), fun q i hq hk => ?_⟩
  obtain ⟨g, c, e, r, hg⟩ := h2 q i hq hk
  exact ⟨g, c, e, r.nw (tlH_32 l h32 q i _) n, Nat.lt_of_lt_of_le hg n.size⟩
set_option maxRecDepth 100000 in
set_option maxHeartbeats 1000000 in
theorem ptree_any {w : World} {b : Nat} {l : List (List UInt8)} {K : Nat → Nat → Prop} (hp : Pcs w b l K) (h32 : ∀ x ∈ l, x.length = 32) (hn : l.length ≤ 1048576) (L I : Nat) (hg : gdT l.length (L, I)) (hK : K (L / 8) (ofA L I / 256)) (hL : Laid w) :
    Calls Tryz.prog 187 #[.map (some b), cd L I] w fun e w' => e = .returned (.tuple #[.agg (hbs (thL l (L, I))), .nilIface]) ∧ Nw w w' := by
  obtain ⟨hm, he⟩ := hg
  change may L I at hm
  change (I + 1) * 2 ^ L ≤ l.length at he
  obtain ⟨W, hw, h0, hW, hin⟩ := tree_wid hm hn he
  have hL7 : L / 8 ≤ 255 := by have := hm.1; omega
  have hX : ofA L I / 256 < 18446744073709551616 := by
    have h1 := ofA_lt hm
    have h4 : 0 < 2 ^ (L % 8) := Nat.pow_pos (by decide)
    have h2 : 2 ^ (63 - 8 * (L / 8)) ≤ 2 ^ 63 := Nat.pow_le_pow_right (by decide) (by omega)
    have h3 : (2 : Nat) ^ 63 = 9223372036854775808 := by decide
    omega
  obtain ⟨N, M, hmp, hall⟩ := hp
  obtain ⟨g, c, hM, hrw, hgl⟩ := hall _ _ ⟨hL7, hX⟩ hK
  rw [hw] at hM hrw
  have hl := wid_in _ _ _ W hw h0
  have hT := tlH_len l (L / 8) (ofA L I / 256) W hl.1
  have hT32 := tlH_32 l h32 (L / 8) (ofA L I / 256) W
  have hmod : (ofA L I % 256) % 2 ^ (L % 8) = 0 := (at_facts hm).1
  have e := ovr_tile l (L / 8) (L % 8) I W (ofA L I % 256) (ofA L I / 256) (by show ofA L I = _; omega) hin hl.1
  rw [show 8 * (L / 8) + L % 8 = L by omega] at e
  have QO : Hid (∀ V, Calls Tryz.prog 186 #[cd L I] V fun e w' => e = .returned (.tuple #[tl (L / 8) (ofA L I / 256) (ofW L), .int .i64 ((ofA L I % 256 : Nat) : Int), .int .i64 ((2 ^ (L % 8) : Nat) : Int), .bool true]) ∧ Nw V w') := fun V => tof_yes L I hm V
  have QP : Hid (∀ V, Calls Tryz.prog 166 #[tl (L / 8) (ofA L I / 256) (ofW L)] V fun e w' => e = .returned (.agg #[.int .u8 ((L / 8 : Nat) : Int), .int .u64 ((ofA L I / 256 : Nat) : Int)]) ∧ Nw V w') := fun V => place_any _ _ _ hL7 hX V
  have QL : Hid (∀ V, Nw w V → (Instr.lookup 225 (.map (some b)) (.agg #[.int .u8 ((L / 8 : Nat) : Int), .int .u64 ((ofA L I / 256 : Nat) : Int)]) false).run Tryz.prog V = .ok (.slice (some ⟨g, 0, none⟩) W c) V) := fun V nV => (hmp.fr nV (fun f => f)).look (plK _ _ ⟨hL7, hX⟩) hM
  have QH : Hid (∀ V, Nw w V → Calls Tryz.prog 209 #[.slice (some ⟨g, 0, none⟩) W c, .int .i64 ((ofA L I % 256 : Nat) : Int), .int .i64 ((2 ^ (L % 8) : Nat) : Int)] V fun e w' => e = .returned (.tuple #[.agg (hbs (thL l (L, I))), .nilIface]) ∧ Nw V w') := fun V nV => by
    have q := thash_yes (tlH l (L / 8) (ofA L I / 256) W) hT32 (by omega) (L % 8) (ofA L I % 256) (by omega) (by rw [hT]; exact hin) hmod g 0 c V (hrw.nw hT32 nV) (hL.nw nV)
    rw [hT, e] at q
    exact q
  have hR : (hbs (thL l (L, I))).size = 32 := by rw [hbs_size, thL_32 h32]
  obtain ⟨R, hRe⟩ : ∃ R, R = thL l (L, I) := ⟨_, rfl⟩
  rw [← hRe] at QH hR ⊢
  obtain ⟨A, hA⟩ : ∃ A, A = ofA L I % 256 := ⟨_, rfl⟩
  obtain ⟨D, hD⟩ : ∃ A, A = 2 ^ (L % 8) := ⟨_, rfl⟩
  obtain ⟨X, hXe⟩ : ∃ A, A = ofA L I / 256 := ⟨_, rfl⟩
  obtain ⟨Y, hY⟩ : ∃ A, A = L / 8 := ⟨_, rfl⟩
  obtain ⟨F, hF⟩ : ∃ A, A = ofW L := ⟨_, rfl⟩
  rw [← hA, ← hD, ← hXe, ← hY, ← hF] at QO
  rw [← hXe, ← hY, ← hF] at QP
  rw [← hXe, ← hY] at QL
  rw [← hA, ← hD] at QH
  clear hm he hw h0 hW hin hL7 hX hmp hall hM hrw hgl hl hT hT32 hmod e hRe hA hD hXe hY hF hK hL hn
  go_enter Tryz.func187, Tryz.ntmps187
  go_wp2_with fail
  refine (QO.out _).mono ?_
  rintro e w1 ⟨rfl, n1⟩
  obtain ⟨⟨l0, l1⟩, b0, b1, n2⟩ := two_made n1
  have HB1 : Hid (w1.heap[w.heap.size + 1]? = some (.cells z32 69)) := b1
  have N1 : Hid (Nw w w1) := n2
  clear n1 b0 b1 n2
  go_wp2_with fail
  refine (QP.out _).mono ?_
  rintro e w2 ⟨rfl, n2⟩
  have N2 : Hid (Nw w1 w2) := Nw.tr (by repeat first | with_reducible exact nwr w1 | with_reducible refine Fr.alloc ?_ _ | with_reducible refine Fr.drew ?_ | (with_reducible refine Fr.setCell ?_ _ _ (fun h => ?_); rotate_left; focus (simp only at h; omega))) n2
  have hlk := QL.out w2 (N1.out.tr N2.out)
  clear n2
  go_wp2_with fail
  refine (QH.out w2 (N1.out.tr N2.out)).mono ?_
  rintro e w3 ⟨rfl, n3⟩
  have N3 : Hid (Nw w1 w3) := N2.out.tr n3
  have HB3 : Hid (w3.heap[w.heap.size + 1]? = some (.cells z32 69)) := (N3.out.block _ (heap_lt HB1.out) (fun f => f)).trans HB1.out
  clear n3 hlk
  go_wp2_with (refine wp_store_agg rfl (.tmp 4) (.tmp 24) 69 32 rfl Tryz.sizeOf69 (w.heap.size + 1) 0 rfl _ 69 HB3.out (hbs R) rfl hR (hbs_one _) (by decide) (hbs R) (by simp [z32_size]) ?_; intro w6 j6 f6 zz; clear zz)
  have N6 : Hid (Nw w w6) := (N1.out.tr N3.out).trans f6 (fun k hk e => by omega)
  refine bodyPost_ret (results_cell_slot (V := hbs R) (ty := 69) (f := (0, 0)) Tryz.results187 Tryz.isAgg69 Tryz.sizeOf69 rfl _ rfl j6 hR) rfl ⟨rfl, N6.out⟩
end Go.Proofs.YtjkhcplnedcmeaaGreatDoor
namespace Go.Proofs.YtjkhcplnedcmeaaGreatDoor
open Go.RowKit
set_option linter.unusedVariables false
set_option linter.unusedSimpArgs false
/-- A part's hash. -/
def phL (l : List (List UInt8)) (cs : List (Nat × Nat)) : List UInt8 := fdp (cs.map (thL l))
theorem fdp_32 : ∀ (L : List (List UInt8)), (∀ x ∈ L, x.length = 32) → (fdp L).length = 32
  | [], _ => Sh_len _
  | [x], h => h x (by simp)
  | x :: y :: r, _ => ndp_len _ _
theorem phL_32 {l : List (List UInt8)} (h : ∀ x ∈ l, x.length = 32) (cs : List (Nat × Nat)) : (phL l cs).length = 32 := fdp_32 _ (fun x hx => by
  obtain ⟨c, _, rfl⟩ := List.mem_map.1 hx
  exact thL_32 h c)
theorem hsc_mapt {β : Type} (f : β → List UInt8) (T : List β) (k : Nat) (t : β) (h : T[k]? = some t) : hsc ((T.take (k + 1)).map f) = hsc ((T.take k).map f) ++ (hbs (f t)).toList := by
  rw [List.take_add_one, h, Option.toList_some, List.map_append, hsc_app, List.map_singleton, hsc_one]
theorem own_cap {w : World} {base g n c : Nat} {xs : List Value} (h : w.ownsRow base 69 32 (.slice (some ⟨g, 0, none⟩) n c) n xs) : n ≤ c := by
  rcases h.2 with ⟨e, _⟩ | ⟨g', cap, cur, e, _, _, h5, _⟩
  · simp at e
  · simp only [Value.slice.injEq] at e
    omega
set_option maxRecDepth 100000 in
set_option maxHeartbeats 2000000 in
theorem ppart_none {w : World} (b : Nat) (ad : Option Addr) (c : Nat) (hL : Laid w) :
    Calls Tryz.prog 167 #[.map (some b), .agg #[.slice ad 0 c]] w fun e w' => e = .returned (.tuple #[.agg (hbs (Sh [])), .nilIface]) ∧ Nw w w' := by
  have QE : Hid (∀ V, Nw w V → Calls Tryz.prog 135 #[] V fun e w' => e = .returned (.agg (hbs (Sh []))) ∧ Nw V w') := fun V nV => empty_any V (hL.nw nV)
  have hR : (hbs (Sh [])).size = 32 := by rw [hbs_size, Sh_len]
  obtain ⟨R, hRe⟩ : ∃ R, R = Sh [] := ⟨_, rfl⟩
  rw [← hRe] at QE hR ⊢
  clear hRe hL
  go_enter Tryz.func167, Tryz.ntmps167
  go_wp2_with fail
  refine (QE.out _ (by repeat first | with_reducible exact nwr w | with_reducible refine Fr.alloc ?_ _ | with_reducible refine Fr.drew ?_ | (with_reducible refine Fr.setCell ?_ _ _ (fun h => ?_); rotate_left; focus (simp only at h; omega)))).mono ?_
  rintro e w1 ⟨rfl, n1⟩
  obtain ⟨⟨l0, l1⟩, b0, b1, n2⟩ := two_made n1
  have HB1 : Hid (w1.heap[w.heap.size + 1]? = some (.cells z32 69)) := b1
  have N1 : Hid (Nw w w1) := n2
  clear n1 b0 b1 n2
  go_wp2_with (refine wp_store_agg rfl (.tmp 4) (.tmp 15) 69 32 rfl Tryz.sizeOf69 (w.heap.size + 1) 0 rfl _ 69 HB1.out (hbs R) rfl hR (hbs_one _) (by decide) (hbs R) (by simp [z32_size]) ?_; intro w6 j6 f6 zz; clear zz)
  have N6 : Hid (Nw w w6) := N1.out.trans f6 (fun k hk e => by omega)
  refine bodyPost_ret (results_cell_slot (V := hbs R) (ty := 69) (f := (0, 0)) Tryz.results167 Tryz.isAgg69 Tryz.sizeOf69 rfl _ rfl j6 hR) rfl ⟨rfl, N6.out⟩
set_option maxRecDepth 100000 in
set_option maxHeartbeats 4000000 in
theorem ppart_some {w : World} {b : Nat} {l : List (List UInt8)} {K : Nat → Nat → Prop} (hp : Pcs w b l K) (h32 : ∀ x ∈ l, x.length = 32) (hn : l.length ≤ 1048576) (x : Value) (cs : List (Nat × Nat)) (hx : Crd w x cs) (hne : cs ≠ []) (hc : cs.length ≤ 1000)
    (hg : gdA l.length cs) (hK : ∀ c ∈ cs, K (c.1 / 8) (ofA c.1 c.2 / 256)) (hL : Laid w) :
    Calls Tryz.prog 167 #[.map (some b), .agg #[x]] w fun e w' => e = .returned (.tuple #[.agg (hbs (phL l cs)), .nilIface]) ∧ Nw w w' := by
  obtain ⟨i0, hi, hz0, hz1, hz2⟩ := info_parts infoHs
  obtain ⟨ad, ca, rfl, hu⟩ := hx
  have HU : Hid (∀ k t, cs[k]? = some t → ∃ g off, ad = some ⟨g, off, none⟩ ∧ g < w.heap.size ∧ w.cell? ⟨g, off + k * 2, none⟩ = some (.int .u8 (t.1 : Int)) ∧ w.cell? ⟨g, off + k * 2 + 1, none⟩ = some (.int .u64 (t.2 : Int))) := hu
  have QT : Hid (∀ V L I, Nw w V → (L, I) ∈ cs → Calls Tryz.prog 187 #[.map (some b), cd L I] V fun e w' => e = .returned (.tuple #[.agg (hbs (thL l (L, I))), .nilIface]) ∧ Nw V w') := fun V L I nV hm => ptree_any (hp.nw h32 nV) h32 hn L I (hg _ hm) (hK _ hm) (hL.nw nV)
  have T32 : ∀ x ∈ cs.map (thL l), x.length = 32 := fun x hx => by
    obtain ⟨c, _, rfl⟩ := List.mem_map.1 hx
    exact thL_32 h32 c
  have HT32 : Hid (∀ t, (thL l t).length = 32) := fun t => thL_32 h32 t
  have hR2 : (hbs (phL l cs)).size = 32 := by rw [hbs_size, phL_32 h32]
  obtain ⟨m, hm⟩ : ∃ m, m = cs.length := ⟨_, rfl⟩
  have HN : Hid (m = cs.length) := hm
  have hm0 : 0 < m := by rw [hm]; exact List.length_pos_iff.2 hne
  have QF : Hid (∀ V base g c, Nw w V → V.ownsRow base 69 32 (.slice (some ⟨g, 0, none⟩) m c) m (hsc (cs.map (thL l))) → Calls Tryz.prog 188 #[.slice (some ⟨g, 0, none⟩) m c] V fun e w' => e = .returned (.tuple #[.agg (hbs (phL l cs)), .nilIface]) ∧ Nw V w') := fun V base g c nV ho => by
    have hcap := own_cap ho
    obtain ⟨n, rfl⟩ : ∃ n, m = n + 1 := ⟨m - 1, by omega⟩
    have e1 : (cs.map (thL l)).length = n + 1 := by rw [List.length_map]; exact hm.symm
    exact pfold_some (T := cs.map (thL l)) (Hrw.of (by rw [e1]; exact ho) T32) e1 (by omega) (by omega) (hL.nw nV) (hL.nw nV).lt
  rw [← hm] at hc ⊢
  clear hp hg hK hL hu T32 hne hm
  obtain ⟨R2, hRe⟩ : ∃ R, R = phL l cs := ⟨_, rfl⟩
  rw [← hRe] at QF hR2 ⊢
  clear hRe
  have hm1 : ((m : Int) == 0) = false := by simp; omega
  go_enter Tryz.func167, Tryz.ntmps167
  go_upto_region 1 with fail
  rw [z32_h]
  obtain ⟨w2, hw2⟩ : ∃ q, (w.alloc (.cells #[.slice ad m ca] 177)).alloc (.cells z32 69) = q := ⟨_, rfl⟩
  obtain ⟨⟨l0, l1⟩, b0, b1, n2⟩ := two_made (w := w) (w1 := w2) (o := .cells #[.slice ad m ca] 177) (p := .cells z32 69) (by rw [hw2]; exact nwr _)
  rw [hw2]
  have HB0 : Hid (w2.heap[w.heap.size + 1]? = some (.cells z32 69)) := b1
  have N2 : Hid (Nw w w2) := n2
  have c0 := cell1 b0
  obtain ⟨wm, hmk, hown, hgr⟩ := run_make_own (P := Tryz.prog) w2 w2.heap.size 45 69 i0 (.agg z32) 32 Tryz.underlying45 hi hz0 hz1 .i64 .i64 m (by rw [hz2]; omega) (by unfold maxLen; omega) (Nat.le_refl _)
  have NM : Hid (Nw w2 wm) := (Fr.refl _ _).grown hgr (fun k e _ => by cases e)
  have OM : Hid (wm.ownsRow w2.heap.size 69 32 (.slice (some ⟨w2.heap.size, 0, none⟩) 0 m) 0 []) := hown
  have c0m := NM.out.cellOf c0
  have l0m := Nat.lt_of_lt_of_le l0 NM.out.size
  clear b0 b1 n2 hown hgr hw2 l1
  obtain ⟨hb, hhb⟩ : ∃ q, q = w.heap.size + 1 := ⟨_, rfl⟩
  rw [← hhb] at HB0 ⊢
  have HHB : Hid (hb = w.heap.size + 1) := hhb
  clear hhb
  go_wp2_with fail
  go_loopw [6, 23] (fun r i wr => ∃ (k : Nat) (va : Option Addr) (vc : Nat), k ≤ m ∧ r = .slice va k vc ∧ i = .int .i64 k ∧ (∃ g, va = some ⟨g, 0, none⟩) ∧ wr.ownsRow w2.heap.size 69 32 (.slice va k vc) k (hsc ((cs.take k).map (thL l))) ∧ Nw w2 wr) (fun _ i _ => m - (intOf i).toNat)
  case atStart => exact ⟨0, _, _, by omega, rfl, rfl, ⟨_, rfl⟩, by simpa [hsc] using OM.out, NM.out⟩
  case round =>
    obtain ⟨k, va, vc, hk, rfl, rfl, hsm, ho, hnw⟩ := hrel
    have HSM : Hid (∃ g, va = some ⟨g, 0, none⟩) := hsm
    have HO : Hid (wr.ownsRow w2.heap.size 69 32 (.slice va k vc) k (hsc ((cs.take k).map (thL l)))) := ho
    have HW : Hid (Nw w2 wr) := hnw
    clear ho hnw hsm c0 c0m l0 l0m hmk
    by_cases hlt : k < m
    · obtain ⟨t, ht⟩ : ∃ t, cs[k]? = some t := ⟨_, List.getElem?_eq_getElem (by rw [← HN.out]; exact hlt)⟩
      obtain ⟨g, off, had, g1, g2, g3⟩ := HU.out k t ht
      have htm := List.mem_of_getElem? ht
      have HS := show Hid _ from hsc_mapt (thL l) cs k t ht
      obtain ⟨x, y⟩ := t
      subst had
      have g2' := (N2.out.tr HW.out).cellOf g2
      have g3' := (N2.out.tr HW.out).cellOf g3
      have hki : (k : Int) < (m : Int) := by omega
      have gl : g < wr.heap.size := Nat.lt_of_lt_of_le g1 (N2.out.tr HW.out).size
      have HM : Hid ((x, y) ∈ cs) := htm
      have hRl : (hbs (thL l (x, y))).size = 32 := by rw [hbs_size, HT32.out]
      have QR : Hid (∀ V, Nw w V → Calls Tryz.prog 187 #[.map (some b), cd x y] V fun e w' => e = .returned (.tuple #[.agg (hbs (thL l (x, y))), .nilIface]) ∧ Nw V w') := fun V nV => QT.out V x y nV HM.out
      clear g2 g3 ht htm
      obtain ⟨R, hR⟩ : ∃ R, R = thL l (x, y) := ⟨_, rfl⟩
      simp only [← hR] at QR hRl HS
      clear hR
      go_wp2_with fail
      refine (QR.out _ (by repeat first | with_reducible exact (N2.out.tr HW.out) | with_reducible refine Fr.alloc ?_ _ | with_reducible refine Fr.drew ?_ | (with_reducible refine Fr.setCell ?_ _ _ (fun h => ?_); rotate_left; focus (simp only at h; omega)))).mono ?_
      rintro e w3 ⟨rfl, n3⟩
      have N3 : Hid (Nw wr w3) := Nw.tr (by repeat first | with_reducible exact nwr wr | with_reducible refine Fr.alloc ?_ _ | with_reducible refine Fr.drew ?_ | (with_reducible refine Fr.setCell ?_ _ _ (fun h => ?_); rotate_left; focus (simp only at h; omega))) n3
      clear n3
      go_wp2_with first
        | (refine wp_store_agg rfl (.tmp 9) (.tmp 31) 69 32 rfl Tryz.sizeOf69 w3.heap.size 0 rfl z32 69 (by rw [← z32_h]; exact heap_new _ _) (hbs R) rfl hRl (hbs_one _) (by decide) (hbs R) (by rw [dropA z32_size]; simp) ?_; intro w4 j4 f4 z4; clear z4; have N4 : Hid (Nw wr w4) := N3.out.tr ((nwa w3 _).trans f4 (fun q hq e => by omega)); have J4 : Hid (w4.heap[w3.heap.size]? = some (.cells (hbs R) 69)) := j4; have own2 : Hid ((w4.alloc (.cells (hbs R) 69)).ownsRow w2.heap.size 69 32 (.slice va k vc) k (hsc ((cs.take k).map (thL l)))) := (ownsRow_keep HO.out (fun g hg => N4.out.block g (HO.out.lt g hg).2 (fun f => f))).alloc _; clear f4 j4)
        | refine wple_load_at rfl (.tmp 9) 69 32 rfl Tryz.isAgg69 Tryz.sizeOf69 w3.heap.size 0 rfl (hbs R) hRl (fun j _ => by rw [Nat.zero_add]; exact cell_of J4.out j) ?_
        | refine wp_build1 rfl (.tmp 38) rfl (hbs R) rfl hRl ?_
        | (at_builtin; refine wpList_two _ rfl (.tmp 37) (.tmp 39) 45 rfl w2.heap.size 69 i0 (.agg z32) 32 32 Tryz.underlying45 hi hz0 hz1 hz2 z32_size (by decide) (.slice va k vc) k (hsc ((cs.take k).map (thL l))) rfl own2.out ⟨w4.heap.size, 0, none⟩ 1 1 (hbs R).toList rfl (by simp [hRl]) (hash_new _ _ _) (hbs_one _) (by unfold maxLen; omega) (by omega) (by have := HW.out.size; have := N4.out.size; simp; omega) ?_; intro v' w5 o5 t5; have N5 : Hid (Nw w2 w5) := ((HW.out.tr N4.out).alloc _).trans t5.fr (fun j hj q => by have := (HO.out.lt j q).1; omega); rw [← HS.out] at o5; obtain ⟨xa, xc, rfl⟩ := ownsRow_form o5; have O5 : Hid (w5.ownsRow w2.heap.size 69 32 (.slice xa (k + 1) xc) (k + 1) (hsc ((cs.take (k + 1)).map (thL l)))) := o5; clear o5 t5)
      exact ⟨⟨k + 1, xa, xc, by omega, rfl, by go_num, by rcases O5.out.2 with ⟨_, q⟩ | ⟨g', _, _, q, _⟩; omega; cases q; exact ⟨_, rfl⟩, O5.out, N5.out⟩, by simp [intOf]; omega⟩
    · obtain rfl : k = m := by omega
      have hkn : ¬ (k : Int) < (k : Int) := by omega
      have O6 := HO.out
      rw [HN.out, List.take_length, ← HN.out] at O6
      obtain ⟨g, rfl⟩ := HSM.out
      have HO6 := show Hid _ from O6
      have HB6 : Hid (wr.heap[hb]? = some (.cells z32 69)) := (HW.out.block _ (heap_lt HB0.out) (fun f => f)).trans HB0.out
      clear O6
      go_wp2_with fail
      refine (QF.out _ _ _ _ (N2.out.tr HW.out) HO6.out).mono ?_
      rintro e w5 ⟨rfl, n5⟩
      have N5 : Hid (Nw w2 w5) := HW.out.tr n5
      have HB7 : Hid (w5.heap[hb]? = some (.cells z32 69)) := (n5.block _ (heap_lt HB6.out) (fun f => f)).trans HB6.out
      clear n5
      go_wp2_with (refine wp_store_agg rfl (.tmp 4) (.tmp 44) 69 32 rfl Tryz.sizeOf69 hb 0 rfl _ 69 HB7.out (hbs R2) rfl hR2 (hbs_one _) (by decide) (hbs R2) (by simp [z32_size]) ?_; intro w6 j6 f6 zz; clear zz)
      have N6 : Hid (Nw w w6) := (N2.out.tr N5.out).trans f6 (fun k hk e => by have := HHB.out; omega)
      refine bodyPost_ret (results_cell_slot (V := hbs R2) (ty := 69) (f := (0, 0)) Tryz.results167 Tryz.isAgg69 Tryz.sizeOf69 rfl _ rfl j6 hR2) rfl ⟨rfl, N6.out⟩
set_option maxRecDepth 100000 in
set_option maxHeartbeats 4000000 in
theorem pparts_hash {w : World} {b : Nat} {l : List (List UInt8)} {K : Nat → Nat → Prop} (hp : Pcs w b l K) (h32 : ∀ x ∈ l, x.length = 32) (hn : l.length ≤ 1048576) (u : Value) (ls : List (List (Nat × Nat))) (hu : Prt w u ls) (hc : ls.length ≤ 1000) (hc2 : ∀ cs ∈ ls, cs.length ≤ 1000)
    (hg : gdA l.length ls.flatten) (hK : ∀ c ∈ ls.flatten, K (c.1 / 8) (ofA c.1 c.2 / 256)) (hL : Laid w) :
    Calls Tryz.prog 130 #[.map (some b), u] w fun e w' => ∃ g c, e = .returned (.tuple #[.slice (some ⟨g, 0, none⟩) ls.length c, .nilIface]) ∧ w'.ownsRow w.heap.size 69 32 (.slice (some ⟨g, 0, none⟩) ls.length c) ls.length (hsc (ls.map (phL l))) ∧ Nw w w' := by
  obtain ⟨i0, hi, hz0, hz1, hz2⟩ := info_parts infoHs
  obtain ⟨ad, ca, rfl, hu⟩ := hu
  have HU : Hid (∀ k l, ls[k]? = some l → ∃ g off x, ad = some ⟨g, off, none⟩ ∧ g < w.heap.size ∧ w.cell? ⟨g, off + k, none⟩ = some x ∧ Crd w x l) := hu
  have QT : Hid (∀ V x cs, Nw w V → cs ∈ ls → Crd w x cs → Calls Tryz.prog 167 #[.map (some b), .agg #[x]] V fun e w' => e = .returned (.tuple #[.agg (hbs (phL l cs)), .nilIface]) ∧ Nw V w') := fun V x cs nV hm hx => by
    by_cases hne : cs = []
    · subst hne
      obtain ⟨bd, cb, rfl, _⟩ := hx
      exact ppart_none b bd cb (hL.nw nV)
    · exact ppart_some (hp.nw h32 nV) h32 hn x cs (hx.nw nV) hne (hc2 _ hm) (fun c hc => hg c (List.mem_flatten.2 ⟨cs, hm, hc⟩)) (fun c hc => hK c (List.mem_flatten.2 ⟨cs, hm, hc⟩)) (hL.nw nV)
  have HT32 : Hid (∀ t, (phL l t).length = 32) := fun t => phL_32 h32 t
  obtain ⟨m, hm⟩ : ∃ m, m = ls.length := ⟨_, rfl⟩
  have HN : Hid (m = ls.length) := hm
  rw [← hm] at hc ⊢
  obtain ⟨wm, hmk, hown, hgr⟩ := run_make_own (P := Tryz.prog) w w.heap.size 45 69 i0 (.agg z32) 32 Tryz.underlying45 hi hz0 hz1 .i64 .i64 m (by rw [hz2]; omega) (by unfold maxLen; omega) (Nat.le_refl _)
  have NM : Hid (Nw w wm) := (Fr.refl _ _).grown hgr (fun k e _ => by cases e)
  have OM : Hid (wm.ownsRow w.heap.size 69 32 (.slice (some ⟨w.heap.size, 0, none⟩) 0 m) 0 []) := hown
  clear hp hg hK hL hu hm hown hgr hc2
  go_enter Tryz.func130, Tryz.ntmps130
  go_wp2_with fail
  go_loopw [6, 16] (fun r i wr => ∃ (k : Nat) (va : Option Addr) (vc : Nat), k ≤ m ∧ r = .slice va k vc ∧ i = .int .i64 k ∧ (∃ g, va = some ⟨g, 0, none⟩) ∧ wr.ownsRow w.heap.size 69 32 (.slice va k vc) k (hsc ((ls.take k).map (phL l))) ∧ Nw w wr) (fun _ i _ => m - (intOf i).toNat)
  case atStart => exact ⟨0, _, _, by omega, rfl, rfl, ⟨_, rfl⟩, by simpa [hsc] using OM.out, NM.out⟩
  case round =>
    obtain ⟨k, va, vc, hk, rfl, rfl, hsm, ho, hnw⟩ := hrel
    have HSM : Hid (∃ g, va = some ⟨g, 0, none⟩) := hsm
    have HO : Hid (wr.ownsRow w.heap.size 69 32 (.slice va k vc) k (hsc ((ls.take k).map (phL l)))) := ho
    have HW : Hid (Nw w wr) := hnw
    clear ho hnw hsm hmk
    by_cases hlt : k < m
    · obtain ⟨t, ht⟩ : ∃ t, ls[k]? = some t := ⟨_, List.getElem?_eq_getElem (by rw [← HN.out]; exact hlt)⟩
      obtain ⟨g, off, x, had, g1, g2, g3⟩ := HU.out k t ht
      have htm := List.mem_of_getElem? ht
      have HS := show Hid _ from hsc_mapt (phL l) ls k t ht
      subst had
      have g2' := HW.out.cellOf g2
      have hki : (k : Int) < (m : Int) := by omega
      have gl : g < wr.heap.size := Nat.lt_of_lt_of_le g1 HW.out.size
      have hRl : (hbs (phL l t)).size = 32 := by rw [hbs_size, HT32.out]
      have QR : Hid (∀ V, Nw w V → Calls Tryz.prog 167 #[.map (some b), .agg #[x]] V fun e w' => e = .returned (.tuple #[.agg (hbs (phL l t)), .nilIface]) ∧ Nw V w') := fun V nV => QT.out V x t nV htm g3
      obtain ⟨bd, cb, rfl, _⟩ := g3
      obtain ⟨mt, hmt⟩ : ∃ q, q = t.length := ⟨_, rfl⟩
      rw [← hmt] at QR g2'
      clear g2 ht htm hmt
      obtain ⟨R, hR⟩ : ∃ R, R = phL l t := ⟨_, rfl⟩
      simp only [← hR] at QR hRl HS
      clear hR
      go_wp2_with fail
      refine (QR.out _ (by repeat first | with_reducible exact HW.out | with_reducible refine Fr.alloc ?_ _ | with_reducible refine Fr.drew ?_ | (with_reducible refine Fr.setCell ?_ _ _ (fun h => ?_); rotate_left; focus (simp only at h; omega)))).mono ?_
      rintro e w3 ⟨rfl, n3⟩
      have N3 : Hid (Nw wr w3) := Nw.tr (by repeat first | with_reducible exact nwr wr | with_reducible refine Fr.alloc ?_ _ | with_reducible refine Fr.drew ?_ | (with_reducible refine Fr.setCell ?_ _ _ (fun h => ?_); rotate_left; focus (simp only at h; omega))) n3
      clear n3
      go_wp2_with first
        | (refine wp_store_agg rfl (.tmp 9) (.tmp 24) 69 32 rfl Tryz.sizeOf69 w3.heap.size 0 rfl z32 69 (by rw [← z32_h]; exact heap_new _ _) (hbs R) rfl hRl (hbs_one _) (by decide) (hbs R) (by rw [dropA z32_size]; simp) ?_; intro w4 j4 f4 z4; clear z4; have N4 : Hid (Nw wr w4) := N3.out.tr ((nwa w3 _).trans f4 (fun q hq e => by omega)); have J4 : Hid (w4.heap[w3.heap.size]? = some (.cells (hbs R) 69)) := j4; have own2 : Hid ((w4.alloc (.cells (hbs R) 69)).ownsRow w.heap.size 69 32 (.slice va k vc) k (hsc ((ls.take k).map (phL l)))) := (ownsRow_keep HO.out (fun g hg => N4.out.block g (HO.out.lt g hg).2 (fun f => f))).alloc _; clear f4 j4)
        | refine wple_load_at rfl (.tmp 9) 69 32 rfl Tryz.isAgg69 Tryz.sizeOf69 w3.heap.size 0 rfl (hbs R) hRl (fun j _ => by rw [Nat.zero_add]; exact cell_of J4.out j) ?_
        | refine wp_build1 rfl (.tmp 30) rfl (hbs R) rfl hRl ?_
        | (at_builtin; refine wpList_two _ rfl (.tmp 29) (.tmp 31) 45 rfl w.heap.size 69 i0 (.agg z32) 32 32 Tryz.underlying45 hi hz0 hz1 hz2 z32_size (by decide) (.slice va k vc) k (hsc ((ls.take k).map (phL l))) rfl own2.out ⟨w4.heap.size, 0, none⟩ 1 1 (hbs R).toList rfl (by simp [hRl]) (hash_new _ _ _) (hbs_one _) (by unfold maxLen; omega) (by omega) (by have := HW.out.size; have := N4.out.size; simp; omega) ?_; intro v' w5 o5 t5; have N5 : Hid (Nw w w5) := ((HW.out.tr N4.out).alloc _).trans t5.fr (fun j hj q => by have := (HO.out.lt j q).1; omega); rw [← HS.out] at o5; obtain ⟨xa, xc, rfl⟩ := ownsRow_form o5; have O5 : Hid (w5.ownsRow w.heap.size 69 32 (.slice xa (k + 1) xc) (k + 1) (hsc ((ls.take (k + 1)).map (phL l)))) := o5; clear o5 t5)
      exact ⟨⟨k + 1, xa, xc, by omega, rfl, by go_num, by rcases O5.out.2 with ⟨_, q⟩ | ⟨g', _, _, q, _⟩; omega; cases q; exact ⟨_, rfl⟩, O5.out, N5.out⟩, by simp [intOf]; omega⟩
    · obtain rfl : k = m := by omega
      have hkn : ¬ (k : Int) < (k : Int) := by omega
      have O6 := HO.out
      rw [HN.out, List.take_length, ← HN.out] at O6
      obtain ⟨g, rfl⟩ := HSM.out
      have HO6 := show Hid _ from O6
      clear O6
      go_wp2
      exact bodyPost_ret (v := .tuple #[.slice (some ⟨g, 0, none⟩) k vc, .nilIface]) (by simp [results, Tryz.results130]) rfl ⟨_, _, rfl, HO6.out, HW.out⟩
end Go.Proofs.YtjkhcplnedcmeaaGreatDoor
