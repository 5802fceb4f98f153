/- tiled: an engine in memory; read: tiles' hashes into pieces. -/
import Derived.Test.YtjkhcplnedcmeaaGreatDoorIgb
import Derived.Test.YtjkhcplnedcmeaaGreatDoorOgy
import Derived.Deep.RegionHeld3
import Derived.Test.YtjkhcplnedcmeaaGreatDoorYgd
import Derived.Test.YtjkhcplnedcmeaaGreatDoorOgx
import Derived.Test.YtjkhcplnedcmeaaGreatDoorYgb
namespace Go.Proofs.YtjkhcplnedcmeaaGreatDoor
open Go.RowKit
set_option linter.unusedVariables false
set_option linter.unusedSimpArgs false
theorem RS.tile_fell {s : RS} {l : List (List UInt8)} {B K : Nat} {w : World} (h : s.At l B K w) {q i W : Nat} (x : Addr) (R : RS → Prop) (hf : ∀ V, s.At l B K V → Nw w V → s.Fell l B K q i W x R V) :
    Calls Tryz.prog 103 #[.pointer (some ⟨s.rb, 0, none⟩), tl q i W] w fun e w' => ∃ s' : RS, e = .returned (.tuple #[.slice none 0 0, sen x]) ∧ s'.At l B (K + 1) w' ∧ s.Le s' w ∧ R s' ∧ Fr s.Ff w w' := by
  have n0 := nwa w (.cells #[.int .u8 (q : Int), .int .u64 (i : Int), .int .i64 (W : Int)] 120)
  refine (rtile_none (w := w) (q := .pointer (some ⟨s.rb, 0, none⟩)) q i W (sen x) (fun w' => ∃ s' : RS, s'.At l B (K + 1) w' ∧ s.Le s' w ∧ R s' ∧ Fr s.Ff w w') ((hf _ (h.nw n0) n0).mono fun e w' ⟨s', e1, a1, le, r, f⟩ => ⟨e1, s', a1, ⟨fun k hk => le.tg k (by simp; omega), le.rb, le.sb, le.zs, le.cap⟩, r, (n0.mono (fun _ _ f => f.elim)).trans f (fun _ _ q => q)⟩)).mono fun e w' ⟨e1, s', a1, le, r, f⟩ => ⟨s', e1, a1, le, r, f⟩
theorem Hss.frI {w w' : World} {S : Nat → Prop} {g n c : Nat} {l : List (List UInt8)} (h : Hss w (.slice (some ⟨g, 0, none⟩) n c) l) (hl : ∀ x ∈ l, x.length = 32) (f : Fr S w w') (hd : ¬ S g) : Hss w' (.slice (some ⟨g, 0, none⟩) n c) l := by
  obtain ⟨ad, cp, e, h2⟩ := h
  injection e with e1 e2 e3
  subst e1
  refine ⟨_, _, by rw [e2, e3], fun k x hx => ?_⟩
  obtain ⟨g', o, e4, h3⟩ := h2 k x hx
  simp only [Option.some.injEq, Addr.mk.injEq, and_true] at e4
  obtain ⟨rfl, rfl⟩ := e4
  refine ⟨g, 0, rfl, fun j hj => ?_⟩
  have h4 : (hbs x)[j]? = some (.int .u8 ((x.getD j 0).toNat : Nat)) := hbs_get x j (by rw [hl x (List.mem_of_getElem? hx)]; exact hj)
  have h5 := (h3 j hj).trans h4
  rw [h4]
  exact (f.cell (World.block_lt_of_cell? w _ h5) hd).trans h5
theorem rw_frI {w w' : World} {S : Nat → Prop} {g c : Nat} {l : List (List UInt8)} (h : Rw w (some ⟨g, 0, none⟩) c l) (hl : ∀ x ∈ l, x.length = 32) (f : Fr S w w') (hd : ¬ S g) : Rw w' (some ⟨g, 0, none⟩) c l := ⟨h.1, h.2.frI hl f hd⟩
/-- Tiles of a log. -/
def Tis (n : Nat) (ts : List Ti) : Prop := ∀ t ∈ ts, wid t.L t.I n = t.W ∧ 0 < t.W ∧ t.L ≤ 255 ∧ t.I < 18446744073709551616
/-- Pieces beside a reader. -/
def PcI (s : RS) (w : World) (mb : Nat) (l : List (List UInt8)) (ts : List Ti) : Prop :=
  ∃ N M, N ≤ ts.length ∧ PM.Mp w mb N M ∧ s.tg mb = 9 ∧ ∀ t ∈ ts, ∀ h, ∃ g c, M (plK t.L t.I h) = some (g, t.W, c) ∧ Rw w (some ⟨g, 0, none⟩) c (tlH l t.L t.I t.W) ∧ g < w.heap.size ∧ mb < g ∧ s.tg g = 9
theorem PcI.step {s s' : RS} {w w' : World} {mb : Nat} {l : List (List UInt8)} {ts : List Ti} (h : PcI s w mb l ts) (h32 : ∀ x ∈ l, x.length = 32) (f : Fr s.Ff w w') (le : s.Le s' w) : PcI s' w' mb l ts := by
  obtain ⟨N, M, h0, h1, h2, h3⟩ := h
  have hn : ∀ k, s.tg k = 9 → ¬ s.Ff k := fun k hk q => by unfold RS.Ff at q; omega
  refine ⟨N, M, h0, h1.fr f (hn _ h2), (le.tg _ h1.lt).trans h2, fun t ht hk => ?_⟩
  obtain ⟨g, c, e1, r, hg, hm, hgt⟩ := h3 t ht hk
  exact ⟨g, c, e1, rw_frI r (tlH_32 l h32 _ _ _) f (hn _ hgt), Nat.lt_of_lt_of_le hg f.size, hm, (le.tg _ hg).trans hgt⟩
theorem PcI.nw {s : RS} {w w' : World} {mb : Nat} {l : List (List UInt8)} {ts : List Ti} (h : PcI s w mb l ts) (h32 : ∀ x ∈ l, x.length = 32) (n : Nw w w') : PcI s w' mb l ts :=
  h.step h32 (n.mono (fun _ _ f => f.elim)) ⟨fun _ _ => rfl, rfl, rfl, rfl, rfl⟩
theorem PcI.put {s : RS} {w : World} {mb : Nat} {l : List (List UInt8)} {ts : List Ti} (h : PcI s w mb l ts) (h32 : ∀ x ∈ l, x.length = 32) (hT : Tis l.length ts) (t : Ti) (ht : Tis l.length [t]) {bq : Nat} {v : Value} (ho : w.ownsRow bq 69 32 v t.W (hsc (tlH l t.L t.I t.W))) (hb : mb < bq) (hbt : ∀ k, bq ≤ k → s.tg k = 9) (hl : ts.length ≤ 100000) :
    ∃ w', (Instr.mapUpdate 225 (.map (some mb)) (.agg #[.int .u8 (t.L : Int), .int .u64 (t.I : Int)]) v).run Tryz.prog w = .ok () w' ∧ PcI s w' mb l (ts ++ [t]) ∧ Fr (fun j => j = mb) w w' := by
  obtain ⟨N, M, h0, h1, h2, h3⟩ := h
  obtain ⟨hw, h0t, hL, hI⟩ := ht t (by simp)
  have hlen : (tlH l t.L t.I t.W).length = t.W := tlH_len l t.L t.I t.W (wid_in _ _ _ _ hw h0t).1
  have hlt := ho.lt
  rcases ho.2 with ⟨e, h9⟩ | ⟨g, c, cur, e, _⟩
  · omega
  subst e
  obtain ⟨hg1, hg2⟩ := hlt g rfl
  have hcap := own_cap ho
  obtain ⟨w', r', m', f'⟩ := h1.put (plK t.L t.I ⟨hL, hI⟩) (g, t.W, c) (by omega)
  have hrw : Rw w (some ⟨g, 0, none⟩) c (tlH l t.L t.I t.W) := ⟨by omega, Hss.of (tlH_32 l h32 _ _ _) (by rw [hlen]; exact ho)⟩
  refine ⟨w', r', ⟨N + 1, _, by rw [List.length_append]; simp; omega, m', h2, fun u hu hk => ?_⟩, f'⟩
  by_cases hkk : plK u.L u.I hk = plK t.L t.I ⟨hL, hI⟩
  · have hp := congrArg (fun x => x.1) hkk
    simp only [plK, Prod.mk.injEq] at hp
    have hw2 : u.W = t.W := by
      have hu2 : wid u.L u.I l.length = u.W := by
        rcases List.mem_append.1 hu with q | q
        · exact (hT u q).1
        · exact (ht u q).1
      rw [← hu2, hp.1, hp.2]; exact hw
    refine ⟨g, c, by rw [hkk, PM.putP_same, hw2], ?_, Nat.lt_of_lt_of_le hg2 f'.size, by omega, hbt g hg1⟩
    rw [hp.1, hp.2, hw2]
    exact rw_frI hrw (tlH_32 l h32 _ _ _) f' (by omega)
  · rcases List.mem_append.1 hu with q | q
    · obtain ⟨g', c', e1, r1, hg', hm', ht'⟩ := h3 u q hk
      exact ⟨g', c', by rw [PM.putP_other _ _ hkk]; exact e1, rw_frI r1 (tlH_32 l h32 _ _ _) f' (by omega), Nat.lt_of_lt_of_le hg' f'.size, hm', ht'⟩
    · simp at q
      subst q
      exact absurd rfl hkk
theorem PcI.pcs {s : RS} {w : World} {mb : Nat} {l : List (List UInt8)} {ts : List Ti} (h : PcI s w mb l ts) (hT : Tis l.length ts) : Pcs w mb l (fun q i => ∃ t ∈ ts, t.L = q ∧ t.I = i) := by
  obtain ⟨N, M, h0, h1, h2, h3⟩ := h
  refine ⟨N, M, h1, fun q i hk ⟨t, ht, e1, e2⟩ => ?_⟩
  subst e1 e2
  obtain ⟨g, c, e3, r, hg, _⟩ := h3 t ht hk
  rw [(hT t ht).1]
  exact ⟨g, c, e3, r, hg⟩
/-- An engine in memory. -/
structure Eng (s : RS) (w : World) (eb S : Nat) : Prop where
  blk : w.heap[eb]? = some (.cells #[.pointer (some ⟨s.rb, 0, none⟩), .int .u64 (S : Int)] 135)
  tg : s.tg eb = 9
theorem Eng.step {s s' : RS} {w w' : World} {eb S : Nat} (h : Eng s w eb S) (f : Fr s.Ff w w') (le : s.Le s' w) : Eng s' w' eb S :=
  ⟨by rw [le.rb]; exact (f.block _ (heap_lt h.blk) (fun q => by have := h.tg; unfold RS.Ff at q; omega)).trans h.blk, (le.tg _ (heap_lt h.blk)).trans h.tg⟩
theorem Eng.nw {s : RS} {w w' : World} {eb S : Nat} (h : Eng s w eb S) (n : Nw w w') : Eng s w' eb S := ⟨(n.block _ (heap_lt h.blk) (fun f => f)).trans h.blk, h.tg⟩
theorem RS.Le.rfl' (s : RS) (w : World) : s.Le s w := ⟨fun _ _ => rfl, rfl, rfl, rfl, rfl⟩
end Go.Proofs.YtjkhcplnedcmeaaGreatDoor
namespace Go.Proofs.YtjkhcplnedcmeaaGreatDoor
open Go.RowKit
set_option linter.unusedVariables false
set_option linter.unusedSimpArgs false
theorem Tis.take {n : Nat} {ts : List Ti} (h : Tis n ts) (k : Nat) : Tis n (ts.take k) := fun t ht => h t (List.mem_of_mem_take ht)
theorem make_pieces (n : Nat) (w : World) : (Instr.makeMap 225 (some (.int .i64 (n : Int)))).run Tryz.prog w = .ok (.map (some w.heap.size)) (w.alloc (.map #[] 0)) := by
  simp [Instr.makeMap, run_underlying Tryz.underlying225, asInt, asIntOf, Result.andThen]
set_option maxRecDepth 100000 in
set_option maxHeartbeats 4000000 in
theorem pread_any {s0 : RS} {l : List (List UInt8)} {B K : Nat} {w : World} (h : s0.At l B K w) {eb S : Nat} (he : Eng s0 w eb S) (u : Value) (ts : List Ti) (hT : Tis l.length ts) {bs : Nat} (hu : w.ownsRow bs 120 3 u ts.length (tic ts)) (hl : ts.length ≤ 100000) (hub : ∀ g, u.ownBlock = some g → s0.tg g = 9)
    (P Pf : Nat → RS → Prop) (hP : P 0 s0) (x : Addr)
    (hstep : ∀ k t s, ts[k]? = some t → P k s → (∀ V, s.At l B (K + k) V → Fr s0.Ff w V → s.Got l B (K + k) t.L t.I t.W (P (k + 1)) V) ∨ (∀ V, s.At l B (K + k) V → Fr s0.Ff w V → s.Fell l B (K + k) t.L t.I t.W x (Pf (k + 1)) V)) :
    Calls Tryz.prog 129 #[.pointer (some ⟨eb, 0, none⟩), u] w fun e w' =>
      (∃ s' mb, e = .returned (.tuple #[.map (some mb), .nilIface]) ∧ s'.At l B (K + ts.length) w' ∧ s0.Le s' w ∧ P ts.length s' ∧ Fr s0.Ff w w' ∧ PcI s' w' mb l ts ∧ Eng s' w' eb S) ∨
      (∃ s' k, k < ts.length ∧ e = .returned (.tuple #[.map none, sen x]) ∧ s'.At l B (K + (k + 1)) w' ∧ s0.Le s' w ∧ Pf (k + 1) s' ∧ Fr s0.Ff w w' ∧ Eng s' w' eb S) := by
  obtain ⟨ad, ca, rfl⟩ := ownsRow_form hu
  have HC : Hid (∀ k t, ts[k]? = some t → ∃ g, ad = some ⟨g, 0, none⟩ ∧ g < w.heap.size ∧ s0.tg g = 9 ∧ w.cell? ⟨g, k * 3, none⟩ = some (.int .u8 (t.L : Int)) ∧ w.cell? ⟨g, k * 3 + 1, none⟩ = some (.int .u64 (t.I : Int)) ∧ w.cell? ⟨g, k * 3 + 2, none⟩ = some (.int .i64 (t.W : Int))) := fun k t ht => by
    obtain ⟨g, rfl, c1, c2, c3⟩ := tic_cellsP hu k t ht
    exact ⟨g, rfl, (hu.lt g rfl).2, hub g rfl, c1, c2, c3⟩
  have HA : Hid (s0.At l B K w) := h
  have HE : Hid (Eng s0 w eb S) := he
  have HT : Hid (Tis l.length ts) := hT
  have HP : Hid (P 0 s0) := hP
  have HST : Hid (∀ k t s, ts[k]? = some t → P k s → (∀ V, s.At l B (K + k) V → Fr s0.Ff w V → s.Got l B (K + k) t.L t.I t.W (P (k + 1)) V) ∨ (∀ V, s.At l B (K + k) V → Fr s0.Ff w V → s.Fell l B (K + k) t.L t.I t.W x (Pf (k + 1)) V)) := hstep
  obtain ⟨n, hn⟩ : ∃ n, n = ts.length := ⟨_, rfl⟩
  have HN : Hid (n = ts.length) := hn
  rw [← hn] at hl ⊢
  obtain ⟨mb, hmb⟩ : ∃ q, q = w.heap.size := ⟨_, rfl⟩
  have HMB : Hid (mb = w.heap.size) := hmb
  have HM0 : Hid (PcI s0 (w.alloc (.map #[] 0)) mb l []) := ⟨0, fun _ => none, Nat.zero_le _, by rw [hmb]; exact PM.Mp.made w, h.nt _ (by omega), fun t ht => by simp at ht⟩
  have hmm := make_pieces n
  clear h he hT hP hstep hu hub hn
  go_enter Tryz.func129, Tryz.ntmps129
  go_wp2_with fail
  rw [← hmb]
  clear hmb
  go_loopw [16] (fun i wr => ∃ (k : Nat) (s : RS), k ≤ n ∧ i = .int .i64 k ∧ s.At l B (K + k) wr ∧ s0.Le s w ∧ P k s ∧ Fr s0.Ff w wr ∧ PcI s wr mb l (ts.take k) ∧ w.heap.size < wr.heap.size ∧ Eng s wr eb S) (fun i _ => n - (intOf i).toNat)
  case atStart => exact ⟨0, s0, by omega, rfl, HA.out.nw (nwa w _), RS.Le.rfl' _ _, HP.out, (nwa w _).mono (fun _ _ f => f.elim), HM0.out, by simp, HE.out.nw (nwa w _)⟩
  case round =>
    obtain ⟨k, s, hk, rfl, ha, hle, hp, hfr, hpc, hsz, heg⟩ := hrel
    have H1 : Hid (s.At l B (K + k) wr) := ha
    have H2 : Hid (s0.Le s w) := hle
    have H3 : Hid (P k s) := hp
    have H4 : Hid (Fr s0.Ff w wr) := hfr
    have H5 : Hid (PcI s wr mb l (ts.take k)) := hpc
    have H6 : Hid (w.heap.size < wr.heap.size) := hsz
    have H7 : Hid (Eng s wr eb S) := heg
    clear ha hle hp hfr hpc hsz heg hmm
    by_cases hlt : k < n
    · obtain ⟨t, ht⟩ : ∃ t, ts[k]? = some t := ⟨_, List.getElem?_eq_getElem (by rw [← HN.out]; exact hlt)⟩
      obtain ⟨g, rfl, g0, gt, g1, g2, g3⟩ := HC.out k t ht
      have hgf : ¬ s0.Ff g := fun q => by unfold RS.Ff at q; omega
      have g1' := (H4.out.cell (p := ⟨g, k * 3, none⟩) g0 hgf).trans g1
      have g2' := (H4.out.cell (p := ⟨g, k * 3 + 1, none⟩) g0 hgf).trans g2
      have g3' := (H4.out.cell (p := ⟨g, k * 3 + 2, none⟩) g0 hgf).trans g3
      have gl : g < wr.heap.size := Nat.lt_of_lt_of_le g0 H4.out.size
      have HS := show Hid _ from HST.out k t s ht H3.out
      have HTT : Hid (ts.take (k + 1) = ts.take k ++ [t]) := by show _ = _; rw [List.take_add_one, ht]; simp
      have HT1 : Hid (Tis l.length [t]) := fun u hu => by simp at hu; subst hu; exact HT.out _ (List.mem_of_getElem? ht)
      obtain ⟨q, i, W⟩ := t
      obtain ⟨hw, h0W, hq, hi⟩ := HT1.out _ (List.mem_singleton.2 rfl)
      simp only at hw h0W hq hi g1' g2' g3'
      have hki : (k : Int) < (n : Int) := by omega
      obtain ⟨rp, hrp⟩ : ∃ v, v = s.rb := ⟨_, rfl⟩
      have HRP : Hid (rp = s.rb) := hrp
      have hW256 := (wid_in q i _ W hw h0W).2.1
      have HW : Hid (wid q i l.length = W ∧ 0 < W) := ⟨hw, h0W⟩
      have leb := heap_lt H7.out.blk
      clear g1 g2 g3 ht hgf g0 gt hrp hw h0W
      go_upto_region 5 with fail
      have HTL := heap_new wr (.cells #[.int .u8 (q : Int), .int .u64 (i : Int), .int .i64 (W : Int)] 120)
      refine gen_w (fun V => Nw wr V ∧ wr.heap.size < V.heap.size ∧ V.heap[wr.heap.size]? = some (.cells #[.int .u8 (q : Int), .int .u64 (i : Int), .int .i64 (W : Int)] 120)) ⟨(by repeat first | with_reducible exact Fr.refl _ _ | with_reducible refine Fr.alloc ?_ _ | with_reducible refine Fr.drew ?_ | (with_reducible refine Fr.setCell ?_ _ _ (fun h => ?_); rotate_left; focus (simp only at h; omega))), by simp, by (repeat first | with_reducible exact HTL | with_reducible exact heap_new _ _ | with_reducible exact heap_next _ _ _ | with_reducible exact heap_third _ _ _ _ | with_reducible refine hp_dr ?_ | (with_reducible refine hp_ne ?_ ?_; focus omega) | (with_reducible refine hp_al ?_ ?_; focus (first | omega | (simp <;> omega))) | with_reducible apply hp_set) <;> rfl⟩ ?_
      rintro w3 ⟨n3, l3, b3⟩
      obtain ⟨f0, f1, f2⟩ := cell3 b3
      have nd : Nw w3 w3.drew := (Fr.refl _ _).drew
      have N3 : Hid (Nw wr w3) := n3
      have B3 : Hid (w3.heap[wr.heap.size]? = some (.cells #[.int .u8 (q : Int), .int .u64 (i : Int), .int .i64 (W : Int)] 120)) := b3
      have E3 : Hid (w3.heap[eb]? = some (.cells #[.pointer (some ⟨rp, 0, none⟩), .int .u64 (S : Int)] 135)) := by rw [HRP.out]; exact (H7.out.nw n3).blk
      have fe := (cell_of E3.out 0).trans rfl
      have AD : Hid (s.At l B (K + k) w3.drew) := H1.out.nw (n3.tr nd)
      have FD : Hid (Fr s0.Ff w w3.drew) := H4.out.trans (n3.tr nd) (fun _ _ q => q.elim)
      have HNE : Hid (¬ s.Ff eb ∧ ¬ s.Ff wr.heap.size) := And.intro (fun q => by have := H7.out.tg; unfold RS.Ff at q; omega) (fun q => by have := H1.out.nt _ (Nat.le_refl _); unfold RS.Ff at q; omega)
      have leb3 : eb < w3.heap.size := by omega
      clear n3 b3 HTL g1' g2' g3'
      rcases HS.out with hok | hno
      · have HTC : Hid (Calls Tryz.prog 103 #[.pointer (some ⟨rp, 0, none⟩), tl q i W] w3.drew fun e w' => ∃ (s' : RS) (v : Value) (bq : Nat), e = .returned (.tuple #[v, .nilIface]) ∧ w'.ownsRow bq 69 32 v W (hsc (tlH l q i W)) ∧ w3.drew.heap.size < bq ∧ (∀ k, bq ≤ k → s'.tg k = 9) ∧ s'.At l B (K + k + 1) w' ∧ s.Le s' w3.drew ∧ P (k + 1) s' ∧ Fr s.Ff w3.drew w') := by
          have := RS.tile AD.out HW.out.1 HW.out.2 (P (k + 1)) (fun V aV nV => hok V aV (FD.out.trans nV (fun _ _ q => q.elim)))
          rw [← HRP.out] at this
          exact this
        clear hok
        go_region_held3 (fun V => V.cell? ⟨eb, 0, none⟩ = some (.pointer (some ⟨rp, 0, none⟩)) ∧ V.cell? ⟨wr.heap.size, 0, none⟩ = some (.int .u8 (q : Int)) ∧ V.cell? ⟨wr.heap.size, 1, none⟩ = some (.int .u64 (i : Int)) ∧ V.cell? ⟨wr.heap.size, 2, none⟩ = some (.int .i64 (W : Int))) (first | exact ⟨nd.cellOf fe, nd.cellOf f0, nd.cellOf f1, nd.cellOf f2⟩ | exact HK.out) ((go_at_call 103; refine HTC.out.mono ?_; rintro e4 w4 ⟨s4, v4, bq, rfl, o4, hb4, ht4, a4, le4, p4, F4⟩; obtain ⟨va, vc, rfl⟩ := ownsRow_form o4; have T4 := (F4.block wr.heap.size l3 HNE.out.2).trans B3.out; have E4 := (F4.block eb leb3 HNE.out.1).trans E3.out; have HK : Hid (w4.cell? ⟨eb, 0, none⟩ = some (.pointer (some ⟨rp, 0, none⟩)) ∧ w4.cell? ⟨wr.heap.size, 0, none⟩ = some (.int .u8 (q : Int)) ∧ w4.cell? ⟨wr.heap.size, 1, none⟩ = some (.int .u64 (i : Int)) ∧ w4.cell? ⟨wr.heap.size, 2, none⟩ = some (.int .i64 (W : Int))) := And.intro ((cell_of E4 0).trans rfl) (cell3 T4); have H8 : Hid (w4.ownsRow bq 69 32 (.slice va W vc) W (hsc (tlH l q i W)) ∧ w3.drew.heap.size < bq ∧ (∀ k, bq ≤ k → s4.tg k = 9) ∧ s4.At l B (K + k + 1) w4 ∧ s.Le s4 w3.drew ∧ P (k + 1) s4 ∧ Fr s.Ff w3.drew w4) := And.intro o4 (And.intro hb4 (And.intro ht4 (And.intro a4 (And.intro le4 (And.intro p4 F4))))); have HT4 : Hid (w4.heap[wr.heap.size]? = some (.cells #[.int .u8 (q : Int), .int .u64 (i : Int), .int .i64 (W : Int)] 120)) := T4; clear o4 hb4 ht4 a4 le4 p4 F4 T4 E4))
        all_goals
          obtain ⟨y0, y1, y2⟩ := cell3 HT4.out
          have lt4 := heap_lt HT4.out
          go_wp2_with fail
          refine (place_any q i W hq hi _).mono ?_
          rintro e5 w5 ⟨rfl, n5⟩
          obtain ⟨o4, hb4, ht4, a4, le4, p4, F4⟩ := H8.out
          have h32 := H1.out.h32
          have n3d : Nw wr w3.drew := N3.out.tr nd
          have pc5 : PcI s4 w5 mb l (ts.take k) := ((H5.out.nw h32 n3d).step h32 F4 le4).nw h32 n5
          have o5 := ownsRow_keep o4 (fun g hg => n5.block g (o4.lt g hg).2 (fun f => f))
          obtain ⟨w6, r6, p6, f6⟩ := pc5.put h32 (HT.out.take k) ⟨q, i, W⟩ HT1.out o5 (by have := n3d.size; have := HMB.out; have := H6.out; omega) ht4 (by rw [List.length_take]; omega)
          have htg : s4.tg mb = 9 := by obtain ⟨_, _, _, _, q9, _⟩ := id p6; exact q9
          have e5 := ((H7.out.nw n3d).step F4 le4).nw n5
          have leb0 := heap_lt HE.out.blk
          have H9 : Hid (s4.At l B (K + k + 1) w6 ∧ s0.Le s4 w ∧ P (k + 1) s4 ∧ Fr s0.Ff w w6 ∧ PcI s4 w6 mb l (ts.take (k + 1)) ∧ w.heap.size < w6.heap.size ∧ Eng s4 w6 eb S) := And.intro ((a4.nw n5).fr9 f6 (fun j e => by subst e; exact htg)) (And.intro (H2.out.trans le4 (Nat.le_trans (Nat.le_of_lt H6.out) n3d.size)) (And.intro p4 (And.intro (((RS.Le.frt H2.out FD.out F4).trans n5 (fun _ _ q => q.elim)).trans f6 (fun j hj e => by have := HMB.out; omega)) (And.intro (by rw [HTT.out]; exact p6) (And.intro (by have := n3d.size; have := F4.size; have := n5.size; have := f6.size; have := H6.out; omega) ⟨(f6.block eb (heap_lt e5.blk) (by have := HMB.out; omega)).trans e5.blk, e5.tg⟩)))))
          clear o4 hb4 ht4 a4 le4 p4 F4 pc5 o5 p6 f6 htg e5 n5 y0 y1 y2
          go_wp2
          exact ⟨⟨k + 1, s4, by omega, by go_num, H9.out⟩, by simp [intOf]; omega⟩
      · have HTC : Hid (Calls Tryz.prog 103 #[.pointer (some ⟨rp, 0, none⟩), tl q i W] w3.drew fun e w' => ∃ s' : RS, e = .returned (.tuple #[.slice none 0 0, sen x]) ∧ s'.At l B (K + k + 1) w' ∧ s.Le s' w3.drew ∧ Pf (k + 1) s' ∧ Fr s.Ff w3.drew w') := by
          have := RS.tile_fell (q := q) (i := i) (W := W) AD.out x (Pf (k + 1)) (fun V aV nV => hno V aV (FD.out.trans nV (fun _ _ q => q.elim)))
          rw [← HRP.out] at this
          exact this
        clear hno
        go_region_held3 (fun V => V.cell? ⟨eb, 0, none⟩ = some (.pointer (some ⟨rp, 0, none⟩)) ∧ V.cell? ⟨wr.heap.size, 0, none⟩ = some (.int .u8 (q : Int)) ∧ V.cell? ⟨wr.heap.size, 1, none⟩ = some (.int .u64 (i : Int)) ∧ V.cell? ⟨wr.heap.size, 2, none⟩ = some (.int .i64 (W : Int))) (first | exact ⟨nd.cellOf fe, nd.cellOf f0, nd.cellOf f1, nd.cellOf f2⟩ | exact HK.out) ((go_at_call 103; refine HTC.out.mono ?_; rintro e4 w4 ⟨s4, rfl, a4, le4, p4, F4⟩; have T4 := (F4.block wr.heap.size l3 HNE.out.2).trans B3.out; have E4 := (F4.block eb leb3 HNE.out.1).trans E3.out; have HK : Hid (w4.cell? ⟨eb, 0, none⟩ = some (.pointer (some ⟨rp, 0, none⟩)) ∧ w4.cell? ⟨wr.heap.size, 0, none⟩ = some (.int .u8 (q : Int)) ∧ w4.cell? ⟨wr.heap.size, 1, none⟩ = some (.int .u64 (i : Int)) ∧ w4.cell? ⟨wr.heap.size, 2, none⟩ = some (.int .i64 (W : Int))) := And.intro ((cell_of E4 0).trans rfl) (cell3 T4); have H8 : Hid (s4.At l B (K + k + 1) w4 ∧ s.Le s4 w3.drew ∧ Pf (k + 1) s4 ∧ Fr s.Ff w3.drew w4) := And.intro a4 (And.intro le4 (And.intro p4 F4)); have HT4 : Hid (w4.heap[wr.heap.size]? = some (.cells #[.int .u8 (q : Int), .int .u64 (i : Int), .int .i64 (W : Int)] 120)) := T4; clear a4 le4 p4 F4 T4 E4))
        all_goals
          go_wp2
          obtain ⟨a4, le4, p4, F4⟩ := H8.out
          have n3d : Nw wr w3.drew := N3.out.tr nd
          refine bodyPost_ret (v := .tuple #[.map none, sen x]) (by simp [results, Tryz.results129]) rfl (.inr ⟨s4, k, hlt, rfl, a4, H2.out.trans le4 (Nat.le_trans (Nat.le_of_lt H6.out) n3d.size), p4, RS.Le.frt H2.out FD.out F4, (H7.out.nw n3d).step F4 le4⟩)
    · obtain rfl : k = n := by omega
      have hT : ts.take k = ts := List.take_of_length_le (by rw [HN.out]; exact Nat.le_refl _)
      have hkn : ¬ (k : Int) < (k : Int) := by omega
      rw [hT] at H5
      clear hT
      go_wp2
      refine bodyPost_ret (v := .tuple #[.map (some mb), .nilIface]) (by simp [results, Tryz.results129]) rfl (.inl ⟨s, mb, rfl, H1.out, H2.out, H3.out, H4.out, H5.out, H7.out⟩)
end Go.Proofs.YtjkhcplnedcmeaaGreatDoor
namespace Go.Proofs.YtjkhcplnedcmeaaGreatDoor
open Go.RowKit
set_option linter.unusedVariables false
set_option linter.unusedSimpArgs false
/-- An engine that is not there, or that no call made. -/
def NoG (w : World) (p : Value) : Prop := p = .pointer none ∨ ∃ b, p = .pointer (some ⟨b, 0, none⟩) ∧ w.heap[b]? = some (.cells #[.pointer none, .int .u64 0] 135)
theorem NoG.nw {w w' : World} {p : Value} (h : NoG w p) (n : Nw w w') : NoG w' p := by
  rcases h with h | ⟨b, h, hb⟩
  · exact .inl h
  · exact .inr ⟨b, h, (n.block _ (heap_lt hb) (fun f => f)).trans hb⟩
theorem Eng.cs {s : RS} {w : World} {eb S : Nat} (h : Eng s w eb S) : w.cell? ⟨eb, 0, none⟩ = some (.pointer (some ⟨s.rb, 0, none⟩)) ∧ w.cell? ⟨eb, 1, none⟩ = some (.int .u64 (S : Int)) := ⟨(cell_of h.blk 0).trans rfl, (cell_of h.blk 1).trans rfl⟩
theorem gthere_yes {s : RS} {w : World} {eb S : Nat} (h : Eng s w eb S) : Calls Tryz.prog 58 #[.pointer (some ⟨eb, 0, none⟩)] w fun e w' => e = .returned (.bool true) ∧ w' = w := by
  obtain ⟨c0, c1⟩ := h.cs
  have lb := heap_lt h.blk
  obtain ⟨rb, hr⟩ : ∃ r, r = s.rb := ⟨_, rfl⟩
  rw [← hr] at c0
  clear h hr
  go_enter Tryz.func58, Tryz.ntmps58
  go_wp2
  go_ret
  exact ⟨rfl, rfl⟩
theorem gist_no {w : World} {q : Value} (h : NoR w q) {B : Nat} {a : Nat → Addr} (hS : Sent B w a) :
    Calls Tryz.prog 57 #[q] w fun e w' => e = .returned (.bool false) ∧ Nw w w' := by
  have n0 := nwa w (.cells #[.int .u8 ((0 : Nat) : Int), .int .u64 ((0 : Nat) : Int), .int .i64 0] 120)
  have q1 := rtile_none (w := w) (q := q) 0 0 0 (sen (a 0)) (fun w' => Nw w w') ((fetch_none (h.nw n0) _ 0 0 0 rfl (hS.fr n0 (fun _ _ f => f))).mono fun e w' ⟨e1, n⟩ => ⟨e1, n0.tr n⟩)
  have q2 : Hid (∀ V, Nw w V → Calls Tryz.prog 102 #[sen (a 0), sen (a 0)] V fun e w' => e = .returned (.bool true) ∧ w' = V) := fun V nV => by
    have := is_any (hS.fr nV (fun _ _ f => f)) (show EV V a (sen (a 0)) 1 none from .inr (.inl ⟨0, by decide, rfl, rfl, rfl⟩)) (by decide) 0 (by decide)
    rw [decide_eq_true (by decide)] at this
    exact this
  have HS : Hid (Sent B w a) := hS
  clear h hS n0
  go_enter Tryz.func57, Tryz.ntmps57
  go_wp2_with fail
  refine q1.mono ?_
  rintro e w1 ⟨rfl, n1⟩
  have N1 : Hid (Nw w w1) := n1
  have e0 := (HS.out.fr n1 (fun _ _ f => f)).c0
  clear n1
  go_wp2_with fail
  refine (q2.out _ N1.out).mono ?_
  rintro e w2 ⟨rfl, rfl⟩
  go_wp2
  go_ret
  exact ⟨rfl, N1.out⟩
theorem gist_yes {s : RS} {l : List (List UInt8)} {B K : Nat} {w : World} (h : s.At l B K w) {a : Nat → Addr} (hS : Sent B w a) :
    Calls Tryz.prog 57 #[.pointer (some ⟨s.rb, 0, none⟩)] w fun e w' => e = .returned (.bool true) ∧ Nw w w' := by
  have n0 := nwa w (.cells #[.int .u8 ((0 : Nat) : Int), .int .u64 ((0 : Nat) : Int), .int .i64 0] 120)
  have q1 := rtile_none (w := w) (q := .pointer (some ⟨s.rb, 0, none⟩)) 0 0 0 (sen (a 1)) (fun w' => Nw w w') ((fetch_bad (h.nw n0).rm.blk 0 0 0 (by omega) (by omega) (by decide) (hS.fr n0 (fun _ _ f => f))).mono fun e w' ⟨e1, n⟩ => ⟨e1, n0.tr n⟩)
  have q2 : Hid (∀ V, Nw w V → Calls Tryz.prog 102 #[sen (a 1), sen (a 0)] V fun e w' => e = .returned (.bool false) ∧ w' = V) := fun V nV => by
    have := is_any (hS.fr nV (fun _ _ f => f)) (show EV V a (sen (a 1)) 2 none from .inr (.inl ⟨1, by decide, rfl, rfl, rfl⟩)) (by decide) 0 (by decide)
    rw [decide_eq_false (by decide)] at this
    exact this
  have HS : Hid (Sent B w a) := hS
  obtain ⟨rp, hrp⟩ : ∃ v, v = s.rb := ⟨_, rfl⟩
  rw [← hrp] at q1 ⊢
  clear h hS n0 hrp
  go_enter Tryz.func57, Tryz.ntmps57
  go_wp2_with fail
  refine q1.mono ?_
  rintro e w1 ⟨rfl, n1⟩
  have N1 : Hid (Nw w w1) := n1
  have e0 := (HS.out.fr n1 (fun _ _ f => f)).c0
  clear n1
  go_wp2_with fail
  refine (q2.out _ N1.out).mono ?_
  rintro e w2 ⟨rfl, rfl⟩
  go_wp2
  go_ret
  exact ⟨rfl, N1.out⟩
theorem gnew_no {w : World} {q : Value} (h : NoR w q) (S : Nat) {B : Nat} {a : Nat → Addr} (hS : Sent B w a) :
    Calls Tryz.prog 14 #[q, .int .u64 (S : Int)] w fun e w' => e = .returned (.tuple #[.pointer none, sen (a 0)]) ∧ Nw w w' := by
  have q0 := gist_no h hS
  have HS : Hid (Sent B w a) := hS
  clear h hS
  go_enter Tryz.func14, Tryz.ntmps14
  go_wp2_with fail
  refine q0.mono ?_
  rintro e w1 ⟨rfl, n1⟩
  have N1 : Hid (Nw w w1) := n1
  have e0 := (HS.out.fr n1 (fun _ _ f => f)).c0
  clear n1
  go_wp2_with fail
  go_quiet (fail)
  go_wp2
  go_ret2
  exact ⟨rfl, N1.out.drewN nq⟩
theorem gnew_yes {s : RS} {l : List (List UInt8)} {B K : Nat} {w : World} (h : s.At l B K w) (S : Nat) (hl : S ≤ 1048576) {a : Nat → Addr} (hS : Sent B w a) :
    Calls Tryz.prog 14 #[.pointer (some ⟨s.rb, 0, none⟩), .int .u64 (S : Int)] w fun e w' => ∃ eb, e = .returned (.tuple #[.pointer (some ⟨eb, 0, none⟩), .nilIface]) ∧ Eng s w' eb S ∧ w.heap.size ≤ eb ∧ Nw w w' := by
  have q0 := gist_yes h hS
  have HT : Hid (∀ k, w.heap.size ≤ k → s.tg k = 9) := h.nt
  obtain ⟨rp, hrp⟩ : ∃ v, v = s.rb := ⟨_, rfl⟩
  have HR : Hid (rp = s.rb) := hrp
  rw [← hrp] at q0 ⊢
  have hd : ¬ (1048576 : Int) < (S : Int) := by omega
  have hd2 : decide ((1048576 : Int) < (S : Int)) = false := by simp; omega
  clear h hS hrp
  go_enter Tryz.func14, Tryz.ntmps14
  go_wp2_with fail
  refine q0.mono ?_
  rintro e w1 ⟨rfl, n1⟩
  have N1 : Hid (Nw w w1) := n1
  clear n1
  go_wp2
  go_ret2
  refine ⟨_, rfl, ⟨by rw [← HR.out]; exact heap_new _ _, HT.out _ N1.out.size⟩, N1.out.size, N1.out.tr (nwa _ _)⟩
end Go.Proofs.YtjkhcplnedcmeaaGreatDoor
namespace Go.Proofs.YtjkhcplnedcmeaaGreatDoor
open Go.RowKit
set_option linter.unusedVariables false
set_option linter.unusedSimpArgs false
theorem addT_memI (out : List Ti) (t x : Ti) : x ∈ addT out t ↔ x ∈ out ∨ x = t := by
  unfold addT
  split
  · rename_i h
    exact ⟨.inl, fun q => q.elim id (fun e => e ▸ h)⟩
  · simp
theorem foldT_memI (S : Nat) : ∀ (cs : List (Nat × Nat)) (o : List Ti) (x : Ti), x ∈ cs.foldl (fun o c => addT o (tiN S c)) o ↔ x ∈ o ∨ ∃ c ∈ cs, x = tiN S c
  | [], o, x => by simp
  | c :: r, o, x => by
    rw [List.foldl_cons, foldT_memI S r, addT_memI]
    constructor
    · rintro ((h | h) | ⟨d, h1, h2⟩)
      · exact .inl h
      · exact .inr ⟨c, by simp, h⟩
      · exact .inr ⟨d, by simp [h1], h2⟩
    · rintro (h | ⟨d, h1, h2⟩)
      · exact .inl (.inl h)
      · rcases List.mem_cons.1 h1 with rfl | h1
        · exact .inl (.inr h2)
        · exact .inr ⟨d, h1, h2⟩
theorem tls_memI (S : Nat) (cs : List (Nat × Nat)) (x : Ti) : x ∈ tls S cs ↔ ∃ c ∈ cs, x = tiN S c := by
  have := foldT_memI S cs [] x
  simpa [tls] using this
theorem gdT_bd {S : Nat} {c : Nat × Nat} (h : gdT S c) (hS : S ≤ 1048576) : c.1 ≤ 255 ∧ c.2 < 18446744073709551616 ∧ c.1 / 8 ≤ 255 ∧ ofA c.1 c.2 / 256 < 18446744073709551616 := by
  obtain ⟨hm, he⟩ := h
  have h1 := ofA_lt hm
  have h4 : 0 < 2 ^ (c.1 % 8) := Nat.pow_pos (by decide)
  have h2 : 2 ^ (63 - 8 * (c.1 / 8)) ≤ 2 ^ 63 := Nat.pow_le_pow_right (by decide) (by omega)
  have h3 : (2 : Nat) ^ 63 = 9223372036854775808 := by decide
  have h5 := hm.1
  have h6 : 0 < 2 ^ c.1 := Nat.pow_pos (by decide)
  have h7 : c.2 + 1 ≤ S := Nat.le_trans (Nat.le_mul_of_pos_right _ h6) he
  omega
theorem tis_tls {S : Nat} {cs : List (Nat × Nat)} (h : gdA S cs) (hS : S ≤ 1048576) : Tis S (tls S cs) := fun t ht => by
  obtain ⟨c, hc, rfl⟩ := (tls_memI S cs t).1 ht
  obtain ⟨W, hw, h0, _⟩ := tree_wid (h c hc).1 hS (h c hc).2
  obtain ⟨_, _, b1, b2⟩ := gdT_bd (h c hc) hS
  exact ⟨rfl, by show 0 < wid _ _ _; rw [hw]; exact h0, b1, b2⟩
set_option maxRecDepth 100000 in
set_option maxHeartbeats 4000000 in
theorem gans_root {s0 : RS} {l : List (List UInt8)} {B K : Nat} {w : World} (h : s0.At l B K w) {eb : Nat} (he : Eng s0 w eb l.length) (hn : l.length ≤ 1048576) (q : Nat) (hq : q ≤ l.length) {a : Nat → Addr} (hG : Gd B a w) (caps : Array Value) (ls : List (List (Nat × Nat)))
    (hQ : ∀ V, Nw w V → Calls Tryz.prog 90 caps V fun e w' => ∃ v xs, e = .returned (.tuple #[v, .nilIface]) ∧ Pts w' V.heap.size v xs ls ∧ Nw V w')
    (hg : gdA l.length ls.flatten) (hls : ls.length ≤ 1000) (hls2 : ∀ cs ∈ ls, cs.length ≤ 1000) (hls3 : ls.flatten.length ≤ 100000)
    (P Pf : Nat → RS → Prop) (hP : P 0 s0) (x : Addr)
    (hstep : ∀ k t s, (tls l.length ls.flatten)[k]? = some t → P k s → (∀ V, s.At l B (K + k) V → Fr s0.Ff w V → s.Got l B (K + k) t.L t.I t.W (P (k + 1)) V) ∨ (∀ V, s.At l B (K + k) V → Fr s0.Ff w V → s.Fell l B (K + k) t.L t.I t.W x (Pf (k + 1)) V)) :
    Calls Tryz.prog 89 #[.pointer (some ⟨eb, 0, none⟩), .int .u64 (q : Int), .func (.func 90) #[] caps] w fun e w' =>
      (∃ s' g c, e = .returned (.tuple #[.slice (some ⟨g, 0, none⟩) ls.length c, .nilIface]) ∧ w'.ownsRow w.heap.size 69 32 (.slice (some ⟨g, 0, none⟩) ls.length c) ls.length (hsc (ls.map (phL l))) ∧ s'.tg g = 9 ∧ s'.At l B (K + (tls l.length ls.flatten).length) w' ∧ s0.Le s' w ∧ P (tls l.length ls.flatten).length s' ∧ Fr s0.Ff w w' ∧ Eng s' w' eb l.length) ∨
      (∃ s' k, k < (tls l.length ls.flatten).length ∧ e = .returned (.tuple #[.slice none 0 0, sen x]) ∧ s'.At l B (K + (k + 1)) w' ∧ s0.Le s' w ∧ Pf (k + 1) s' ∧ Fr s0.Ff w w' ∧ Eng s' w' eb l.length) := by
  have q0 := gthere_yes he
  obtain ⟨c0, c1⟩ := he.cs
  have leb := heap_lt he.blk
  have hlen : (tls l.length ls.flatten).length ≤ 100000 := Nat.le_trans (tls_len _ _) hls3
  have hbd : ∀ c ∈ ls.flatten, c.1 ≤ 255 ∧ c.2 < 18446744073709551616 := fun c hc => by
    obtain ⟨b1, b2, _⟩ := gdT_bd (hg c hc) hn
    exact ⟨b1, b2⟩
  have HQ : Hid (∀ V, Nw w V → Calls Tryz.prog 90 caps V fun e w' => ∃ v xs, e = .returned (.tuple #[v, .nilIface]) ∧ Pts w' V.heap.size v xs ls ∧ Nw V w') := hQ
  have HTL : Hid (∀ V u, Nw w V → Prt V u ls → Calls Tryz.prog 128 #[u, .int .u64 (l.length : Int)] V fun e w' => ∃ v, e = .returned (.tuple #[v, .nilIface]) ∧ w'.ownsRow V.heap.size 120 3 v (tls l.length ls.flatten).length (tic (tls l.length ls.flatten)) ∧ Nw V w') := fun V u nV hu =>
    (ptiles_any u ls l.length V hu hbd (by omega) (by omega) (by omega) (fun l hl => by have := hls2 l hl; omega) (hG.nw nV).s).mono fun e w' hh => hh.1 hg
  have HRD : Hid (∀ V u, Nw w V → V.ownsRow w.heap.size 120 3 u (tls l.length ls.flatten).length (tic (tls l.length ls.flatten)) → Calls Tryz.prog 129 #[.pointer (some ⟨eb, 0, none⟩), u] V fun e w' =>
      (∃ s' mb, e = .returned (.tuple #[.map (some mb), .nilIface]) ∧ s'.At l B (K + (tls l.length ls.flatten).length) w' ∧ s0.Le s' V ∧ P (tls l.length ls.flatten).length s' ∧ Fr s0.Ff V w' ∧ PcI s' w' mb l (tls l.length ls.flatten) ∧ Eng s' w' eb l.length) ∨
      (∃ s' k, k < (tls l.length ls.flatten).length ∧ e = .returned (.tuple #[.map none, sen x]) ∧ s'.At l B (K + (k + 1)) w' ∧ s0.Le s' V ∧ Pf (k + 1) s' ∧ Fr s0.Ff V w' ∧ Eng s' w' eb l.length)) := fun V u nV hu =>
    pread_any (h.nw nV) (he.nw nV) u _ (tis_tls hg hn) hu hlen (fun g hg => h.nt g (hu.lt g hg).1) P Pf hP x (fun k t s ht hp => (hstep k t s ht hp).imp (fun hh W aW fW => hh W aW ((nV.mono (fun _ _ f => f.elim)).trans fW (fun _ _ q => q))) (fun hh W aW fW => hh W aW ((nV.mono (fun _ _ f => f.elim)).trans fW (fun _ _ q => q))))
  have HPP : Hid (∀ (s' : RS) V V' u xs mb, Nw w V → Pts V w.heap.size u xs ls → Fr s0.Ff V V' → PcI s' V' mb l (tls l.length ls.flatten) → Calls Tryz.prog 130 #[.map (some mb), u] V' fun e w' => ∃ g c, e = .returned (.tuple #[.slice (some ⟨g, 0, none⟩) ls.length c, .nilIface]) ∧ w'.ownsRow V'.heap.size 69 32 (.slice (some ⟨g, 0, none⟩) ls.length c) ls.length (hsc (ls.map (phL l))) ∧ Nw V' w') := fun s' V V' u xs mb nV hp fV hpc => by
    have nf : ∀ g, w.heap.size ≤ g → ¬ s0.Ff g := fun g hg q => by have := h.nt g hg; unfold RS.Ff at q; omega
    have hp' : Pts V' w.heap.size u xs ls := ⟨ownsRow_keep hp.1 (fun g hg => fV.block g (hp.1.lt g hg).2 (nf g (hp.1.lt g hg).1)), hp.2.keep (fun x hx g hgs hg => by
      obtain ⟨m, hm⟩ := hp.2.at hx
      exact fV.block g hgs (nf g (hm.lt g hg).1))⟩
    exact pparts_hash (hpc.pcs (tis_tls hg hn)) h.h32 hn u ls (Prt.of hp') hls hls2 hg (fun c hc => ⟨tiN l.length c, (tls_memI _ _ _).2 ⟨c, hc, rfl⟩, rfl, rfl⟩) ((hG.nw nV).fr fV h.bt).l
  have HNT : Hid (∀ k, w.heap.size ≤ k → s0.tg k = 9) := h.nt
  obtain ⟨S, hS⟩ : ∃ S, S = l.length := ⟨_, rfl⟩
  obtain ⟨m, hm⟩ : ∃ m, m = ls.length := ⟨_, rfl⟩
  have hqS : ¬ (S : Int) < (q : Int) := by omega
  have hqd : decide (S < q) = false := by simp; omega
  have HM : Hid (m = ls.length) := hm
  have HSS : Hid (S = l.length) := hS
  rw [← hS] at c1 HTL
  clear h he hn hq hG hQ hg hls hls2 hls3 hP hstep hbd hlen c0 hS hm
  go_enter Tryz.func89, Tryz.ntmps89
  go_wp2_with fail
  refine q0.mono ?_
  rintro e w1 ⟨rfl, rfl⟩
  go_wp2_with fail
  refine (HQ.out _ (nwr _)).mono ?_
  rintro e w2 ⟨v2, xs, rfl, p2, n2⟩
  have P2 : Hid (Pts w2 w1.heap.size v2 xs ls) := p2
  have N2 : Hid (Nw w1 w2) := n2
  have c2 := n2.cellOf c1
  have le2 := Nat.lt_of_lt_of_le leb n2.size
  obtain ⟨va, vc, rfl⟩ := ownsRow_form p2.1
  clear p2 n2 c1
  go_wp2_with fail
  refine (HTL.out w2 _ N2.out (Prt.of P2.out)).mono ?_
  rintro e w3 ⟨v3, rfl, o3, n3⟩
  have N3 : Hid (Nw w2 w3) := n3
  have O3 : Hid (w3.ownsRow w1.heap.size 120 3 v3 (tls l.length ls.flatten).length (tic (tls l.length ls.flatten))) := ownsRow_base (by rw [← HSS.out] at *; exact o3) N2.out.size
  obtain ⟨ta, tc, rfl⟩ := ownsRow_form o3
  clear o3 n3 c2
  go_wp2_with fail
  refine (HRD.out w3 _ (N2.out.tr N3.out) O3.out).mono ?_
  rintro e w4 (⟨s4, mb, rfl, a4, le4, p4, f4, pc4, e4⟩ | ⟨s4, k, hk, rfl, a4, le4, p4, f4, e4⟩)
  · have H4 : Hid (s4.At l B (K + (tls l.length ls.flatten).length) w4 ∧ s0.Le s4 w3 ∧ P (tls l.length ls.flatten).length s4 ∧ Fr s0.Ff w3 w4 ∧ PcI s4 w4 mb l (tls l.length ls.flatten) ∧ Eng s4 w4 eb l.length) := ⟨a4, le4, p4, f4, pc4, e4⟩
    clear a4 le4 p4 f4 pc4 e4
    go_wp2_with fail
    refine (HPP.out s4 w3 w4 _ xs mb (N2.out.tr N3.out) (P2.out.nw N3.out) H4.out.2.2.2.1 H4.out.2.2.2.2.1).mono ?_
    rintro e w5 ⟨g, c, rfl, o5, n5⟩
    have O5 : Hid (w5.ownsRow w4.heap.size 69 32 (.slice (some ⟨g, 0, none⟩) ls.length c) ls.length (hsc (ls.map (phL l))) ∧ Nw w4 w5) := ⟨o5, n5⟩
    clear o5 n5
    go_wp2
    obtain ⟨a4, le4, p4, f4, pc4, e4⟩ := H4.out
    obtain ⟨o5, n5⟩ := O5.out
    have nw3 := N2.out.tr N3.out
    have fw4 : Fr s0.Ff w1 w4 := (nw3.mono (fun _ _ f => f.elim)).trans f4 (fun _ _ q => q)
    exact bodyPost_ret (v := .tuple #[.slice (some ⟨g, 0, none⟩) ls.length c, .nilIface]) (by simp [results, Tryz.results89]) rfl (.inl ⟨s4, g, c, rfl, ownsRow_base o5 fw4.size, a4.nt g (o5.lt g rfl).1, a4.nw n5, ⟨fun j hj => le4.tg j (Nat.lt_of_lt_of_le hj nw3.size), le4.rb, le4.sb, le4.zs, le4.cap⟩, p4, fw4.trans n5 (fun _ _ q => q.elim), e4.nw n5⟩)
  · have H4 : Hid (s4.At l B (K + (k + 1)) w4 ∧ s0.Le s4 w3 ∧ Pf (k + 1) s4 ∧ Fr s0.Ff w3 w4 ∧ Eng s4 w4 eb l.length) := ⟨a4, le4, p4, f4, e4⟩
    have HK : Hid (k < (tls l.length ls.flatten).length) := hk
    clear a4 le4 p4 f4 e4 hk
    go_wp2
    obtain ⟨a4, le4, p4, f4, e4⟩ := H4.out
    have nw3 := N2.out.tr N3.out
    exact bodyPost_ret (v := .tuple #[.slice none 0 0, sen x]) (by simp [results, Tryz.results89]) rfl (.inr ⟨s4, k, HK.out, rfl, a4, ⟨fun j hj => le4.tg j (Nat.lt_of_lt_of_le hj nw3.size), le4.rb, le4.sb, le4.zs, le4.cap⟩, p4, (nw3.mono (fun _ _ f => f.elim)).trans f4 (fun _ _ q => q), e4⟩)
set_option maxRecDepth 100000 in
set_option maxHeartbeats 4000000 in
theorem gans_path {s0 : RS} {l : List (List UInt8)} {B K : Nat} {w : World} (h : s0.At l B K w) {eb : Nat} (he : Eng s0 w eb l.length) (hn : l.length ≤ 1048576) (q : Nat) (hq : q ≤ l.length) {a : Nat → Addr} (hG : Gd B a w) (caps : Array Value) (ls : List (List (Nat × Nat)))
    (hQ : ∀ V, Nw w V → Calls Tryz.prog 92 caps V fun e w' => ∃ v xs, e = .returned (.tuple #[v, .nilIface]) ∧ Pts w' V.heap.size v xs ls ∧ Nw V w')
    (hg : gdA l.length ls.flatten) (hls : ls.length ≤ 1000) (hls2 : ∀ cs ∈ ls, cs.length ≤ 1000) (hls3 : ls.flatten.length ≤ 100000)
    (P Pf : Nat → RS → Prop) (hP : P 0 s0) (x : Addr)
    (hstep : ∀ k t s, (tls l.length ls.flatten)[k]? = some t → P k s → (∀ V, s.At l B (K + k) V → Fr s0.Ff w V → s.Got l B (K + k) t.L t.I t.W (P (k + 1)) V) ∨ (∀ V, s.At l B (K + k) V → Fr s0.Ff w V → s.Fell l B (K + k) t.L t.I t.W x (Pf (k + 1)) V)) :
    Calls Tryz.prog 89 #[.pointer (some ⟨eb, 0, none⟩), .int .u64 (q : Int), .func (.func 92) #[] caps] w fun e w' =>
      (∃ s' g c, e = .returned (.tuple #[.slice (some ⟨g, 0, none⟩) ls.length c, .nilIface]) ∧ w'.ownsRow w.heap.size 69 32 (.slice (some ⟨g, 0, none⟩) ls.length c) ls.length (hsc (ls.map (phL l))) ∧ s'.tg g = 9 ∧ s'.At l B (K + (tls l.length ls.flatten).length) w' ∧ s0.Le s' w ∧ P (tls l.length ls.flatten).length s' ∧ Fr s0.Ff w w' ∧ Eng s' w' eb l.length) ∨
      (∃ s' k, k < (tls l.length ls.flatten).length ∧ e = .returned (.tuple #[.slice none 0 0, sen x]) ∧ s'.At l B (K + (k + 1)) w' ∧ s0.Le s' w ∧ Pf (k + 1) s' ∧ Fr s0.Ff w w' ∧ Eng s' w' eb l.length) := by
  have q0 := gthere_yes he
  obtain ⟨c0, c1⟩ := he.cs
  have leb := heap_lt he.blk
  have hlen : (tls l.length ls.flatten).length ≤ 100000 := Nat.le_trans (tls_len _ _) hls3
  have hbd : ∀ c ∈ ls.flatten, c.1 ≤ 255 ∧ c.2 < 18446744073709551616 := fun c hc => by
    obtain ⟨b1, b2, _⟩ := gdT_bd (hg c hc) hn
    exact ⟨b1, b2⟩
  have HQ : Hid (∀ V, Nw w V → Calls Tryz.prog 92 caps V fun e w' => ∃ v xs, e = .returned (.tuple #[v, .nilIface]) ∧ Pts w' V.heap.size v xs ls ∧ Nw V w') := hQ
  have HTL : Hid (∀ V u, Nw w V → Prt V u ls → Calls Tryz.prog 128 #[u, .int .u64 (l.length : Int)] V fun e w' => ∃ v, e = .returned (.tuple #[v, .nilIface]) ∧ w'.ownsRow V.heap.size 120 3 v (tls l.length ls.flatten).length (tic (tls l.length ls.flatten)) ∧ Nw V w') := fun V u nV hu =>
    (ptiles_any u ls l.length V hu hbd (by omega) (by omega) (by omega) (fun l hl => by have := hls2 l hl; omega) (hG.nw nV).s).mono fun e w' hh => hh.1 hg
  have HRD : Hid (∀ V u, Nw w V → V.ownsRow w.heap.size 120 3 u (tls l.length ls.flatten).length (tic (tls l.length ls.flatten)) → Calls Tryz.prog 129 #[.pointer (some ⟨eb, 0, none⟩), u] V fun e w' =>
      (∃ s' mb, e = .returned (.tuple #[.map (some mb), .nilIface]) ∧ s'.At l B (K + (tls l.length ls.flatten).length) w' ∧ s0.Le s' V ∧ P (tls l.length ls.flatten).length s' ∧ Fr s0.Ff V w' ∧ PcI s' w' mb l (tls l.length ls.flatten) ∧ Eng s' w' eb l.length) ∨
      (∃ s' k, k < (tls l.length ls.flatten).length ∧ e = .returned (.tuple #[.map none, sen x]) ∧ s'.At l B (K + (k + 1)) w' ∧ s0.Le s' V ∧ Pf (k + 1) s' ∧ Fr s0.Ff V w' ∧ Eng s' w' eb l.length)) := fun V u nV hu =>
    pread_any (h.nw nV) (he.nw nV) u _ (tis_tls hg hn) hu hlen (fun g hg => h.nt g (hu.lt g hg).1) P Pf hP x (fun k t s ht hp => (hstep k t s ht hp).imp (fun hh W aW fW => hh W aW ((nV.mono (fun _ _ f => f.elim)).trans fW (fun _ _ q => q))) (fun hh W aW fW => hh W aW ((nV.mono (fun _ _ f => f.elim)).trans fW (fun _ _ q => q))))
  have HPP : Hid (∀ (s' : RS) V V' u xs mb, Nw w V → Pts V w.heap.size u xs ls → Fr s0.Ff V V' → PcI s' V' mb l (tls l.length ls.flatten) → Calls Tryz.prog 130 #[.map (some mb), u] V' fun e w' => ∃ g c, e = .returned (.tuple #[.slice (some ⟨g, 0, none⟩) ls.length c, .nilIface]) ∧ w'.ownsRow V'.heap.size 69 32 (.slice (some ⟨g, 0, none⟩) ls.length c) ls.length (hsc (ls.map (phL l))) ∧ Nw V' w') := fun s' V V' u xs mb nV hp fV hpc => by
    have nf : ∀ g, w.heap.size ≤ g → ¬ s0.Ff g := fun g hg q => by have := h.nt g hg; unfold RS.Ff at q; omega
    have hp' : Pts V' w.heap.size u xs ls := ⟨ownsRow_keep hp.1 (fun g hg => fV.block g (hp.1.lt g hg).2 (nf g (hp.1.lt g hg).1)), hp.2.keep (fun x hx g hgs hg => by
      obtain ⟨m, hm⟩ := hp.2.at hx
      exact fV.block g hgs (nf g (hm.lt g hg).1))⟩
    exact pparts_hash (hpc.pcs (tis_tls hg hn)) h.h32 hn u ls (Prt.of hp') hls hls2 hg (fun c hc => ⟨tiN l.length c, (tls_memI _ _ _).2 ⟨c, hc, rfl⟩, rfl, rfl⟩) ((hG.nw nV).fr fV h.bt).l
  have HNT : Hid (∀ k, w.heap.size ≤ k → s0.tg k = 9) := h.nt
  obtain ⟨S, hS⟩ : ∃ S, S = l.length := ⟨_, rfl⟩
  obtain ⟨m, hm⟩ : ∃ m, m = ls.length := ⟨_, rfl⟩
  have hqS : ¬ (S : Int) < (q : Int) := by omega
  have hqd : decide (S < q) = false := by simp; omega
  have HM : Hid (m = ls.length) := hm
  have HSS : Hid (S = l.length) := hS
  rw [← hS] at c1 HTL
  clear h he hn hq hG hQ hg hls hls2 hls3 hP hstep hbd hlen c0 hS hm
  go_enter Tryz.func89, Tryz.ntmps89
  go_wp2_with fail
  refine q0.mono ?_
  rintro e w1 ⟨rfl, rfl⟩
  go_wp2_with fail
  refine (HQ.out _ (nwr _)).mono ?_
  rintro e w2 ⟨v2, xs, rfl, p2, n2⟩
  have P2 : Hid (Pts w2 w1.heap.size v2 xs ls) := p2
  have N2 : Hid (Nw w1 w2) := n2
  have c2 := n2.cellOf c1
  have le2 := Nat.lt_of_lt_of_le leb n2.size
  obtain ⟨va, vc, rfl⟩ := ownsRow_form p2.1
  clear p2 n2 c1
  go_wp2_with fail
  refine (HTL.out w2 _ N2.out (Prt.of P2.out)).mono ?_
  rintro e w3 ⟨v3, rfl, o3, n3⟩
  have N3 : Hid (Nw w2 w3) := n3
  have O3 : Hid (w3.ownsRow w1.heap.size 120 3 v3 (tls l.length ls.flatten).length (tic (tls l.length ls.flatten))) := ownsRow_base (by rw [← HSS.out] at *; exact o3) N2.out.size
  obtain ⟨ta, tc, rfl⟩ := ownsRow_form o3
  clear o3 n3 c2
  go_wp2_with fail
  refine (HRD.out w3 _ (N2.out.tr N3.out) O3.out).mono ?_
  rintro e w4 (⟨s4, mb, rfl, a4, le4, p4, f4, pc4, e4⟩ | ⟨s4, k, hk, rfl, a4, le4, p4, f4, e4⟩)
  · have H4 : Hid (s4.At l B (K + (tls l.length ls.flatten).length) w4 ∧ s0.Le s4 w3 ∧ P (tls l.length ls.flatten).length s4 ∧ Fr s0.Ff w3 w4 ∧ PcI s4 w4 mb l (tls l.length ls.flatten) ∧ Eng s4 w4 eb l.length) := ⟨a4, le4, p4, f4, pc4, e4⟩
    clear a4 le4 p4 f4 pc4 e4
    go_wp2_with fail
    refine (HPP.out s4 w3 w4 _ xs mb (N2.out.tr N3.out) (P2.out.nw N3.out) H4.out.2.2.2.1 H4.out.2.2.2.2.1).mono ?_
    rintro e w5 ⟨g, c, rfl, o5, n5⟩
    have O5 : Hid (w5.ownsRow w4.heap.size 69 32 (.slice (some ⟨g, 0, none⟩) ls.length c) ls.length (hsc (ls.map (phL l))) ∧ Nw w4 w5) := ⟨o5, n5⟩
    clear o5 n5
    go_wp2
    obtain ⟨a4, le4, p4, f4, pc4, e4⟩ := H4.out
    obtain ⟨o5, n5⟩ := O5.out
    have nw3 := N2.out.tr N3.out
    have fw4 : Fr s0.Ff w1 w4 := (nw3.mono (fun _ _ f => f.elim)).trans f4 (fun _ _ q => q)
    exact bodyPost_ret (v := .tuple #[.slice (some ⟨g, 0, none⟩) ls.length c, .nilIface]) (by simp [results, Tryz.results89]) rfl (.inl ⟨s4, g, c, rfl, ownsRow_base o5 fw4.size, a4.nt g (o5.lt g rfl).1, a4.nw n5, ⟨fun j hj => le4.tg j (Nat.lt_of_lt_of_le hj nw3.size), le4.rb, le4.sb, le4.zs, le4.cap⟩, p4, fw4.trans n5 (fun _ _ q => q.elim), e4.nw n5⟩)
  · have H4 : Hid (s4.At l B (K + (k + 1)) w4 ∧ s0.Le s4 w3 ∧ Pf (k + 1) s4 ∧ Fr s0.Ff w3 w4 ∧ Eng s4 w4 eb l.length) := ⟨a4, le4, p4, f4, e4⟩
    have HK : Hid (k < (tls l.length ls.flatten).length) := hk
    clear a4 le4 p4 f4 e4 hk
    go_wp2
    obtain ⟨a4, le4, p4, f4, e4⟩ := H4.out
    have nw3 := N2.out.tr N3.out
    exact bodyPost_ret (v := .tuple #[.slice none 0 0, sen x]) (by simp [results, Tryz.results89]) rfl (.inr ⟨s4, k, HK.out, rfl, a4, ⟨fun j hj => le4.tg j (Nat.lt_of_lt_of_le hj nw3.size), le4.rb, le4.sb, le4.zs, le4.cap⟩, p4, (nw3.mono (fun _ _ f => f.elim)).trans f4 (fun _ _ q => q), e4⟩)
set_option maxRecDepth 100000 in
set_option maxHeartbeats 4000000 in
theorem gans_proof {s0 : RS} {l : List (List UInt8)} {B K : Nat} {w : World} (h : s0.At l B K w) {eb : Nat} (he : Eng s0 w eb l.length) (hn : l.length ≤ 1048576) (q : Nat) (hq : q ≤ l.length) {a : Nat → Addr} (hG : Gd B a w) (caps : Array Value) (ls : List (List (Nat × Nat)))
    (hQ : ∀ V, Nw w V → Calls Tryz.prog 106 caps V fun e w' => ∃ v xs, e = .returned (.tuple #[v, .nilIface]) ∧ Pts w' V.heap.size v xs ls ∧ Nw V w')
    (hg : gdA l.length ls.flatten) (hls : ls.length ≤ 1000) (hls2 : ∀ cs ∈ ls, cs.length ≤ 1000) (hls3 : ls.flatten.length ≤ 100000)
    (P Pf : Nat → RS → Prop) (hP : P 0 s0) (x : Addr)
    (hstep : ∀ k t s, (tls l.length ls.flatten)[k]? = some t → P k s → (∀ V, s.At l B (K + k) V → Fr s0.Ff w V → s.Got l B (K + k) t.L t.I t.W (P (k + 1)) V) ∨ (∀ V, s.At l B (K + k) V → Fr s0.Ff w V → s.Fell l B (K + k) t.L t.I t.W x (Pf (k + 1)) V)) :
    Calls Tryz.prog 89 #[.pointer (some ⟨eb, 0, none⟩), .int .u64 (q : Int), .func (.func 106) #[] caps] w fun e w' =>
      (∃ s' g c, e = .returned (.tuple #[.slice (some ⟨g, 0, none⟩) ls.length c, .nilIface]) ∧ w'.ownsRow w.heap.size 69 32 (.slice (some ⟨g, 0, none⟩) ls.length c) ls.length (hsc (ls.map (phL l))) ∧ s'.tg g = 9 ∧ s'.At l B (K + (tls l.length ls.flatten).length) w' ∧ s0.Le s' w ∧ P (tls l.length ls.flatten).length s' ∧ Fr s0.Ff w w' ∧ Eng s' w' eb l.length) ∨
      (∃ s' k, k < (tls l.length ls.flatten).length ∧ e = .returned (.tuple #[.slice none 0 0, sen x]) ∧ s'.At l B (K + (k + 1)) w' ∧ s0.Le s' w ∧ Pf (k + 1) s' ∧ Fr s0.Ff w w' ∧ Eng s' w' eb l.length) := by
  have q0 := gthere_yes he
  obtain ⟨c0, c1⟩ := he.cs
  have leb := heap_lt he.blk
  have hlen : (tls l.length ls.flatten).length ≤ 100000 := Nat.le_trans (tls_len _ _) hls3
  have hbd : ∀ c ∈ ls.flatten, c.1 ≤ 255 ∧ c.2 < 18446744073709551616 := fun c hc => by
    obtain ⟨b1, b2, _⟩ := gdT_bd (hg c hc) hn
    exact ⟨b1, b2⟩
  have HQ : Hid (∀ V, Nw w V → Calls Tryz.prog 106 caps V fun e w' => ∃ v xs, e = .returned (.tuple #[v, .nilIface]) ∧ Pts w' V.heap.size v xs ls ∧ Nw V w') := hQ
  have HTL : Hid (∀ V u, Nw w V → Prt V u ls → Calls Tryz.prog 128 #[u, .int .u64 (l.length : Int)] V fun e w' => ∃ v, e = .returned (.tuple #[v, .nilIface]) ∧ w'.ownsRow V.heap.size 120 3 v (tls l.length ls.flatten).length (tic (tls l.length ls.flatten)) ∧ Nw V w') := fun V u nV hu =>
    (ptiles_any u ls l.length V hu hbd (by omega) (by omega) (by omega) (fun l hl => by have := hls2 l hl; omega) (hG.nw nV).s).mono fun e w' hh => hh.1 hg
  have HRD : Hid (∀ V u, Nw w V → V.ownsRow w.heap.size 120 3 u (tls l.length ls.flatten).length (tic (tls l.length ls.flatten)) → Calls Tryz.prog 129 #[.pointer (some ⟨eb, 0, none⟩), u] V fun e w' =>
      (∃ s' mb, e = .returned (.tuple #[.map (some mb), .nilIface]) ∧ s'.At l B (K + (tls l.length ls.flatten).length) w' ∧ s0.Le s' V ∧ P (tls l.length ls.flatten).length s' ∧ Fr s0.Ff V w' ∧ PcI s' w' mb l (tls l.length ls.flatten) ∧ Eng s' w' eb l.length) ∨
      (∃ s' k, k < (tls l.length ls.flatten).length ∧ e = .returned (.tuple #[.map none, sen x]) ∧ s'.At l B (K + (k + 1)) w' ∧ s0.Le s' V ∧ Pf (k + 1) s' ∧ Fr s0.Ff V w' ∧ Eng s' w' eb l.length)) := fun V u nV hu =>
    pread_any (h.nw nV) (he.nw nV) u _ (tis_tls hg hn) hu hlen (fun g hg => h.nt g (hu.lt g hg).1) P Pf hP x (fun k t s ht hp => (hstep k t s ht hp).imp (fun hh W aW fW => hh W aW ((nV.mono (fun _ _ f => f.elim)).trans fW (fun _ _ q => q))) (fun hh W aW fW => hh W aW ((nV.mono (fun _ _ f => f.elim)).trans fW (fun _ _ q => q))))
  have HPP : Hid (∀ (s' : RS) V V' u xs mb, Nw w V → Pts V w.heap.size u xs ls → Fr s0.Ff V V' → PcI s' V' mb l (tls l.length ls.flatten) → Calls Tryz.prog 130 #[.map (some mb), u] V' fun e w' => ∃ g c, e = .returned (.tuple #[.slice (some ⟨g, 0, none⟩) ls.length c, .nilIface]) ∧ w'.ownsRow V'.heap.size 69 32 (.slice (some ⟨g, 0, none⟩) ls.length c) ls.length (hsc (ls.map (phL l))) ∧ Nw V' w') := fun s' V V' u xs mb nV hp fV hpc => by
    have nf : ∀ g, w.heap.size ≤ g → ¬ s0.Ff g := fun g hg q => by have := h.nt g hg; unfold RS.Ff at q; omega
    have hp' : Pts V' w.heap.size u xs ls := ⟨ownsRow_keep hp.1 (fun g hg => fV.block g (hp.1.lt g hg).2 (nf g (hp.1.lt g hg).1)), hp.2.keep (fun x hx g hgs hg => by
      obtain ⟨m, hm⟩ := hp.2.at hx
      exact fV.block g hgs (nf g (hm.lt g hg).1))⟩
    exact pparts_hash (hpc.pcs (tis_tls hg hn)) h.h32 hn u ls (Prt.of hp') hls hls2 hg (fun c hc => ⟨tiN l.length c, (tls_memI _ _ _).2 ⟨c, hc, rfl⟩, rfl, rfl⟩) ((hG.nw nV).fr fV h.bt).l
  have HNT : Hid (∀ k, w.heap.size ≤ k → s0.tg k = 9) := h.nt
  obtain ⟨S, hS⟩ : ∃ S, S = l.length := ⟨_, rfl⟩
  obtain ⟨m, hm⟩ : ∃ m, m = ls.length := ⟨_, rfl⟩
  have hqS : ¬ (S : Int) < (q : Int) := by omega
  have hqd : decide (S < q) = false := by simp; omega
  have HM : Hid (m = ls.length) := hm
  have HSS : Hid (S = l.length) := hS
  rw [← hS] at c1 HTL
  clear h he hn hq hG hQ hg hls hls2 hls3 hP hstep hbd hlen c0 hS hm
  go_enter Tryz.func89, Tryz.ntmps89
  go_wp2_with fail
  refine q0.mono ?_
  rintro e w1 ⟨rfl, rfl⟩
  go_wp2_with fail
  refine (HQ.out _ (nwr _)).mono ?_
  rintro e w2 ⟨v2, xs, rfl, p2, n2⟩
  have P2 : Hid (Pts w2 w1.heap.size v2 xs ls) := p2
  have N2 : Hid (Nw w1 w2) := n2
  have c2 := n2.cellOf c1
  have le2 := Nat.lt_of_lt_of_le leb n2.size
  obtain ⟨va, vc, rfl⟩ := ownsRow_form p2.1
  clear p2 n2 c1
  go_wp2_with fail
  refine (HTL.out w2 _ N2.out (Prt.of P2.out)).mono ?_
  rintro e w3 ⟨v3, rfl, o3, n3⟩
  have N3 : Hid (Nw w2 w3) := n3
  have O3 : Hid (w3.ownsRow w1.heap.size 120 3 v3 (tls l.length ls.flatten).length (tic (tls l.length ls.flatten))) := ownsRow_base (by rw [← HSS.out] at *; exact o3) N2.out.size
  obtain ⟨ta, tc, rfl⟩ := ownsRow_form o3
  clear o3 n3 c2
  go_wp2_with fail
  refine (HRD.out w3 _ (N2.out.tr N3.out) O3.out).mono ?_
  rintro e w4 (⟨s4, mb, rfl, a4, le4, p4, f4, pc4, e4⟩ | ⟨s4, k, hk, rfl, a4, le4, p4, f4, e4⟩)
  · have H4 : Hid (s4.At l B (K + (tls l.length ls.flatten).length) w4 ∧ s0.Le s4 w3 ∧ P (tls l.length ls.flatten).length s4 ∧ Fr s0.Ff w3 w4 ∧ PcI s4 w4 mb l (tls l.length ls.flatten) ∧ Eng s4 w4 eb l.length) := ⟨a4, le4, p4, f4, pc4, e4⟩
    clear a4 le4 p4 f4 pc4 e4
    go_wp2_with fail
    refine (HPP.out s4 w3 w4 _ xs mb (N2.out.tr N3.out) (P2.out.nw N3.out) H4.out.2.2.2.1 H4.out.2.2.2.2.1).mono ?_
    rintro e w5 ⟨g, c, rfl, o5, n5⟩
    have O5 : Hid (w5.ownsRow w4.heap.size 69 32 (.slice (some ⟨g, 0, none⟩) ls.length c) ls.length (hsc (ls.map (phL l))) ∧ Nw w4 w5) := ⟨o5, n5⟩
    clear o5 n5
    go_wp2
    obtain ⟨a4, le4, p4, f4, pc4, e4⟩ := H4.out
    obtain ⟨o5, n5⟩ := O5.out
    have nw3 := N2.out.tr N3.out
    have fw4 : Fr s0.Ff w1 w4 := (nw3.mono (fun _ _ f => f.elim)).trans f4 (fun _ _ q => q)
    exact bodyPost_ret (v := .tuple #[.slice (some ⟨g, 0, none⟩) ls.length c, .nilIface]) (by simp [results, Tryz.results89]) rfl (.inl ⟨s4, g, c, rfl, ownsRow_base o5 fw4.size, a4.nt g (o5.lt g rfl).1, a4.nw n5, ⟨fun j hj => le4.tg j (Nat.lt_of_lt_of_le hj nw3.size), le4.rb, le4.sb, le4.zs, le4.cap⟩, p4, fw4.trans n5 (fun _ _ q => q.elim), e4.nw n5⟩)
  · have H4 : Hid (s4.At l B (K + (k + 1)) w4 ∧ s0.Le s4 w3 ∧ Pf (k + 1) s4 ∧ Fr s0.Ff w3 w4 ∧ Eng s4 w4 eb l.length) := ⟨a4, le4, p4, f4, e4⟩
    have HK : Hid (k < (tls l.length ls.flatten).length) := hk
    clear a4 le4 p4 f4 e4 hk
    go_wp2
    obtain ⟨a4, le4, p4, f4, e4⟩ := H4.out
    have nw3 := N2.out.tr N3.out
    exact bodyPost_ret (v := .tuple #[.slice none 0 0, sen x]) (by simp [results, Tryz.results89]) rfl (.inr ⟨s4, k, HK.out, rfl, a4, ⟨fun j hj => le4.tg j (Nat.lt_of_lt_of_le hj nw3.size), le4.rb, le4.sb, le4.zs, le4.cap⟩, p4, (nw3.mono (fun _ _ f => f.elim)).trans f4 (fun _ _ q => q), e4⟩)
set_option maxRecDepth 100000 in
set_option maxHeartbeats 4000000 in
theorem gans_batch {s0 : RS} {l : List (List UInt8)} {B K : Nat} {w : World} (h : s0.At l B K w) {eb : Nat} (he : Eng s0 w eb l.length) (hn : l.length ≤ 1048576) (q : Nat) (hq : q ≤ l.length) {a : Nat → Addr} (hG : Gd B a w) (caps : Array Value) (ls : List (List (Nat × Nat)))
    (hQ : ∀ V, Nw w V → Calls Tryz.prog 109 caps V fun e w' => ∃ v xs, e = .returned (.tuple #[v, .nilIface]) ∧ Pts w' V.heap.size v xs ls ∧ Nw V w')
    (hg : gdA l.length ls.flatten) (hls : ls.length ≤ 1000) (hls2 : ∀ cs ∈ ls, cs.length ≤ 1000) (hls3 : ls.flatten.length ≤ 100000)
    (P Pf : Nat → RS → Prop) (hP : P 0 s0) (x : Addr)
    (hstep : ∀ k t s, (tls l.length ls.flatten)[k]? = some t → P k s → (∀ V, s.At l B (K + k) V → Fr s0.Ff w V → s.Got l B (K + k) t.L t.I t.W (P (k + 1)) V) ∨ (∀ V, s.At l B (K + k) V → Fr s0.Ff w V → s.Fell l B (K + k) t.L t.I t.W x (Pf (k + 1)) V)) :
    Calls Tryz.prog 89 #[.pointer (some ⟨eb, 0, none⟩), .int .u64 (q : Int), .func (.func 109) #[] caps] w fun e w' =>
      (∃ s' g c, e = .returned (.tuple #[.slice (some ⟨g, 0, none⟩) ls.length c, .nilIface]) ∧ w'.ownsRow w.heap.size 69 32 (.slice (some ⟨g, 0, none⟩) ls.length c) ls.length (hsc (ls.map (phL l))) ∧ s'.tg g = 9 ∧ s'.At l B (K + (tls l.length ls.flatten).length) w' ∧ s0.Le s' w ∧ P (tls l.length ls.flatten).length s' ∧ Fr s0.Ff w w' ∧ Eng s' w' eb l.length) ∨
      (∃ s' k, k < (tls l.length ls.flatten).length ∧ e = .returned (.tuple #[.slice none 0 0, sen x]) ∧ s'.At l B (K + (k + 1)) w' ∧ s0.Le s' w ∧ Pf (k + 1) s' ∧ Fr s0.Ff w w' ∧ Eng s' w' eb l.length) := by
  have q0 := gthere_yes he
  obtain ⟨c0, c1⟩ := he.cs
  have leb := heap_lt he.blk
  have hlen : (tls l.length ls.flatten).length ≤ 100000 := Nat.le_trans (tls_len _ _) hls3
  have hbd : ∀ c ∈ ls.flatten, c.1 ≤ 255 ∧ c.2 < 18446744073709551616 := fun c hc => by
    obtain ⟨b1, b2, _⟩ := gdT_bd (hg c hc) hn
    exact ⟨b1, b2⟩
  have HQ : Hid (∀ V, Nw w V → Calls Tryz.prog 109 caps V fun e w' => ∃ v xs, e = .returned (.tuple #[v, .nilIface]) ∧ Pts w' V.heap.size v xs ls ∧ Nw V w') := hQ
  have HTL : Hid (∀ V u, Nw w V → Prt V u ls → Calls Tryz.prog 128 #[u, .int .u64 (l.length : Int)] V fun e w' => ∃ v, e = .returned (.tuple #[v, .nilIface]) ∧ w'.ownsRow V.heap.size 120 3 v (tls l.length ls.flatten).length (tic (tls l.length ls.flatten)) ∧ Nw V w') := fun V u nV hu =>
    (ptiles_any u ls l.length V hu hbd (by omega) (by omega) (by omega) (fun l hl => by have := hls2 l hl; omega) (hG.nw nV).s).mono fun e w' hh => hh.1 hg
  have HRD : Hid (∀ V u, Nw w V → V.ownsRow w.heap.size 120 3 u (tls l.length ls.flatten).length (tic (tls l.length ls.flatten)) → Calls Tryz.prog 129 #[.pointer (some ⟨eb, 0, none⟩), u] V fun e w' =>
      (∃ s' mb, e = .returned (.tuple #[.map (some mb), .nilIface]) ∧ s'.At l B (K + (tls l.length ls.flatten).length) w' ∧ s0.Le s' V ∧ P (tls l.length ls.flatten).length s' ∧ Fr s0.Ff V w' ∧ PcI s' w' mb l (tls l.length ls.flatten) ∧ Eng s' w' eb l.length) ∨
      (∃ s' k, k < (tls l.length ls.flatten).length ∧ e = .returned (.tuple #[.map none, sen x]) ∧ s'.At l B (K + (k + 1)) w' ∧ s0.Le s' V ∧ Pf (k + 1) s' ∧ Fr s0.Ff V w' ∧ Eng s' w' eb l.length)) := fun V u nV hu =>
    pread_any (h.nw nV) (he.nw nV) u _ (tis_tls hg hn) hu hlen (fun g hg => h.nt g (hu.lt g hg).1) P Pf hP x (fun k t s ht hp => (hstep k t s ht hp).imp (fun hh W aW fW => hh W aW ((nV.mono (fun _ _ f => f.elim)).trans fW (fun _ _ q => q))) (fun hh W aW fW => hh W aW ((nV.mono (fun _ _ f => f.elim)).trans fW (fun _ _ q => q))))
  have HPP : Hid (∀ (s' : RS) V V' u xs mb, Nw w V → Pts V w.heap.size u xs ls → Fr s0.Ff V V' → PcI s' V' mb l (tls l.length ls.flatten) → Calls Tryz.prog 130 #[.map (some mb), u] V' fun e w' => ∃ g c, e = .returned (.tuple #[.slice (some ⟨g, 0, none⟩) ls.length c, .nilIface]) ∧ w'.ownsRow V'.heap.size 69 32 (.slice (some ⟨g, 0, none⟩) ls.length c) ls.length (hsc (ls.map (phL l))) ∧ Nw V' w') := fun s' V V' u xs mb nV hp fV hpc => by
    have nf : ∀ g, w.heap.size ≤ g → ¬ s0.Ff g := fun g hg q => by have := h.nt g hg; unfold RS.Ff at q; omega
    have hp' : Pts V' w.heap.size u xs ls := ⟨ownsRow_keep hp.1 (fun g hg => fV.block g (hp.1.lt g hg).2 (nf g (hp.1.lt g hg).1)), hp.2.keep (fun x hx g hgs hg => by
      obtain ⟨m, hm⟩ := hp.2.at hx
      exact fV.block g hgs (nf g (hm.lt g hg).1))⟩
    exact pparts_hash (hpc.pcs (tis_tls hg hn)) h.h32 hn u ls (Prt.of hp') hls hls2 hg (fun c hc => ⟨tiN l.length c, (tls_memI _ _ _).2 ⟨c, hc, rfl⟩, rfl, rfl⟩) ((hG.nw nV).fr fV h.bt).l
  have HNT : Hid (∀ k, w.heap.size ≤ k → s0.tg k = 9) := h.nt
  obtain ⟨S, hS⟩ : ∃ S, S = l.length := ⟨_, rfl⟩
  obtain ⟨m, hm⟩ : ∃ m, m = ls.length := ⟨_, rfl⟩
  have hqS : ¬ (S : Int) < (q : Int) := by omega
  have hqd : decide (S < q) = false := by simp; omega
  have HM : Hid (m = ls.length) := hm
  have HSS : Hid (S = l.length) := hS
  rw [← hS] at c1 HTL
  clear h he hn hq hG hQ hg hls hls2 hls3 hP hstep hbd hlen c0 hS hm
  go_enter Tryz.func89, Tryz.ntmps89
  go_wp2_with fail
  refine q0.mono ?_
  rintro e w1 ⟨rfl, rfl⟩
  go_wp2_with fail
  refine (HQ.out _ (nwr _)).mono ?_
  rintro e w2 ⟨v2, xs, rfl, p2, n2⟩
  have P2 : Hid (Pts w2 w1.heap.size v2 xs ls) := p2
  have N2 : Hid (Nw w1 w2) := n2
  have c2 := n2.cellOf c1
  have le2 := Nat.lt_of_lt_of_le leb n2.size
  obtain ⟨va, vc, rfl⟩ := ownsRow_form p2.1
  clear p2 n2 c1
  go_wp2_with fail
  refine (HTL.out w2 _ N2.out (Prt.of P2.out)).mono ?_
  rintro e w3 ⟨v3, rfl, o3, n3⟩
  have N3 : Hid (Nw w2 w3) := n3
  have O3 : Hid (w3.ownsRow w1.heap.size 120 3 v3 (tls l.length ls.flatten).length (tic (tls l.length ls.flatten))) := ownsRow_base (by rw [← HSS.out] at *; exact o3) N2.out.size
  obtain ⟨ta, tc, rfl⟩ := ownsRow_form o3
  clear o3 n3 c2
  go_wp2_with fail
  refine (HRD.out w3 _ (N2.out.tr N3.out) O3.out).mono ?_
  rintro e w4 (⟨s4, mb, rfl, a4, le4, p4, f4, pc4, e4⟩ | ⟨s4, k, hk, rfl, a4, le4, p4, f4, e4⟩)
  · have H4 : Hid (s4.At l B (K + (tls l.length ls.flatten).length) w4 ∧ s0.Le s4 w3 ∧ P (tls l.length ls.flatten).length s4 ∧ Fr s0.Ff w3 w4 ∧ PcI s4 w4 mb l (tls l.length ls.flatten) ∧ Eng s4 w4 eb l.length) := ⟨a4, le4, p4, f4, pc4, e4⟩
    clear a4 le4 p4 f4 pc4 e4
    go_wp2_with fail
    refine (HPP.out s4 w3 w4 _ xs mb (N2.out.tr N3.out) (P2.out.nw N3.out) H4.out.2.2.2.1 H4.out.2.2.2.2.1).mono ?_
    rintro e w5 ⟨g, c, rfl, o5, n5⟩
    have O5 : Hid (w5.ownsRow w4.heap.size 69 32 (.slice (some ⟨g, 0, none⟩) ls.length c) ls.length (hsc (ls.map (phL l))) ∧ Nw w4 w5) := ⟨o5, n5⟩
    clear o5 n5
    go_wp2
    obtain ⟨a4, le4, p4, f4, pc4, e4⟩ := H4.out
    obtain ⟨o5, n5⟩ := O5.out
    have nw3 := N2.out.tr N3.out
    have fw4 : Fr s0.Ff w1 w4 := (nw3.mono (fun _ _ f => f.elim)).trans f4 (fun _ _ q => q)
    exact bodyPost_ret (v := .tuple #[.slice (some ⟨g, 0, none⟩) ls.length c, .nilIface]) (by simp [results, Tryz.results89]) rfl (.inl ⟨s4, g, c, rfl, ownsRow_base o5 fw4.size, a4.nt g (o5.lt g rfl).1, a4.nw n5, ⟨fun j hj => le4.tg j (Nat.lt_of_lt_of_le hj nw3.size), le4.rb, le4.sb, le4.zs, le4.cap⟩, p4, fw4.trans n5 (fun _ _ q => q.elim), e4.nw n5⟩)
  · have H4 : Hid (s4.At l B (K + (k + 1)) w4 ∧ s0.Le s4 w3 ∧ Pf (k + 1) s4 ∧ Fr s0.Ff w3 w4 ∧ Eng s4 w4 eb l.length) := ⟨a4, le4, p4, f4, e4⟩
    have HK : Hid (k < (tls l.length ls.flatten).length) := hk
    clear a4 le4 p4 f4 e4 hk
    go_wp2
    obtain ⟨a4, le4, p4, f4, e4⟩ := H4.out
    have nw3 := N2.out.tr N3.out
    exact bodyPost_ret (v := .tuple #[.slice none 0 0, sen x]) (by simp [results, Tryz.results89]) rfl (.inr ⟨s4, k, HK.out, rfl, a4, ⟨fun j hj => le4.tg j (Nat.lt_of_lt_of_le hj nw3.size), le4.rb, le4.sb, le4.zs, le4.cap⟩, p4, (nw3.mono (fun _ _ f => f.elim)).trans f4 (fun _ _ q => q), e4⟩)
end Go.Proofs.YtjkhcplnedcmeaaGreatDoor
