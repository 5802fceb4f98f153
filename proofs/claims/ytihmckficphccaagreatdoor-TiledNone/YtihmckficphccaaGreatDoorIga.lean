/- tiled: an engine in memory; read: tiles' hashes into pieces. -/
import Derived.Test.YtihmckficphccaaGreatDoorIgb
import Derived.Test.YtihmckficphccaaGreatDoorOgy
import Derived.Deep.RegionHeld3
import Derived.Test.YtihmckficphccaaGreatDoorYgd
import Derived.Test.YtihmckficphccaaGreatDoorOgx
namespace Go.Proofs.YtihmckficphccaaGreatDoor
open Go.RowKit
set_option linter.unusedVariables false
set_option linter.unusedSimpArgs false
theorem RS.tile_fell {s : RS} {l : List (List UInt8)} {B K : Nat} {w : World} (h : s.At l B K w) {q i W : Nat} (x : Addr) (R : RS → Prop) (hf : ∀ V, s.At l B K V → Nw w V → s.Fell l B K q i W x R V) :
    Calls Tryz.prog 71 #[.pointer (some ⟨s.rb, 0, none⟩), tl q i W] w fun e w' => ∃ s' : RS, e = .returned (.tuple #[.slice none 0 0, sen x]) ∧ s'.At l B (K + 1) w' ∧ s.Le s' w ∧ R s' ∧ Fr s.Ff w w' := by
  have n0 := nwa w (.cells #[.int .u8 (q : Int), .int .u64 (i : Int), .int .i64 (W : Int)] 86)
  refine (rtile_none (w := w) (q := .pointer (some ⟨s.rb, 0, none⟩)) q i W (sen x) (fun w' => ∃ s' : RS, s'.At l B (K + 1) w' ∧ s.Le s' w ∧ R s' ∧ Fr s.Ff w w') ((hf _ (h.nw n0) n0).mono fun e w' ⟨s', e1, a1, le, r, f⟩ => ⟨e1, s', a1, ⟨fun k hk => le.tg k (by simp; omega), le.rb, le.sb, le.zs, le.cap⟩, r, (n0.mono (fun _ _ f => f.elim)).trans f (fun _ _ q => q)⟩)).mono fun e w' ⟨e1, s', a1, le, r, f⟩ => ⟨s', e1, a1, le, r, f⟩
theorem Hss.frI {w w' : World} {S : Nat → Prop} {g n c : Nat} {l : List (List UInt8)} (h : Hss w (.slice (some ⟨g, 0, none⟩) n c) l) (hl : ∀ x ∈ l, x.length = 32) (f : Fr S w w') (hd : ¬ S g) : Hss w' (.slice (some ⟨g, 0, none⟩) n c) l := by
  obtain ⟨ad, cp, e, h2⟩ := h
  injection e with e1 e2 e3
  subst e1
  refine ⟨_, _, by rw [e2, e3], fun k x hx => ?_⟩
  obtain ⟨g', o, e4, h3⟩ := h2 k x hx
  simp only [Option.some.injEq, Addr.mk.injEq, and_true] at e4
  obtain ⟨rfl, rfl⟩ := e4
  refine ⟨g, 0, rfl, fun j hj => ?_⟩
  have h4 : (hbs x)[j]? = some (.int .u8 ((x.getD j 0).toNat : Nat)) := hbs_get x j (by rw [hl x (List.mem_of_getElem? hx)]; exact hj)
  have h5 := (h3 j hj).trans h4
  rw [h4]
  exact (f.cell (World.block_lt_of_cell? w _ h5) hd).trans h5
theorem rw_frI {w w' : World} {S : Nat → Prop} {g c : Nat} {l : List (List UInt8)} (h : Rw w (some ⟨g, 0, none⟩) c l) (hl : ∀ x ∈ l, x.length = 32) (f : Fr S w w') (hd : ¬ S g) : Rw w' (some ⟨g, 0, none⟩) c l := ⟨h.1, h.2.frI hl f hd⟩
/-- Tiles of a log. -/
def Tis (n : Nat) (ts : List Ti) : Prop := ∀ t ∈ ts, wid t.L t.I n = t.W ∧ 0 < t.W ∧ t.L ≤ 255 ∧ t.I < 18446744073709551616
/-- Pieces beside a reader. -/
def PcI (s : RS) (w : World) (mb : Nat) (l : List (List UInt8)) (ts : List Ti) : Prop :=
  ∃ N M, N ≤ ts.length ∧ PM.Mp w mb N M ∧ s.tg mb = 9 ∧ ∀ t ∈ ts, ∀ h, ∃ g c, M (plK t.L t.I h) = some (g, t.W, c) ∧ Rw w (some ⟨g, 0, none⟩) c (tlH l t.L t.I t.W) ∧ g < w.heap.size ∧ mb < g ∧ s.tg g = 9
theorem PcI.step {s s' : RS} {w w' : World} {mb : Nat} {l : List (List UInt8)} {ts : List Ti} (h : PcI s w mb l ts) (h32 : ∀ x ∈ l, x.length = 32) (f : Fr s.Ff w w') (le : s.Le s' w) : PcI s' w' mb l ts := by
  obtain ⟨N, M, h0, h1, h2, h3⟩ := h
  have hn : ∀ k, s.tg k = 9 → ¬ s.Ff k := fun k hk q => by unfold RS.Ff at q; omega
  refine ⟨N, M, h0, h1.fr f (hn _ h2), (le.tg _ h1.lt).trans h2, fun t ht hk => ?_⟩
  obtain ⟨g, c, e1, r, hg, hm, hgt⟩ := h3 t ht hk
  exact ⟨g, c, e1, rw_frI r (tlH_32 l h32 _ _ _) f (hn _ hgt), Nat.lt_of_lt_of_le hg f.size, hm, (le.tg _ hg).trans hgt⟩
theorem PcI.nw {s : RS} {w w' : World} {mb : Nat} {l : List (List UInt8)} {ts : List Ti} (h : PcI s w mb l ts) (h32 : ∀ x ∈ l, x.length = 32) (n : Nw w w') : PcI s w' mb l ts :=
  h.step h32 (n.mono (fun _ _ f => f.elim)) ⟨fun _ _ => rfl, rfl, rfl, rfl, rfl⟩
theorem PcI.put {s : RS} {w : World} {mb : Nat} {l : List (List UInt8)} {ts : List Ti} (h : PcI s w mb l ts) (h32 : ∀ x ∈ l, x.length = 32) (hT : Tis l.length ts) (t : Ti) (ht : Tis l.length [t]) {bq : Nat} {v : Value} (ho : w.ownsRow bq 64 32 v t.W (hsc (tlH l t.L t.I t.W))) (hb : mb < bq) (hbt : ∀ k, bq ≤ k → s.tg k = 9) (hl : ts.length ≤ 100000) :
    ∃ w', (Instr.mapUpdate 152 (.map (some mb)) (.agg #[.int .u8 (t.L : Int), .int .u64 (t.I : Int)]) v).run Tryz.prog w = .ok () w' ∧ PcI s w' mb l (ts ++ [t]) ∧ Fr (fun j => j = mb) w w' := by
  obtain ⟨N, M, h0, h1, h2, h3⟩ := h
  obtain ⟨hw, h0t, hL, hI⟩ := ht t (by simp)
  have hlen : (tlH l t.L t.I t.W).length = t.W := tlH_len l t.L t.I t.W (wid_in _ _ _ _ hw h0t).1
  have hlt := ho.lt
  rcases ho.2 with ⟨e, h9⟩ | ⟨g, c, cur, e, _⟩
  · omega
  subst e
  obtain ⟨hg1, hg2⟩ := hlt g rfl
  have hcap := own_cap ho
  obtain ⟨w', r', m', f'⟩ := h1.put (plK t.L t.I ⟨hL, hI⟩) (g, t.W, c) (by omega)
  have hrw : Rw w (some ⟨g, 0, none⟩) c (tlH l t.L t.I t.W) := ⟨by omega, Hss.of (tlH_32 l h32 _ _ _) (by rw [hlen]; exact ho)⟩
  refine ⟨w', r', ⟨N + 1, _, by rw [List.length_append]; simp; omega, m', h2, fun u hu hk => ?_⟩, f'⟩
  by_cases hkk : plK u.L u.I hk = plK t.L t.I ⟨hL, hI⟩
  · have hp := congrArg (fun x => x.1) hkk
    simp only [plK, Prod.mk.injEq] at hp
    have hw2 : u.W = t.W := by
      have hu2 : wid u.L u.I l.length = u.W := by
        rcases List.mem_append.1 hu with q | q
        · exact (hT u q).1
        · exact (ht u q).1
      rw [← hu2, hp.1, hp.2]; exact hw
    refine ⟨g, c, by rw [hkk, PM.putP_same, hw2], ?_, Nat.lt_of_lt_of_le hg2 f'.size, by omega, hbt g hg1⟩
    rw [hp.1, hp.2, hw2]
    exact rw_frI hrw (tlH_32 l h32 _ _ _) f' (by omega)
  · rcases List.mem_append.1 hu with q | q
    · obtain ⟨g', c', e1, r1, hg', hm', ht'⟩ := h3 u q hk
      exact ⟨g', c', by rw [PM.putP_other _ _ hkk]; exact e1, rw_frI r1 (tlH_32 l h32 _ _ _) f' (by omega), Nat.lt_of_lt_of_le hg' f'.size, hm', ht'⟩
    · simp at q
      subst q
      exact absurd rfl hkk
theorem PcI.pcs {s : RS} {w : World} {mb : Nat} {l : List (List UInt8)} {ts : List Ti} (h : PcI s w mb l ts) (hT : Tis l.length ts) : Pcs w mb l (fun q i => ∃ t ∈ ts, t.L = q ∧ t.I = i) := by
  obtain ⟨N, M, h0, h1, h2, h3⟩ := h
  refine ⟨N, M, h1, fun q i hk ⟨t, ht, e1, e2⟩ => ?_⟩
  subst e1 e2
  obtain ⟨g, c, e3, r, hg, _⟩ := h3 t ht hk
  rw [(hT t ht).1]
  exact ⟨g, c, e3, r, hg⟩
/-- An engine in memory. -/
structure Eng (s : RS) (w : World) (eb S : Nat) : Prop where
  blk : w.heap[eb]? = some (.cells #[.pointer (some ⟨s.rb, 0, none⟩), .int .u64 (S : Int)] 61)
  tg : s.tg eb = 9
theorem Eng.step {s s' : RS} {w w' : World} {eb S : Nat} (h : Eng s w eb S) (f : Fr s.Ff w w') (le : s.Le s' w) : Eng s' w' eb S :=
  ⟨by rw [le.rb]; exact (f.block _ (heap_lt h.blk) (fun q => by have := h.tg; unfold RS.Ff at q; omega)).trans h.blk, (le.tg _ (heap_lt h.blk)).trans h.tg⟩
theorem Eng.nw {s : RS} {w w' : World} {eb S : Nat} (h : Eng s w eb S) (n : Nw w w') : Eng s w' eb S := ⟨(n.block _ (heap_lt h.blk) (fun f => f)).trans h.blk, h.tg⟩
theorem RS.Le.rfl' (s : RS) (w : World) : s.Le s w := ⟨fun _ _ => rfl, rfl, rfl, rfl, rfl⟩
end Go.Proofs.YtihmckficphccaaGreatDoor
namespace Go.Proofs.YtihmckficphccaaGreatDoor
open Go.RowKit
set_option linter.unusedVariables false
set_option linter.unusedSimpArgs false
theorem Tis.take {n : Nat} {ts : List Ti} (h : Tis n ts) (k : Nat) : Tis n (ts.take k) := fun t ht => h t (List.mem_of_mem_take ht)
theorem make_pieces (n : Nat) (w : World) : (Instr.makeMap 152 (some (.int .i64 (n : Int)))).run Tryz.prog w = .ok (.map (some w.heap.size)) (w.alloc (.map #[] 0)) := by
  simp [Instr.makeMap, run_underlying Tryz.underlying152, asInt, asIntOf, Result.andThen]
set_option maxRecDepth 100000 in
set_option maxHeartbeats 4000000 in
theorem pread_any {s0 : RS} {l : List (List UInt8)} {B K : Nat} {w : World} (h : s0.At l B K w) {eb S : Nat} (he : Eng s0 w eb S) (u : Value) (ts : List Ti) (hT : Tis l.length ts) {bs : Nat} (hu : w.ownsRow bs 86 3 u ts.length (tic ts)) (hl : ts.length ≤ 100000) (hub : ∀ g, u.ownBlock = some g → s0.tg g = 9)
    (P Pf : Nat → RS → Prop) (hP : P 0 s0) (x : Addr)
    (hstep : ∀ k t s, ts[k]? = some t → P k s → (∀ V, s.At l B (K + k) V → Fr s0.Ff w V → s.Got l B (K + k) t.L t.I t.W (P (k + 1)) V) ∨ (∀ V, s.At l B (K + k) V → Fr s0.Ff w V → s.Fell l B (K + k) t.L t.I t.W x (Pf (k + 1)) V)) :
    Calls Tryz.prog 78 #[.pointer (some ⟨eb, 0, none⟩), u] w fun e w' =>
      (∃ s' mb, e = .returned (.tuple #[.map (some mb), .nilIface]) ∧ s'.At l B (K + ts.length) w' ∧ s0.Le s' w ∧ P ts.length s' ∧ Fr s0.Ff w w' ∧ PcI s' w' mb l ts ∧ Eng s' w' eb S) ∨
      (∃ s' k, k < ts.length ∧ e = .returned (.tuple #[.map none, sen x]) ∧ s'.At l B (K + (k + 1)) w' ∧ s0.Le s' w ∧ Pf (k + 1) s' ∧ Fr s0.Ff w w' ∧ Eng s' w' eb S) := by
  obtain ⟨ad, ca, rfl⟩ := ownsRow_form hu
  have HC : Hid (∀ k t, ts[k]? = some t → ∃ g, ad = some ⟨g, 0, none⟩ ∧ g < w.heap.size ∧ s0.tg g = 9 ∧ w.cell? ⟨g, k * 3, none⟩ = some (.int .u8 (t.L : Int)) ∧ w.cell? ⟨g, k * 3 + 1, none⟩ = some (.int .u64 (t.I : Int)) ∧ w.cell? ⟨g, k * 3 + 2, none⟩ = some (.int .i64 (t.W : Int))) := fun k t ht => by
    obtain ⟨g, rfl, c1, c2, c3⟩ := tic_cellsP hu k t ht
    exact ⟨g, rfl, (hu.lt g rfl).2, hub g rfl, c1, c2, c3⟩
  have HA : Hid (s0.At l B K w) := h
  have HE : Hid (Eng s0 w eb S) := he
  have HT : Hid (Tis l.length ts) := hT
  have HP : Hid (P 0 s0) := hP
  have HST : Hid (∀ k t s, ts[k]? = some t → P k s → (∀ V, s.At l B (K + k) V → Fr s0.Ff w V → s.Got l B (K + k) t.L t.I t.W (P (k + 1)) V) ∨ (∀ V, s.At l B (K + k) V → Fr s0.Ff w V → s.Fell l B (K + k) t.L t.I t.W x (Pf (k + 1)) V)) := hstep
  obtain ⟨n, hn⟩ : ∃ n, n = ts.length := ⟨_, rfl⟩
  have HN : Hid (n = ts.length) := hn
  rw [← hn] at hl ⊢
  obtain ⟨mb, hmb⟩ : ∃ q, q = w.heap.size := ⟨_, rfl⟩
  have HMB : Hid (mb = w.heap.size) := hmb
  have HM0 : Hid (PcI s0 (w.alloc (.map #[] 0)) mb l []) := ⟨0, fun _ => none, Nat.zero_le _, by rw [hmb]; exact PM.Mp.made w, h.nt _ (by omega), fun t ht => by simp at ht⟩
  have hmm := make_pieces n
  clear h he hT hP hstep hu hub hn
  go_enter Tryz.func78, Tryz.ntmps78
  go_wp2_with fail
  rw [← hmb]
  clear hmb
  go_loopw [16] (fun i wr => ∃ (k : Nat) (s : RS), k ≤ n ∧ i = .int .i64 k ∧ s.At l B (K + k) wr ∧ s0.Le s w ∧ P k s ∧ Fr s0.Ff w wr ∧ PcI s wr mb l (ts.take k) ∧ w.heap.size < wr.heap.size ∧ Eng s wr eb S) (fun i _ => n - (intOf i).toNat)
  case atStart => exact ⟨0, s0, by omega, rfl, HA.out.nw (nwa w _), RS.Le.rfl' _ _, HP.out, (nwa w _).mono (fun _ _ f => f.elim), HM0.out, by simp, HE.out.nw (nwa w _)⟩
  case round =>
    obtain ⟨k, s, hk, rfl, ha, hle, hp, hfr, hpc, hsz, heg⟩ := hrel
    have H1 : Hid (s.At l B (K + k) wr) := ha
    have H2 : Hid (s0.Le s w) := hle
    have H3 : Hid (P k s) := hp
    have H4 : Hid (Fr s0.Ff w wr) := hfr
    have H5 : Hid (PcI s wr mb l (ts.take k)) := hpc
    have H6 : Hid (w.heap.size < wr.heap.size) := hsz
    have H7 : Hid (Eng s wr eb S) := heg
    clear ha hle hp hfr hpc hsz heg hmm
    by_cases hlt : k < n
    · obtain ⟨t, ht⟩ : ∃ t, ts[k]? = some t := ⟨_, List.getElem?_eq_getElem (by rw [← HN.out]; exact hlt)⟩
      obtain ⟨g, rfl, g0, gt, g1, g2, g3⟩ := HC.out k t ht
      have hgf : ¬ s0.Ff g := fun q => by unfold RS.Ff at q; omega
      have g1' := (H4.out.cell (p := ⟨g, k * 3, none⟩) g0 hgf).trans g1
      have g2' := (H4.out.cell (p := ⟨g, k * 3 + 1, none⟩) g0 hgf).trans g2
      have g3' := (H4.out.cell (p := ⟨g, k * 3 + 2, none⟩) g0 hgf).trans g3
      have gl : g < wr.heap.size := Nat.lt_of_lt_of_le g0 H4.out.size
      have HS := show Hid _ from HST.out k t s ht H3.out
      have HTT : Hid (ts.take (k + 1) = ts.take k ++ [t]) := by show _ = _; rw [List.take_add_one, ht]; simp
      have HT1 : Hid (Tis l.length [t]) := fun u hu => by simp at hu; subst hu; exact HT.out _ (List.mem_of_getElem? ht)
      obtain ⟨q, i, W⟩ := t
      obtain ⟨hw, h0W, hq, hi⟩ := HT1.out _ (List.mem_singleton.2 rfl)
      simp only at hw h0W hq hi g1' g2' g3'
      have hki : (k : Int) < (n : Int) := by omega
      obtain ⟨rp, hrp⟩ : ∃ v, v = s.rb := ⟨_, rfl⟩
      have HRP : Hid (rp = s.rb) := hrp
      have hW256 := (wid_in q i _ W hw h0W).2.1
      have HW : Hid (wid q i l.length = W ∧ 0 < W) := ⟨hw, h0W⟩
      have leb := heap_lt H7.out.blk
      clear g1 g2 g3 ht hgf g0 gt hrp hw h0W
      go_upto_region 5 with fail
      have HTL := heap_new wr (.cells #[.int .u8 (q : Int), .int .u64 (i : Int), .int .i64 (W : Int)] 86)
      refine gen_w (fun V => Nw wr V ∧ wr.heap.size < V.heap.size ∧ V.heap[wr.heap.size]? = some (.cells #[.int .u8 (q : Int), .int .u64 (i : Int), .int .i64 (W : Int)] 86)) ⟨(by repeat first | with_reducible exact Fr.refl _ _ | with_reducible refine Fr.alloc ?_ _ | with_reducible refine Fr.drew ?_ | (with_reducible refine Fr.setCell ?_ _ _ (fun h => ?_); rotate_left; focus (simp only at h; omega))), by simp, by (repeat first | with_reducible exact HTL | with_reducible exact heap_new _ _ | with_reducible exact heap_next _ _ _ | with_reducible exact heap_third _ _ _ _ | with_reducible refine hp_dr ?_ | (with_reducible refine hp_ne ?_ ?_; focus omega) | (with_reducible refine hp_al ?_ ?_; focus (first | omega | (simp <;> omega))) | with_reducible apply hp_set) <;> rfl⟩ ?_
      rintro w3 ⟨n3, l3, b3⟩
      obtain ⟨f0, f1, f2⟩ := cell3 b3
      have nd : Nw w3 w3.drew := (Fr.refl _ _).drew
      have N3 : Hid (Nw wr w3) := n3
      have B3 : Hid (w3.heap[wr.heap.size]? = some (.cells #[.int .u8 (q : Int), .int .u64 (i : Int), .int .i64 (W : Int)] 86)) := b3
      have E3 : Hid (w3.heap[eb]? = some (.cells #[.pointer (some ⟨rp, 0, none⟩), .int .u64 (S : Int)] 61)) := by rw [HRP.out]; exact (H7.out.nw n3).blk
      have fe := (cell_of E3.out 0).trans rfl
      have AD : Hid (s.At l B (K + k) w3.drew) := H1.out.nw (n3.tr nd)
      have FD : Hid (Fr s0.Ff w w3.drew) := H4.out.trans (n3.tr nd) (fun _ _ q => q.elim)
      have HNE : Hid (¬ s.Ff eb ∧ ¬ s.Ff wr.heap.size) := And.intro (fun q => by have := H7.out.tg; unfold RS.Ff at q; omega) (fun q => by have := H1.out.nt _ (Nat.le_refl _); unfold RS.Ff at q; omega)
      have leb3 : eb < w3.heap.size := by omega
      clear n3 b3 HTL g1' g2' g3'
      rcases HS.out with hok | hno
      · have HTC : Hid (Calls Tryz.prog 71 #[.pointer (some ⟨rp, 0, none⟩), tl q i W] w3.drew fun e w' => ∃ (s' : RS) (v : Value) (bq : Nat), e = .returned (.tuple #[v, .nilIface]) ∧ w'.ownsRow bq 64 32 v W (hsc (tlH l q i W)) ∧ w3.drew.heap.size < bq ∧ (∀ k, bq ≤ k → s'.tg k = 9) ∧ s'.At l B (K + k + 1) w' ∧ s.Le s' w3.drew ∧ P (k + 1) s' ∧ Fr s.Ff w3.drew w') := by
          have := RS.tile AD.out HW.out.1 HW.out.2 (P (k + 1)) (fun V aV nV => hok V aV (FD.out.trans nV (fun _ _ q => q.elim)))
          rw [← HRP.out] at this
          exact this
        clear hok
        go_region_held3 (fun V => V.cell? ⟨eb, 0, none⟩ = some (.pointer (some ⟨rp, 0, none⟩)) ∧ V.cell? ⟨wr.heap.size, 0, none⟩ = some (.int .u8 (q : Int)) ∧ V.cell? ⟨wr.heap.size, 1, none⟩ = some (.int .u64 (i : Int)) ∧ V.cell? ⟨wr.heap.size, 2, none⟩ = some (.int .i64 (W : Int))) (first | exact ⟨nd.cellOf fe, nd.cellOf f0, nd.cellOf f1, nd.cellOf f2⟩ | exact HK.out) ((go_at_call 71; refine HTC.out.mono ?_; rintro e4 w4 ⟨s4, v4, bq, rfl, o4, hb4, ht4, a4, le4, p4, F4⟩; obtain ⟨va, vc, rfl⟩ := ownsRow_form o4; have T4 := (F4.block wr.heap.size l3 HNE.out.2).trans B3.out; have E4 := (F4.block eb leb3 HNE.out.1).trans E3.out; have HK : Hid (w4.cell? ⟨eb, 0, none⟩ = some (.pointer (some ⟨rp, 0, none⟩)) ∧ w4.cell? ⟨wr.heap.size, 0, none⟩ = some (.int .u8 (q : Int)) ∧ w4.cell? ⟨wr.heap.size, 1, none⟩ = some (.int .u64 (i : Int)) ∧ w4.cell? ⟨wr.heap.size, 2, none⟩ = some (.int .i64 (W : Int))) := And.intro ((cell_of E4 0).trans rfl) (cell3 T4); have H8 : Hid (w4.ownsRow bq 64 32 (.slice va W vc) W (hsc (tlH l q i W)) ∧ w3.drew.heap.size < bq ∧ (∀ k, bq ≤ k → s4.tg k = 9) ∧ s4.At l B (K + k + 1) w4 ∧ s.Le s4 w3.drew ∧ P (k + 1) s4 ∧ Fr s.Ff w3.drew w4) := And.intro o4 (And.intro hb4 (And.intro ht4 (And.intro a4 (And.intro le4 (And.intro p4 F4))))); have HT4 : Hid (w4.heap[wr.heap.size]? = some (.cells #[.int .u8 (q : Int), .int .u64 (i : Int), .int .i64 (W : Int)] 86)) := T4; clear o4 hb4 ht4 a4 le4 p4 F4 T4 E4))
        all_goals
          obtain ⟨y0, y1, y2⟩ := cell3 HT4.out
          have lt4 := heap_lt HT4.out
          go_wp2_with fail
          refine (place_any q i W hq hi _).mono ?_
          rintro e5 w5 ⟨rfl, n5⟩
          obtain ⟨o4, hb4, ht4, a4, le4, p4, F4⟩ := H8.out
          have h32 := H1.out.h32
          have n3d : Nw wr w3.drew := N3.out.tr nd
          have pc5 : PcI s4 w5 mb l (ts.take k) := ((H5.out.nw h32 n3d).step h32 F4 le4).nw h32 n5
          have o5 := ownsRow_keep o4 (fun g hg => n5.block g (o4.lt g hg).2 (fun f => f))
          obtain ⟨w6, r6, p6, f6⟩ := pc5.put h32 (HT.out.take k) ⟨q, i, W⟩ HT1.out o5 (by have := n3d.size; have := HMB.out; have := H6.out; omega) ht4 (by rw [List.length_take]; omega)
          have htg : s4.tg mb = 9 := by obtain ⟨_, _, _, _, q9, _⟩ := id p6; exact q9
          have e5 := ((H7.out.nw n3d).step F4 le4).nw n5
          have leb0 := heap_lt HE.out.blk
          have H9 : Hid (s4.At l B (K + k + 1) w6 ∧ s0.Le s4 w ∧ P (k + 1) s4 ∧ Fr s0.Ff w w6 ∧ PcI s4 w6 mb l (ts.take (k + 1)) ∧ w.heap.size < w6.heap.size ∧ Eng s4 w6 eb S) := And.intro ((a4.nw n5).fr9 f6 (fun j e => by subst e; exact htg)) (And.intro (H2.out.trans le4 (Nat.le_trans (Nat.le_of_lt H6.out) n3d.size)) (And.intro p4 (And.intro (((RS.Le.frt H2.out FD.out F4).trans n5 (fun _ _ q => q.elim)).trans f6 (fun j hj e => by have := HMB.out; omega)) (And.intro (by rw [HTT.out]; exact p6) (And.intro (by have := n3d.size; have := F4.size; have := n5.size; have := f6.size; have := H6.out; omega) ⟨(f6.block eb (heap_lt e5.blk) (by have := HMB.out; omega)).trans e5.blk, e5.tg⟩)))))
          clear o4 hb4 ht4 a4 le4 p4 F4 pc5 o5 p6 f6 htg e5 n5 y0 y1 y2
          go_wp2
          exact ⟨⟨k + 1, s4, by omega, by go_num, H9.out⟩, by simp [intOf]; omega⟩
      · have HTC : Hid (Calls Tryz.prog 71 #[.pointer (some ⟨rp, 0, none⟩), tl q i W] w3.drew fun e w' => ∃ s' : RS, e = .returned (.tuple #[.slice none 0 0, sen x]) ∧ s'.At l B (K + k + 1) w' ∧ s.Le s' w3.drew ∧ Pf (k + 1) s' ∧ Fr s.Ff w3.drew w') := by
          have := RS.tile_fell (q := q) (i := i) (W := W) AD.out x (Pf (k + 1)) (fun V aV nV => hno V aV (FD.out.trans nV (fun _ _ q => q.elim)))
          rw [← HRP.out] at this
          exact this
        clear hno
        go_region_held3 (fun V => V.cell? ⟨eb, 0, none⟩ = some (.pointer (some ⟨rp, 0, none⟩)) ∧ V.cell? ⟨wr.heap.size, 0, none⟩ = some (.int .u8 (q : Int)) ∧ V.cell? ⟨wr.heap.size, 1, none⟩ = some (.int .u64 (i : Int)) ∧ V.cell? ⟨wr.heap.size, 2, none⟩ = some (.int .i64 (W : Int))) (first | exact ⟨nd.cellOf fe, nd.cellOf f0, nd.cellOf f1, nd.cellOf f2⟩ | exact HK.out) ((go_at_call 71; refine HTC.out.mono ?_; rintro e4 w4 ⟨s4, rfl, a4, le4, p4, F4⟩; have T4 := (F4.block wr.heap.size l3 HNE.out.2).trans B3.out; have E4 := (F4.block eb leb3 HNE.out.1).trans E3.out; have HK : Hid (w4.cell? ⟨eb, 0, none⟩ = some (.pointer (some ⟨rp, 0, none⟩)) ∧ w4.cell? ⟨wr.heap.size, 0, none⟩ = some (.int .u8 (q : Int)) ∧ w4.cell? ⟨wr.heap.size, 1, none⟩ = some (.int .u64 (i : Int)) ∧ w4.cell? ⟨wr.heap.size, 2, none⟩ = some (.int .i64 (W : Int))) := And.intro ((cell_of E4 0).trans rfl) (cell3 T4); have H8 : Hid (s4.At l B (K + k + 1) w4 ∧ s.Le s4 w3.drew ∧ Pf (k + 1) s4 ∧ Fr s.Ff w3.drew w4) := And.intro a4 (And.intro le4 (And.intro p4 F4)); have HT4 : Hid (w4.heap[wr.heap.size]? = some (.cells #[.int .u8 (q : Int), .int .u64 (i : Int), .int .i64 (W : Int)] 86)) := T4; clear a4 le4 p4 F4 T4 E4))
        all_goals
          go_wp2
          obtain ⟨a4, le4, p4, F4⟩ := H8.out
          have n3d : Nw wr w3.drew := N3.out.tr nd
          refine bodyPost_ret (v := .tuple #[.map none, sen x]) (by simp [results, Tryz.results78]) rfl (.inr ⟨s4, k, hlt, rfl, a4, H2.out.trans le4 (Nat.le_trans (Nat.le_of_lt H6.out) n3d.size), p4, RS.Le.frt H2.out FD.out F4, (H7.out.nw n3d).step F4 le4⟩)
    · obtain rfl : k = n := by omega
      have hT : ts.take k = ts := List.take_of_length_le (by rw [HN.out]; exact Nat.le_refl _)
      have hkn : ¬ (k : Int) < (k : Int) := by omega
      rw [hT] at H5
      clear hT
      go_wp2
      refine bodyPost_ret (v := .tuple #[.map (some mb), .nilIface]) (by simp [results, Tryz.results78]) rfl (.inl ⟨s, mb, rfl, H1.out, H2.out, H3.out, H4.out, H5.out, H7.out⟩)
end Go.Proofs.YtihmckficphccaaGreatDoor
namespace Go.Proofs.YtihmckficphccaaGreatDoor
open Go.RowKit
set_option linter.unusedVariables false
set_option linter.unusedSimpArgs false
/-- An engine that is not there, or that no call made. -/
def NoG (w : World) (p : Value) : Prop := p = .pointer none ∨ ∃ b, p = .pointer (some ⟨b, 0, none⟩) ∧ w.heap[b]? = some (.cells #[.pointer none, .int .u64 0] 61)
theorem NoG.nw {w w' : World} {p : Value} (h : NoG w p) (n : Nw w w') : NoG w' p := by
  rcases h with h | ⟨b, h, hb⟩
  · exact .inl h
  · exact .inr ⟨b, h, (n.block _ (heap_lt hb) (fun f => f)).trans hb⟩
theorem gthere_no {w : World} {p : Value} (h : NoG w p) : Calls Tryz.prog 39 #[p] w fun e w' => e = .returned (.bool false) ∧ w' = w := by
  rcases h with rfl | ⟨b, rfl, hb⟩
  · go_enter Tryz.func39, Tryz.ntmps39
    go_wp2
    go_ret
    exact ⟨rfl, rfl⟩
  · have c0 : w.cell? ⟨b, 0, none⟩ = some (.pointer none) := (cell_of hb 0).trans rfl
    have lb := heap_lt hb
    clear hb
    go_enter Tryz.func39, Tryz.ntmps39
    go_wp2
    go_ret
    exact ⟨rfl, rfl⟩
theorem Eng.cs {s : RS} {w : World} {eb S : Nat} (h : Eng s w eb S) : w.cell? ⟨eb, 0, none⟩ = some (.pointer (some ⟨s.rb, 0, none⟩)) ∧ w.cell? ⟨eb, 1, none⟩ = some (.int .u64 (S : Int)) := ⟨(cell_of h.blk 0).trans rfl, (cell_of h.blk 1).trans rfl⟩
theorem gthere_yes {s : RS} {w : World} {eb S : Nat} (h : Eng s w eb S) : Calls Tryz.prog 39 #[.pointer (some ⟨eb, 0, none⟩)] w fun e w' => e = .returned (.bool true) ∧ w' = w := by
  obtain ⟨c0, c1⟩ := h.cs
  have lb := heap_lt h.blk
  obtain ⟨rb, hr⟩ : ∃ r, r = s.rb := ⟨_, rfl⟩
  rw [← hr] at c0
  clear h hr
  go_enter Tryz.func39, Tryz.ntmps39
  go_wp2
  go_ret
  exact ⟨rfl, rfl⟩
theorem gsize_no {w : World} {p : Value} (h : NoG w p) : Calls Tryz.prog 12 #[p] w fun e w' => e = .returned (.int .u64 0) ∧ w' = w := by
  have q := gthere_no h
  clear h
  go_enter Tryz.func12, Tryz.ntmps12
  go_wp2_with fail
  refine q.mono ?_
  rintro e w1 ⟨rfl, rfl⟩
  go_wp2
  go_ret
  exact ⟨rfl, rfl⟩
theorem gsize_yes {s : RS} {w : World} {eb S : Nat} (h : Eng s w eb S) : Calls Tryz.prog 12 #[.pointer (some ⟨eb, 0, none⟩)] w fun e w' => e = .returned (.int .u64 (S : Int)) ∧ w' = w := by
  have q := gthere_yes h
  obtain ⟨c0, c1⟩ := h.cs
  have lb := heap_lt h.blk
  clear h c0
  go_enter Tryz.func12, Tryz.ntmps12
  go_wp2_with fail
  refine q.mono ?_
  rintro e w1 ⟨rfl, rfl⟩
  go_wp2
  go_ret
  exact ⟨rfl, rfl⟩
theorem gist_no {w : World} {q : Value} (h : NoR w q) {B : Nat} {a : Nat → Addr} (hS : Sent B w a) :
    Calls Tryz.prog 38 #[q] w fun e w' => e = .returned (.bool false) ∧ Nw w w' := by
  have n0 := nwa w (.cells #[.int .u8 ((0 : Nat) : Int), .int .u64 ((0 : Nat) : Int), .int .i64 0] 86)
  have q1 := rtile_none (w := w) (q := q) 0 0 0 (sen (a 0)) (fun w' => Nw w w') ((fetch_none (h.nw n0) _ 0 0 0 rfl (hS.fr n0 (fun _ _ f => f))).mono fun e w' ⟨e1, n⟩ => ⟨e1, n0.tr n⟩)
  have q2 : Hid (∀ V, Nw w V → Calls Tryz.prog 70 #[sen (a 0), sen (a 0)] V fun e w' => e = .returned (.bool true) ∧ w' = V) := fun V nV => by
    have := is_any (hS.fr nV (fun _ _ f => f)) (show EV V a (sen (a 0)) 1 none from .inr (.inl ⟨0, by decide, rfl, rfl, rfl⟩)) (by decide) 0 (by decide)
    rw [decide_eq_true (by decide)] at this
    exact this
  have HS : Hid (Sent B w a) := hS
  clear h hS n0
  go_enter Tryz.func38, Tryz.ntmps38
  go_wp2_with fail
  refine q1.mono ?_
  rintro e w1 ⟨rfl, n1⟩
  have N1 : Hid (Nw w w1) := n1
  have e0 := (HS.out.fr n1 (fun _ _ f => f)).c0
  clear n1
  go_wp2_with fail
  refine (q2.out _ N1.out).mono ?_
  rintro e w2 ⟨rfl, rfl⟩
  go_wp2
  go_ret
  exact ⟨rfl, N1.out⟩
theorem gist_yes {s : RS} {l : List (List UInt8)} {B K : Nat} {w : World} (h : s.At l B K w) {a : Nat → Addr} (hS : Sent B w a) :
    Calls Tryz.prog 38 #[.pointer (some ⟨s.rb, 0, none⟩)] w fun e w' => e = .returned (.bool true) ∧ Nw w w' := by
  have n0 := nwa w (.cells #[.int .u8 ((0 : Nat) : Int), .int .u64 ((0 : Nat) : Int), .int .i64 0] 86)
  have q1 := rtile_none (w := w) (q := .pointer (some ⟨s.rb, 0, none⟩)) 0 0 0 (sen (a 1)) (fun w' => Nw w w') ((fetch_bad (h.nw n0).rm.blk 0 0 0 (by omega) (by omega) (by decide) (hS.fr n0 (fun _ _ f => f))).mono fun e w' ⟨e1, n⟩ => ⟨e1, n0.tr n⟩)
  have q2 : Hid (∀ V, Nw w V → Calls Tryz.prog 70 #[sen (a 1), sen (a 0)] V fun e w' => e = .returned (.bool false) ∧ w' = V) := fun V nV => by
    have := is_any (hS.fr nV (fun _ _ f => f)) (show EV V a (sen (a 1)) 2 none from .inr (.inl ⟨1, by decide, rfl, rfl, rfl⟩)) (by decide) 0 (by decide)
    rw [decide_eq_false (by decide)] at this
    exact this
  have HS : Hid (Sent B w a) := hS
  obtain ⟨rp, hrp⟩ : ∃ v, v = s.rb := ⟨_, rfl⟩
  rw [← hrp] at q1 ⊢
  clear h hS n0 hrp
  go_enter Tryz.func38, Tryz.ntmps38
  go_wp2_with fail
  refine q1.mono ?_
  rintro e w1 ⟨rfl, n1⟩
  have N1 : Hid (Nw w w1) := n1
  have e0 := (HS.out.fr n1 (fun _ _ f => f)).c0
  clear n1
  go_wp2_with fail
  refine (q2.out _ N1.out).mono ?_
  rintro e w2 ⟨rfl, rfl⟩
  go_wp2
  go_ret
  exact ⟨rfl, N1.out⟩
theorem gnew_no {w : World} {q : Value} (h : NoR w q) (S : Nat) {B : Nat} {a : Nat → Addr} (hS : Sent B w a) :
    Calls Tryz.prog 11 #[q, .int .u64 (S : Int)] w fun e w' => e = .returned (.tuple #[.pointer none, sen (a 0)]) ∧ Nw w w' := by
  have q0 := gist_no h hS
  have HS : Hid (Sent B w a) := hS
  clear h hS
  go_enter Tryz.func11, Tryz.ntmps11
  go_wp2_with fail
  refine q0.mono ?_
  rintro e w1 ⟨rfl, n1⟩
  have N1 : Hid (Nw w w1) := n1
  have e0 := (HS.out.fr n1 (fun _ _ f => f)).c0
  clear n1
  go_wp2_with fail
  go_quiet (fail)
  go_wp2
  go_ret2
  exact ⟨rfl, N1.out.drewN nq⟩
theorem gnew_yes {s : RS} {l : List (List UInt8)} {B K : Nat} {w : World} (h : s.At l B K w) (S : Nat) (hl : S ≤ 1048576) {a : Nat → Addr} (hS : Sent B w a) :
    Calls Tryz.prog 11 #[.pointer (some ⟨s.rb, 0, none⟩), .int .u64 (S : Int)] w fun e w' => ∃ eb, e = .returned (.tuple #[.pointer (some ⟨eb, 0, none⟩), .nilIface]) ∧ Eng s w' eb S ∧ w.heap.size ≤ eb ∧ Nw w w' := by
  have q0 := gist_yes h hS
  have HT : Hid (∀ k, w.heap.size ≤ k → s.tg k = 9) := h.nt
  obtain ⟨rp, hrp⟩ : ∃ v, v = s.rb := ⟨_, rfl⟩
  have HR : Hid (rp = s.rb) := hrp
  rw [← hrp] at q0 ⊢
  have hd : ¬ (1048576 : Int) < (S : Int) := by omega
  have hd2 : decide ((1048576 : Int) < (S : Int)) = false := by simp; omega
  clear h hS hrp
  go_enter Tryz.func11, Tryz.ntmps11
  go_wp2_with fail
  refine q0.mono ?_
  rintro e w1 ⟨rfl, n1⟩
  have N1 : Hid (Nw w w1) := n1
  clear n1
  go_wp2
  go_ret2
  refine ⟨_, rfl, ⟨by rw [← HR.out]; exact heap_new _ _, HT.out _ N1.out.size⟩, N1.out.size, N1.out.tr (nwa _ _)⟩
end Go.Proofs.YtihmckficphccaaGreatDoor
