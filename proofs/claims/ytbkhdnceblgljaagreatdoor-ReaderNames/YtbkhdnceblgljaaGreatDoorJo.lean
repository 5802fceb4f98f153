/- ReaderNames: a store that crashes; a reader over it. -/
import Derived.Test.YtbkhdnceblgljaaGreatDoorJm
import Derived.Test.YtbkhdnceblgljaaGreatDoorJd
namespace Go.Proofs.YtbkhdnceblgljaaGreatDoor
open Go.RowKit
set_option linter.unusedVariables false
set_option linter.unusedSimpArgs false
set_option maxRecDepth 100000 in
set_option maxHeartbeats 4000000 in
theorem sput_crash {w : World} {b bm n : Nat} {M : Tx} {p : Option Addr} {c : Nat} {zs : List Int} {cr rn wn : Int} (h : Sr w b bm n M p c zs cr rn wn false) (s t : ByteArray) (hs : okN s) (ht : t.size ≤ 281474976710656) {B : Nat} {a : Nat → Addr} (hS : Sent B w a) (hc : cr = wn + 1) (hr0 : 0 ≤ wn) (hr1 : wn < 4611686018427387904) (hB : B ≤ b) (hBm : B ≤ bm) :
    Calls Tryz.prog 21 #[.pointer (some ⟨b, 0, none⟩), .string s, .string t] w fun e w' => e = .returned (sen (a 7)) ∧ Sr w' b bm n M p c zs cr rn (wn + 1) true ∧ Fr (fun k => k = b) w w' := by
  have q := srefuse_any h.blk s hS
  rw [rfs_ok hs] at q
  obtain ⟨c0, c1, c2, c3, c4, c5⟩ := stc_cs h.blk
  have lb := heap_lt h.blk
  have f4 := frozen_of h.blk 4
  have g5 := frozen_of h.blk 5
  obtain ⟨wx, hwx⟩ : ∃ wx, wx = w.setCell ⟨b, 4, none⟩ (.int .i64 (wn + 1)) := ⟨_, rfl⟩
  obtain ⟨S1, F⟩ := h.set4 (wn + 1) hwx
  have hS1 := hS.fr F (fun k hk e => by omega)
  obtain ⟨x0, _, x2, _, x4, x5⟩ := stc_cs S1.blk
  have lx := heap_lt S1.blk
  have HS1 : Hid (Sr wx b bm n M p c zs cr rn (wn + 1) false) := S1
  have HF : Hid (Fr (fun k => k = b) w wx) := F
  have HE : Hid (Sent B wx a) := hS1
  have hb1 := hS.hsz
  have g7 := hS.c7
  have hz7 : ¬ 3 = b := by have := hS.hB; omega
  have hz7' : ¬ b = 3 := fun e => hz7 e.symm
  clear h hS hS1 S1 F
  have f5 := frozen_of HS1.out.blk 5
  obtain ⟨wy, hwy⟩ : ∃ wy, wy = wx.setCell ⟨b, 5, none⟩ (.bool true) := ⟨_, rfl⟩
  obtain ⟨S2, F2⟩ := HS1.out.set5 true hwy
  have y5 := (stc_cs S2.blk).2.2.2.2.2
  have ly := heap_lt S2.blk
  have HR : Hid (Sr wy b bm n M p c zs cr rn (wn + 1) true ∧ Fr (fun k => k = b) w wy) := ⟨S2, HF.out.trans F2 (fun _ _ e => e)⟩
  clear S2 F2 y5 ly
  subst hc
  go_enter Tryz.func21, Tryz.ntmps21
  go_wp2_with fail
  refine q.mono ?_
  rintro e w1 ⟨rfl, rfl⟩
  go_wp2
  rw [← hwx, ← hwy]
  go_ret
  exact ⟨rfl, HR.out⟩

/-- The store is told to crash at its next write. -/
theorem RS.told {s : RS} {l : List (List UInt8)} {B K : Nat} {w : World} (h : s.At l B K w) :
    Calls Tryz.prog 9 #[.pointer (some ⟨s.sb, 0, none⟩), .agg #[.slice none 0 0, .int .i64 1]] w fun e w' => ∃ s' : RS, e = .returned .nilIface ∧ s'.At l B K w' ∧ (∀ k, k < w.heap.size → s'.tg k = s.tg k) ∧ s'.rb = s.rb ∧ s'.sb = s.sb ∧ s'.zs = [] ∧ s'.cr = 1 ∧ s'.wn = 0 ∧ s'.x = s.x ∧ s'.y = s.y ∧ s'.L = s.L ∧ s'.cap = s.cap ∧ Fr s.Ff w w' := by
  have q := srestart_anyG h.rm.st.blk none 0 [] 1 (fun j hj => by simp at hj) (by simp) rfl
  refine q.mono fun e w' ⟨e1, ⟨g, h1, h2, h3, h4⟩, f⟩ => ?_
  have e0 := h.rm.tr
  obtain ⟨t1, t2, t3⟩ := h.rm.ts
  have l1 := heap_lt h.rm.st.blk
  have l2 := h.rm.st.mp.lt
  have l3 := heap_lt h.rm.blk
  have tE : ∀ k, k < w.heap.size → (if k = g then 1 else if k < w.heap.size then s.tg k else (9 : Nat)) = s.tg k := fun k hk => by rw [if_neg (by omega), if_pos hk]
  refine ⟨{ s with tg := fun k => if k = g then 1 else if k < w.heap.size then s.tg k else 9, p := some ⟨g, 0, none⟩, c := 0, zs := [], cr := 1, rn := 0, wn := 0 }, e1, ⟨⟨(f.block _ l3 (fun e => by rw [e] at e0; omega)).trans h.rm.blk, ⟨h3, h.rm.st.mp.fr f (fun e => by have := h.rm.st.nb; exact this e), fun j hj => by simp at hj, fun g2 o2 e2 => ?_, h.rm.st.nb⟩, (h.rm.ca.fr f (fun k _ e q => by rw [q] at e; omega)).mono (fun k hk e => ?_) (Nat.le_refl _), fun z hz => ?_, ?_, ⟨?_, ?_, fun g2 o2 e2 => ?_⟩, fun g2 o2 e2 => ?_⟩, h.ct, h.hm, h.h32, fun k hk => ?_, h.b1, h.b2, fun k hk => ?_, rfl, by simp, ⟨Int.le_refl _, by simp only; omega⟩, h.x0, h.y0, h.n0⟩, fun k hk => tE k hk, rfl, rfl, rfl, rfl, rfl, rfl, rfl, rfl, rfl, f.mono (fun k _ e => .inr (.inl (by rw [e]; exact t1)))⟩
  · cases e2
    simp only
    exact ⟨by omega, by omega⟩
  · have hkw : k < w.heap.size := by
      rcases Nat.lt_or_ge k w.heap.size with q | q
      · exact q
      · have := h.nt k q; omega
    exact (tE k hkw).trans e
  · obtain ⟨⟨g0, hg0, ht0⟩, hh, hr⟩ := Rm.row_fr h.rm.row f (fun k hk q => by rw [q] at hk; omega) z hz
    have hg0w : g0 < w.heap.size := by
      rcases Nat.lt_or_ge g0 w.heap.size with q | q
      · exact q
      · have := h.nt g0 q; omega
    exact ⟨⟨g0, hg0, (tE g0 hg0w).trans ht0⟩, hh, hr⟩
  · exact (tE _ l3).trans e0
  · exact (tE _ l1).trans t1
  · exact (tE _ l2).trans t2
  · cases e2; simp
  · cases e2; exact h2
  · have := f.size
    show (if k = g then 1 else if k < w.heap.size then s.tg k else 9) = 9
    rw [if_neg (by omega), if_neg (by omega)]
  · unfold RS.Ff at hk
    simp only at hk
    by_cases q1 : k = g
    · have := h.b2; omega
    · rw [if_neg q1] at hk
      by_cases q2 : k < w.heap.size
      · rw [if_pos q2] at hk; exact h.bt k hk
      · rw [if_neg q2] at hk; omega
/-- A reader over a store that is dead. -/
structure RS.Ded (s : RS) (l : List (List UInt8)) (B : Nat) (w : World) : Prop where
  rm : Rm w s.tg s.rb s.sb s.cb s.bm s.nM s.M s.p s.c s.zs s.cr s.rn s.wn true s.N s.cap s.L s.H s.x s.y
  ct : ∀ z ∈ s.L, s.H z.1 = TRk l z.1
  hm : HldA l s.M
  h32 : ∀ x ∈ l, x.length = 32
  nt : ∀ k, w.heap.size ≤ k → s.tg k = 9
  b1 : B ≤ s.sb
  b2 : B ≤ s.rb
  bt : ∀ k, s.Ff k → B ≤ k
  zz : s.zs = []
  rn0 : 0 ≤ s.rn ∧ s.rn ≤ 1000000
  x0 : 0 ≤ s.x ∧ s.x ≤ 1000000
  y0 : 0 ≤ s.y ∧ s.y ≤ 1000000
theorem RS.Ded.nw {s : RS} {l : List (List UInt8)} {B : Nat} {w w' : World} (h : s.Ded l B w) (n : Nw w w') : s.Ded l B w' :=
  ⟨h.rm.nw n, h.ct, h.hm, h.h32, fun k hk => h.nt k (Nat.le_trans n.size hk), h.b1, h.b2, h.bt, h.zz, h.rn0, h.x0, h.y0⟩
theorem RS.Ded.fr9 {s : RS} {l : List (List UInt8)} {B : Nat} {w w' : World} {S : Nat → Prop} (h : s.Ded l B w) (f : Fr S w w') (hS : ∀ k, S k → s.tg k = 9) : s.Ded l B w' :=
  ⟨h.rm.fr9 f hS, h.ct, h.hm, h.h32, fun k hk => h.nt k (Nat.le_trans f.size hk), h.b1, h.b2, h.bt, h.zz, h.rn0, h.x0, h.y0⟩
theorem RS.crash {s : RS} {l : List (List UInt8)} {B K : Nat} {w : World} (h : s.At l B K w) (hK : K ≤ 1000) (hcr : s.cr = 1) (hwn : s.wn = 0) (hzs : s.zs = []) (u t : ByteArray) (hu : okN u) (ht : t.size ≤ 281474976710656) {a : Nat → Addr} (hS : Sent B w a) :
    Calls Tryz.prog 21 #[.pointer (some ⟨s.sb, 0, none⟩), .string u, .string t] w fun e w' => ∃ s' : RS, e = .returned (sen (a 7)) ∧ s'.Ded l B w' ∧ (∀ k, s'.tg k = s.tg k) ∧ s'.rb = s.rb ∧ s'.x = s.x ∧ s'.y = s.y ∧ s'.L = s.L ∧ Fr s.Ff w w' := by
  have e0 := h.rm.tr
  obtain ⟨t1, t2, t3⟩ := h.rm.ts
  have hrn := h.rn0
  have hx := h.x0
  have hy := h.y0
  have hB2 : B ≤ s.bm := h.bt _ (.inr (.inl t2))
  refine (sput_crash h.rm.st u t hu ht hS (by rw [hcr, hwn]; rfl) (by omega) (by omega) h.b1 hB2).mono fun e w' ⟨e1, hs, f⟩ => ?_
  exact ⟨{ s with wn := s.wn + 1 }, e1, ⟨⟨(f.block _ (heap_lt h.rm.blk) (fun e => by rw [e] at e0; omega)).trans h.rm.blk, hs, h.rm.ca.fr f (fun k _ e q => by rw [q] at e; omega), Rm.row_fr h.rm.row f (fun k hk q => by rw [show k = s.sb from q] at hk; exact absurd (t1.symm.trans hk) (by decide)), h.rm.tr, h.rm.ts, fun g o e => Nat.lt_of_lt_of_le (h.rm.lp g o e) f.size⟩, h.ct, h.hm, h.h32, fun k hk => h.nt k (Nat.le_trans f.size hk), h.b1, h.b2, h.bt, hzs, ⟨hrn.1, by simp only; omega⟩, ⟨hx.1, by simp only; omega⟩, ⟨hy.1, by simp only; omega⟩⟩, fun _ => rfl, rfl, rfl, rfl, rfl, f.mono (fun k _ e => .inr (.inl (by rw [e]; exact t1)))⟩
theorem RS.Ded.had {s : RS} {l : List (List UInt8)} {B : Nat} {w : World} (h : s.Ded l B w) {q i W : Nat} (hw : wid q i l.length = W) (h0 : 0 < W) {v : CT.VT} {r : CT.LT} (hk : CT.tk s.L (keyT q i W (mayT_wid hw h0)) = some (v, r)) (hP : TX.Pow w) (hxb : s.x ≤ 1000) (hyb : s.y ≤ 1000) :
    Calls Tryz.prog 38 #[.pointer (some ⟨s.rb, 0, none⟩), tl q i W] w fun e w' => ∃ (s' : RS) (g : Nat), e = .returned (.tuple #[.slice (some ⟨g, 0, none⟩) W W, .nilIface]) ∧ w'.ownsRow 0 42 32 (.slice (some ⟨g, 0, none⟩) W W) W (hsc (tlH l q i W)) ∧ s'.Ded l B w' ∧ (∀ k, k < w.heap.size → s'.tg k = s.tg k) ∧ s'.rb = s.rb ∧ s'.x = s.x + 1 ∧ s'.y = s.y + 1 ∧ (∀ j, CT.tk s'.L j = none ↔ CT.tk s.L j = none) ∧ Fr s.Ff w w' := by
  have hx := h.x0
  have hy := h.y0
  refine (fetch_had h.rm q i W (mayT_wid hw h0) hk hP (by omega) (by omega)).mono fun e w' ⟨e1, R, F⟩ => ?_
  obtain ⟨m1, m2⟩ := tk_mem hk
  obtain ⟨⟨g, hg, hgt⟩, hh, ho⟩ := R.row (keyT q i W (mayT_wid hw h0), v) (by simp)
  have hc : s.H (keyT q i W (mayT_wid hw h0)) = tlH l q i W := (h.ct _ m1).trans (TRk_key l q i W (mayT_wid hw h0))
  have hl : (tlH l q i W).length = W := tlH_len l q i W (wid_in q i _ W hw h0).1
  simp only at hg ho
  rw [hc, hl] at hg
  rw [hc, hl] at ho
  subst hg
  have hsz := F.size
  refine ⟨{ s with tg := tgC s.tg w'.heap.size, L := (keyT q i W (mayT_wid hw h0), (some ⟨g, 0, none⟩, W, W)) :: r, x := s.x + 1, y := s.y + 1 }, g, e1, ho, ⟨R.cut, fun z hz => ?_, h.hm, h.h32, fun k hk => tgC_ge _ _ _ hk, h.b1, h.b2, fun k hk => ?_, h.zz, h.rn0, by simp only; omega, by simp only; omega⟩, fun k hk => tgC_lt _ _ _ (by omega), rfl, rfl, rfl, fun j => tk_had hk j, F.mono (fun k _ q => by unfold RS.Ff; omega)⟩
  · rcases List.mem_cons.1 hz with e | e
    · rw [e]; exact h.ct _ m1
    · exact h.ct _ (m2 z e)
  · unfold RS.Ff at hk
    rcases Nat.lt_or_ge k w'.heap.size with q | q
    · exact h.bt k (by unfold RS.Ff; simp only at hk; rw [tgC_lt _ _ _ q] at hk; exact hk)
    · simp only at hk; rw [tgC_ge _ _ _ q] at hk; omega
theorem RS.Ded.gone {s : RS} {l : List (List UInt8)} {B : Nat} {w : World} (h : s.Ded l B w) {q i W : Nat} (hm : mayT q i (W : Int)) (hk : CT.tk s.L (keyT q i W hm) = none) (hM : ∀ t, s.M ⟨(nm q i W).toArray⟩ = some t → t.size ≤ 281474976710656) (hP : TX.Pow w) (hxb : s.x ≤ 1000) {a : Nat → Addr} (hS : Sent B w a) :
    Calls Tryz.prog 38 #[.pointer (some ⟨s.rb, 0, none⟩), tl q i W] w fun e w' => e = .returned (.tuple #[.slice none 0 0, sen (a 7)]) ∧ ∃ s' : RS, s'.Ded l B w' ∧ (∀ k, k < w.heap.size → s'.tg k = s.tg k) ∧ s'.rb = s.rb ∧ s'.x = s.x + 1 ∧ s'.y = s.y ∧ Fr s.Ff w w' := by
  have hx := h.x0
  have hrn := h.rn0
  refine (fetch_err h.rm q i W hm hk hP (by omega) hS (by rw [h.zz]; simp) (by rw [h.zz]; rfl) hrn.1 (by omega) h.b1 h.b2 (fun k e => h.bt k (.inr (.inr e))) hM s.rn rfl 7 rfl).mono fun e w' ⟨e1, R, F⟩ => ?_
  have hsz := F.size
  refine ⟨e1, { s with tg := tgC s.tg w'.heap.size, x := s.x + 1 }, ⟨R.cut, h.ct, h.hm, h.h32, fun k hk => tgC_ge _ _ _ hk, h.b1, h.b2, fun k hk => ?_, h.zz, h.rn0, by simp only; omega, h.y0⟩, fun k hk => tgC_lt _ _ _ (by omega), rfl, rfl, rfl, F⟩
  unfold RS.Ff at hk
  rcases Nat.lt_or_ge k w'.heap.size with q | q
  · exact h.bt k (by unfold RS.Ff; simp only at hk; rw [tgC_lt _ _ _ q] at hk; exact hk)
  · simp only at hk; rw [tgC_ge _ _ _ q] at hk; omega
theorem RS.Ded.node {s : RS} {l : List (List UInt8)} {B : Nat} {w : World} (h : s.Ded l B w) {L I W : Nat} (hm : may L I) (hw : wid (L / 8) (ofA L I / 256) l.length = W) (h0 : 0 < W) (hin : ofA L I % 256 + 2 ^ (L % 8) ≤ W) {v : CT.VT} {r : CT.LT} (hk : CT.tk s.L (keyT (L / 8) (ofA L I / 256) W (mayT_wid hw h0)) = some (v, r)) (hxb : s.x ≤ 1000) (hyb : s.y ≤ 1000) {a : Nat → Addr} (hG : Gd B a w) :
    Calls Tryz.prog 14 #[.pointer (some ⟨s.rb, 0, none⟩), cd L I, .int .u64 (l.length : Int)] w fun e w' => ∃ s' : RS, e = .returned (.tuple #[.agg (hbs (ovr L ((l.drop (I * 2 ^ L)).take (2 ^ L)))), .nilIface]) ∧ s'.Ded l B w' ∧ (∀ k, k < w.heap.size → s'.tg k = s.tg k) ∧ s'.rb = s.rb ∧ s'.x = s.x + 1 ∧ s'.y = s.y + 1 ∧ (∀ j, CT.tk s'.L j = none ↔ CT.tk s.L j = none) ∧ Fr s.Ff w w' := by
  have hl := wid_in _ _ _ W hw h0
  have hT := tlH_len l (L / 8) (ofA L I / 256) W hl.1
  have q := rnode_some (w := w) (q := .pointer (some ⟨s.rb, 0, none⟩)) L I l.length W hm hw hin (tlH l (L / 8) (ofA L I / 256) W) (tlH_32 l h.h32 _ _ _) hT hl.2.1 (fun V nV => rthere_any (h.nw nV).rm.blk)
    (fun g V => ∃ s' : RS, s'.Ded l B V ∧ (∀ k, k < w.heap.size → s'.tg k = s.tg k) ∧ (s'.rb = s.rb ∧ s'.x = s.x + 1 ∧ s'.y = s.y + 1 ∧ (∀ j, CT.tk s'.L j = none ↔ CT.tk s.L j = none)) ∧ Fr s.Ff w V ∧ s'.tg w.heap.size = 9 ∧ s'.tg (w.heap.size + 1) = 9)
    (fun g w1 w2 ⟨s', a1, le, r, f, t0, t1⟩ f2 => ⟨s', a1.fr9 f2 (fun k hk => by
      rcases (show k = w.heap.size ∨ k = w.heap.size + 1 by omega) with e | e
      · rw [e]; exact t0
      · rw [e]; exact t1), le, r, f.trans f2 (fun k hk q => by omega), t0, t1⟩)
    (fun V nV hV => by
      refine ((h.nw nV).had hw h0 hk (hG.nw nV).pow hxb hyb).mono fun e w' ⟨s', g, e1, o, a1, le, r1, r2, r3, r4, f⟩ => ⟨g, by rw [hT]; exact e1, Hss.of (tlH_32 l h.h32 _ _ _) (by rw [hT]; exact o), (hG.nw nV).l.frJ f (fun k hk q => by have := h.bt k q; have := hG.nb; omega), f.block _ (by omega) (fun q => by have := h.nt (w.heap.size + 1) (by omega); unfold RS.Ff at q; omega), s', a1, fun k hk => le k (by have := nV.size; omega), ⟨r1, r2, r3, r4⟩, (nV.mono (fun _ _ f => f.elim)).trans f (fun _ _ q => q), ?_, ?_⟩
      · rw [le _ (by omega)]; exact h.nt _ (Nat.le_refl _)
      · rw [le _ (by omega)]; exact h.nt _ (by omega))
  have e := ovr_tile l (L / 8) (L % 8) I W (ofA L I % 256) (ofA L I / 256) (by show ofA L I = _; omega) hin hl.1
  rw [show 8 * (L / 8) + L % 8 = L by omega] at e
  rw [e] at q
  exact q.mono fun e w' ⟨g, e1, s', a1, le, r, f, _⟩ => ⟨s', e1, a1, le, r.1, r.2.1, r.2.2.1, r.2.2.2, f⟩
/-- Tile where its fetch tells an error. -/
theorem RS.tile_fell {s : RS} {l : List (List UInt8)} {B K : Nat} {w : World} (h : s.At l B K w) {q i W : Nat} (x : Addr) (R : RS → Prop) (hf : ∀ V, s.At l B K V → Nw w V → s.Fell l B K q i W x R V) :
    Calls Tryz.prog 18 #[.pointer (some ⟨s.rb, 0, none⟩), tl q i W] w fun e w' => ∃ s' : RS, e = .returned (.tuple #[.slice none 0 0, sen x]) ∧ s'.At l B (K + 1) w' ∧ s.Le s' w ∧ R s' ∧ Fr s.Ff w w' := by
  have n0 := nwa w (.cells #[.int .u8 (q : Int), .int .u64 (i : Int), .int .i64 (W : Int)] 60)
  refine (rtile_none (w := w) (q := .pointer (some ⟨s.rb, 0, none⟩)) q i W (sen x) (fun w' => ∃ s' : RS, s'.At l B (K + 1) w' ∧ s.Le s' w ∧ R s' ∧ Fr s.Ff w w') ((hf _ (h.nw n0) n0).mono fun e w' ⟨s', e1, a1, le, r, f⟩ => ⟨e1, s', a1, ⟨fun k hk => le.tg k (by simp; omega), le.rb, le.sb, le.zs, le.cap⟩, r, (n0.mono (fun _ _ f => f.elim)).trans f (fun _ _ q => q)⟩)).mono fun e w' ⟨e1, s', a1, le, r, f⟩ => ⟨s', e1, a1, le, r, f⟩
theorem RS.Ded.tile_gone {s : RS} {l : List (List UInt8)} {B : Nat} {w : World} (h : s.Ded l B w) {q i W : Nat} (hm : mayT q i (W : Int)) (hk : CT.tk s.L (keyT q i W hm) = none) (hM : ∀ t, s.M ⟨(nm q i W).toArray⟩ = some t → t.size ≤ 281474976710656) (hxb : s.x ≤ 1000) {a : Nat → Addr} (hG : Gd B a w) :
    Calls Tryz.prog 18 #[.pointer (some ⟨s.rb, 0, none⟩), tl q i W] w fun e w' => e = .returned (.tuple #[.slice none 0 0, sen (a 7)]) ∧ ∃ s' : RS, s'.Ded l B w' ∧ (∀ k, k < w.heap.size → s'.tg k = s.tg k) ∧ s'.rb = s.rb ∧ s'.x = s.x + 1 ∧ s'.y = s.y ∧ Fr s.Ff w w' := by
  have n0 := nwa w (.cells #[.int .u8 (q : Int), .int .u64 (i : Int), .int .i64 (W : Int)] 60)
  exact rtile_none (w := w) (q := .pointer (some ⟨s.rb, 0, none⟩)) q i W (sen (a 7)) (fun w' => ∃ s' : RS, s'.Ded l B w' ∧ (∀ k, k < w.heap.size → s'.tg k = s.tg k) ∧ s'.rb = s.rb ∧ s'.x = s.x + 1 ∧ s'.y = s.y ∧ Fr s.Ff w w') (((h.nw n0).gone hm hk hM (hG.nw n0).pow hxb (hG.nw n0).s).mono fun e w' ⟨e1, s', a1, le, r1, r2, r3, f⟩ => ⟨e1, s', a1, fun k hk => le k (by simp; omega), r1, r2, r3, (n0.mono (fun _ _ f => f.elim)).trans f (fun _ _ q => q)⟩)
/-- A tile that may be and whose text does not lie there. -/
theorem RS.corrupt {s : RS} {l : List (List UInt8)} {B K : Nat} {w : World} (h : s.At l B K w) {q i W : Nat} (hm : mayT q i (W : Int)) (hk : CT.tk s.L (keyT q i W hm) = none) (hM : s.M ⟨(nm q i W).toArray⟩ = none) (hz : s.rn + 1 ∉ s.zs) (hP : TX.Pow w) (hK : K ≤ 1000000) {a : Nat → Addr} (hS : Sent B w a) :
    s.Fell l B K q i W (a 8) (fun s' => s'.rn = s.rn + 1 ∧ s'.x = s.x + 1 ∧ s'.y = s.y ∧ s'.L = s.L ∧ s'.M = s.M) w := by
  have hx := h.x0
  have hy := h.y0
  have hrn := h.rn0
  have hn0 := h.n0
  refine (fetch_err h.rm q i W hm hk hP (by omega) hS h.zl h.ok h.rn0.1 (by omega) h.b1 h.b2 (fun k e => h.bt k (.inr (.inr e))) (fun t ht => by rw [hM] at ht; cases ht) (s.rn + 1) (by simp) 8 (by unfold rdA; rw [hM]; simp [hz])).mono fun e w' ⟨e1, R, F⟩ => ?_
  have hsz := F.size
  refine ⟨{ s with tg := tgC s.tg w'.heap.size, rn := s.rn + 1, x := s.x + 1 }, e1, ⟨R.cut, h.ct, h.hm, h.h32, fun k hk => tgC_ge _ _ _ hk, h.b1, h.b2, fun k hk => ?_, h.ok, h.zl, by simp only; omega, by simp only; omega, by simp only; omega, by simp only; omega⟩, ⟨fun k hk => tgC_lt _ _ _ (by omega), rfl, rfl, rfl, rfl⟩, ⟨rfl, rfl, rfl, rfl, rfl⟩, F⟩
  unfold RS.Ff at hk
  rcases Nat.lt_or_ge k w'.heap.size with q | q
  · exact h.bt k (by unfold RS.Ff; simp only at hk; rw [tgC_lt _ _ _ q] at hk; exact hk)
  · simp only at hk; rw [tgC_ge _ _ _ q] at hk; omega
theorem yields_load_gJ {P : Program} {ops : Array Oper} {S : World → Prop} {o : Oper} {a : Act} (hgd : Region.wanted o (yielded ops a.tmps) = true) (x : Operand) (t : TypeId) (n : Nat) (ho : o.op = .load t x)
    (hagg : ∀ W : World, (isAgg t).run P W = .ok true W) (hsz : ∀ W : World, (sizeOf t).run P W = .ok n W) (g : Nat) (hx : a.eval x = .pointer (some ⟨g, 0, none⟩)) (ty : TypeId)
    (V : Array Value) (hV : V.size = n) (hg : ∀ w, S w → w.heap[g]? = some (.cells V ty (0, 0))) : YieldsIf P ops S o (.agg V) a := by
  refine .inl ⟨hgd, fun w hw => ?_⟩
  have hl : (loadCells ⟨g, 0, none⟩ n).run P w = .ok V w := by
    have := run_loadCells_list (P := P) w ⟨g, 0, none⟩ V.toList (fun j v hv => by
      rw [addZ, cell_of (hg w hw)]
      simpa using hv)
    simpa [hV] using this
  unfold execOp
  simp only [ho, hx, Instr.loadAt, sure, loadVar, Sem.run_bind, Sem.run_pure, hagg, hsz, hl, Result.andThen_ok, if_true]

set_option maxRecDepth 100000 in
theorem yields_eqlJ {ops : Array Oper} {S : World → Prop} {o : Oper} {a : Act} (hwant : Region.wanted o (yielded ops a.tmps) = true) (x y : Operand) (ho : o.op = .binOp .eql 42 x y 42) (A : List UInt8) (hA : A.length = 32) (hx : a.eval x = .agg (hbs A)) (hy : a.eval y = .agg (hbs A)) : YieldsIf Tryz.prog ops S o (.bool true) a := by
  refine .inl ⟨hwant, fun w _ => ?_⟩
  unfold execOp
  simp only [ho, hx, hy, run_eqGuard, hbs_eql A hA w, Sem.run_bind, Sem.run_pure, Result.andThen_ok]
/-- A name of no tile of the log. -/
theorem onl_none {n q i W : Nat} {M : Tx} (h : Onl (lh n) M) (hm : mayT q i (W : Int)) (hw : wid q i n ≠ W) : M ⟨(nm q i W).toArray⟩ = none := by
  cases hc : M ⟨(nm q i W).toArray⟩ with
  | none => rfl
  | some t =>
    obtain ⟨q', i', W', h1, h2, h3, _⟩ := h _ t hc
    obtain ⟨e1, e2, e3⟩ := nm_inj hm (mayT_wid h1 h2) h3
    subst e1 e2 e3
    rw [lh_len] at h1
    exact absurd h1 hw
theorem tk_repl {L : CT.LT} {k : CT.KT} {v : CT.VT} (h : CT.tk L k = none) (hl : L.length = 1) : (CT.putA 1 L k v).2.2 = [(k, v)] := by
  obtain ⟨z, rfl⟩ := List.length_eq_one_iff.1 hl
  unfold CT.putA
  rw [h]
  simp only
  rw [if_neg (by decide), if_pos (by rfl)]
  rfl
end Go.Proofs.YtbkhdnceblgljaaGreatDoor
