/- reader: a reader over a log's store, in one word. -/
import Derived.Test.YtjkhcplnedcmeaaGreatDoorJgd
import Derived.Test.YtjkhcplnedcmeaaGreatDoorOgy
import Derived.Deep.RegionHeld3
import Derived.Deep.DeepCutAuto
import Derived.Test.YtjkhcplnedcmeaaGreatDoorUg2
namespace Go.Proofs.YtjkhcplnedcmeaaGreatDoor
open Go.RowKit
set_option linter.unusedVariables false
set_option linter.unusedSimpArgs false
/-- What a reader, its store and its cache are. -/
structure RS where
  tg : Nat → Nat
  rb : Nat
  sb : Nat
  cb : Nat
  bm : Nat
  nM : Nat
  M : Tx
  p : Option Addr
  c : Nat
  zs : List Int
  cr : Int
  rn : Int
  wn : Int
  N : Nat
  cap : Nat
  L : CT.LT
  H : CT.KT → List (List UInt8)
  x : Int
  y : Int
/-- The hashes of a tile, by its key. -/
def TRk (l : List (List UInt8)) (k : CT.KT) : List (List UInt8) := tlH l k.1.1 k.1.2.1 k.1.2.2.toNat
/-- What a call may turn. -/
abbrev RS.Ff (s : RS) (k : Nat) : Prop := s.tg k = 0 ∨ s.tg k = 1 ∨ s.tg k = 2
/-- It lies in memory, over the tiles of the log l; the errors lie below B; the counts are K at most. -/
structure RS.At (s : RS) (l : List (List UInt8)) (B K : Nat) (w : World) : Prop where
  rm : Rm w s.tg s.rb s.sb s.cb s.bm s.nM s.M s.p s.c s.zs s.cr s.rn s.wn false s.N s.cap s.L s.H s.x s.y
  ct : ∀ z ∈ s.L, s.H z.1 = TRk l z.1
  hm : HldA l s.M
  h32 : ∀ x ∈ l, x.length = 32
  nt : ∀ k, w.heap.size ≤ k → s.tg k = 9
  b1 : B ≤ s.sb
  b2 : B ≤ s.rb
  bt : ∀ k, s.Ff k → B ≤ k
  ok : okR 0 s.zs = true
  zl : s.zs.length ≤ 17592186044416
  rn0 : 0 ≤ s.rn ∧ s.rn ≤ K
  x0 : 0 ≤ s.x ∧ s.x ≤ K
  y0 : 0 ≤ s.y ∧ s.y ≤ K
  n0 : s.N ≤ 2 * K
theorem RS.At.nw {s : RS} {l : List (List UInt8)} {B K : Nat} {w w' : World} (h : s.At l B K w) (n : Nw w w') : s.At l B K w' :=
  ⟨h.rm.nw n, h.ct, h.hm, h.h32, fun k hk => h.nt k (Nat.le_trans n.size hk), h.b1, h.b2, h.bt, h.ok, h.zl, h.rn0, h.x0, h.y0, h.n0⟩
/-- The same reader later. -/
structure RS.Le (s s' : RS) (w : World) : Prop where
  tg : ∀ k, k < w.heap.size → s'.tg k = s.tg k
  rb : s'.rb = s.rb
  sb : s'.sb = s.sb
  zs : s'.zs = s.zs
  cap : s'.cap = s.cap
theorem RS.At.low {s : RS} {l : List (List UInt8)} {B K : Nat} {w : World} (h : s.At l B K w) : ∀ k, s.Ff k → k < w.heap.size := fun k hk => by
  rcases Nat.lt_or_ge k w.heap.size with q | q
  · exact q
  · have := h.nt k q; unfold RS.Ff at hk; omega
theorem RS.Le.trans {s s1 s2 : RS} {w w1 : World} (h : s.Le s1 w) (k : s1.Le s2 w1) (hs : w.heap.size ≤ w1.heap.size) : s.Le s2 w :=
  ⟨fun j hj => (k.tg j (by omega)).trans (h.tg j hj), k.rb.trans h.rb, k.sb.trans h.sb, k.zs.trans h.zs, k.cap.trans h.cap⟩
theorem RS.Le.frt {s s1 : RS} {w w1 w2 : World} (h : s.Le s1 w) (f1 : Fr s.Ff w w1) (f2 : Fr s1.Ff w1 w2) : Fr s.Ff w w2 :=
  f1.trans f2 (fun k hk q => by unfold RS.Ff at q ⊢; rw [h.tg k hk] at q; exact q)
theorem TRk_key (l : List (List UInt8)) (q i W : Nat) (hm : mayT q i (W : Int)) : TRk l (keyT q i W hm) = tlH l q i W := by
  show tlH l q i (W : Int).toNat = _
  rw [Int.toNat_natCast]
theorem tgC_lt (tg : Nat → Nat) (s k : Nat) (h : k < s) : tgC tg s k = tg k := by simp [tgC, h]
theorem tgC_ge (tg : Nat → Nat) (s k : Nat) (h : s ≤ k) : tgC tg s k = 9 := by simp [tgC]; omega
theorem RS.had {s : RS} {l : List (List UInt8)} {B K : Nat} {w : World} (h : s.At l B K w) {q i W : Nat} (hw : wid q i l.length = W) (h0 : 0 < W) {v : CT.VT} {r : CT.LT} (hk : CT.tk s.L (keyT q i W (mayT_wid hw h0)) = some (v, r)) (hP : TX.Pow w) (hK : K ≤ 1000000) :
    Calls Tryz.prog 142 #[.pointer (some ⟨s.rb, 0, none⟩), tl q i W] w fun e w' => ∃ (s' : RS) (g : Nat), e = .returned (.tuple #[.slice (some ⟨g, 0, none⟩) W W, .nilIface]) ∧ w'.ownsRow 0 69 32 (.slice (some ⟨g, 0, none⟩) W W) W (hsc (tlH l q i W)) ∧ s'.At l B (K + 1) w' ∧ s.Le s' w ∧ s'.rn = s.rn ∧ s'.x = s.x + 1 ∧ s'.y = s.y + 1 ∧ s'.L = (keyT q i W (mayT_wid hw h0), v) :: r ∧ s'.M = s.M ∧ Fr s.Ff w w' := by
  have hx := h.x0
  have hy := h.y0
  have hrn := h.rn0
  have hn0 := h.n0
  refine (fetch_had h.rm q i W (mayT_wid hw h0) hk hP (by omega) (by omega)).mono fun e w' ⟨e1, R, F⟩ => ?_
  obtain ⟨m1, m2⟩ := tk_mem hk
  obtain ⟨⟨g, hg, hgt⟩, hh, ho⟩ := R.row (keyT q i W (mayT_wid hw h0), v) (by simp)
  have hc : s.H (keyT q i W (mayT_wid hw h0)) = tlH l q i W := (h.ct _ m1).trans (TRk_key l q i W (mayT_wid hw h0))
  have hl : (tlH l q i W).length = W := tlH_len l q i W (wid_in q i _ W hw h0).1
  simp only at hg ho
  rw [hc, hl] at hg
  rw [hc, hl] at ho
  subst hg
  have hsz := F.size
  refine ⟨{ s with tg := tgC s.tg w'.heap.size, L := (keyT q i W (mayT_wid hw h0), (some ⟨g, 0, none⟩, W, W)) :: r, x := s.x + 1, y := s.y + 1 }, g, e1, ho, ⟨R.cut, fun z hz => ?_, h.hm, h.h32, fun k hk => tgC_ge _ _ _ hk, h.b1, h.b2, fun k hk => ?_, h.ok, h.zl, by simp only; omega, by simp only; omega, by simp only; omega, by simp only; omega⟩, ⟨fun k hk => tgC_lt _ _ _ (by omega), rfl, rfl, rfl, rfl⟩, rfl, rfl, rfl, rfl, rfl, F.mono (fun k _ q => by unfold RS.Ff; omega)⟩
  · rcases List.mem_cons.1 hz with e | e
    · rw [e]; exact h.ct _ m1
    · exact h.ct _ (m2 z e)
  · unfold RS.Ff at hk
    rcases Nat.lt_or_ge k w'.heap.size with q | q
    · exact h.bt k (by unfold RS.Ff; simp only at hk; rw [tgC_lt _ _ _ q] at hk; exact hk)
    · simp only at hk; rw [tgC_ge _ _ _ q] at hk; omega
theorem rdA_log {l : List (List UInt8)} (h32 : ∀ x ∈ l, x.length = 32) {M : Tx} (hm : HldA l M) {q i W : Nat} (hw : wid q i l.length = W) (h0 : 0 < W) (zs : List Int) (rn : Int) :
    rdA M zs rn false ⟨(nm q i W).toArray⟩ W = if rn + 1 ∈ zs then .inr 6 else .inl (tlH l q i W) := by
  have hl := wid_in q i _ W hw h0
  unfold rdA
  rw [hm q i W hw h0]
  simp only [Bool.false_eq_true, if_false, tlB_size l h32 q i W hl.1, if_true, tlB_chs l h32 q i W hl.1]
theorem hM_log {l : List (List UInt8)} (h32 : ∀ x ∈ l, x.length = 32) {M : Tx} (hm : HldA l M) {q i W : Nat} (hw : wid q i l.length = W) (h0 : 0 < W) : ∀ t, M ⟨(nm q i W).toArray⟩ = some t → t.size ≤ 281474976710656 := fun t ht => by
  have hl := wid_in q i _ W hw h0
  rw [hm q i W hw h0] at ht
  injection ht with ht
  rw [← ht, tlB_size l h32 q i W hl.1]; omega
theorem RS.fresh {s : RS} {l : List (List UInt8)} {B K : Nat} {w : World} (h : s.At l B K w) {q i W : Nat} (hw : wid q i l.length = W) (h0 : 0 < W) (hk : CT.tk s.L (keyT q i W (mayT_wid hw h0)) = none) (hz : s.rn + 1 ∉ s.zs) (hP : TX.Pow w) (hK : K ≤ 1000000) {a : Nat → Addr} (hS : Sent B w a) :
    Calls Tryz.prog 142 #[.pointer (some ⟨s.rb, 0, none⟩), tl q i W] w fun e w' => ∃ (s' : RS) (g : Nat), e = .returned (.tuple #[.slice (some ⟨g, 0, none⟩) W W, .nilIface]) ∧ w'.ownsRow 0 69 32 (.slice (some ⟨g, 0, none⟩) W W) W (hsc (tlH l q i W)) ∧ s'.At l B (K + 1) w' ∧ s.Le s' w ∧ s'.rn = s.rn + 1 ∧ s'.x = s.x + 1 ∧ s'.y = s.y ∧ s'.L = (CT.putA s.cap s.L (keyT q i W (mayT_wid hw h0)) (some ⟨g, 0, none⟩, W, W)).2.2 ∧ s'.M = s.M ∧ Fr s.Ff w w' := by
  have hx := h.x0
  have hy := h.y0
  have hrn := h.rn0
  have hn0 := h.n0
  have hl : (tlH l q i W).length = W := tlH_len l q i W (wid_in q i _ W hw h0).1
  have hr := rdA_log h.h32 h.hm hw h0 s.zs s.rn
  rw [if_neg hz] at hr
  have hf := fetch_new h.rm q i W (mayT_wid hw h0) hk hP (by omega) hS h.zl h.ok h.rn0.1 (by omega) h.b1 h.b2 (fun k e => h.bt k (.inr (.inr e))) (hM_log h.h32 h.hm hw h0) (s.rn + 1) (by simp) _ hr (by omega)
  rw [hl] at hf
  refine hf.mono fun e w' ⟨g, q2, e1, hg1, hg2, R, ho, F⟩ => ?_
  have hsz := F.size
  have tN : ∀ k, k < w.heap.size → tgN s.tg w.heap.size g q2 k = s.tg k := fun k hk => by simp [tgN, hk]
  refine ⟨{ s with tg := tgC (tgN s.tg w.heap.size g q2) w'.heap.size, L := (CT.putA s.cap s.L (keyT q i W (mayT_wid hw h0)) (some ⟨g, 0, none⟩, W, W)).2.2, H := upH s.H (keyT q i W (mayT_wid hw h0)) (tlH l q i W), N := s.N + 2, rn := s.rn + 1, x := s.x + 1 }, g, e1, ho, ⟨R.cut, fun z hz => ?_, h.hm, h.h32, fun k hk => tgC_ge _ _ _ hk, h.b1, h.b2, fun k hk => ?_, h.ok, h.zl, by simp only; omega, by simp only; omega, by simp only; omega, by simp only; omega⟩, ⟨fun k hk => (tgC_lt _ _ _ (by omega)).trans (tN k hk), rfl, rfl, rfl, rfl⟩, rfl, rfl, rfl, rfl, rfl, F⟩
  · simp only at hz ⊢
    rcases putA_mem hk z hz with e | e
    · subst e
      rw [upH_same]; exact (TRk_key l q i W (mayT_wid hw h0)).symm
    · rw [upH_ne _ _ (tk_off hk z e)]; exact h.ct z e
  · unfold RS.Ff at hk
    rcases Nat.lt_or_ge k w.heap.size with q | q
    · simp only at hk; rw [tgC_lt _ _ _ (by omega), tN k q] at hk; exact h.bt k hk
    · have := h.b2; have := heap_lt h.rm.blk; omega
theorem RS.fails {s : RS} {l : List (List UInt8)} {B K : Nat} {w : World} (h : s.At l B K w) {q i W : Nat} (hw : wid q i l.length = W) (h0 : 0 < W) (hk : CT.tk s.L (keyT q i W (mayT_wid hw h0)) = none) (hz : s.rn + 1 ∈ s.zs) (hP : TX.Pow w) (hK : K ≤ 1000000) {a : Nat → Addr} (hS : Sent B w a) :
    Calls Tryz.prog 142 #[.pointer (some ⟨s.rb, 0, none⟩), tl q i W] w fun e w' => ∃ (s' : RS), e = .returned (.tuple #[.slice none 0 0, sen (a 6)]) ∧ s'.At l B (K + 1) w' ∧ s.Le s' w ∧ s'.rn = s.rn + 1 ∧ s'.x = s.x + 1 ∧ s'.y = s.y ∧ s'.L = s.L ∧ s'.M = s.M ∧ Fr s.Ff w w' := by
  have hx := h.x0
  have hy := h.y0
  have hrn := h.rn0
  have hn0 := h.n0
  have hr := rdA_log h.h32 h.hm hw h0 s.zs s.rn
  rw [if_pos hz] at hr
  refine (fetch_err h.rm q i W (mayT_wid hw h0) hk hP (by omega) hS h.zl h.ok h.rn0.1 (by omega) h.b1 h.b2 (fun k e => h.bt k (.inr (.inr e))) (hM_log h.h32 h.hm hw h0) (s.rn + 1) (by simp) 6 hr).mono fun e w' ⟨e1, R, F⟩ => ?_
  have hsz := F.size
  refine ⟨{ s with tg := tgC s.tg w'.heap.size, rn := s.rn + 1, x := s.x + 1 }, e1, ⟨R.cut, h.ct, h.hm, h.h32, fun k hk => tgC_ge _ _ _ hk, h.b1, h.b2, fun k hk => ?_, h.ok, h.zl, by simp only; omega, by simp only; omega, by simp only; omega, by simp only; omega⟩, ⟨fun k hk => tgC_lt _ _ _ (by omega), rfl, rfl, rfl, rfl⟩, rfl, rfl, rfl, rfl, rfl, F⟩
  · unfold RS.Ff at hk
    rcases Nat.lt_or_ge k w'.heap.size with q | q
    · exact h.bt k (by unfold RS.Ff; simp only at hk; rw [tgC_lt _ _ _ q] at hk; exact hk)
    · simp only at hk; rw [tgC_ge _ _ _ q] at hk; omega
end Go.Proofs.YtjkhcplnedcmeaaGreatDoor
namespace Go.Proofs.YtjkhcplnedcmeaaGreatDoor
open Go.RowKit
set_option linter.unusedVariables false
set_option linter.unusedSimpArgs false
theorem Laid.frJ {S : Nat → Prop} {w w' : World} (h : Laid w) (k : Fr S w w') (hS : ∀ j, j < 19 → ¬ S j) : Laid w' := by
  refine ⟨fun i hi => (k.cell (World.block_lt_of_cell? w _ (h.k i hi)) (hS _ (by show 18 < _; omega))).trans (h.k i hi), fun i hi => ?_⟩
  obtain ⟨u, hu⟩ : ∃ u, (vals H0)[i]? = some u := ⟨_, vals_at H0 i hi⟩
  have h1 := (h.b i hi).trans hu
  rw [(k.cell (World.block_lt_of_cell? w _ h1) (hS _ (by show 16 < _; omega))), h.b i hi]
/-- What the program's variables hold; all of it lies below B. -/
structure Gd (B : Nat) (a : Nat → Addr) (w : World) : Prop where
  s : Sent B w a
  l : Laid w
  p : Lib.TabBelow Tryz.prog B w "internal/strconv.uint64pow10" .u64 Lib.pow10Tab
  nb : 19 ≤ B
theorem Gd.fr {B : Nat} {a : Nat → Addr} {w w' : World} {S : Nat → Prop} (h : Gd B a w) (f : Fr S w w') (hS : ∀ k, S k → B ≤ k) : Gd B a w' :=
  ⟨h.s.fr f (fun k hk q => by have := hS k q; omega), h.l.frJ f (fun k hk q => by have := hS k q; have := h.nb; omega), h.p.on (f.below h.s.hsz (fun k hk q => by have := hS k q; omega)), h.nb⟩
theorem Gd.nw {B : Nat} {a : Nat → Addr} {w w' : World} (h : Gd B a w) (n : Nw w w') : Gd B a w' := h.fr n (fun _ q => q.elim)
theorem Gd.pow {B : Nat} {a : Nat → Addr} {w : World} (h : Gd B a w) : TX.Pow w := h.p w (Below.refl _ _)
theorem Gd.of {w : World} {a : Nat → Addr} (hS : Sent w.heap.size w a) (hL : Laid w) (hP : TX.Pow w) : Gd w.heap.size a w := ⟨hS, hL, Lib.tabBelow_of_tabIs hP, hL.lt⟩
set_option maxRecDepth 100000 in
theorem rtile_any {w : World} {q : Value} (L I : Nat) (W : Int) (T : List (List UInt8)) (h32 : ∀ u ∈ T, u.length = 32) (hl : T.length ≤ 256) (PW : Nat → World → Prop)
    (hq : Calls Tryz.prog 142 #[q, .agg #[.int .u8 (L : Int), .int .u64 (I : Int), .int .i64 W]] (w.alloc (.cells #[.int .u8 (L : Int), .int .u64 (I : Int), .int .i64 W] 120)) fun e w' => ∃ g, e = .returned (.tuple #[.slice (some ⟨g, 0, none⟩) T.length T.length, .nilIface]) ∧ w'.ownsRow 0 69 32 (.slice (some ⟨g, 0, none⟩) T.length T.length) T.length (hsc T) ∧ PW g w') :
    Calls Tryz.prog 103 #[q, .agg #[.int .u8 (L : Int), .int .u64 (I : Int), .int .i64 W]] w fun e w' => ∃ v g w1, e = .returned (.tuple #[v, .nilIface]) ∧ PW g w1 ∧ Nw w1 w' ∧ w'.ownsRow w1.heap.size 69 32 v T.length (hsc T) := by
  have H32 : Hid (∀ u ∈ T, u.length = 32) := h32
  obtain ⟨m, hm⟩ : ∃ m, m = T.length := ⟨_, rfl⟩
  have HM : Hid (m = T.length) := hm
  rw [← hm] at hq hl
  clear hm h32
  go_enter Tryz.func103, Tryz.ntmps103
  go_wp2_with fail
  refine hq.mono ?_
  rintro e w1 ⟨g, rfl, o1, p1⟩
  have qc := hclone_some o1 HM.out.symm H32.out (by omega)
  have H1 : Hid (PW g w1) := p1
  clear o1 p1 hq
  go_wp2_with fail
  refine qc.mono ?_
  rintro e w2 ⟨v, rfl, o2, n2⟩
  have H2 : Hid (Nw w1 w2 ∧ w2.ownsRow w1.heap.size 69 32 v T.length (hsc T)) := ⟨n2, by rw [← HM.out]; exact o2⟩
  obtain ⟨va, vc, rfl⟩ := ownsRow_form o2
  clear o2 n2 qc
  go_wp2
  go_ret2
  exact ⟨_, g, w1, rfl, H1.out, H2.out⟩
/-- What a fetch of a tile's hashes gives. -/
def RS.Got (s : RS) (l : List (List UInt8)) (B K q i W : Nat) (R : RS → Prop) (V : World) : Prop :=
  Calls Tryz.prog 142 #[.pointer (some ⟨s.rb, 0, none⟩), tl q i W] V fun e w' => ∃ (s' : RS) (g : Nat), e = .returned (.tuple #[.slice (some ⟨g, 0, none⟩) W W, .nilIface]) ∧ w'.ownsRow 0 69 32 (.slice (some ⟨g, 0, none⟩) W W) W (hsc (tlH l q i W)) ∧ s'.At l B (K + 1) w' ∧ s.Le s' V ∧ R s' ∧ Fr s.Ff V w'
theorem RS.tile {s : RS} {l : List (List UInt8)} {B K : Nat} {w : World} (h : s.At l B K w) {q i W : Nat} (hw : wid q i l.length = W) (h0 : 0 < W) (R : RS → Prop) (hf : ∀ V, s.At l B K V → Nw w V → s.Got l B K q i W R V) :
    Calls Tryz.prog 103 #[.pointer (some ⟨s.rb, 0, none⟩), tl q i W] w fun e w' => ∃ (s' : RS) (v : Value) (bq : Nat), e = .returned (.tuple #[v, .nilIface]) ∧ w'.ownsRow bq 69 32 v W (hsc (tlH l q i W)) ∧ w.heap.size < bq ∧ (∀ k, bq ≤ k → s'.tg k = 9) ∧ s'.At l B (K + 1) w' ∧ s.Le s' w ∧ R s' ∧ Fr s.Ff w w' := by
  have n0 := nwa w (.cells #[.int .u8 (q : Int), .int .u64 (i : Int), .int .i64 (W : Int)] 120)
  have hl : (tlH l q i W).length = W := tlH_len l q i W (wid_in q i _ W hw h0).1
  have hW := (wid_in q i _ W hw h0).2.1
  have hq := hf _ (h.nw n0) n0
  have := rtile_any (w := w) (q := .pointer (some ⟨s.rb, 0, none⟩)) q i W (tlH l q i W) (tlH_32 l h.h32 q i W) (by rw [hl]; exact hW)
    (fun g w' => ∃ s', s'.At l B (K + 1) w' ∧ s.Le s' w ∧ R s' ∧ Fr s.Ff w w' ∧ w.heap.size < w'.heap.size)
    (hq.mono fun e w' ⟨s', g, e1, o, a1, le, r, f⟩ => ⟨g, by rw [hl]; exact e1, by rw [hl]; exact o, s', a1, ⟨fun k hk => le.tg k (by simp; omega), le.rb, le.sb, le.zs, le.cap⟩, r, (n0.mono (fun _ _ f => f.elim)).trans f (fun _ _ q => q), by have := f.size; simp at this; omega⟩)
  rw [hl] at this
  refine this.mono fun e w' ⟨v, g, w1, e1, ⟨s', a1, le, r, f, hs⟩, n1, o⟩ => ⟨s', v, w1.heap.size, e1, o, hs, a1.nt, a1.nw n1, le, r, f.trans n1 (fun _ _ q => q.elim)⟩
end Go.Proofs.YtjkhcplnedcmeaaGreatDoor
namespace Go.Proofs.YtjkhcplnedcmeaaGreatDoor
open Go.RowKit
set_option linter.unusedVariables false
set_option linter.unusedSimpArgs false
end Go.Proofs.YtjkhcplnedcmeaaGreatDoor
namespace Go.Proofs.YtjkhcplnedcmeaaGreatDoor
open Go.RowKit
set_option linter.unusedVariables false
set_option linter.unusedSimpArgs false
theorem pow_dvd256 (j : Nat) (h : j < 8) : 2 ^ j ∣ 256 := ⟨2 ^ (8 - j), by rw [← Nat.pow_add, show j + (8 - j) = 8 by omega]⟩
theorem at_facts {L I : Nat} (h : may L I) : (ofA L I % 256) % 2 ^ (L % 8) = 0 ∧ ofA L I % 256 + 2 ^ (L % 8) ≤ ofW L := by
  have hp := pow8 (L % 8) (by omega)
  have hd := pow_dvd256 (L % 8) (by omega)
  have h1 := ofA_lt h
  have hL := h.1
  have hz : (ofA L I % 256) % 2 ^ (L % 8) = 0 := by
    rw [Nat.mod_mod_of_dvd _ hd]; unfold ofA; exact Nat.mul_mod_left _ _
  refine ⟨hz, ?_⟩
  unfold ofW
  by_cases h7 : L / 8 = 7
  · rw [if_pos h7]
    rw [h7, show 63 - 8 * 7 = 7 from rfl, show (2 : Nat) ^ 7 = 128 from rfl] at h1
    omega
  · rw [if_neg h7]
    obtain ⟨q, hq⟩ := hd
    obtain ⟨r, hr⟩ : 2 ^ (L % 8) ∣ ofA L I % 256 := Nat.dvd_of_mod_eq_zero hz
    have hlt : ofA L I % 256 < 256 := Nat.mod_lt _ (by decide)
    rw [hr] at hlt ⊢
    have hrq : r < q := by
      rw [hq] at hlt
      exact Nat.lt_of_mul_lt_mul_left hlt
    have : 2 ^ (L % 8) * (r + 1) ≤ 2 ^ (L % 8) * q := Nat.mul_le_mul_left _ hrq
    rw [Nat.mul_add, Nat.mul_one, ← hq] at this
    exact this
theorem begins (L I : Nat) : ofA L I * 2 ^ (8 * (L / 8)) = I * 2 ^ L := by
  unfold ofA
  rw [Nat.mul_assoc, ← Nat.pow_add, show L % 8 + 8 * (L / 8) = L by omega]
theorem ends (L I : Nat) : (ofA L I + (2 ^ (L % 8) - 1) + 1) * 2 ^ (8 * (L / 8)) = (I + 1) * 2 ^ L := by
  have hp : 0 < 2 ^ (L % 8) := Nat.pow_pos (by decide)
  rw [show ofA L I + (2 ^ (L % 8) - 1) + 1 = ofA L I + 2 ^ (L % 8) by omega]
  unfold ofA
  rw [← Nat.succ_mul, Nat.mul_assoc, ← Nat.pow_add, show L % 8 + 8 * (L / 8) = L by omega]
theorem covers_wid {L I S : Nat} (h : may L I) (hS : S ≤ 9223372036854775808) (hE : (I + 1) * 2 ^ L ≤ S) : ofA L I % 256 + 2 ^ (L % 8) ≤ wid (L / 8) (ofA L I / 256) S ∧ wid (L / 8) (ofA L I / 256) S ≤ ofW L := by
  have hL := h.1
  have hf := at_facts h
  have hN : ofA L I + 2 ^ (L % 8) ≤ nod8 (L / 8) S := by
    unfold nod8
    rw [Nat.le_div_iff_mul_le (Nat.pow_pos (by decide)), ← ends L I] at *
    have hp : 0 < 2 ^ (L % 8) := Nat.pow_pos (by decide)
    rw [show ofA L I + (2 ^ (L % 8) - 1) + 1 = ofA L I + 2 ^ (L % 8) by omega] at hE
    exact hE
  have hM : nod8 (L / 8) S ≤ nod8 (L / 8) 9223372036854775808 := Nat.div_le_div_right hS
  have hw := of_wid h
  unfold wid at hw ⊢
  rw [if_neg (by omega)] at hw ⊢
  have hW : ofW L ≤ 256 := by unfold ofW; split <;> omega
  omega
end Go.Proofs.YtjkhcplnedcmeaaGreatDoor
namespace Go.Proofs.YtjkhcplnedcmeaaGreatDoor
open Go.RowKit
set_option linter.unusedVariables false
set_option linter.unusedSimpArgs false
/-- What is none of its own turns. -/
theorem Rm.fr9 {w w' : World} {tg : Nat → Nat} {rb sb cb bm n : Nat} {M : Tx} {p : Option Addr} {c : Nat} {zs : List Int} {cr rn wn : Int} {dd : Bool} {N cap : Nat} {L : CT.LT} {H : CT.KT → List (List UInt8)} {x y : Int} {S : Nat → Prop} (h : Rm w tg rb sb cb bm n M p c zs cr rn wn dd N cap L H x y) (f : Fr S w w') (hS : ∀ k, S k → tg k = 9) : Rm w' tg rb sb cb bm n M p c zs cr rn wn dd N cap L H x y := by
  obtain ⟨e1, e2, e3⟩ := h.ts
  have e0 := h.tr
  exact ⟨(f.block _ (heap_lt h.blk) (fun q => by have := hS _ q; omega)).trans h.blk, h.st.fr f (fun q => by have := hS _ q; omega) (fun q => by have := hS _ q; omega) (fun g o hp q => by have := hS _ q; rw [e3 g o hp] at this; omega), h.ca.fr f (fun k _ e q => by have := hS _ q; omega), Rm.row_fr h.row f (fun k hk q => by have := hS _ q; omega), h.tr, h.ts, fun g o e => Nat.lt_of_lt_of_le (h.lp g o e) f.size⟩
theorem RS.At.fr9 {s : RS} {l : List (List UInt8)} {B K : Nat} {w w' : World} {S : Nat → Prop} (h : s.At l B K w) (f : Fr S w w') (hS : ∀ k, S k → s.tg k = 9) : s.At l B K w' :=
  ⟨h.rm.fr9 f hS, h.ct, h.hm, h.h32, fun k hk => h.nt k (Nat.le_trans f.size hk), h.b1, h.b2, h.bt, h.ok, h.zl, h.rn0, h.x0, h.y0, h.n0⟩
theorem RS.At.more {s : RS} {l : List (List UInt8)} {B K K' : Nat} {w : World} (h : s.At l B K w) (hK : K ≤ K') : s.At l B K' w :=
  ⟨h.rm, h.ct, h.hm, h.h32, h.nt, h.b1, h.b2, h.bt, h.ok, h.zl, ⟨h.rn0.1, by have := h.rn0.2; omega⟩, ⟨h.x0.1, by have := h.x0.2; omega⟩, ⟨h.y0.1, by have := h.y0.2; omega⟩, by have := h.n0; omega⟩
/-- A new reader over a store that holds a log's tiles. -/
theorem RS.made {l : List (List UInt8)} {B K : Nat} {w : World} {b bm nM g c : Nat} {M : Tx} {zs : List Int} {cr rn wn : Int} (h : Sr w b bm nM M (some ⟨g, 0, none⟩) c zs cr rn wn false) (hm : HldA l M) (h32 : ∀ x ∈ l, x.length = 32) (hg : g < w.heap.size) (hB : B ≤ b ∧ B ≤ bm ∧ B ≤ g) (hok : okR 0 zs = true) (hzl : zs.length ≤ 17592186044416) (hrn : 0 ≤ rn ∧ rn ≤ K) (cap : Nat) (hc : cap ≤ 1024) {a : Nat → Addr} (hS : Sent B w a) :
    Calls Tryz.prog 13 #[.pointer (some ⟨b, 0, none⟩), .int .i64 (cap : Int)] w fun e w' => ∃ s : RS, e = .returned (.tuple #[.pointer (some ⟨s.rb, 0, none⟩), .nilIface]) ∧ s.At l B K w' ∧ s.sb = b ∧ s.bm = bm ∧ s.zs = zs ∧ s.cap = cap ∧ s.rn = rn ∧ s.x = 0 ∧ s.y = 0 ∧ s.M = M ∧ s.L = [] ∧ (∀ k, k < w.heap.size → k ≠ b → k ≠ bm → k ≠ g → s.tg k = 9) ∧ Nw w w' := by
  refine (rnew_any h.blk cap hc hS).mono fun e w' ⟨rb, cb, e1, hb, hx, hrb, hn⟩ => ?_
  have l1 := heap_lt h.blk
  have l2 := h.mp.lt
  have l3 := heap_lt hb
  have hBs := hS.hsz
  have tgE : ∀ k, (fun k => if k = b ∨ k = bm ∨ k = g then 1 else if k = rb then 0 else if w.heap.size ≤ k ∧ k < rb then 2 else (9 : Nat)) k = if k = b ∨ k = bm ∨ k = g then 1 else if k = rb then 0 else if w.heap.size ≤ k ∧ k < rb then 2 else (9 : Nat) := fun _ => rfl
  refine ⟨⟨fun k => if k = b ∨ k = bm ∨ k = g then 1 else if k = rb then 0 else if w.heap.size ≤ k ∧ k < rb then 2 else 9, rb, b, cb, bm, nM, M, some ⟨g, 0, none⟩, c, zs, cr, rn, wn, 0, cap, [], fun _ => [], 0, 0⟩, e1, ⟨⟨hb, h.nw hn, hx.mono (fun k hk e => ?_) (Nat.le_refl _), fun z hz => by simp at hz, ?_, ⟨?_, ?_, fun g' o e => ?_⟩, fun g' o e => ?_⟩, fun z hz => by simp at hz, hm, h32, fun k hk => ?_, by simp only; omega, by simp only; omega, fun k hk => ?_, hok, hzl, hrn, ⟨Int.le_refl _, by simp only; omega⟩, ⟨Int.le_refl _, by simp only; omega⟩, by simp only; omega⟩, rfl, rfl, rfl, rfl, rfl, rfl, rfl, rfl, rfl, fun k hk h1 h2 h3 => ?_, hn⟩
  · show (if k = b ∨ k = bm ∨ k = g then 1 else if k = rb then 0 else if w.heap.size ≤ k ∧ k < rb then 2 else 9) = 2
    rw [if_neg (by omega), if_neg (by omega), if_pos e]
  · show (if rb = b ∨ rb = bm ∨ rb = g then 1 else if rb = rb then 0 else if w.heap.size ≤ rb ∧ rb < rb then 2 else 9) = 0
    rw [if_neg (by omega), if_pos rfl]
  · simp
  · simp
  · cases e; simp
  · cases e; have := hn.size; omega
  · simp only; have := hn.size; rw [if_neg (by omega), if_neg (by omega), if_neg (by omega)]
  · unfold RS.Ff at hk
    simp only at hk
    by_cases q1 : k = b ∨ k = bm ∨ k = g
    · omega
    · rw [if_neg q1] at hk
      by_cases q2 : k = rb
      · omega
      · rw [if_neg q2] at hk
        by_cases q3 : w.heap.size ≤ k ∧ k < rb
        · omega
        · rw [if_neg q3] at hk; omega
  · simp only; rw [if_neg (by omega), if_neg (by omega), if_neg (by omega)]
/-- What the fetch of a tile gives where the read fails. -/
def RS.Fell (s : RS) (l : List (List UInt8)) (B K q i W : Nat) (x : Addr) (R : RS → Prop) (V : World) : Prop :=
  Calls Tryz.prog 142 #[.pointer (some ⟨s.rb, 0, none⟩), tl q i W] V fun e w' => ∃ (s' : RS), e = .returned (.tuple #[.slice none 0 0, sen x]) ∧ s'.At l B (K + 1) w' ∧ s.Le s' V ∧ R s' ∧ Fr s.Ff V w'
theorem RS.there {s : RS} {l : List (List UInt8)} {B K : Nat} {w : World} (h : s.At l B K w) : Calls Tryz.prog 59 #[.pointer (some ⟨s.rb, 0, none⟩)] w fun e w' => e = .returned (.bool true) ∧ w' = w := rthere_any h.rm.blk
/-- A tree of the log. -/
theorem tree_wid {L I n : Nat} (hm : may L I) (hn : n ≤ 1048576) (he : (I + 1) * 2 ^ L ≤ n) : ∃ W, wid (L / 8) (ofA L I / 256) n = W ∧ 0 < W ∧ W ≤ 256 ∧ ofA L I % 256 + 2 ^ (L % 8) ≤ W := by
  have h1 := (covers_wid hm (by omega) he).1
  have h0 : 0 < 2 ^ (L % 8) := Nat.pow_pos (by decide)
  refine ⟨_, rfl, by omega, ?_, h1⟩
  unfold wid
  split <;> omega
end Go.Proofs.YtjkhcplnedcmeaaGreatDoor
