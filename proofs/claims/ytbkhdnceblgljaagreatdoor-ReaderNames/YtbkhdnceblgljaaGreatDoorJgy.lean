/- reader: a reader over a log's store, in one word. -/
import Derived.Test.YtbkhdnceblgljaaGreatDoorJc
import Derived.Test.YtbkhdnceblgljaaGreatDoorOgy
import Derived.Deep.RegionHeld3
import Derived.Deep.DeepCutAuto
import Derived.Test.YtbkhdnceblgljaaGreatDoorUg0
namespace Go.Proofs.YtbkhdnceblgljaaGreatDoor
open Go.RowKit
set_option linter.unusedVariables false
set_option linter.unusedSimpArgs false
/-- What a reader, its store and its cache are. -/
structure RS where
  tg : Nat → Nat
  rb : Nat
  sb : Nat
  cb : Nat
  bm : Nat
  nM : Nat
  M : Tx
  p : Option Addr
  c : Nat
  zs : List Int
  cr : Int
  rn : Int
  wn : Int
  N : Nat
  cap : Nat
  L : CT.LT
  H : CT.KT → List (List UInt8)
  x : Int
  y : Int
/-- The hashes of a tile, by its key. -/
def TRk (l : List (List UInt8)) (k : CT.KT) : List (List UInt8) := tlH l k.1.1 k.1.2.1 k.1.2.2.toNat
/-- What a call may turn. -/
abbrev RS.Ff (s : RS) (k : Nat) : Prop := s.tg k = 0 ∨ s.tg k = 1 ∨ s.tg k = 2
/-- It lies in memory, over the tiles of the log l; the errors lie below B; the counts are K at most. -/
structure RS.At (s : RS) (l : List (List UInt8)) (B K : Nat) (w : World) : Prop where
  rm : Rm w s.tg s.rb s.sb s.cb s.bm s.nM s.M s.p s.c s.zs s.cr s.rn s.wn false s.N s.cap s.L s.H s.x s.y
  ct : ∀ z ∈ s.L, s.H z.1 = TRk l z.1
  hm : HldA l s.M
  h32 : ∀ x ∈ l, x.length = 32
  nt : ∀ k, w.heap.size ≤ k → s.tg k = 9
  b1 : B ≤ s.sb
  b2 : B ≤ s.rb
  bt : ∀ k, s.Ff k → B ≤ k
  ok : okR 0 s.zs = true
  zl : s.zs.length ≤ 17592186044416
  rn0 : 0 ≤ s.rn ∧ s.rn ≤ K
  x0 : 0 ≤ s.x ∧ s.x ≤ K
  y0 : 0 ≤ s.y ∧ s.y ≤ K
  n0 : s.N ≤ 2 * K
theorem RS.At.nw {s : RS} {l : List (List UInt8)} {B K : Nat} {w w' : World} (h : s.At l B K w) (n : Nw w w') : s.At l B K w' :=
  ⟨h.rm.nw n, h.ct, h.hm, h.h32, fun k hk => h.nt k (Nat.le_trans n.size hk), h.b1, h.b2, h.bt, h.ok, h.zl, h.rn0, h.x0, h.y0, h.n0⟩
/-- The same reader later. -/
structure RS.Le (s s' : RS) (w : World) : Prop where
  tg : ∀ k, k < w.heap.size → s'.tg k = s.tg k
  rb : s'.rb = s.rb
  sb : s'.sb = s.sb
  zs : s'.zs = s.zs
  cap : s'.cap = s.cap
theorem RS.At.low {s : RS} {l : List (List UInt8)} {B K : Nat} {w : World} (h : s.At l B K w) : ∀ k, s.Ff k → k < w.heap.size := fun k hk => by
  rcases Nat.lt_or_ge k w.heap.size with q | q
  · exact q
  · have := h.nt k q; unfold RS.Ff at hk; omega
theorem RS.Le.trans {s s1 s2 : RS} {w w1 : World} (h : s.Le s1 w) (k : s1.Le s2 w1) (hs : w.heap.size ≤ w1.heap.size) : s.Le s2 w :=
  ⟨fun j hj => (k.tg j (by omega)).trans (h.tg j hj), k.rb.trans h.rb, k.sb.trans h.sb, k.zs.trans h.zs, k.cap.trans h.cap⟩
theorem RS.Le.frt {s s1 : RS} {w w1 w2 : World} (h : s.Le s1 w) (f1 : Fr s.Ff w w1) (f2 : Fr s1.Ff w1 w2) : Fr s.Ff w w2 :=
  f1.trans f2 (fun k hk q => by unfold RS.Ff at q ⊢; rw [h.tg k hk] at q; exact q)
theorem TRk_key (l : List (List UInt8)) (q i W : Nat) (hm : mayT q i (W : Int)) : TRk l (keyT q i W hm) = tlH l q i W := by
  show tlH l q i (W : Int).toNat = _
  rw [Int.toNat_natCast]
theorem tgC_lt (tg : Nat → Nat) (s k : Nat) (h : k < s) : tgC tg s k = tg k := by simp [tgC, h]
theorem tgC_ge (tg : Nat → Nat) (s k : Nat) (h : s ≤ k) : tgC tg s k = 9 := by simp [tgC]; omega
theorem RS.had {s : RS} {l : List (List UInt8)} {B K : Nat} {w : World} (h : s.At l B K w) {q i W : Nat} (hw : wid q i l.length = W) (h0 : 0 < W) {v : CT.VT} {r : CT.LT} (hk : CT.tk s.L (keyT q i W (mayT_wid hw h0)) = some (v, r)) (hP : TX.Pow w) (hK : K ≤ 1000000) :
    Calls Tryz.prog 38 #[.pointer (some ⟨s.rb, 0, none⟩), tl q i W] w fun e w' => ∃ (s' : RS) (g : Nat), e = .returned (.tuple #[.slice (some ⟨g, 0, none⟩) W W, .nilIface]) ∧ w'.ownsRow 0 42 32 (.slice (some ⟨g, 0, none⟩) W W) W (hsc (tlH l q i W)) ∧ s'.At l B (K + 1) w' ∧ s.Le s' w ∧ s'.rn = s.rn ∧ s'.x = s.x + 1 ∧ s'.y = s.y + 1 ∧ s'.L = (keyT q i W (mayT_wid hw h0), v) :: r ∧ s'.M = s.M ∧ Fr s.Ff w w' := by
  have hx := h.x0
  have hy := h.y0
  have hrn := h.rn0
  have hn0 := h.n0
  refine (fetch_had h.rm q i W (mayT_wid hw h0) hk hP (by omega) (by omega)).mono fun e w' ⟨e1, R, F⟩ => ?_
  obtain ⟨m1, m2⟩ := tk_mem hk
  obtain ⟨⟨g, hg, hgt⟩, hh, ho⟩ := R.row (keyT q i W (mayT_wid hw h0), v) (by simp)
  have hc : s.H (keyT q i W (mayT_wid hw h0)) = tlH l q i W := (h.ct _ m1).trans (TRk_key l q i W (mayT_wid hw h0))
  have hl : (tlH l q i W).length = W := tlH_len l q i W (wid_in q i _ W hw h0).1
  simp only at hg ho
  rw [hc, hl] at hg
  rw [hc, hl] at ho
  subst hg
  have hsz := F.size
  refine ⟨{ s with tg := tgC s.tg w'.heap.size, L := (keyT q i W (mayT_wid hw h0), (some ⟨g, 0, none⟩, W, W)) :: r, x := s.x + 1, y := s.y + 1 }, g, e1, ho, ⟨R.cut, fun z hz => ?_, h.hm, h.h32, fun k hk => tgC_ge _ _ _ hk, h.b1, h.b2, fun k hk => ?_, h.ok, h.zl, by simp only; omega, by simp only; omega, by simp only; omega, by simp only; omega⟩, ⟨fun k hk => tgC_lt _ _ _ (by omega), rfl, rfl, rfl, rfl⟩, rfl, rfl, rfl, rfl, rfl, F.mono (fun k _ q => by unfold RS.Ff; omega)⟩
  · rcases List.mem_cons.1 hz with e | e
    · rw [e]; exact h.ct _ m1
    · exact h.ct _ (m2 z e)
  · unfold RS.Ff at hk
    rcases Nat.lt_or_ge k w'.heap.size with q | q
    · exact h.bt k (by unfold RS.Ff; simp only at hk; rw [tgC_lt _ _ _ q] at hk; exact hk)
    · simp only at hk; rw [tgC_ge _ _ _ q] at hk; omega
theorem rdA_log {l : List (List UInt8)} (h32 : ∀ x ∈ l, x.length = 32) {M : Tx} (hm : HldA l M) {q i W : Nat} (hw : wid q i l.length = W) (h0 : 0 < W) (zs : List Int) (rn : Int) :
    rdA M zs rn false ⟨(nm q i W).toArray⟩ W = if rn + 1 ∈ zs then .inr 6 else .inl (tlH l q i W) := by
  have hl := wid_in q i _ W hw h0
  unfold rdA
  rw [hm q i W hw h0]
  simp only [Bool.false_eq_true, if_false, tlB_size l h32 q i W hl.1, if_true, tlB_chs l h32 q i W hl.1]
theorem hM_log {l : List (List UInt8)} (h32 : ∀ x ∈ l, x.length = 32) {M : Tx} (hm : HldA l M) {q i W : Nat} (hw : wid q i l.length = W) (h0 : 0 < W) : ∀ t, M ⟨(nm q i W).toArray⟩ = some t → t.size ≤ 281474976710656 := fun t ht => by
  have hl := wid_in q i _ W hw h0
  rw [hm q i W hw h0] at ht
  injection ht with ht
  rw [← ht, tlB_size l h32 q i W hl.1]; omega
theorem RS.fresh {s : RS} {l : List (List UInt8)} {B K : Nat} {w : World} (h : s.At l B K w) {q i W : Nat} (hw : wid q i l.length = W) (h0 : 0 < W) (hk : CT.tk s.L (keyT q i W (mayT_wid hw h0)) = none) (hz : s.rn + 1 ∉ s.zs) (hP : TX.Pow w) (hK : K ≤ 1000000) {a : Nat → Addr} (hS : Sent B w a) :
    Calls Tryz.prog 38 #[.pointer (some ⟨s.rb, 0, none⟩), tl q i W] w fun e w' => ∃ (s' : RS) (g : Nat), e = .returned (.tuple #[.slice (some ⟨g, 0, none⟩) W W, .nilIface]) ∧ w'.ownsRow 0 42 32 (.slice (some ⟨g, 0, none⟩) W W) W (hsc (tlH l q i W)) ∧ s'.At l B (K + 1) w' ∧ s.Le s' w ∧ s'.rn = s.rn + 1 ∧ s'.x = s.x + 1 ∧ s'.y = s.y ∧ s'.L = (CT.putA s.cap s.L (keyT q i W (mayT_wid hw h0)) (some ⟨g, 0, none⟩, W, W)).2.2 ∧ s'.M = s.M ∧ Fr s.Ff w w' := by
  have hx := h.x0
  have hy := h.y0
  have hrn := h.rn0
  have hn0 := h.n0
  have hl : (tlH l q i W).length = W := tlH_len l q i W (wid_in q i _ W hw h0).1
  have hr := rdA_log h.h32 h.hm hw h0 s.zs s.rn
  rw [if_neg hz] at hr
  have hf := fetch_new h.rm q i W (mayT_wid hw h0) hk hP (by omega) hS h.zl h.ok h.rn0.1 (by omega) h.b1 h.b2 (fun k e => h.bt k (.inr (.inr e))) (hM_log h.h32 h.hm hw h0) (s.rn + 1) (by simp) _ hr (by omega)
  rw [hl] at hf
  refine hf.mono fun e w' ⟨g, q2, e1, hg1, hg2, R, ho, F⟩ => ?_
  have hsz := F.size
  have tN : ∀ k, k < w.heap.size → tgN s.tg w.heap.size g q2 k = s.tg k := fun k hk => by simp [tgN, hk]
  refine ⟨{ s with tg := tgC (tgN s.tg w.heap.size g q2) w'.heap.size, L := (CT.putA s.cap s.L (keyT q i W (mayT_wid hw h0)) (some ⟨g, 0, none⟩, W, W)).2.2, H := upH s.H (keyT q i W (mayT_wid hw h0)) (tlH l q i W), N := s.N + 2, rn := s.rn + 1, x := s.x + 1 }, g, e1, ho, ⟨R.cut, fun z hz => ?_, h.hm, h.h32, fun k hk => tgC_ge _ _ _ hk, h.b1, h.b2, fun k hk => ?_, h.ok, h.zl, by simp only; omega, by simp only; omega, by simp only; omega, by simp only; omega⟩, ⟨fun k hk => (tgC_lt _ _ _ (by omega)).trans (tN k hk), rfl, rfl, rfl, rfl⟩, rfl, rfl, rfl, rfl, rfl, F⟩
  · simp only at hz ⊢
    rcases putA_mem hk z hz with e | e
    · subst e
      rw [upH_same]; exact (TRk_key l q i W (mayT_wid hw h0)).symm
    · rw [upH_ne _ _ (tk_off hk z e)]; exact h.ct z e
  · unfold RS.Ff at hk
    rcases Nat.lt_or_ge k w.heap.size with q | q
    · simp only at hk; rw [tgC_lt _ _ _ (by omega), tN k q] at hk; exact h.bt k hk
    · have := h.b2; have := heap_lt h.rm.blk; omega
theorem RS.fails {s : RS} {l : List (List UInt8)} {B K : Nat} {w : World} (h : s.At l B K w) {q i W : Nat} (hw : wid q i l.length = W) (h0 : 0 < W) (hk : CT.tk s.L (keyT q i W (mayT_wid hw h0)) = none) (hz : s.rn + 1 ∈ s.zs) (hP : TX.Pow w) (hK : K ≤ 1000000) {a : Nat → Addr} (hS : Sent B w a) :
    Calls Tryz.prog 38 #[.pointer (some ⟨s.rb, 0, none⟩), tl q i W] w fun e w' => ∃ (s' : RS), e = .returned (.tuple #[.slice none 0 0, sen (a 6)]) ∧ s'.At l B (K + 1) w' ∧ s.Le s' w ∧ s'.rn = s.rn + 1 ∧ s'.x = s.x + 1 ∧ s'.y = s.y ∧ s'.L = s.L ∧ s'.M = s.M ∧ Fr s.Ff w w' := by
  have hx := h.x0
  have hy := h.y0
  have hrn := h.rn0
  have hn0 := h.n0
  have hr := rdA_log h.h32 h.hm hw h0 s.zs s.rn
  rw [if_pos hz] at hr
  refine (fetch_err h.rm q i W (mayT_wid hw h0) hk hP (by omega) hS h.zl h.ok h.rn0.1 (by omega) h.b1 h.b2 (fun k e => h.bt k (.inr (.inr e))) (hM_log h.h32 h.hm hw h0) (s.rn + 1) (by simp) 6 hr).mono fun e w' ⟨e1, R, F⟩ => ?_
  have hsz := F.size
  refine ⟨{ s with tg := tgC s.tg w'.heap.size, rn := s.rn + 1, x := s.x + 1 }, e1, ⟨R.cut, h.ct, h.hm, h.h32, fun k hk => tgC_ge _ _ _ hk, h.b1, h.b2, fun k hk => ?_, h.ok, h.zl, by simp only; omega, by simp only; omega, by simp only; omega, by simp only; omega⟩, ⟨fun k hk => tgC_lt _ _ _ (by omega), rfl, rfl, rfl, rfl⟩, rfl, rfl, rfl, rfl, rfl, F⟩
  · unfold RS.Ff at hk
    rcases Nat.lt_or_ge k w'.heap.size with q | q
    · exact h.bt k (by unfold RS.Ff; simp only at hk; rw [tgC_lt _ _ _ q] at hk; exact hk)
    · simp only at hk; rw [tgC_ge _ _ _ q] at hk; omega
end Go.Proofs.YtbkhdnceblgljaaGreatDoor
namespace Go.Proofs.YtbkhdnceblgljaaGreatDoor
open Go.RowKit
set_option linter.unusedVariables false
set_option linter.unusedSimpArgs false
theorem Laid.frJ {S : Nat → Prop} {w w' : World} (h : Laid w) (k : Fr S w w') (hS : ∀ j, j < 19 → ¬ S j) : Laid w' := by
  refine ⟨fun i hi => (k.cell (World.block_lt_of_cell? w _ (h.k i hi)) (hS _ (by show 18 < _; omega))).trans (h.k i hi), fun i hi => ?_⟩
  obtain ⟨u, hu⟩ : ∃ u, (vals H0)[i]? = some u := ⟨_, vals_at H0 i hi⟩
  have h1 := (h.b i hi).trans hu
  rw [(k.cell (World.block_lt_of_cell? w _ h1) (hS _ (by show 16 < _; omega))), h.b i hi]
/-- What the program's variables hold; all of it lies below B. -/
structure Gd (B : Nat) (a : Nat → Addr) (w : World) : Prop where
  s : Sent B w a
  l : Laid w
  p : Lib.TabBelow Tryz.prog B w "internal/strconv.uint64pow10" .u64 Lib.pow10Tab
  nb : 19 ≤ B
theorem Gd.fr {B : Nat} {a : Nat → Addr} {w w' : World} {S : Nat → Prop} (h : Gd B a w) (f : Fr S w w') (hS : ∀ k, S k → B ≤ k) : Gd B a w' :=
  ⟨h.s.fr f (fun k hk q => by have := hS k q; omega), h.l.frJ f (fun k hk q => by have := hS k q; have := h.nb; omega), h.p.on (f.below h.s.hsz (fun k hk q => by have := hS k q; omega)), h.nb⟩
theorem Gd.nw {B : Nat} {a : Nat → Addr} {w w' : World} (h : Gd B a w) (n : Nw w w') : Gd B a w' := h.fr n (fun _ q => q.elim)
theorem Gd.pow {B : Nat} {a : Nat → Addr} {w : World} (h : Gd B a w) : TX.Pow w := h.p w (Below.refl _ _)
theorem Gd.of {w : World} {a : Nat → Addr} (hS : Sent w.heap.size w a) (hL : Laid w) (hP : TX.Pow w) : Gd w.heap.size a w := ⟨hS, hL, Lib.tabBelow_of_tabIs hP, hL.lt⟩
set_option maxRecDepth 100000 in
theorem rtile_any {w : World} {q : Value} (L I : Nat) (W : Int) (T : List (List UInt8)) (h32 : ∀ u ∈ T, u.length = 32) (hl : T.length ≤ 256) (PW : Nat → World → Prop)
    (hq : Calls Tryz.prog 38 #[q, .agg #[.int .u8 (L : Int), .int .u64 (I : Int), .int .i64 W]] (w.alloc (.cells #[.int .u8 (L : Int), .int .u64 (I : Int), .int .i64 W] 60)) fun e w' => ∃ g, e = .returned (.tuple #[.slice (some ⟨g, 0, none⟩) T.length T.length, .nilIface]) ∧ w'.ownsRow 0 42 32 (.slice (some ⟨g, 0, none⟩) T.length T.length) T.length (hsc T) ∧ PW g w') :
    Calls Tryz.prog 18 #[q, .agg #[.int .u8 (L : Int), .int .u64 (I : Int), .int .i64 W]] w fun e w' => ∃ v g w1, e = .returned (.tuple #[v, .nilIface]) ∧ PW g w1 ∧ Nw w1 w' ∧ w'.ownsRow w1.heap.size 42 32 v T.length (hsc T) := by
  have H32 : Hid (∀ u ∈ T, u.length = 32) := h32
  obtain ⟨m, hm⟩ : ∃ m, m = T.length := ⟨_, rfl⟩
  have HM : Hid (m = T.length) := hm
  rw [← hm] at hq hl
  clear hm h32
  go_enter Tryz.func18, Tryz.ntmps18
  go_wp2_with fail
  refine hq.mono ?_
  rintro e w1 ⟨g, rfl, o1, p1⟩
  have qc := hclone_some o1 HM.out.symm H32.out (by omega)
  have H1 : Hid (PW g w1) := p1
  clear o1 p1 hq
  go_wp2_with fail
  refine qc.mono ?_
  rintro e w2 ⟨v, rfl, o2, n2⟩
  have H2 : Hid (Nw w1 w2 ∧ w2.ownsRow w1.heap.size 42 32 v T.length (hsc T)) := ⟨n2, by rw [← HM.out]; exact o2⟩
  obtain ⟨va, vc, rfl⟩ := ownsRow_form o2
  clear o2 n2 qc
  go_wp2
  go_ret2
  exact ⟨_, g, w1, rfl, H1.out, H2.out⟩
/-- What a fetch of a tile's hashes gives. -/
def RS.Got (s : RS) (l : List (List UInt8)) (B K q i W : Nat) (R : RS → Prop) (V : World) : Prop :=
  Calls Tryz.prog 38 #[.pointer (some ⟨s.rb, 0, none⟩), tl q i W] V fun e w' => ∃ (s' : RS) (g : Nat), e = .returned (.tuple #[.slice (some ⟨g, 0, none⟩) W W, .nilIface]) ∧ w'.ownsRow 0 42 32 (.slice (some ⟨g, 0, none⟩) W W) W (hsc (tlH l q i W)) ∧ s'.At l B (K + 1) w' ∧ s.Le s' V ∧ R s' ∧ Fr s.Ff V w'
theorem RS.tile {s : RS} {l : List (List UInt8)} {B K : Nat} {w : World} (h : s.At l B K w) {q i W : Nat} (hw : wid q i l.length = W) (h0 : 0 < W) (R : RS → Prop) (hf : ∀ V, s.At l B K V → Nw w V → s.Got l B K q i W R V) :
    Calls Tryz.prog 18 #[.pointer (some ⟨s.rb, 0, none⟩), tl q i W] w fun e w' => ∃ (s' : RS) (v : Value) (bq : Nat), e = .returned (.tuple #[v, .nilIface]) ∧ w'.ownsRow bq 42 32 v W (hsc (tlH l q i W)) ∧ w.heap.size < bq ∧ (∀ k, bq ≤ k → s'.tg k = 9) ∧ s'.At l B (K + 1) w' ∧ s.Le s' w ∧ R s' ∧ Fr s.Ff w w' := by
  have n0 := nwa w (.cells #[.int .u8 (q : Int), .int .u64 (i : Int), .int .i64 (W : Int)] 60)
  have hl : (tlH l q i W).length = W := tlH_len l q i W (wid_in q i _ W hw h0).1
  have hW := (wid_in q i _ W hw h0).2.1
  have hq := hf _ (h.nw n0) n0
  have := rtile_any (w := w) (q := .pointer (some ⟨s.rb, 0, none⟩)) q i W (tlH l q i W) (tlH_32 l h.h32 q i W) (by rw [hl]; exact hW)
    (fun g w' => ∃ s', s'.At l B (K + 1) w' ∧ s.Le s' w ∧ R s' ∧ Fr s.Ff w w' ∧ w.heap.size < w'.heap.size)
    (hq.mono fun e w' ⟨s', g, e1, o, a1, le, r, f⟩ => ⟨g, by rw [hl]; exact e1, by rw [hl]; exact o, s', a1, ⟨fun k hk => le.tg k (by simp; omega), le.rb, le.sb, le.zs, le.cap⟩, r, (n0.mono (fun _ _ f => f.elim)).trans f (fun _ _ q => q), by have := f.size; simp at this; omega⟩)
  rw [hl] at this
  refine this.mono fun e w' ⟨v, g, w1, e1, ⟨s', a1, le, r, f, hs⟩, n1, o⟩ => ⟨s', v, w1.heap.size, e1, o, hs, a1.nt, a1.nw n1, le, r, f.trans n1 (fun _ _ q => q.elim)⟩
end Go.Proofs.YtbkhdnceblgljaaGreatDoor
namespace Go.Proofs.YtbkhdnceblgljaaGreatDoor
open Go.RowKit
set_option linter.unusedVariables false
set_option linter.unusedSimpArgs false
theorem tk_cov : ∀ {L : CT.LT} {k : CT.KT} {v : CT.VT} {r : CT.LT}, CT.tk L k = some (v, r) → (∀ z ∈ L, z = (k, v) ∨ z ∈ r) ∧ L.length = r.length + 1
  | [], k, v, r, h => by simp [CT.tk] at h
  | z :: l, k, v, r, h => by
    rw [CT.tk] at h
    split at h
    · rename_i e
      simp only [Option.some.injEq, Prod.mk.injEq] at h
      obtain ⟨h1, h2⟩ := h
      subst h2
      refine ⟨fun y hy => ?_, rfl⟩
      rcases List.mem_cons.1 hy with q | q
      · exact .inl (by rw [q]; exact Prod.ext e h1)
      · exact .inr q
    · obtain ⟨⟨v', r'⟩, hx, he⟩ := Option.map_eq_some_iff.1 h
      simp only [Prod.mk.injEq] at he
      obtain ⟨rfl, rfl⟩ := he
      obtain ⟨m1, m2⟩ := tk_cov hx
      refine ⟨fun y hy => ?_, by simp [m2]⟩
      rcases List.mem_cons.1 hy with q | q
      · exact .inr (by simp [q])
      · rcases m1 y q with q | q
        · exact .inl q
        · exact .inr (by simp [q])
theorem tk_iff {L : CT.LT} {k : CT.KT} : CT.tk L k = none ↔ ∀ z ∈ L, z.1 ≠ k := ⟨fun h => tk_off h, fun h => CT.tk_none h⟩
theorem tk_had {L : CT.LT} {k : CT.KT} {v : CT.VT} {r : CT.LT} (h : CT.tk L k = some (v, r)) (j : CT.KT) : CT.tk ((k, v) :: r) j = none ↔ CT.tk L j = none := by
  obtain ⟨c1, c2⟩ := tk_cov h
  obtain ⟨m1, m2⟩ := tk_mem h
  rw [tk_iff, tk_iff]
  constructor
  · intro q z hz
    rcases c1 z hz with e | e
    · rw [e]; exact q _ (by simp)
    · exact q z (by simp [e])
  · intro q z hz
    rcases List.mem_cons.1 hz with e | e
    · rw [e]; exact q _ m1
    · exact q z (m2 z e)
theorem tk_put {cap : Nat} {L : CT.LT} {k : CT.KT} {v : CT.VT} (h : CT.tk L k = none) (hc : L.length < cap) : (CT.putA cap L k v).2.2 = (k, v) :: L := by
  unfold CT.putA
  rw [h]
  simp only
  rw [if_neg (by omega), if_neg (by omega)]
theorem RS.had2 {s : RS} {l : List (List UInt8)} {B K : Nat} {w : World} (h : s.At l B K w) {q i W : Nat} (hw : wid q i l.length = W) (h0 : 0 < W) (hk : CT.tk s.L (keyT q i W (mayT_wid hw h0)) ≠ none) (hP : TX.Pow w) (hK : K ≤ 1000000) :
    s.Got l B K q i W (fun s' => s'.rn = s.rn ∧ s'.x = s.x + 1 ∧ s'.y = s.y + 1 ∧ s'.M = s.M ∧ s'.L.length = s.L.length ∧ ∀ j, CT.tk s'.L j = none ↔ CT.tk s.L j = none) w := by
  obtain ⟨⟨v, r⟩, hv⟩ := Option.ne_none_iff_exists'.1 hk
  refine (RS.had h hw h0 hv hP hK).mono fun e w' ⟨s', g, e1, o, a1, le, r1, r2, r3, r4, r5, f⟩ => ⟨s', g, e1, o, a1, le, ⟨r1, r2, r3, r5, ?_, fun j => ?_⟩, f⟩
  · rw [r4, (tk_cov hv).2]; rfl
  · rw [r4]; exact tk_had hv j
theorem RS.new2 {s : RS} {l : List (List UInt8)} {B K : Nat} {w : World} (h : s.At l B K w) {q i W : Nat} (hw : wid q i l.length = W) (h0 : 0 < W) (hk : CT.tk s.L (keyT q i W (mayT_wid hw h0)) = none) (hz : s.rn + 1 ∉ s.zs) (hc : s.L.length < s.cap) (hP : TX.Pow w) (hK : K ≤ 1000000) {a : Nat → Addr} (hS : Sent B w a) :
    s.Got l B K q i W (fun s' => s'.rn = s.rn + 1 ∧ s'.x = s.x + 1 ∧ s'.y = s.y ∧ s'.M = s.M ∧ s'.L.length = s.L.length + 1 ∧ ∀ j, CT.tk s'.L j = none ↔ (j ≠ keyT q i W (mayT_wid hw h0) ∧ CT.tk s.L j = none)) w := by
  refine (RS.fresh h hw h0 hk hz hP hK hS).mono fun e w' ⟨s', g, e1, o, a1, le, r1, r2, r3, r4, r5, f⟩ => ⟨s', g, e1, o, a1, le, ⟨r1, r2, r3, r5, ?_, fun j => ?_⟩, f⟩
  · rw [r4, tk_put hk hc]; rfl
  · rw [r4, tk_put hk hc, tk_iff, tk_iff]
    constructor
    · exact fun q => ⟨fun e => q _ (List.mem_cons_self) e.symm, fun z hz => q z (by simp [hz])⟩
    · intro q z hz
      rcases List.mem_cons.1 hz with e | e
      · rw [e]; exact fun e2 => q.1 e2.symm
      · exact q.2 z e
theorem kcs_at : ∀ (L : List CT.KT) (j : Nat) (k : CT.KT), L[j]? = some k → (CT.kcs L)[j * 3]? = some (CT.k1 k) ∧ (CT.kcs L)[j * 3 + 1]? = some (CT.k2 k) ∧ (CT.kcs L)[j * 3 + 2]? = some (CT.k3 k)
  | [], j, k, h => by simp at h
  | x :: r, 0, k, h => by simp at h; subst h; simp [CT.kcs]
  | x :: r, j + 1, k, h => by
    have ih := kcs_at r j k (by simpa using h)
    rw [show (j + 1) * 3 = j * 3 + 3 by omega]
    simp only [CT.kcs, List.flatMap_cons, List.cons_append, List.nil_append, List.getElem?_cons_succ] at ih ⊢
    exact ih
theorem Rm.none_cache {w w' : World} {tg : Nat → Nat} {rb sb cb bm n : Nat} {M : Tx} {p : Option Addr} {c : Nat} {zs : List Int} {cr rn wn : Int} {dd : Bool} {N cap N' : Nat} {L : CT.LT} {H : CT.KT → List (List UInt8)} {x y : Int} (h : Rm w tg rb sb cb bm n M p c zs cr rn wn dd N cap L H x y) (f : Fr (fun k => tg k = 2) w w') (hc : CT.Cx w' (fun k => tg k = 2) cb N' cap []) : Rm w' tg rb sb cb bm n M p c zs cr rn wn dd N' cap [] H x y :=
  h.cache f hc (fun z hz => by simp at hz)
set_option maxRecDepth 100000 in
set_option maxHeartbeats 1000000 in
theorem rforget_any {w : World} {tg : Nat → Nat} {rb sb cb bm n : Nat} {M : Tx} {p : Option Addr} {c : Nat} {zs : List Int} {cr rn wn : Int} {dd : Bool} {N cap : Nat} {Lc : CT.LT} {H : CT.KT → List (List UInt8)} {x y : Int} (h : Rm w tg rb sb cb bm n M p c zs cr rn wn dd N cap Lc H x y) (hN : N < 1000000000) (hLc : Lc.length ≤ 1024) :
    Calls Tryz.prog 20 #[.pointer (some ⟨rb, 0, none⟩)] w fun e w' => e = .returned (.tuple #[]) ∧ Rm w' tg rb sb cb bm n M p c zs cr rn wn dd (N + Lc.length) cap [] H x y ∧ Fr (fun k => tg k = 2 ∧ k < w.heap.size) w w' := by
  have q0 := rthere_any h.blk
  have HR : Hid (Rm w tg rb sb cb bm n M p c zs cr rn wn dd N cap Lc H x y) := h
  have HC0 : Hid (CT.Cx w (fun k => tg k = 2 ∧ k < w.heap.size) cb N cap Lc) := h.ca.mono (fun k hk e => ⟨e, hk⟩) (Nat.le_refl _)
  have q1 := CT.keys_any HC0.out
  obtain ⟨_, c1, _, _⟩ := rdo_cs h.blk
  have lb := heap_lt h.blk
  have HTR : Hid (tg rb ≠ 2) := by have := h.tr; show tg rb ≠ 2; omega
  obtain ⟨m, hm⟩ : ∃ m, m = Lc.length := ⟨_, rfl⟩
  have HM : Hid (m = Lc.length) := hm
  rw [← hm] at q1 hLc ⊢
  clear h hm
  go_enter Tryz.func20, Tryz.ntmps20
  go_wp2_with fail
  refine q0.mono ?_
  rintro e w1 ⟨rfl, rfl⟩
  go_wp2_with fail
  refine q1.mono ?_
  rintro e w2 ⟨v, rfl, o2, n2⟩
  obtain ⟨va, vc, rfl⟩ := ownsRow_form o2
  have O2 : Hid (w2.ownsRow w1.heap.size 60 3 (.slice va m vc) m (CT.kcs (Lc.map Prod.fst))) := o2
  have N2 : Hid (Nw w1 w2) := n2
  have C2 : Hid (CT.Cx w2 (fun k => tg k = 2 ∧ k < w1.heap.size) cb N cap Lc) := HC0.out.nw n2
  clear o2 n2 q0 q1
  go_wp2_with fail
  go_loopw [13] (fun v wr => ∃ (j N' : Nat), j ≤ m ∧ v = .int .i64 j ∧ N' = N + j ∧ CT.Cx wr (fun k => tg k = 2 ∧ k < w1.heap.size) cb N' cap (Lc.drop j) ∧ Fr (fun k => tg k = 2 ∧ k < w1.heap.size) w2 wr) (fun v _ => m - (intOf v).toNat)
  case atStart => exact ⟨0, N, by omega, rfl, rfl, C2.out, Fr.refl _ _⟩
  case round =>
    obtain ⟨j, N', hj, rfl, hN', hcx, hfr⟩ := hrel
    have CX : Hid (CT.Cx wr (fun k => tg k = 2 ∧ k < w1.heap.size) cb N' cap (Lc.drop j)) := hcx
    have FR : Hid (Fr (fun k => tg k = 2 ∧ k < w1.heap.size) w2 wr) := hfr
    have FW : Hid (Fr (fun k => tg k = 2 ∧ k < w1.heap.size) w1 wr) := (N2.out.mono (fun _ _ f => f.elim)).trans hfr (fun _ _ q => q)
    have HNN : Hid (N' = N + j) := hN'
    have hNb : N' < 4611686018427387904 := by omega
    clear hcx hfr hN'
    by_cases hjm : j < m
    · have hji : (j : Int) < (m : Int) := by omega
      obtain ⟨z, hz⟩ : ∃ z, Lc[j]? = some z := ⟨_, List.getElem?_eq_getElem (by rw [← HM.out]; exact hjm)⟩
      have hdr : Lc.drop j = z :: Lc.drop (j + 1) := by
        obtain ⟨h1, rfl⟩ := List.getElem?_eq_some_iff.1 hz
        exact List.drop_eq_getElem_cons h1
      have hkc := kcs_at (Lc.map Prod.fst) j z.1 (by rw [List.getElem?_map, hz]; rfl)
      obtain ⟨g, cap', hva, _, _⟩ : ∃ g cap, Value.slice va m vc = .slice (some ⟨g, 0, none⟩) m cap ∧ m ≤ cap ∧ cap ≤ maxLen := by
        rcases O2.out.2 with ⟨_, h1⟩ | ⟨g, cap, cur, hv, _, _, h1, h2, _⟩
        · omega
        · exact ⟨g, cap, hv, h1, h2⟩
      simp only [Value.slice.injEq, true_and] at hva
      obtain ⟨rfl, rfl⟩ := hva
      have hgl := O2.out.lt g rfl
      have hgn : ¬ (tg g = 2 ∧ g < w1.heap.size) := fun q => by omega
      have e0 : wr.cell? ⟨g, j * 3, none⟩ = some (CT.k1 z.1) := (FR.out.cell (p := ⟨g, j * 3, none⟩) hgl.2 hgn).trans (by have := O2.out.cells (g := g) rfl _ _ hkc.1; rw [addZ] at this; exact this)
      have e1 : wr.cell? ⟨g, j * 3 + 1, none⟩ = some (CT.k2 z.1) := (FR.out.cell (p := ⟨g, j * 3 + 1, none⟩) hgl.2 hgn).trans (by have := O2.out.cells (g := g) rfl _ _ hkc.2.1; rw [addZ] at this; exact this)
      have e2 : wr.cell? ⟨g, j * 3 + 2, none⟩ = some (CT.k3 z.1) := (FR.out.cell (p := ⟨g, j * 3 + 2, none⟩) hgl.2 hgn).trans (by have := O2.out.cells (g := g) rfl _ _ hkc.2.2; rw [addZ] at this; exact this)
      have bR := (FW.out.block rb lb (fun q => HTR.out q.1)).trans HR.out.blk
      have HBR : Hid (wr.heap[rb]? = some (rdo (.pointer (some ⟨sb, 0, none⟩)) (.pointer (some ⟨cb, 0, none⟩)) x y)) := bR
      obtain ⟨_, d1, _, _⟩ := rdo_cs bR
      have HDR : Hid (Lc.drop j = z :: Lc.drop (j + 1)) := hdr
      have HD : Hid (∀ V, Nw wr V → Calls Tryz.prog 43 #[.pointer (some ⟨cb, 0, none⟩), CT.kv z.1] V fun e w' => e = .returned (.bool true) ∧ CT.Cx w' (fun k => tg k = 2 ∧ k < w1.heap.size) cb (N' + 1) cap (Lc.drop (j + 1)) ∧ Fr (fun k => tg k = 2 ∧ k < w1.heap.size) V w') := fun V nV => by
        have q := CT.drop_any (CX.out.nw nV) z.1 trivial hNb
        have e : CT.dropA (Lc.drop j) z.1 = (true, Lc.drop (j + 1)) := by rw [HDR.out, CT.dropA, CT.tk, if_pos rfl]
        rw [e] at q
        exact q
      have lw1 : w1.heap.size ≤ w2.heap.size := N2.out.size
      have lw2 : w2.heap.size ≤ wr.heap.size := FR.out.size
      have LBW : Hid (rb < wr.heap.size ∧ w1.heap.size ≤ wr.heap.size) := ⟨by omega, by omega⟩
      obtain ⟨kk, hkk⟩ : ∃ k, k = z.1 := ⟨_, rfl⟩
      rw [← hkk] at e0 e1 e2 HD
      clear hz hdr hkc hgl hgn bR hkk c1 lb
      obtain ⟨t0, ht0⟩ : ∃ q, q = (kk.1.1 : Int) := ⟨_, rfl⟩
      obtain ⟨t1, ht1⟩ : ∃ q, q = (kk.1.2.1 : Int) := ⟨_, rfl⟩
      obtain ⟨t2, ht2⟩ : ∃ q, q = kk.1.2.2 := ⟨_, rfl⟩
      simp only [CT.kv, CT.k1, CT.k2, CT.k3, ← ht0, ← ht1, ← ht2] at e0 e1 e2 HD
      have lr : rb < wr.heap.size := LBW.out.1
      clear lw1 lw2 ht0 ht1 ht2
      go_upto_region 4 with fail
      have HTL := heap_new wr (.cells #[.int .u8 t0, .int .u64 t1, .int .i64 t2] 60)
      have nA : Nw wr (wr.alloc (.cells #[.int .u8 t0, .int .u64 t1, .int .i64 t2] 60)) := nwa wr _
      refine gen_w (fun V => Nw wr V ∧ wr.heap.size < V.heap.size ∧ V.heap[wr.heap.size]? = some (.cells #[.int .u8 t0, .int .u64 t1, .int .i64 t2] 60)) ⟨(by repeat first | with_reducible exact Fr.refl _ _ | with_reducible refine Fr.alloc ?_ _ | with_reducible refine Fr.drew ?_ | (with_reducible refine Fr.setCell ?_ _ _ (fun h => ?_); rotate_left; focus (simp only at h; omega))), by simp, by (repeat first | with_reducible exact HTL | with_reducible exact heap_new _ _ | with_reducible exact heap_next _ _ _ | with_reducible exact heap_third _ _ _ _ | with_reducible refine hp_dr ?_ | (with_reducible refine hp_ne ?_ ?_; focus omega) | (with_reducible refine hp_al ?_ ?_; focus (first | omega | (simp <;> omega))) | with_reducible apply hp_set) <;> rfl⟩ ?_
      rintro w3 ⟨n3, l3, b3⟩
      obtain ⟨f0, f1, f2⟩ := cell3 b3
      have f3 := n3.cellOf d1
      have nd : Nw w3 w3.drew := (Fr.refl _ _).drew
      have N3 : Hid (Nw wr w3) := n3
      have B3 : Hid (w3.heap[wr.heap.size]? = some (.cells #[.int .u8 t0, .int .u64 t1, .int .i64 t2] 60)) := b3
      have lr3 : rb < w3.heap.size := by omega
      clear n3 b3 HTL nA e0 e1 e2 d1
      go_region_held3 (fun V => V.cell? ⟨rb, 1, none⟩ = some (.pointer (some ⟨cb, 0, none⟩)) ∧ V.cell? ⟨wr.heap.size, 0, none⟩ = some (.int .u8 t0) ∧ V.cell? ⟨wr.heap.size, 1, none⟩ = some (.int .u64 t1) ∧ V.cell? ⟨wr.heap.size, 2, none⟩ = some (.int .i64 t2)) (first | exact ⟨nd.cellOf f3, nd.cellOf f0, nd.cellOf f1, nd.cellOf f2⟩ | exact HK.out) ((go_at_call 43; refine (HD.out _ (N3.out.tr nd)).mono ?_; rintro e4 w4 ⟨rfl, C4, F4⟩; have T4 := (F4.block wr.heap.size l3 (fun e => by have := LBW.out; omega)).trans B3.out; have B4 := (F4.block rb lr3 (fun e => HTR.out e.1)).trans ((N3.out.block rb lr (fun f => f)).trans HBR.out); have HK : Hid (w4.cell? ⟨rb, 1, none⟩ = some (.pointer (some ⟨cb, 0, none⟩)) ∧ w4.cell? ⟨wr.heap.size, 0, none⟩ = some (.int .u8 t0) ∧ w4.cell? ⟨wr.heap.size, 1, none⟩ = some (.int .u64 t1) ∧ w4.cell? ⟨wr.heap.size, 2, none⟩ = some (.int .i64 t2)) := And.intro ((cell_of B4 1).trans rfl) (cell3 T4); have H4 : Hid (CT.Cx w4 (fun k => tg k = 2 ∧ k < w1.heap.size) cb (N' + 1) cap (Lc.drop (j + 1)) ∧ Fr (fun k => tg k = 2 ∧ k < w1.heap.size) w3 w4) := And.intro C4 ((nd.mono (fun _ _ f => f.elim)).trans F4 (fun _ _ e => e)); clear C4 F4 T4 B4))
      all_goals
        go_wp2
        exact ⟨⟨j + 1, N' + 1, by omega, by go_num, by rw [HNN.out]; omega, H4.out.1, (FR.out.trans N3.out (fun _ _ q => q.elim)).trans H4.out.2 (fun _ _ q => q)⟩, by simp [intOf]; omega⟩
    · have hj2 : j = m := by omega
      subst hj2
      have hji : ¬ (j : Int) < (j : Int) := by omega
      have hdn : Lc.drop j = [] := List.drop_eq_nil_of_le (by rw [HM.out]; exact Nat.le_refl _)
      go_wp2
      have hC := CX.out
      rw [hdn, HNN.out] at hC
      go_end0
      exact ⟨rfl, HR.out.none_cache (FW.out.mono (fun _ _ q => q.1)) (hC.mono (fun _ _ q => q.1) (Nat.le_refl _)), FW.out⟩
end Go.Proofs.YtbkhdnceblgljaaGreatDoor
namespace Go.Proofs.YtbkhdnceblgljaaGreatDoor
open Go.RowKit
set_option linter.unusedVariables false
set_option linter.unusedSimpArgs false
theorem round14 (k n : Int) (h1 : -9223372036854775808 ≤ k) (h2 : k ≤ 9223372036854775807) (hn : 0 < n) (hn2 : n ≤ 100000) (w : World) : Calls Tryz.prog 6 #[.int .i64 k, .int .i64 n] w fun e w' => e = .returned (.int .i64 (k % n)) ∧ w' = w := by
  have hne : (n == 0) = false := by simp; omega
  have hn0 : ¬ n = 0 := by omega
  have hm1 : ¬ n = -1 := by omega
  have hr := Int.emod_nonneg k hn0
  have hr2 := Int.emod_lt_of_pos k hn
  by_cases hk : k.tmod n < 0
  · have he : k.tmod n + n = k % n := by
      rw [Int.tmod_eq_emod] at hk ⊢
      split at hk
      · omega
      · rename_i h
        rw [if_neg h]
        have : (n.natAbs : Int) = n := by omega
        omega
    have hw : IntKind.i64.wrap (k.tmod n) = k.tmod n := by rw [IntKind.wrap_i64]; omega
    generalize hx : k.tmod n = x at hk he hw
    go_enter Tryz.func6, Tryz.ntmps6
    go_wp2
    go_ret
    exact ⟨by rw [← he]; rfl, rfl⟩
  · have he : k.tmod n = k % n := by
      rw [Int.tmod_eq_emod] at hk ⊢
      split
      · omega
      · rename_i h
        rw [if_neg h] at hk
        have : (n.natAbs : Int) = n := by omega
        omega
    have hw : IntKind.i64.wrap (k.tmod n) = k.tmod n := by rw [IntKind.wrap_i64]; omega
    generalize hx : k.tmod n = x at hk he hw
    go_enter Tryz.func6, Tryz.ntmps6
    go_wp2
    go_ret
    exact ⟨by rw [← he]; rfl, rfl⟩
/-- What is none of its own turns. -/
theorem Rm.fr9 {w w' : World} {tg : Nat → Nat} {rb sb cb bm n : Nat} {M : Tx} {p : Option Addr} {c : Nat} {zs : List Int} {cr rn wn : Int} {dd : Bool} {N cap : Nat} {L : CT.LT} {H : CT.KT → List (List UInt8)} {x y : Int} {S : Nat → Prop} (h : Rm w tg rb sb cb bm n M p c zs cr rn wn dd N cap L H x y) (f : Fr S w w') (hS : ∀ k, S k → tg k = 9) : Rm w' tg rb sb cb bm n M p c zs cr rn wn dd N cap L H x y := by
  obtain ⟨e1, e2, e3⟩ := h.ts
  have e0 := h.tr
  exact ⟨(f.block _ (heap_lt h.blk) (fun q => by have := hS _ q; omega)).trans h.blk, h.st.fr f (fun q => by have := hS _ q; omega) (fun q => by have := hS _ q; omega) (fun g o hp q => by have := hS _ q; rw [e3 g o hp] at this; omega), h.ca.fr f (fun k _ e q => by have := hS _ q; omega), Rm.row_fr h.row f (fun k hk q => by have := hS _ q; omega), h.tr, h.ts, fun g o e => Nat.lt_of_lt_of_le (h.lp g o e) f.size⟩
theorem RS.At.fr9 {s : RS} {l : List (List UInt8)} {B K : Nat} {w w' : World} {S : Nat → Prop} (h : s.At l B K w) (f : Fr S w w') (hS : ∀ k, S k → s.tg k = 9) : s.At l B K w' :=
  ⟨h.rm.fr9 f hS, h.ct, h.hm, h.h32, fun k hk => h.nt k (Nat.le_trans f.size hk), h.b1, h.b2, h.bt, h.ok, h.zl, h.rn0, h.x0, h.y0, h.n0⟩
theorem RS.At.more {s : RS} {l : List (List UInt8)} {B K K' : Nat} {w : World} (h : s.At l B K w) (hK : K ≤ K') : s.At l B K' w :=
  ⟨h.rm, h.ct, h.hm, h.h32, h.nt, h.b1, h.b2, h.bt, h.ok, h.zl, ⟨h.rn0.1, by have := h.rn0.2; omega⟩, ⟨h.x0.1, by have := h.x0.2; omega⟩, ⟨h.y0.1, by have := h.y0.2; omega⟩, by have := h.n0; omega⟩
theorem RS.At.clen {s : RS} {l : List (List UInt8)} {B K : Nat} {w : World} (h : s.At l B K w) : s.L.length ≤ s.cap ∧ s.cap ≤ 1024 := by
  obtain ⟨_, _, _, _, _, _, _, _, _, _, O, _, _, e, _, _, _, _, h1, h2⟩ := h.rm.ca
  rw [e, List.length_map]
  exact ⟨h1, h2⟩
theorem RS.forget {s : RS} {l : List (List UInt8)} {B K : Nat} {w : World} (h : s.At l B K w) (hK : K ≤ 1000000) :
    Calls Tryz.prog 20 #[.pointer (some ⟨s.rb, 0, none⟩)] w fun e w' => e = .returned (.tuple #[]) ∧ ∃ s' : RS, s'.At l B (K + 1024) w' ∧ s.Le s' w ∧ s'.rn = s.rn ∧ s'.x = s.x ∧ s'.y = s.y ∧ s'.M = s.M ∧ s'.L = [] ∧ Fr s.Ff w w' := by
  have hc := h.clen
  have hn := h.n0
  refine (rforget_any h.rm (by omega) (by omega)).mono fun e w' ⟨e1, R, F⟩ => ⟨e1, { s with N := s.N + s.L.length, L := [] }, ⟨R, fun z hz => by simp at hz, h.hm, h.h32, fun k hk => h.nt k (Nat.le_trans F.size hk), h.b1, h.b2, h.bt, h.ok, h.zl, ⟨h.rn0.1, by have := h.rn0.2; simp only; omega⟩, ⟨h.x0.1, by have := h.x0.2; simp only; omega⟩, ⟨h.y0.1, by have := h.y0.2; simp only; omega⟩, by simp only; omega⟩, ⟨fun _ _ => rfl, rfl, rfl, rfl, rfl⟩, rfl, rfl, rfl, rfl, rfl, F.mono (fun k _ q => .inr (.inr q.1))⟩
/-- A new reader over a store that holds a log's tiles. -/
theorem RS.made {l : List (List UInt8)} {B K : Nat} {w : World} {b bm nM g c : Nat} {M : Tx} {zs : List Int} {cr rn wn : Int} (h : Sr w b bm nM M (some ⟨g, 0, none⟩) c zs cr rn wn false) (hm : HldA l M) (h32 : ∀ x ∈ l, x.length = 32) (hg : g < w.heap.size) (hB : B ≤ b ∧ B ≤ bm ∧ B ≤ g) (hok : okR 0 zs = true) (hzl : zs.length ≤ 17592186044416) (hrn : 0 ≤ rn ∧ rn ≤ K) (cap : Nat) (hc : cap ≤ 1024) {a : Nat → Addr} (hS : Sent B w a) :
    Calls Tryz.prog 11 #[.pointer (some ⟨b, 0, none⟩), .int .i64 (cap : Int)] w fun e w' => ∃ s : RS, e = .returned (.tuple #[.pointer (some ⟨s.rb, 0, none⟩), .nilIface]) ∧ s.At l B K w' ∧ s.sb = b ∧ s.bm = bm ∧ s.zs = zs ∧ s.cap = cap ∧ s.rn = rn ∧ s.x = 0 ∧ s.y = 0 ∧ s.M = M ∧ s.L = [] ∧ (∀ k, k < w.heap.size → k ≠ b → k ≠ bm → k ≠ g → s.tg k = 9) ∧ Nw w w' := by
  refine (rnew_any h.blk cap hc hS).mono fun e w' ⟨rb, cb, e1, hb, hx, hrb, hn⟩ => ?_
  have l1 := heap_lt h.blk
  have l2 := h.mp.lt
  have l3 := heap_lt hb
  have hBs := hS.hsz
  have tgE : ∀ k, (fun k => if k = b ∨ k = bm ∨ k = g then 1 else if k = rb then 0 else if w.heap.size ≤ k ∧ k < rb then 2 else (9 : Nat)) k = if k = b ∨ k = bm ∨ k = g then 1 else if k = rb then 0 else if w.heap.size ≤ k ∧ k < rb then 2 else (9 : Nat) := fun _ => rfl
  refine ⟨⟨fun k => if k = b ∨ k = bm ∨ k = g then 1 else if k = rb then 0 else if w.heap.size ≤ k ∧ k < rb then 2 else 9, rb, b, cb, bm, nM, M, some ⟨g, 0, none⟩, c, zs, cr, rn, wn, 0, cap, [], fun _ => [], 0, 0⟩, e1, ⟨⟨hb, h.nw hn, hx.mono (fun k hk e => ?_) (Nat.le_refl _), fun z hz => by simp at hz, ?_, ⟨?_, ?_, fun g' o e => ?_⟩, fun g' o e => ?_⟩, fun z hz => by simp at hz, hm, h32, fun k hk => ?_, by simp only; omega, by simp only; omega, fun k hk => ?_, hok, hzl, hrn, ⟨Int.le_refl _, by simp only; omega⟩, ⟨Int.le_refl _, by simp only; omega⟩, by simp only; omega⟩, rfl, rfl, rfl, rfl, rfl, rfl, rfl, rfl, rfl, fun k hk h1 h2 h3 => ?_, hn⟩
  · show (if k = b ∨ k = bm ∨ k = g then 1 else if k = rb then 0 else if w.heap.size ≤ k ∧ k < rb then 2 else 9) = 2
    rw [if_neg (by omega), if_neg (by omega), if_pos e]
  · show (if rb = b ∨ rb = bm ∨ rb = g then 1 else if rb = rb then 0 else if w.heap.size ≤ rb ∧ rb < rb then 2 else 9) = 0
    rw [if_neg (by omega), if_pos rfl]
  · simp
  · simp
  · cases e; simp
  · cases e; have := hn.size; omega
  · simp only; have := hn.size; rw [if_neg (by omega), if_neg (by omega), if_neg (by omega)]
  · unfold RS.Ff at hk
    simp only at hk
    by_cases q1 : k = b ∨ k = bm ∨ k = g
    · omega
    · rw [if_neg q1] at hk
      by_cases q2 : k = rb
      · omega
      · rw [if_neg q2] at hk
        by_cases q3 : w.heap.size ≤ k ∧ k < rb
        · omega
        · rw [if_neg q3] at hk; omega
  · simp only; rw [if_neg (by omega), if_neg (by omega), if_neg (by omega)]
/-- What the fetch of a tile gives where the read fails. -/
def RS.Fell (s : RS) (l : List (List UInt8)) (B K q i W : Nat) (x : Addr) (R : RS → Prop) (V : World) : Prop :=
  Calls Tryz.prog 38 #[.pointer (some ⟨s.rb, 0, none⟩), tl q i W] V fun e w' => ∃ (s' : RS), e = .returned (.tuple #[.slice none 0 0, sen x]) ∧ s'.At l B (K + 1) w' ∧ s.Le s' V ∧ R s' ∧ Fr s.Ff V w'
theorem RS.there {s : RS} {l : List (List UInt8)} {B K : Nat} {w : World} (h : s.At l B K w) : Calls Tryz.prog 35 #[.pointer (some ⟨s.rb, 0, none⟩)] w fun e w' => e = .returned (.bool true) ∧ w' = w := rthere_any h.rm.blk
/-- A tree of the log. -/
theorem tree_wid {L I n : Nat} (hm : may L I) (hn : n ≤ 1048576) (he : (I + 1) * 2 ^ L ≤ n) : ∃ W, wid (L / 8) (ofA L I / 256) n = W ∧ 0 < W ∧ W ≤ 256 ∧ ofA L I % 256 + 2 ^ (L % 8) ≤ W := by
  have h1 := (covers_wid hm (by omega) he).1
  have h0 : 0 < 2 ^ (L % 8) := Nat.pow_pos (by decide)
  refine ⟨_, rfl, by omega, ?_, h1⟩
  unfold wid
  split <;> omega
theorem RS.node {s : RS} {l : List (List UInt8)} {B K : Nat} {w : World} (h : s.At l B K w) {L I W : Nat} (hm : may L I) (hn : l.length ≤ 1048576) (hw : wid (L / 8) (ofA L I / 256) l.length = W) (h0 : 0 < W) (hin : ofA L I % 256 + 2 ^ (L % 8) ≤ W) {a : Nat → Addr} (hG : Gd B a w) (R : RS → Prop)
    (hf : ∀ V, s.At l B K V → Nw w V → s.Got l B K (L / 8) (ofA L I / 256) W R V) :
    Calls Tryz.prog 14 #[.pointer (some ⟨s.rb, 0, none⟩), cd L I, .int .u64 (l.length : Int)] w fun e w' => ∃ s' : RS, e = .returned (.tuple #[.agg (hbs (ovr L ((l.drop (I * 2 ^ L)).take (2 ^ L)))), .nilIface]) ∧ s'.At l B (K + 1) w' ∧ s.Le s' w ∧ R s' ∧ Fr s.Ff w w' := by
  have hl := wid_in _ _ _ W hw h0
  have hT := tlH_len l (L / 8) (ofA L I / 256) W hl.1
  have q := rnode_some (w := w) (q := .pointer (some ⟨s.rb, 0, none⟩)) L I l.length W hm hw hin (tlH l (L / 8) (ofA L I / 256) W) (tlH_32 l h.h32 _ _ _) hT hl.2.1 (fun V nV => RS.there (h.nw nV))
    (fun g V => ∃ s' : RS, s'.At l B (K + 1) V ∧ s.Le s' w ∧ R s' ∧ Fr s.Ff w V ∧ s'.tg w.heap.size = 9 ∧ s'.tg (w.heap.size + 1) = 9)
    (fun g w1 w2 ⟨s', a1, le, r, f, t0, t1⟩ f2 => ⟨s', a1.fr9 f2 (fun k hk => by
      rcases (show k = w.heap.size ∨ k = w.heap.size + 1 by omega) with e | e
      · rw [e]; exact t0
      · rw [e]; exact t1), le, r, f.trans f2 (fun k hk q => by omega), t0, t1⟩)
    (fun V nV hV => by
      refine (hf V (h.nw nV) nV).mono fun e w' ⟨s', g, e1, o, a1, le, r, f⟩ => ⟨g, by rw [hT]; exact e1, Hss.of (tlH_32 l h.h32 _ _ _) (by rw [hT]; exact o), (hG.nw nV).l.frJ f (fun k hk q => by have := h.bt k q; have := hG.nb; omega), f.block _ (by omega) (fun q => by have := h.nt (w.heap.size + 1) (by omega); unfold RS.Ff at q; omega), s', a1, ⟨fun k hk => le.tg k (by have := nV.size; omega), le.rb, le.sb, le.zs, le.cap⟩, r, (nV.mono (fun _ _ f => f.elim)).trans f (fun _ _ q => q), ?_, ?_⟩
      · rw [le.tg _ (by omega)]; exact h.nt _ (Nat.le_refl _)
      · rw [le.tg _ (by omega)]; exact h.nt _ (by omega))
  have e := ovr_tile l (L / 8) (L % 8) I W (ofA L I % 256) (ofA L I / 256) (by show ofA L I = _; omega) hin hl.1
  rw [show 8 * (L / 8) + L % 8 = L by omega] at e
  rw [e] at q
  exact q.mono fun e w' ⟨g, e1, s', a1, le, r, f, _⟩ => ⟨s', e1, a1, le, r, f⟩
theorem RS.node_fell {s : RS} {l : List (List UInt8)} {B K : Nat} {w : World} (h : s.At l B K w) {L I W : Nat} (hm : may L I) (hw : wid (L / 8) (ofA L I / 256) l.length = W) (h0 : 0 < W) (hin : ofA L I % 256 + 2 ^ (L % 8) ≤ W) (x : Addr) (R : RS → Prop)
    (hf : ∀ V, s.At l B K V → Nw w V → s.Fell l B K (L / 8) (ofA L I / 256) W x R V) :
    Calls Tryz.prog 14 #[.pointer (some ⟨s.rb, 0, none⟩), cd L I, .int .u64 (l.length : Int)] w fun e w' => ∃ s' : RS, e = .returned (.tuple #[.agg (hbs zh), sen x]) ∧ s'.At l B (K + 1) w' ∧ s.Le s' w ∧ R s' ∧ Fr s.Ff w w' := by
  have hl := wid_in _ _ _ W hw h0
  have q := rnode_err (w := w) (q := .pointer (some ⟨s.rb, 0, none⟩)) L I l.length W hm hw hin hl.2.1 x (fun V nV => RS.there (h.nw nV))
    (fun V => ∃ s' : RS, s'.At l B (K + 1) V ∧ s.Le s' w ∧ R s' ∧ Fr s.Ff w V ∧ s'.tg w.heap.size = 9 ∧ s'.tg (w.heap.size + 1) = 9)
    (fun w1 w2 ⟨s', a1, le, r, f, t0, t1⟩ f2 => ⟨s', a1.fr9 f2 (fun k hk => by
      rcases (show k = w.heap.size ∨ k = w.heap.size + 1 by omega) with e | e
      · rw [e]; exact t0
      · rw [e]; exact t1), le, r, f.trans f2 (fun k hk q => by omega), t0, t1⟩)
    (fun V nV hV => by
      refine (hf V (h.nw nV) nV).mono fun e w' ⟨s', e1, a1, le, r, f⟩ => ⟨e1, f.block _ (by omega) (fun q => by have := h.nt (w.heap.size + 1) (by omega); unfold RS.Ff at q; omega), s', a1, ⟨fun k hk => le.tg k (by have := nV.size; omega), le.rb, le.sb, le.zs, le.cap⟩, r, (nV.mono (fun _ _ f => f.elim)).trans f (fun _ _ q => q), ?_, ?_⟩
      · rw [le.tg _ (by omega)]; exact h.nt _ (Nat.le_refl _)
      · rw [le.tg _ (by omega)]; exact h.nt _ (by omega))
  exact q.mono fun e w' ⟨e1, s', a1, le, r, f, _⟩ => ⟨s', e1, a1, le, r, f⟩
end Go.Proofs.YtbkhdnceblgljaaGreatDoor
