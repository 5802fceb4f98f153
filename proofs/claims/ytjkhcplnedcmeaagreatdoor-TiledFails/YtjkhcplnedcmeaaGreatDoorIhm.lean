/- tiled: the queries' closures; Root, Path, Proof, Batch of an engine that is not there. -/
import Derived.Test.YtjkhcplnedcmeaaGreatDoorIga
import Derived.Test.YtjkhcplnedcmeaaGreatDoorYge
import Derived.Test.YtjkhcplnedcmeaaGreatDoorYga
namespace Go.Proofs.YtjkhcplnedcmeaaGreatDoor
open Go.RowKit
set_option linter.unusedVariables false
set_option linter.unusedSimpArgs false
theorem part_own {w : World} {base g : Nat} (x : Value) (h : w.heap[g]? = some (.cells #[x] 177)) (hb : base ≤ g) : w.ownsRow base 177 1 (.slice (some ⟨g, 0, none⟩) 1 1) 1 [x] :=
  ⟨rfl, .inr ⟨g, 1, #[x], rfl, hb, h, Nat.le_refl _, by unfold maxLen; omega, rfl, rfl⟩⟩
set_option maxRecDepth 100000 in
theorem gclo_root (p n : Nat) (hn : n ≤ 9223372036854775808) (w : World) (hT : TabAt w) (hc : w.cell? ⟨p, 0, none⟩ = some (.int .u64 (n : Int))) :
    Calls Tryz.prog 90 #[.pointer (some ⟨p, 0, none⟩)] w fun e w' => ∃ v xs, e = .returned (.tuple #[v, .nilIface]) ∧ Pts w' w.heap.size v xs [cov 0 n] ∧ Nw w w' := by
  have q := proot_yes n hn w hT
  clear hT
  go_enter Tryz.func90, Tryz.ntmps90
  go_wp2_with fail
  refine q.mono ?_
  rintro e w1 ⟨v, rfl, o1, n1⟩
  obtain ⟨va, vc, rfl⟩ := ownsRow_form o1
  have O1 : Hid (w1.ownsRow w.heap.size 273 2 (.slice va (cov 0 n).length vc) (cov 0 n).length (fl (cov 0 n)) ∧ Nw w w1) := ⟨o1, n1⟩
  obtain ⟨m, hm⟩ : ∃ m, m = (cov 0 n).length := ⟨_, rfl⟩
  have HM : Hid (m = (cov 0 n).length) := hm
  rw [← hm]
  clear o1 n1 hm q
  go_wp2
  obtain ⟨o1, n1⟩ := O1.out
  rw [← HM.out] at o1
  have n2 : Nw w1 ((w1.alloc (.cells #[.slice va m vc] 177)).alloc (.cells #[.slice va m vc] 177)) := (nwa w1 _).alloc _
  have hs := n1.size
  refine bodyPost_ret (v := .tuple #[.slice (some ⟨w1.heap.size + 1, 0, none⟩) 1 1, .nilIface]) (by simp [results, Tryz.results90]) rfl ⟨_, [.slice va m vc], rfl, ⟨part_own _ (heap_next w1 _ _) (by omega), rfl, fun k x l hx hl => ?_, List.pairwise_singleton _ _⟩, n1.tr n2⟩
  rcases k with _ | k
  · simp at hx hl
    subst hx hl
    rw [← HM.out]
    exact ownsRow_keep o1 (fun g hg => n2.block g (o1.lt g hg).2 (fun f => f))
  · simp at hx
set_option maxRecDepth 100000 in
theorem gclo_path (p r i n : Nat) (h : i < n) (hn : n ≤ 9223372036854775808) (w : World) (hT : TabAt w) (hc : w.cell? ⟨p, 0, none⟩ = some (.int .u64 (i : Int))) (hc2 : w.cell? ⟨r, 0, none⟩ = some (.int .u64 (n : Int))) :
    Calls Tryz.prog 92 #[.pointer (some ⟨p, 0, none⟩), .pointer (some ⟨r, 0, none⟩)] w fun e w' => ∃ v xs, e = .returned (.tuple #[v, .nilIface]) ∧ Pts w' w.heap.size v xs ((pth i 0 n).map cvr) ∧ Nw w w' := by
  have q := ppath_yes i n h hn w hT
  clear hT
  go_enter Tryz.func92, Tryz.ntmps92
  go_wp2_with fail
  refine q.mono ?_
  rintro e w1 ⟨v, xs, rfl, p1, n1⟩
  have P1 : Hid (Pts w1 w.heap.size v xs ((pth i 0 n).map cvr) ∧ Nw w w1) := ⟨p1, n1⟩
  obtain ⟨va, vc, rfl⟩ := ownsRow_form p1.1
  clear p1 n1 q
  go_wp2
  exact bodyPost_ret (v := .tuple #[.slice va ((pth i 0 n).map cvr).length vc, .nilIface]) (by simp [results, Tryz.results92]) rfl ⟨_, xs, rfl, P1.out.1, P1.out.2⟩
set_option maxRecDepth 100000 in
theorem gclo_proof (p r i n : Nat) (h0 : 0 < i) (h : i ≤ n) (hn : n ≤ 9223372036854775808) (w : World) (hT : TabAt w) (hc : w.cell? ⟨p, 0, none⟩ = some (.int .u64 (i : Int))) (hc2 : w.cell? ⟨r, 0, none⟩ = some (.int .u64 (n : Int))) :
    Calls Tryz.prog 106 #[.pointer (some ⟨p, 0, none⟩), .pointer (some ⟨r, 0, none⟩)] w fun e w' => ∃ v xs, e = .returned (.tuple #[v, .nilIface]) ∧ Pts w' w.heap.size v xs ((prf i 0 n true).map cvr) ∧ Nw w w' := by
  have q := pproof_yes i n h0 h hn w hT
  clear hT
  go_enter Tryz.func106, Tryz.ntmps106
  go_wp2_with fail
  refine q.mono ?_
  rintro e w1 ⟨v, xs, rfl, p1, n1⟩
  have P1 : Hid (Pts w1 w.heap.size v xs ((prf i 0 n true).map cvr) ∧ Nw w w1) := ⟨p1, n1⟩
  obtain ⟨va, vc, rfl⟩ := ownsRow_form p1.1
  clear p1 n1 q
  go_wp2
  exact bodyPost_ret (v := .tuple #[.slice va ((prf i 0 n true).map cvr).length vc, .nilIface]) (by simp [results, Tryz.results106]) rfl ⟨_, xs, rfl, P1.out.1, P1.out.2⟩
set_option maxRecDepth 100000 in
theorem gclo_batch (p q r x y n : Nat) (hxy : x < y) (hy : y ≤ n) (hn : n ≤ 9223372036854775808) (w : World) (hT : TabAt w) (hc : w.cell? ⟨p, 0, none⟩ = some (.int .u64 (x : Int))) (hc1 : w.cell? ⟨q, 0, none⟩ = some (.int .u64 (y : Int))) (hc2 : w.cell? ⟨r, 0, none⟩ = some (.int .u64 (n : Int))) :
    Calls Tryz.prog 109 #[.pointer (some ⟨p, 0, none⟩), .pointer (some ⟨q, 0, none⟩), .pointer (some ⟨r, 0, none⟩)] w fun e w' => ∃ v xs, e = .returned (.tuple #[v, .nilIface]) ∧ Pts w' w.heap.size v xs ((bat x y 0 n).map cvr) ∧ Nw w w' := by
  have q := pbatch_yes x y n hxy hy hn w hT
  clear hT
  go_enter Tryz.func109, Tryz.ntmps109
  go_wp2_with fail
  refine q.mono ?_
  rintro e w1 ⟨v, xs, rfl, p1, n1⟩
  have P1 : Hid (Pts w1 w.heap.size v xs ((bat x y 0 n).map cvr) ∧ Nw w w1) := ⟨p1, n1⟩
  obtain ⟨va, vc, rfl⟩ := ownsRow_form p1.1
  clear p1 n1 q
  go_wp2
  exact bodyPost_ret (v := .tuple #[.slice va ((bat x y 0 n).map cvr).length vc, .nilIface]) (by simp [results, Tryz.results109]) rfl ⟨_, xs, rfl, P1.out.1, P1.out.2⟩
end Go.Proofs.YtjkhcplnedcmeaaGreatDoor
namespace Go.Proofs.YtjkhcplnedcmeaaGreatDoor
open Go.RowKit
set_option linter.unusedVariables false
set_option linter.unusedSimpArgs false
theorem RS.got_any {s : RS} {l : List (List UInt8)} {B K : Nat} {V : World} (h : s.At l B K V) {q i W : Nat} (hw : wid q i l.length = W) (h0 : 0 < W) (hz : s.zs = []) (hK : K ≤ 1000000) {a : Nat → Addr} (hG : Gd B a V) :
    s.Got l B K q i W (fun s' => s'.zs = [] ∧ s'.x = s.x + 1) V := by
  cases hk : CT.tk s.L (keyT q i W (mayT_wid hw h0)) with
  | none =>
    refine (RS.fresh h hw h0 hk (by rw [hz]; simp) hG.pow hK hG.s).mono fun e w' ⟨s', g, e1, o, a1, le, r1, r2, _, _, _, f⟩ => ⟨s', g, e1, o, a1, le, ⟨le.zs.trans hz, r2⟩, f⟩
  | some x =>
    obtain ⟨v, r⟩ := x
    refine (RS.had h hw h0 hk hG.pow hK).mono fun e w' ⟨s', g, e1, o, a1, le, r1, r2, _, _, _, f⟩ => ⟨s', g, e1, o, a1, le, ⟨le.zs.trans hz, r2⟩, f⟩
theorem hss_atI {w : World} {base g n c : Nat} {l : List (List UInt8)} (h32 : ∀ x ∈ l, x.length = 32) (hl : l.length = n) (h : w.ownsRow base 69 32 (.slice (some ⟨g, 0, none⟩) n c) n (hsc l)) {k : Nat} {x : List UInt8} (hk : l[k]? = some x) : ∀ j, j < 32 → w.cell? ⟨g, k * 32 + j, none⟩ = (hbs x)[j]? := by
  subst hl
  obtain ⟨ad, cp, e, h2⟩ := Hss.of h32 h
  injection e with e1 e2 e3
  obtain ⟨g', o', e4, h3⟩ := h2 k x hk
  rw [← e1] at e4
  simp only [Option.some.injEq, Addr.mk.injEq, and_true] at e4
  obtain ⟨rfl, rfl⟩ := e4
  simpa using h3
/-- What an answered query leaves. -/
structure Ansd (s0 s' : RS) (l : List (List UInt8)) (B K T : Nat) (w w' : World) (eb : Nat) : Prop where
  at_ : s'.At l B (K + T) w'
  le : s0.Le s' w
  zs : s'.zs = []
  x : s'.x = s0.x + (T : Int)
  fr : Fr s0.Ff w w'
  eng : Eng s' w' eb l.length
theorem step_got {s0 : RS} {l : List (List UInt8)} {B K : Nat} {w : World} (h : s0.At l B K w) (hn : l.length ≤ 1048576) {a : Nat → Addr} (hG : Gd B a w) (hK : K ≤ 900000) {cs : List (Nat × Nat)} (hg : gdA l.length cs) (hc : cs.length ≤ 100000) (x : Addr) :
    ∀ (k : Nat) (t : Ti) (s : RS), (tls l.length cs)[k]? = some t → (s.zs = [] ∧ s.x = s0.x + (k : Int)) → (∀ V, s.At l B (K + k) V → Fr s0.Ff w V → s.Got l B (K + k) t.L t.I t.W (fun s' => s'.zs = [] ∧ s'.x = s0.x + ((k + 1 : Nat) : Int)) V) ∨ (∀ V, s.At l B (K + k) V → Fr s0.Ff w V → s.Fell l B (K + k) t.L t.I t.W x (fun _ => False) V) := fun k t s ht hp => .inl fun V aV fV => by
  obtain ⟨b1, b2, _⟩ := tis_tls hg hn t (List.mem_of_getElem? ht)
  have hk := (List.getElem?_eq_some_iff.1 ht).1
  have := tls_len l.length cs
  refine (RS.got_any aV b1 b2 hp.1 (by omega) (hG.fr fV h.bt)).mono fun e w' ⟨s', g, e1, o, a1, le, r, f⟩ => ⟨s', g, e1, o, a1, le, ⟨r.1, by rw [r.2, hp.2]; omega⟩, f⟩
theorem flat_one (q : Nat) : ([cov 0 q] : List (List (Nat × Nat))).flatten = cov 0 q := by simp
set_option maxRecDepth 100000 in
set_option maxHeartbeats 1000000 in
theorem groot_any {s0 : RS} {l : List (List UInt8)} {B K : Nat} {w : World} (h : s0.At l B K w) {eb : Nat} (he : Eng s0 w eb l.length) (hn : l.length ≤ 1048576) (q : Nat) (hq : q ≤ l.length) {a : Nat → Addr} (hG : Gd B a w) (hT : TabAt w) (hz : s0.zs = []) (hK : K ≤ 900000) :
    Calls Tryz.prog 45 #[.pointer (some ⟨eb, 0, none⟩), .int .u64 (q : Int)] w fun e w' => ∃ s', e = .returned (.tuple #[.agg (hbs (phL l (cov 0 q))), .nilIface]) ∧ Ansd s0 s' l B K (tls l.length (cov 0 q)).length w w' eb := by
  have hgd : gdA l.length (cov 0 q) := fun c hc => cov_gd _ 0 q l.length (Nat.le_refl _) hq (by omega) c hc
  have hcl : (cov 0 q).length ≤ 128 := cov_len 0 q (by have : (2 : Nat) ^ 63 = 9223372036854775808 := (by decide); omega)
  have HQ : Hid (∀ V, Nw w V → V.cell? ⟨w.heap.size, 0, none⟩ = some (.int .u64 (q : Int)) → Calls Tryz.prog 89 #[.pointer (some ⟨eb, 0, none⟩), .int .u64 (q : Int), .func (.func 90) #[] #[.pointer (some ⟨w.heap.size, 0, none⟩)]] V fun e w' =>
      ∃ s' g c, e = .returned (.tuple #[.slice (some ⟨g, 0, none⟩) 1 c, .nilIface]) ∧ w'.ownsRow V.heap.size 69 32 (.slice (some ⟨g, 0, none⟩) 1 c) 1 (hsc [phL l (cov 0 q)]) ∧ Ansd s0 s' l B K (tls l.length (cov 0 q)).length V w' eb) := fun V nV hc => by
    have := gans_root (h.nw nV) (he.nw nV) hn q hq (hG.nw nV) #[.pointer (some ⟨w.heap.size, 0, none⟩)] [cov 0 q] (fun U nU => gclo_root w.heap.size q (by omega) U ((hT.nw nV).nw nU) (nU.cellOf hc))
      (by rw [flat_one q]; exact hgd) (by simp) (fun cs hcs => by simp at hcs; subst hcs; omega) (by rw [flat_one q]; omega)
      (fun k s => s.zs = [] ∧ s.x = s0.x + (k : Int)) (fun _ _ => False) ⟨hz, by simp⟩ (a 0) (by rw [flat_one q]; exact step_got (h.nw nV) hn (hG.nw nV) hK hgd (by omega) (a 0))
    rw [flat_one q] at this
    refine this.mono fun e w' hh => ?_
    rcases hh with ⟨s', g, c, e1, o, hgt, a1, le, p, f, en⟩ | ⟨_, _, _, _, _, _, p, _⟩
    · exact ⟨s', g, c, e1, o, a1, le, p.1, p.2, f, en⟩
    · exact p.elim
  have h32 : (phL l (cov 0 q)).length = 32 := phL_32 h.h32 _
  have HEB : Hid (eb < w.heap.size) := heap_lt he.blk
  have hNT : Hid (∀ k, w.heap.size ≤ k → s0.tg k = 9) := h.nt
  obtain ⟨R, hR⟩ : ∃ R, R = phL l (cov 0 q) := ⟨_, rfl⟩
  rw [← hR] at HQ h32 ⊢
  have hRs : (hbs R).size = 32 := by rw [hbs_size, h32]
  obtain ⟨T, hTt⟩ : ∃ T, T = (tls l.length (cov 0 q)).length := ⟨_, rfl⟩
  rw [← hTt] at HQ ⊢
  clear h he hn hq hG hT hz hK hgd hcl hR hTt
  go_enter Tryz.func45, Tryz.ntmps45
  go_upto_region 1 with fail
  rw [z32_h]
  obtain ⟨w2, hw2⟩ : ∃ q2, (w.alloc (.cells #[.int .u64 (q : Int)] 41)).alloc (.cells z32 69) = q2 := ⟨_, rfl⟩
  obtain ⟨⟨l0, l1⟩, b0, b1, n2⟩ := two_made (w := w) (w1 := w2) (o := .cells #[.int .u64 (q : Int)] 41) (p := .cells z32 69) (by rw [hw2]; exact nwr _)
  rw [hw2]
  have c0 := cell1 b0
  have HB1 : Hid (w2.heap[w.heap.size + 1]? = some (.cells z32 69)) := b1
  have N2 : Hid (Nw w w2) := n2
  have HC0 : Hid (w2.cell? ⟨w.heap.size, 0, none⟩ = some (.int .u64 (q : Int))) := c0
  clear b0 b1 n2 hw2 l1
  go_wp2_with fail
  refine (HQ.out w2 N2.out HC0.out).mono ?_
  rintro e w3 ⟨s3, g, c, rfl, o3, an⟩
  have O3 : Hid (w3.ownsRow w2.heap.size 69 32 (.slice (some ⟨g, 0, none⟩) 1 c) 1 (hsc [R])) := o3
  have AN : Hid (Ansd s0 s3 l B K T w2 w3 eb) := an
  have hgl := (o3.lt g rfl).2
  have HCL : Hid (∀ j, j < 32 → w3.cell? ⟨g, 0 + j, none⟩ = (hbs R)[j]?) := fun j hj => by
    have := hss_atI (k := 0) (x := R) (by intro x hx; simp at hx; rw [hx]; exact h32) rfl o3 rfl j hj
    simpa using this
  have HB3 : Hid (w3.heap[w.heap.size + 1]? = some (.cells z32 69)) := (an.fr.block _ (heap_lt HB1.out) (fun q => by have := hNT.out (w.heap.size + 1) (by omega); unfold RS.Ff at q; omega)).trans HB1.out
  have LB3 : Hid (w.heap.size + 1 < w2.heap.size) := heap_lt HB1.out
  clear o3 an c0 l0
  go_wp2_with first
    | refine wple_load_at rfl (.tmp 20) 69 32 rfl Tryz.isAgg69 Tryz.sizeOf69 g 0 rfl (hbs R) hRs HCL.out ?_
    | (refine wp_store_agg rfl (.tmp 4) (.tmp 21) 69 32 rfl Tryz.sizeOf69 (w.heap.size + 1) 0 rfl _ 69 HB3.out (hbs R) rfl hRs (hbs_one _) (by decide) (hbs R) (by simp [z32_size]) ?_; intro w6 j6 f6 zz; clear zz)
  obtain ⟨a1, le, hz3, hx3, f3, en⟩ := AN.out
  have t9 : s3.tg (w.heap.size + 1) = 9 := (le.tg _ LB3.out).trans (hNT.out _ (by omega))
  refine bodyPost_ret (results_cell_slot (V := hbs R) (ty := 69) (f := (0, 0)) Tryz.results45 Tryz.isAgg69 Tryz.sizeOf69 rfl _ rfl j6 hRs) rfl ⟨s3, rfl, a1.fr9 f6 (fun k hk => by subst hk; exact t9), ⟨fun k hk => le.tg k (Nat.lt_of_lt_of_le hk N2.out.size), le.rb, le.sb, le.zs, le.cap⟩, hz3, hx3, ((N2.out.mono (fun _ _ f => f.elim)).trans f3 (fun _ _ q => q)).trans f6 (fun k hk q => by omega), ⟨(f6.block _ (heap_lt en.blk) (fun q => ?_)).trans en.blk, en.tg⟩⟩
  have := HEB.out
  omega
theorem flat_len {α : Type} : ∀ (L : List (List α)) (m : Nat), (∀ x ∈ L, x.length ≤ m) → L.flatten.length ≤ L.length * m
  | [], m, _ => by simp
  | x :: r, m, h => by
    have h1 := h x (by simp)
    have h2 := flat_len r m (fun y hy => h y (by simp [hy]))
    rw [List.flatten_cons, List.length_append, List.length_cons, Nat.succ_mul]
    omega
set_option maxRecDepth 100000 in
set_option maxHeartbeats 1000000 in
theorem gpath_any {s0 : RS} {l : List (List UInt8)} {B K : Nat} {w : World} (h : s0.At l B K w) {eb : Nat} (he : Eng s0 w eb l.length) (hn : l.length ≤ 1048576) (i q : Nat) (hi : i < q) (hq : q ≤ l.length) {a : Nat → Addr} (hG : Gd B a w) (hT : TabAt w) (hz : s0.zs = []) (hK : K ≤ 900000) :
    Calls Tryz.prog 47 #[.pointer (some ⟨eb, 0, none⟩), .int .u64 (i : Int), .int .u64 (q : Int)] w fun e w' => ∃ s' g c, e = .returned (.tuple #[.slice (some ⟨g, 0, none⟩) (pth i 0 q).length c, .nilIface]) ∧ w'.ownsRow w.heap.size 69 32 (.slice (some ⟨g, 0, none⟩) (pth i 0 q).length c) (pth i 0 q).length (hsc ((pth i 0 q).map fun s => phL l (cvr s))) ∧ s'.tg g = 9 ∧ Ansd s0 s' l B K (tls l.length ((pth i 0 q).map cvr).flatten).length w w' eb := by
  have hmem : ∀ s ∈ pth i 0 q, s.2 ≤ q := fun s hs => (pth_mem q i 0 q (by omega) s hs).2.2
  have hgd : gdA l.length ((pth i 0 q).map cvr).flatten := flat_gd l.length (by omega) _ (fun s hs => Nat.le_trans (hmem s hs) hq)
  have p63 : (2 : Nat) ^ 63 = 9223372036854775808 := by decide
  have hll : (pth i 0 q).length ≤ 200 := Nat.le_trans (pth_len 63 i 0 q (by omega)) (by omega)
  have hcl : ∀ cs ∈ (pth i 0 q).map cvr, cs.length ≤ 128 := fun cs hcs => by
    obtain ⟨s, hs, rfl⟩ := List.mem_map.1 hcs
    exact cov_len s.1 s.2 (by have := hmem s hs; omega)
  have hfl : ((pth i 0 q).map cvr).flatten.length ≤ 100000 := by
    have := flat_len ((pth i 0 q).map cvr) 128 hcl
    rw [List.length_map] at this
    omega
  have HQ : Hid (∀ V, Nw w V → V.cell? ⟨w.heap.size, 0, none⟩ = some (.int .u64 (i : Int)) → V.cell? ⟨w.heap.size + 1, 0, none⟩ = some (.int .u64 (q : Int)) → Calls Tryz.prog 89 #[.pointer (some ⟨eb, 0, none⟩), .int .u64 (q : Int), .func (.func 92) #[] #[.pointer (some ⟨w.heap.size, 0, none⟩), .pointer (some ⟨w.heap.size + 1, 0, none⟩)]] V fun e w' =>
      ∃ s' g c, e = .returned (.tuple #[.slice (some ⟨g, 0, none⟩) (pth i 0 q).length c, .nilIface]) ∧ w'.ownsRow w.heap.size 69 32 (.slice (some ⟨g, 0, none⟩) (pth i 0 q).length c) (pth i 0 q).length (hsc ((pth i 0 q).map fun s => phL l (cvr s))) ∧ s'.tg g = 9 ∧ Ansd s0 s' l B K (tls l.length ((pth i 0 q).map cvr).flatten).length w w' eb) := fun V nV hc0 hc1 => by
    have := gans_path (h.nw nV) (he.nw nV) hn q hq (hG.nw nV) #[.pointer (some ⟨w.heap.size, 0, none⟩), .pointer (some ⟨w.heap.size + 1, 0, none⟩)] ((pth i 0 q).map cvr) (fun U nU => gclo_path _ _ i q hi (by omega) U ((hT.nw nV).nw nU) (nU.cellOf hc0) (nU.cellOf hc1))
      hgd (by rw [List.length_map]; omega) (fun cs hcs => by have := hcl cs hcs; omega) hfl
      (fun k s => s.zs = [] ∧ s.x = s0.x + (k : Int)) (fun _ _ => False) ⟨hz, by simp⟩ (a 0) (step_got (h.nw nV) hn (hG.nw nV) hK hgd hfl (a 0))
    rw [List.length_map, List.map_map] at this
    refine this.mono fun e w' hh => ?_
    rcases hh with ⟨s', g, c, e1, o, hgt, a1, le, p, f, en⟩ | ⟨_, _, _, _, _, _, p, _⟩
    · exact ⟨s', g, c, e1, ownsRow_base o nV.size, hgt, a1, ⟨fun k hk => le.tg k (Nat.lt_of_lt_of_le hk nV.size), le.rb, le.sb, le.zs, le.cap⟩, p.1, p.2, (nV.mono (fun _ _ f => f.elim)).trans f (fun _ _ q => q), en⟩
    · exact p.elim
  clear h he hn hq hG hT hz hK hgd hcl hfl hll hmem
  go_enter Tryz.func47, Tryz.ntmps47
  go_wp2_with fail
  refine (HQ.out _ (by repeat first | with_reducible exact nwr w | with_reducible refine Fr.alloc ?_ _ | with_reducible refine Fr.drew ?_ | (with_reducible refine Fr.setCell ?_ _ _ (fun h => ?_); rotate_left; focus (simp only at h; omega))) ?h0 ?h1).mono ?_
  case h0 => exact (cell_of (show (_ : World).heap[_]? = some _ by (repeat first | with_reducible exact heap_new _ _ | with_reducible exact heap_new _ _ | with_reducible exact heap_next _ _ _ | with_reducible exact heap_third _ _ _ _ | with_reducible refine hp_dr ?_ | (with_reducible refine hp_ne ?_ ?_; focus omega) | (with_reducible refine hp_al ?_ ?_; focus (first | omega | (simp <;> omega))) | with_reducible apply hp_set) <;> rfl) 0).trans rfl
  case h1 => exact (cell_of (show (_ : World).heap[_]? = some _ by (repeat first | with_reducible exact heap_new _ _ | with_reducible exact heap_new _ _ | with_reducible exact heap_next _ _ _ | with_reducible exact heap_third _ _ _ _ | with_reducible refine hp_dr ?_ | (with_reducible refine hp_ne ?_ ?_; focus omega) | (with_reducible refine hp_al ?_ ?_; focus (first | omega | (simp <;> omega))) | with_reducible apply hp_set) <;> rfl) 0).trans rfl
  rintro e w3 ⟨s3, g, c, rfl, o3, ht3, an⟩
  have O3 : Hid (w3.ownsRow w.heap.size 69 32 (.slice (some ⟨g, 0, none⟩) (pth i 0 q).length c) (pth i 0 q).length (hsc ((pth i 0 q).map fun s => phL l (cvr s))) ∧ s3.tg g = 9 ∧ Ansd s0 s3 l B K (tls l.length ((pth i 0 q).map cvr).flatten).length w w3 eb) := ⟨o3, ht3, an⟩
  clear o3 ht3 an
  go_wp2
  exact bodyPost_ret (v := .tuple #[.slice (some ⟨g, 0, none⟩) (pth i 0 q).length c, .nilIface]) (by simp [results, Tryz.results47]) rfl ⟨s3, g, c, rfl, O3.out⟩
end Go.Proofs.YtjkhcplnedcmeaaGreatDoor
