/- cache: remove. -/
import Derived.Test.YtgdjoaiahigjpaaGreatDoorKc
namespace Go.Proofs.YtgdjoaiahigjpaaGreatDoor.CI
open Go.RowKit Go.Maps Go.WideMaps Go.Proofs.YtgdjoaiahigjpaaGreatDoor
set_option linter.unusedVariables false
set_option linter.unusedSimpArgs false
theorem gen_w {Q : World → Prop} (P : World → Prop) {W : World} (h : P W) (k : ∀ W, P W → Q W) : Q W := k W h
/-- How the places, the ring and the map belong together. -/
structure Lo (n : Nat) (ks : Nat → KT) (nw od : Nat → Nat) (M : Pm) (O : List Nat) : Prop where
  ring : Ring nw od O
  mem : ∀ x, x ∈ O ↔ 1 ≤ x ∧ x < n
  len : n = O.length + 1
  map : ∀ k q, M k = some q ↔ q ∈ O ∧ ks q = k
  key : ∀ q ∈ O, kok (ks q)
/-- A block is turned beside a cache's own. -/
theorem Ca.mapd {w w' : World} {b bm g c nm nm' n : Nat} {cap : Int} {ks : Nat → KT} {vs : Nat → VT} {nw od : Nat → Nat} {M M' : Pm} (h : Ca w b bm g c nm n cap ks vs nw od M) (f : Fr (fun k => k = bm) w w') (r : Mp w' bm nm' M') : Ca w' b bm g c nm' n cap ks vs nw od M' :=
  ⟨(f.block _ (heap_lt h.blk) (fun e => h.n2 e.symm)).trans h.blk, h.row.fr f h.n3, r, h.n1, h.n2, h.n3⟩
/-- The last place is free. -/
theorem Ca.cut {w : World} {b bm g c nm n : Nat} {cap : Int} {ks : Nat → KT} {vs : Nat → VT} {nw od : Nat → Nat} {M : Pm} (h : Ca w b bm g c nm (n + 1) cap ks vs nw od M) : Ca (w.setCell ⟨b, 1, none⟩ (.slice (some ⟨g, 0, none⟩) n c)) b bm g c nm n cap ks vs nw od M := by
  have F : Fr (fun k => k = b) w (w.setCell ⟨b, 1, none⟩ (.slice (some ⟨g, 0, none⟩) n c)) := (Fr.refl _ w).setCell _ _ (fun _ => rfl)
  exact ⟨(heap_set h.blk _).trans rfl, (h.row.fr F h.n1).less (by omega), h.mp.fr F h.n2, h.n1, h.n2, h.n3⟩
/-- The zero of a thing, put behind those that are left. -/
theorem Row.zero {w : World} {g c n : Nat} {ks : Nat → KT} {vs : Nat → VT} {nw od : Nat → Nat} (h : Row w g c n ks vs nw od) {o : Nat} (ho : n * 4 ≤ o) (a0 a1 a2 a3 : Value) : Row ((((w.setCell ⟨g, o, none⟩ a0).setCell ⟨g, o + 1, none⟩ a1).setCell ⟨g, o + 2, none⟩ a2).setCell ⟨g, o + 3, none⟩ a3) g c n ks vs nw od :=
  (((h.setB ho a0).setB (by omega) a1).setB (by omega) a2).setB (by omega) a3
theorem Ca.cutz {w : World} {b bm g c nm n : Nat} {cap : Int} {ks : Nat → KT} {vs : Nat → VT} {nw od : Nat → Nat} {M : Pm} (h : Ca w b bm g c nm (n + 1) cap ks vs nw od M) (a0 a1 a2 a3 : Value) {W : World} (hW : W = ((((w.setCell ⟨g, n * 4, none⟩ a0).setCell ⟨g, n * 4 + 1, none⟩ a1).setCell ⟨g, n * 4 + 2, none⟩ a2).setCell ⟨g, n * 4 + 3, none⟩ a3).setCell ⟨b, 1, none⟩ (.slice (some ⟨g, 0, none⟩) n c)) :
    Ca W b bm g c nm n cap ks vs nw od M ∧ Fr (fun k => k = b ∨ k = g ∨ k = bm) w W := by
  have F1 : Fr (fun k => k = g) w ((((w.setCell ⟨g, n * 4, none⟩ a0).setCell ⟨g, n * 4 + 1, none⟩ a1).setCell ⟨g, n * 4 + 2, none⟩ a2).setCell ⟨g, n * 4 + 3, none⟩ a3) :=
    (((frS a0).trans (frS a1) (fun _ _ e => e)).trans (frS a2) (fun _ _ e => e)).trans (frS a3) (fun _ _ e => e)
  have r := Row.zero (h.row.less (m := n) (by omega)) (o := n * 4) (Nat.le_refl _) a0 a1 a2 a3
  have hb := (F1.block _ (heap_lt h.blk) (fun e => h.n1 e.symm)).trans h.blk
  have hm := h.mp.fr F1 (fun e => h.n3 e.symm)
  subst hW
  generalize ((((w.setCell ⟨g, n * 4, none⟩ a0).setCell ⟨g, n * 4 + 1, none⟩ a1).setCell ⟨g, n * 4 + 2, none⟩ a2).setCell ⟨g, n * 4 + 3, none⟩ a3) = W1 at *
  have F : Fr (fun k => k = b) W1 (W1.setCell ⟨b, 1, none⟩ (.slice (some ⟨g, 0, none⟩) n c)) := (Fr.refl _ W1).setCell _ _ (fun _ => rfl)
  exact ⟨⟨(heap_set hb _).trans rfl, r.fr F h.n1, hm.fr F h.n2, h.n1, h.n2, h.n3⟩, (F1.mono (fun _ _ e => .inr (.inl e))).trans F (fun _ _ e => .inl e)⟩
theorem Row.setAll {w : World} {g c n : Nat} {ks : Nat → KT} {vs : Nat → VT} {nw od : Nat → Nat} (h : Row w g c n ks vs nw od) {p : Nat} (hp : p < n) (k : KT) (v : VT) (x y : Nat) :
    Row ((((w.setCell ⟨g, p * 4, none⟩ (kv k)).setCell ⟨g, p * 4 + 1, none⟩ (vv v)).setCell ⟨g, p * 4 + 2, none⟩ (.int .i64 (x : Int))).setCell ⟨g, p * 4 + 3, none⟩ (.int .i64 (y : Int))) g c n (up ks p k) (up vs p v) (up nw p x) (up od p y) :=
  (((h.setK hp k).setV hp v).setN hp x).setO hp y
theorem fr4 {w : World} {g o1 o2 o3 o4 : Nat} (a0 a1 a2 a3 : Value) : Fr (fun k => k = g) w ((((w.setCell ⟨g, o1, none⟩ a0).setCell ⟨g, o2, none⟩ a1).setCell ⟨g, o3, none⟩ a2).setCell ⟨g, o4, none⟩ a3) :=
  (((frS a0).trans (frS a1) (fun _ _ e => e)).trans (frS a2) (fun _ _ e => e)).trans (frS a3) (fun _ _ e => e)
set_option maxRecDepth 100000 in
set_option maxHeartbeats 2000000 in
theorem remove_last {w : World} {b bm g c nm n : Nat} {cap : Int} {ks : Nat → KT} {vs : Nat → VT} {nw od : Nat → Nat} {M : Pm} (h : Ca w b bm g c nm (n + 1) cap ks vs nw od M) (hn : n + 1 ≤ 2000) {x y : Nat} (h0 : 1 ≤ n) (hx : nw n = x) (hy : od n = y) (h1 : x < n + 1) (h2 : y < n + 1) (hk : kok (ks n)) :
    Calls Tryz.prog 27 #[.pointer (some ⟨b, 0, none⟩), .int .i64 (n : Int)] w fun e w' => e = .returned (.tuple #[]) ∧ Ca w' b bm g c nm n cap ks vs (up nw y x) (up od x y) (delP M (ks n)) ∧ Fr (fun k => k = b ∨ k = g ∨ k = bm) w w' := by
  have q1 := unlink_any h hn (p := n) (by omega) hx hy h1 h2
  generalize up nw y x = nw1 at q1 ⊢
  generalize up od x y = od1 at q1 ⊢
  clear h hx hy
  go_enter Tryz.func27, Tryz.ntmps27
  go_wp2_with fail
  refine q1.mono ?_
  rintro e w1 ⟨rfl, C1, F1⟩
  obtain ⟨_, c1, c2⟩ := cac_cs C1.blk
  have lb := heap_lt C1.blk
  have lg := C1.row.lt
  obtain ⟨r0, _, _, _⟩ := C1.row.cell (i := n) (by omega)
  have D1 := C1.nw (Fr.refl _ _).drew
  obtain ⟨W', rd, Md, Fd⟩ := D1.mp.del (ks n) hk 0
  have H2 : Hid (Ca W' b bm g c nm (n + 1) cap ks vs nw1 od1 (delP M (ks n)) ∧ Fr (fun k => k = b ∨ k = g ∨ k = bm) w W') := ⟨D1.mapd Fd Md, (F1.mono (fun _ _ e => .inr (.inl e))).drew.trans Fd (fun _ _ e => .inr (.inr e))⟩
  have hgb : ¬ g = b := C1.n1
  clear C1 D1 F1 Md Fd q1 x y h1 h2
  go_wp2_with fail
  go_region
  all_goals
    clear rd r0 c1 c2 lb lg
    obtain ⟨C2, F2⟩ := H2.out
    obtain ⟨_, c1, c2⟩ := cac_cs C2.blk
    have lb := heap_lt C2.blk
    have lg := C2.row.lt
    obtain ⟨r0, r1, r2, r3⟩ := C2.row.cell (i := n) (by omega)
    have fz : ∀ o, W'.frozen? ⟨g, o, none⟩ = false := fun o => C2.row.frozen o
    have fb : ∀ o, W'.frozen? ⟨b, o, none⟩ = false := fun o => frozen_of C2.blk o
    have hnc : n + 1 ≤ c := by obtain ⟨_, _, q, _⟩ := C2.row; exact q
    clear C2 F2
    go_wp2
    go_end0
    obtain ⟨C2, F2⟩ := H2.out
    exact ⟨rfl, (C2.cutz (kv kz) (vv 0) (.int .i64 0) (.int .i64 0) rfl).1, F2.trans (C2.cutz (kv kz) (vv 0) (.int .i64 0) (.int .i64 0) rfl).2 (fun _ _ e => e)⟩
set_option maxRecDepth 100000 in
set_option maxHeartbeats 4000000 in
theorem remove_move {w : World} {b bm g c nm n : Nat} {cap : Int} {ks : Nat → KT} {vs : Nat → VT} {nw od : Nat → Nat} {M : Pm} (h : Ca w b bm g c nm (n + 1) cap ks vs nw od M) (hn : n + 1 ≤ 2000) {p x y : Nat} (hp : p < n) (hx : nw p = x) (hy : od p = y) (h1 : x < n + 1) (h2 : y < n + 1) (hk : kok (ks p)) (hk2 : kok (ks n))
    {x1 y1 : Nat} (hx1 : up nw y x n = x1) (hy1 : up od x y n = y1) (h3 : x1 < n + 1) (h4 : y1 < n + 1) (hm : nm < 4611686018427387904) :
    Calls Tryz.prog 27 #[.pointer (some ⟨b, 0, none⟩), .int .i64 (p : Int)] w fun e w' => e = .returned (.tuple #[]) ∧ Ca w' b bm g c (nm + 1) n cap (up ks p (ks n)) (up vs p (vs n)) (up (up (up nw y x) p x1) y1 p) (up (up (up od x y) p y1) x1 p) (putP (delP M (ks p)) (ks n) p) ∧ Fr (fun k => k = b ∨ k = g ∨ k = bm) w w' := by
  have q1 := unlink_any h hn (p := p) (by omega) hx hy h1 h2
  generalize up nw y x = nw1 at q1 hx1 ⊢
  generalize up od x y = od1 at q1 hy1 ⊢
  have HX : Hid (nw1 n = x1 ∧ od1 n = y1) := ⟨hx1, hy1⟩
  clear h hx hy hx1 hy1
  have hpn : ((p : Int) != (n : Int)) = true := by simp; omega
  go_enter Tryz.func27, Tryz.ntmps27
  go_wp2_with fail
  refine q1.mono ?_
  rintro e w1 ⟨rfl, C1, F1⟩
  obtain ⟨_, c1, c2⟩ := cac_cs C1.blk
  have lb := heap_lt C1.blk
  have lg := C1.row.lt
  obtain ⟨r0, _, _, _⟩ := C1.row.cell (i := p) (by omega)
  have D1 := C1.nw (Fr.refl _ _).drew
  obtain ⟨W', rd, Md, Fd⟩ := D1.mp.del (ks p) hk 0
  have H2 : Hid (Ca W' b bm g c nm (n + 1) cap ks vs nw1 od1 (delP M (ks p)) ∧ Fr (fun k => k = b ∨ k = g ∨ k = bm) w W') := ⟨D1.mapd Fd Md, (F1.mono (fun _ _ e => .inr (.inl e))).drew.trans Fd (fun _ _ e => .inr (.inr e))⟩
  have hgb : ¬ g = b := C1.n1
  clear C1 D1 F1 Md Fd q1 x y h1 h2
  go_wp2_with fail
  go_region
  all_goals
    clear rd r0 c1 c2 lb lg
    obtain ⟨C2, F2⟩ := H2.out
    obtain ⟨_, c1, c2⟩ := cac_cs C2.blk
    have lb := heap_lt C2.blk
    have lg := C2.row.lt
    obtain ⟨r0, r1, r2, r3⟩ := C2.row.cell (i := n) (by omega)
    rw [HX.out.1] at r2
    rw [HX.out.2] at r3
    have hnc : n + 1 ≤ c := by obtain ⟨_, _, q, _⟩ := C2.row; exact q
    clear C2 F2
    go_wp2_with fail
    refine gen_w (fun W => W.heap[W'.heap.size]? = some (.cells #[kv (ks n), vv (vs n), .int .i64 (x1 : Int), .int .i64 (y1 : Int)] 82) ∧ Nw W' W) ?_ ?_
    · exact ⟨heap_new _ _, (Fr.refl _ _).alloc _⟩
    rintro W4 ⟨hb4, n4⟩
    have H4 : Hid (Ca W4 b bm g c nm (n + 1) cap ks vs nw1 od1 (delP M (ks p)) ∧ Fr (fun k => k = b ∨ k = g ∨ k = bm) w W4) := ⟨H2.out.1.nw n4, H2.out.2.trans n4 (fun _ _ e => e.elim)⟩
    have hz1 : ¬ W'.heap.size = g := by omega
    have hz2 : ¬ W'.heap.size = b := by omega
    have hz3 : ¬ W'.heap.size = bm := by have := H2.out.1.mp.lt; omega
    generalize W'.heap.size = z at hb4 hz1 hz2 hz3 ⊢
    clear H2 c1 c2 lb lg r0 r1 r2 r3 n4
    have HB : Hid (W4.heap[z]? = some (.cells #[kv (ks n), vv (vs n), .int .i64 (x1 : Int), .int .i64 (y1 : Int)] 82)) := hb4
    have d0 : W4.cell? ⟨z, 0, none⟩ = some (kv (ks n)) := (cell_of hb4 0).trans rfl
    have d1 : W4.cell? ⟨z, 1, none⟩ = some (vv (vs n)) := (cell_of hb4 1).trans rfl
    have d2 : W4.cell? ⟨z, 2, none⟩ = some (.int .i64 (x1 : Int)) := (cell_of hb4 2).trans rfl
    have d3 : W4.cell? ⟨z, 3, none⟩ = some (.int .i64 (y1 : Int)) := (cell_of hb4 3).trans rfl
    have lz := heap_lt hb4
    obtain ⟨C4, F4⟩ := H4.out
    obtain ⟨_, c1, c2⟩ := cac_cs C4.blk
    have lb := heap_lt C4.blk
    have lg := C4.row.lt
    obtain ⟨r0, r1, r2, r3⟩ := C4.row.cell (i := p) (by omega)
    have fz : ∀ o, W4.frozen? ⟨g, o, none⟩ = false := fun o => C4.row.frozen o
    clear C4 F4 hb4
    go_region
  all_goals
    refine gen_w (fun W => Ca W b bm g c nm (n + 1) cap (up ks p (ks n)) (up vs p (vs n)) (up nw1 p x1) (up od1 p y1) (delP M (ks p)) ∧ Fr (fun k => k = g) W4 W) ?_ ?_
    · exact ⟨(H4.out.1.turn (fr4 _ _ _ _) (H4.out.1.row.setAll (p := p) (by omega) (ks n) (vs n) x1 y1)).nw (Fr.refl _ _).drew, (fr4 _ _ _ _).drew⟩
    rintro W5 ⟨C5, F5⟩
    have H5 : Hid (Ca W5 b bm g c nm (n + 1) cap (up ks p (ks n)) (up vs p (vs n)) (up nw1 p x1) (up od1 p y1) (delP M (ks p)) ∧ Fr (fun k => k = b ∨ k = g ∨ k = bm) w W5) := ⟨C5, H4.out.2.trans F5 (fun _ _ e => .inr (.inl e))⟩
    have HB : Hid (W5.heap[z]? = some (.cells #[kv (ks n), vv (vs n), .int .i64 (x1 : Int), .int .i64 (y1 : Int)] 82)) := (F5.block z lz hz1).trans HB.out
    clear C5 F5 H4 d1
    clear d0 d2 d3 lz c1 c2 lb lg r0 r1 r2 r3 fz
    have d0 : W5.cell? ⟨z, 0, none⟩ = some (kv (ks n)) := (cell_of HB.out 0).trans rfl
    have d2 : W5.cell? ⟨z, 2, none⟩ = some (.int .i64 (x1 : Int)) := (cell_of HB.out 2).trans rfl
    have d3 : W5.cell? ⟨z, 3, none⟩ = some (.int .i64 (y1 : Int)) := (cell_of HB.out 3).trans rfl
    have lz := heap_lt HB.out
    obtain ⟨_, c1, c2⟩ := cac_cs H5.out.1.blk
    have lb := heap_lt H5.out.1.blk
    have lg := H5.out.1.row.lt
    obtain ⟨r0, r1, r2, r3⟩ := H5.out.1.row.cell (i := x1) (by omega)
    have fz : ∀ o, W5.frozen? ⟨g, o, none⟩ = false := fun o => H5.out.1.row.frozen o
    go_wp2_with fail
    go_region
  all_goals
    refine gen_w (fun W => Ca W b bm g c nm (n + 1) cap (up ks p (ks n)) (up vs p (vs n)) (up nw1 p x1) (up (up od1 p y1) x1 p) (delP M (ks p)) ∧ Fr (fun k => k = g) W5 W) ?_ ?_
    · exact ⟨(H5.out.1.turn (frS _) (H5.out.1.row.setO h3 p)).nw (Fr.refl _ _).drew, (frS _).drew⟩
    rintro W6 ⟨C6, F6⟩
    have H6 : Hid (Ca W6 b bm g c nm (n + 1) cap (up ks p (ks n)) (up vs p (vs n)) (up nw1 p x1) (up (up od1 p y1) x1 p) (delP M (ks p)) ∧ Fr (fun k => k = b ∨ k = g ∨ k = bm) w W6) := ⟨C6, H5.out.2.trans F6 (fun _ _ e => .inr (.inl e))⟩
    have HB : Hid (W6.heap[z]? = some (.cells #[kv (ks n), vv (vs n), .int .i64 (x1 : Int), .int .i64 (y1 : Int)] 82)) := (F6.block z lz hz1).trans HB.out
    clear C6 F6 H5
    clear d0 d2 d3 lz c1 c2 lb lg r0 r1 r2 r3 fz
    have d0 : W6.cell? ⟨z, 0, none⟩ = some (kv (ks n)) := (cell_of HB.out 0).trans rfl
    have d2 : W6.cell? ⟨z, 2, none⟩ = some (.int .i64 (x1 : Int)) := (cell_of HB.out 2).trans rfl
    have d3 : W6.cell? ⟨z, 3, none⟩ = some (.int .i64 (y1 : Int)) := (cell_of HB.out 3).trans rfl
    have lz := heap_lt HB.out
    obtain ⟨_, c1, c2⟩ := cac_cs H6.out.1.blk
    have lb := heap_lt H6.out.1.blk
    have lg := H6.out.1.row.lt
    obtain ⟨r0, r1, r2, r3⟩ := H6.out.1.row.cell (i := y1) (by omega)
    have fz : ∀ o, W6.frozen? ⟨g, o, none⟩ = false := fun o => H6.out.1.row.frozen o
    go_wp2_with fail
    go_region
  all_goals
    refine gen_w (fun W => Ca W b bm g c nm (n + 1) cap (up ks p (ks n)) (up vs p (vs n)) (up (up nw1 p x1) y1 p) (up (up od1 p y1) x1 p) (delP M (ks p)) ∧ Fr (fun k => k = g) W6 W) ?_ ?_
    · exact ⟨(H6.out.1.turn (frS _) (H6.out.1.row.setN h4 p)).nw (Fr.refl _ _).drew, (frS _).drew⟩
    rintro W7 ⟨C7, F7⟩
    have H7 : Hid (Ca W7 b bm g c nm (n + 1) cap (up ks p (ks n)) (up vs p (vs n)) (up (up nw1 p x1) y1 p) (up (up od1 p y1) x1 p) (delP M (ks p)) ∧ Fr (fun k => k = b ∨ k = g ∨ k = bm) w W7) := ⟨C7, H6.out.2.trans F7 (fun _ _ e => .inr (.inl e))⟩
    have HB : Hid (W7.heap[z]? = some (.cells #[kv (ks n), vv (vs n), .int .i64 (x1 : Int), .int .i64 (y1 : Int)] 82)) := (F7.block z lz hz1).trans HB.out
    clear C7 F7 H6
    clear d0 d2 d3 lz c1 c2 lb lg r0 r1 r2 r3 fz
    have d0 : W7.cell? ⟨z, 0, none⟩ = some (kv (ks n)) := (cell_of HB.out 0).trans rfl
    have d2 : W7.cell? ⟨z, 2, none⟩ = some (.int .i64 (x1 : Int)) := (cell_of HB.out 2).trans rfl
    have d3 : W7.cell? ⟨z, 3, none⟩ = some (.int .i64 (y1 : Int)) := (cell_of HB.out 3).trans rfl
    have lz := heap_lt HB.out
    obtain ⟨_, c1, c2⟩ := cac_cs H7.out.1.blk
    have lb := heap_lt H7.out.1.blk
    have lg := H7.out.1.row.lt
    obtain ⟨r0, r1, r2, r3⟩ := H7.out.1.row.cell (i := n) (by omega)
    have fz : ∀ o, W7.frozen? ⟨g, o, none⟩ = false := fun o => H7.out.1.row.frozen o
    have D7 := H7.out.1.nw (Fr.refl _ _).drew
    obtain ⟨W8, ru, Mu, Fu⟩ := D7.mp.put (ks n) p hk2 (by omega) hm
    have H8 : Hid (Ca W8 b bm g c (nm + 1) (n + 1) cap (up ks p (ks n)) (up vs p (vs n)) (up (up nw1 p x1) y1 p) (up (up od1 p y1) x1 p) (putP (delP M (ks p)) (ks n) p) ∧ Fr (fun k => k = b ∨ k = g ∨ k = bm) w W8) := ⟨D7.mapd Fu Mu, H7.out.2.drew.trans Fu (fun _ _ e => .inr (.inr e))⟩
    clear D7 Mu Fu H7 HB
    go_wp2_with fail
    go_region
  all_goals
    clear d0 d2 d3 lz c1 c2 lb lg r0 r1 r2 r3 fz ru
    obtain ⟨_, c1, c2⟩ := cac_cs H8.out.1.blk
    have lb := heap_lt H8.out.1.blk
    have lg := H8.out.1.row.lt
    obtain ⟨r0, r1, r2, r3⟩ := H8.out.1.row.cell (i := n) (by omega)
    have fz : ∀ o, W8.frozen? ⟨g, o, none⟩ = false := fun o => H8.out.1.row.frozen o
    have fb : ∀ o, W8.frozen? ⟨b, o, none⟩ = false := fun o => frozen_of H8.out.1.blk o
    go_wp2
    go_end0
    obtain ⟨C2, F2⟩ := H8.out
    exact ⟨rfl, (C2.cutz (kv kz) (vv 0) (.int .i64 0) (.int .i64 0) rfl).1, F2.trans (C2.cutz (kv kz) (vv 0) (.int .i64 0) (.int .i64 0) rfl).2 (fun _ _ e => e)⟩
end Go.Proofs.YtgdjoaiahigjpaaGreatDoor.CI
