/- CoordTrees. -/
import Derived.Test.YtibkmcmgolbhhaaDoorD4
namespace Go.Proofs.YtibkmcmgolbhhaaDoor
open Go.RowKit
set_option linter.unusedVariables false
set_option linter.unusedSimpArgs false

set_option maxRecDepth 100000 in
set_option maxHeartbeats 8000000 in
theorem trees_any (L I b e : Nat) (hL : L ≤ 255) (hI : I < 18446744073709551616) (hb : b < 18446744073709551616) (he : e < 18446744073709551616) (w : World) (hT : TabAt w) :
    Calls Tryd.prog 3 #[cd L I, sp b e] w fun x w' => x = .returned (.bool true) ∧ Nw w w' := by
  have HT : Hid (TabAt w) := hT
  clear hT
  obtain ⟨x1, y1, o1, h1, bx1, by1⟩ := spanIs_ex L I
  obtain ⟨x2, y2, o2, h2, bx2, by2⟩ := ofIs_ex b e
  obtain ⟨x3, y3, o3, h3, bx3, by3⟩ := parIs_ex L I
  obtain ⟨x4, y4, o4, h4, bx4, by4⟩ := sibIs_ex L I hI
  obtain ⟨x5, y5, x6, y6, o5, h5, bx5, by5, bx6, by6⟩ := chiIs_ex L I hL
  have H1 := hid h1
  have H2 := hid h2
  have H3 := hid h3
  have H4 := hid h4
  have H5 := hid h5
  have by3' := by3 hI
  clear h1 h2 h3 h4 h5 by3
  go_enter Tryd.func3, Tryd.ntmps3
  go_wp2_with fail
  refine (span_any H1.out hL hI _).mono ?_
  rintro e1 w1 ⟨rfl, m1⟩
  have n1 : Nw w w1 := Nw.tr (by repeat first | with_reducible exact nwr w | with_reducible refine Fr.alloc ?_ _ | with_reducible refine Fr.drew ?_ | (with_reducible refine Fr.setCell ?_ _ _ (fun h => ?_); rotate_left; focus (simp only at h; omega))) m1
  have bc1 : w1.heap[w.heap.size]? = some (.cells #[.int .u8 (L : Int), .int .u64 (I : Int)] 24) := (m1.block _ (by first | omega | (simp <;> omega)) (fun f => f)).trans (by (repeat first | with_reducible exact heap_new _ _ | with_reducible exact heap_new _ _ | with_reducible exact heap_next _ _ _ | with_reducible exact heap_third _ _ _ _ | with_reducible refine hp_dr ?_ | (with_reducible refine hp_ne ?_ ?_; focus omega) | (with_reducible refine hp_al ?_ ?_; focus (first | omega | (simp <;> omega))) | with_reducible apply hp_set) <;> rfl)
  have bs1 : w1.heap[w.heap.size + 1]? = some (.cells #[.int .u64 (b : Int), .int .u64 (e : Int)] 26) := (m1.block _ (by first | omega | (simp <;> omega)) (fun f => f)).trans (by (repeat first | with_reducible exact heap_new _ _ | with_reducible exact heap_new _ _ | with_reducible exact heap_next _ _ _ | with_reducible exact heap_third _ _ _ _ | with_reducible refine hp_dr ?_ | (with_reducible refine hp_ne ?_ ?_; focus omega) | (with_reducible refine hp_al ?_ ?_; focus (first | omega | (simp <;> omega))) | with_reducible apply hp_set) <;> rfl)
  clear m1
  have lc1 := heap_lt bc1
  have xc1 := cell2a bc1
  have yc1 := cell2b bc1
  have ls1 := heap_lt bs1
  have xs1 := cell2a bs1
  have ys1 := cell2b bs1
  go_wp2_with fail
  refine (rspan_any H1.out hL hI _).mono ?_
  rintro e2 w2 ⟨rfl, m2⟩
  have n2 : Nw w w2 := Nw.tr (by repeat first | with_reducible exact n1 | with_reducible refine Fr.alloc ?_ _ | with_reducible refine Fr.drew ?_ | (with_reducible refine Fr.setCell ?_ _ _ (fun h => ?_); rotate_left; focus (simp only at h; omega))) m2
  have bc2 : w2.heap[w.heap.size]? = some (.cells #[.int .u8 (L : Int), .int .u64 (I : Int)] 24) := (m2.block _ (by first | omega | (simp <;> omega)) (fun f => f)).trans (by (repeat first | with_reducible exact bc1 | with_reducible exact heap_new _ _ | with_reducible exact heap_next _ _ _ | with_reducible exact heap_third _ _ _ _ | with_reducible refine hp_dr ?_ | (with_reducible refine hp_ne ?_ ?_; focus omega) | (with_reducible refine hp_al ?_ ?_; focus (first | omega | (simp <;> omega))) | with_reducible apply hp_set) <;> rfl)
  have bs2 : w2.heap[w.heap.size + 1]? = some (.cells #[.int .u64 (b : Int), .int .u64 (e : Int)] 26) := (m2.block _ (by first | omega | (simp <;> omega)) (fun f => f)).trans (by (repeat first | with_reducible exact bs1 | with_reducible exact heap_new _ _ | with_reducible exact heap_next _ _ _ | with_reducible exact heap_third _ _ _ _ | with_reducible refine hp_dr ?_ | (with_reducible refine hp_ne ?_ ?_; focus omega) | (with_reducible refine hp_al ?_ ?_; focus (first | omega | (simp <;> omega))) | with_reducible apply hp_set) <;> rfl)
  have ba2 : w2.heap[w1.heap.size]? = some (.cells #[.int .u64 (x1 : Int), .int .u64 (y1 : Int)] 26) := (m2.block _ (by first | omega | (simp <;> omega)) (fun f => f)).trans (by (repeat first | with_reducible exact heap_new _ _ | with_reducible exact heap_new _ _ | with_reducible exact heap_next _ _ _ | with_reducible exact heap_third _ _ _ _ | with_reducible refine hp_dr ?_ | (with_reducible refine hp_ne ?_ ?_; focus omega) | (with_reducible refine hp_al ?_ ?_; focus (first | omega | (simp <;> omega))) | with_reducible apply hp_set) <;> rfl)
  clear m2 n1 bc1 lc1 xc1 yc1 bs1 ls1 xs1 ys1
  have lc2 := heap_lt bc2
  have xc2 := cell2a bc2
  have yc2 := cell2b bc2
  have ls2 := heap_lt bs2
  have xs2 := cell2a bs2
  have ys2 := cell2b bs2
  have la2 := heap_lt ba2
  have xa2 := cell2a ba2
  have ya2 := cell2b ba2
  go_wp2_with fail
  refine (of_any H2.out hb he _ (HT.out.nw (by repeat first | with_reducible exact n2 | with_reducible refine Fr.alloc ?_ _ | with_reducible refine Fr.drew ?_ | (with_reducible refine Fr.setCell ?_ _ _ (fun h => ?_); rotate_left; focus (simp only at h; omega))))).mono ?_
  rintro e3 w3 ⟨rfl, m3⟩
  have n3 : Nw w w3 := Nw.tr (by repeat first | with_reducible exact n2 | with_reducible refine Fr.alloc ?_ _ | with_reducible refine Fr.drew ?_ | (with_reducible refine Fr.setCell ?_ _ _ (fun h => ?_); rotate_left; focus (simp only at h; omega))) m3
  have bc3 : w3.heap[w.heap.size]? = some (.cells #[.int .u8 (L : Int), .int .u64 (I : Int)] 24) := (m3.block _ (by first | omega | (simp <;> omega)) (fun f => f)).trans (by (repeat first | with_reducible exact bc2 | with_reducible exact heap_new _ _ | with_reducible exact heap_next _ _ _ | with_reducible exact heap_third _ _ _ _ | with_reducible refine hp_dr ?_ | (with_reducible refine hp_ne ?_ ?_; focus omega) | (with_reducible refine hp_al ?_ ?_; focus (first | omega | (simp <;> omega))) | with_reducible apply hp_set) <;> rfl)
  have bs3 : w3.heap[w.heap.size + 1]? = some (.cells #[.int .u64 (b : Int), .int .u64 (e : Int)] 26) := (m3.block _ (by first | omega | (simp <;> omega)) (fun f => f)).trans (by (repeat first | with_reducible exact bs2 | with_reducible exact heap_new _ _ | with_reducible exact heap_next _ _ _ | with_reducible exact heap_third _ _ _ _ | with_reducible refine hp_dr ?_ | (with_reducible refine hp_ne ?_ ?_; focus omega) | (with_reducible refine hp_al ?_ ?_; focus (first | omega | (simp <;> omega))) | with_reducible apply hp_set) <;> rfl)
  have ba3 : w3.heap[w1.heap.size]? = some (.cells #[.int .u64 (x1 : Int), .int .u64 (y1 : Int)] 26) := (m3.block _ (by first | omega | (simp <;> omega)) (fun f => f)).trans (by (repeat first | with_reducible exact ba2 | with_reducible exact heap_new _ _ | with_reducible exact heap_next _ _ _ | with_reducible exact heap_third _ _ _ _ | with_reducible refine hp_dr ?_ | (with_reducible refine hp_ne ?_ ?_; focus omega) | (with_reducible refine hp_al ?_ ?_; focus (first | omega | (simp <;> omega))) | with_reducible apply hp_set) <;> rfl)
  have bb3 : w3.heap[w2.heap.size]? = some (.cells #[.int .u64 (x1 : Int), .int .u64 (y1 : Int)] 26) := (m3.block _ (by first | omega | (simp <;> omega)) (fun f => f)).trans (by (repeat first | with_reducible exact heap_new _ _ | with_reducible exact heap_new _ _ | with_reducible exact heap_next _ _ _ | with_reducible exact heap_third _ _ _ _ | with_reducible refine hp_dr ?_ | (with_reducible refine hp_ne ?_ ?_; focus omega) | (with_reducible refine hp_al ?_ ?_; focus (first | omega | (simp <;> omega))) | with_reducible apply hp_set) <;> rfl)
  clear m3 n2 bc2 lc2 xc2 yc2 bs2 ls2 xs2 ys2 ba2 la2 xa2 ya2
  have lc3 := heap_lt bc3
  have xc3 := cell2a bc3
  have yc3 := cell2b bc3
  have ls3 := heap_lt bs3
  have xs3 := cell2a bs3
  have ys3 := cell2b bs3
  have la3 := heap_lt ba3
  have xa3 := cell2a ba3
  have ya3 := cell2b ba3
  have lb3 := heap_lt bb3
  have xb3 := cell2a bb3
  have yb3 := cell2b bb3
  go_wp2_with fail
  refine (rof_any H2.out hb he _).mono ?_
  rintro e4 w4 ⟨rfl, m4⟩
  have n4 : Nw w w4 := Nw.tr (by repeat first | with_reducible exact n3 | with_reducible refine Fr.alloc ?_ _ | with_reducible refine Fr.drew ?_ | (with_reducible refine Fr.setCell ?_ _ _ (fun h => ?_); rotate_left; focus (simp only at h; omega))) m4
  have bc4 : w4.heap[w.heap.size]? = some (.cells #[.int .u8 (L : Int), .int .u64 (I : Int)] 24) := (m4.block _ (by first | omega | (simp <;> omega)) (fun f => f)).trans (by (repeat first | with_reducible exact bc3 | with_reducible exact heap_new _ _ | with_reducible exact heap_next _ _ _ | with_reducible exact heap_third _ _ _ _ | with_reducible refine hp_dr ?_ | (with_reducible refine hp_ne ?_ ?_; focus omega) | (with_reducible refine hp_al ?_ ?_; focus (first | omega | (simp <;> omega))) | with_reducible apply hp_set) <;> rfl)
  have ba4 : w4.heap[w1.heap.size]? = some (.cells #[.int .u64 (x1 : Int), .int .u64 (y1 : Int)] 26) := (m4.block _ (by first | omega | (simp <;> omega)) (fun f => f)).trans (by (repeat first | with_reducible exact ba3 | with_reducible exact heap_new _ _ | with_reducible exact heap_next _ _ _ | with_reducible exact heap_third _ _ _ _ | with_reducible refine hp_dr ?_ | (with_reducible refine hp_ne ?_ ?_; focus omega) | (with_reducible refine hp_al ?_ ?_; focus (first | omega | (simp <;> omega))) | with_reducible apply hp_set) <;> rfl)
  have bb4 : w4.heap[w2.heap.size]? = some (.cells #[.int .u64 (x1 : Int), .int .u64 (y1 : Int)] 26) := (m4.block _ (by first | omega | (simp <;> omega)) (fun f => f)).trans (by (repeat first | with_reducible exact bb3 | with_reducible exact heap_new _ _ | with_reducible exact heap_next _ _ _ | with_reducible exact heap_third _ _ _ _ | with_reducible refine hp_dr ?_ | (with_reducible refine hp_ne ?_ ?_; focus omega) | (with_reducible refine hp_al ?_ ?_; focus (first | omega | (simp <;> omega))) | with_reducible apply hp_set) <;> rfl)
  have bd4 : w4.heap[w3.heap.size]? = some (.cells #[.int .u8 (x2 : Int), .int .u64 (y2 : Int)] 24) := (m4.block _ (by first | omega | (simp <;> omega)) (fun f => f)).trans (by (repeat first | with_reducible exact heap_new _ _ | with_reducible exact heap_new _ _ | with_reducible exact heap_next _ _ _ | with_reducible exact heap_third _ _ _ _ | with_reducible refine hp_dr ?_ | (with_reducible refine hp_ne ?_ ?_; focus omega) | (with_reducible refine hp_al ?_ ?_; focus (first | omega | (simp <;> omega))) | with_reducible apply hp_set) <;> rfl)
  clear m4 n3 bc3 lc3 xc3 yc3 bs3 ls3 xs3 ys3 ba3 la3 xa3 ya3 bb3 lb3 xb3 yb3
  have lc4 := heap_lt bc4
  have xc4 := cell2a bc4
  have yc4 := cell2b bc4
  have la4 := heap_lt ba4
  have xa4 := cell2a ba4
  have ya4 := cell2b ba4
  have lb4 := heap_lt bb4
  have xb4 := cell2a bb4
  have yb4 := cell2b bb4
  have ld4 := heap_lt bd4
  have xd4 := cell2a bd4
  have yd4 := cell2b bd4
  go_wp2_with fail
  refine (parent_any H3.out hL hI _).mono ?_
  rintro e5 w5 ⟨rfl, m5⟩
  have n5 : Nw w w5 := Nw.tr (by repeat first | with_reducible exact n4 | with_reducible refine Fr.alloc ?_ _ | with_reducible refine Fr.drew ?_ | (with_reducible refine Fr.setCell ?_ _ _ (fun h => ?_); rotate_left; focus (simp only at h; omega))) m5
  have bc5 : w5.heap[w.heap.size]? = some (.cells #[.int .u8 (L : Int), .int .u64 (I : Int)] 24) := (m5.block _ (by first | omega | (simp <;> omega)) (fun f => f)).trans (by (repeat first | with_reducible exact bc4 | with_reducible exact heap_new _ _ | with_reducible exact heap_next _ _ _ | with_reducible exact heap_third _ _ _ _ | with_reducible refine hp_dr ?_ | (with_reducible refine hp_ne ?_ ?_; focus omega) | (with_reducible refine hp_al ?_ ?_; focus (first | omega | (simp <;> omega))) | with_reducible apply hp_set) <;> rfl)
  clear m5 n4 bc4 lc4 xc4 yc4 ba4 la4 xa4 ya4 bb4 lb4 xb4 yb4 bd4 ld4 xd4 yd4
  have lc5 := heap_lt bc5
  have xc5 := cell2a bc5
  have yc5 := cell2b bc5
  go_wp2_with fail
  refine (rparent_any H3.out hL hI _).mono ?_
  rintro e6 w6 ⟨rfl, m6⟩
  have n6 : Nw w w6 := Nw.tr (by repeat first | with_reducible exact n5 | with_reducible refine Fr.alloc ?_ _ | with_reducible refine Fr.drew ?_ | (with_reducible refine Fr.setCell ?_ _ _ (fun h => ?_); rotate_left; focus (simp only at h; omega))) m6
  have bc6 : w6.heap[w.heap.size]? = some (.cells #[.int .u8 (L : Int), .int .u64 (I : Int)] 24) := (m6.block _ (by first | omega | (simp <;> omega)) (fun f => f)).trans (by (repeat first | with_reducible exact bc5 | with_reducible exact heap_new _ _ | with_reducible exact heap_next _ _ _ | with_reducible exact heap_third _ _ _ _ | with_reducible refine hp_dr ?_ | (with_reducible refine hp_ne ?_ ?_; focus omega) | (with_reducible refine hp_al ?_ ?_; focus (first | omega | (simp <;> omega))) | with_reducible apply hp_set) <;> rfl)
  have bf6 : w6.heap[w5.heap.size]? = some (.cells #[.int .u8 (x3 : Int), .int .u64 (y3 : Int)] 24) := (m6.block _ (by first | omega | (simp <;> omega)) (fun f => f)).trans (by (repeat first | with_reducible exact heap_new _ _ | with_reducible exact heap_new _ _ | with_reducible exact heap_next _ _ _ | with_reducible exact heap_third _ _ _ _ | with_reducible refine hp_dr ?_ | (with_reducible refine hp_ne ?_ ?_; focus omega) | (with_reducible refine hp_al ?_ ?_; focus (first | omega | (simp <;> omega))) | with_reducible apply hp_set) <;> rfl)
  clear m6 n5 bc5 lc5 xc5 yc5
  have lc6 := heap_lt bc6
  have xc6 := cell2a bc6
  have yc6 := cell2b bc6
  have lf6 := heap_lt bf6
  have xf6 := cell2a bf6
  have yf6 := cell2b bf6
  go_wp2_with fail
  refine (sibling_any H4.out hL hI _).mono ?_
  rintro e7 w7 ⟨rfl, m7⟩
  have n7 : Nw w w7 := Nw.tr (by repeat first | with_reducible exact n6 | with_reducible refine Fr.alloc ?_ _ | with_reducible refine Fr.drew ?_ | (with_reducible refine Fr.setCell ?_ _ _ (fun h => ?_); rotate_left; focus (simp only at h; omega))) m7
  have bc7 : w7.heap[w.heap.size]? = some (.cells #[.int .u8 (L : Int), .int .u64 (I : Int)] 24) := (m7.block _ (by first | omega | (simp <;> omega)) (fun f => f)).trans (by (repeat first | with_reducible exact bc6 | with_reducible exact heap_new _ _ | with_reducible exact heap_next _ _ _ | with_reducible exact heap_third _ _ _ _ | with_reducible refine hp_dr ?_ | (with_reducible refine hp_ne ?_ ?_; focus omega) | (with_reducible refine hp_al ?_ ?_; focus (first | omega | (simp <;> omega))) | with_reducible apply hp_set) <;> rfl)
  have bf7 : w7.heap[w5.heap.size]? = some (.cells #[.int .u8 (x3 : Int), .int .u64 (y3 : Int)] 24) := (m7.block _ (by first | omega | (simp <;> omega)) (fun f => f)).trans (by (repeat first | with_reducible exact bf6 | with_reducible exact heap_new _ _ | with_reducible exact heap_next _ _ _ | with_reducible exact heap_third _ _ _ _ | with_reducible refine hp_dr ?_ | (with_reducible refine hp_ne ?_ ?_; focus omega) | (with_reducible refine hp_al ?_ ?_; focus (first | omega | (simp <;> omega))) | with_reducible apply hp_set) <;> rfl)
  have bg7 : w7.heap[w6.heap.size]? = some (.cells #[.int .u8 (x3 : Int), .int .u64 (y3 : Int)] 24) := (m7.block _ (by first | omega | (simp <;> omega)) (fun f => f)).trans (by (repeat first | with_reducible exact heap_new _ _ | with_reducible exact heap_new _ _ | with_reducible exact heap_next _ _ _ | with_reducible exact heap_third _ _ _ _ | with_reducible refine hp_dr ?_ | (with_reducible refine hp_ne ?_ ?_; focus omega) | (with_reducible refine hp_al ?_ ?_; focus (first | omega | (simp <;> omega))) | with_reducible apply hp_set) <;> rfl)
  clear m7 n6 bc6 lc6 xc6 yc6 bf6 lf6 xf6 yf6
  have lc7 := heap_lt bc7
  have xc7 := cell2a bc7
  have yc7 := cell2b bc7
  have lf7 := heap_lt bf7
  have xf7 := cell2a bf7
  have yf7 := cell2b bf7
  have lg7 := heap_lt bg7
  have xg7 := cell2a bg7
  have yg7 := cell2b bg7
  go_wp2_with fail
  refine (rsibling_any H4.out hL hI _).mono ?_
  rintro e8 w8 ⟨rfl, m8⟩
  have n8 : Nw w w8 := Nw.tr (by repeat first | with_reducible exact n7 | with_reducible refine Fr.alloc ?_ _ | with_reducible refine Fr.drew ?_ | (with_reducible refine Fr.setCell ?_ _ _ (fun h => ?_); rotate_left; focus (simp only at h; omega))) m8
  have bc8 : w8.heap[w.heap.size]? = some (.cells #[.int .u8 (L : Int), .int .u64 (I : Int)] 24) := (m8.block _ (by first | omega | (simp <;> omega)) (fun f => f)).trans (by (repeat first | with_reducible exact bc7 | with_reducible exact heap_new _ _ | with_reducible exact heap_next _ _ _ | with_reducible exact heap_third _ _ _ _ | with_reducible refine hp_dr ?_ | (with_reducible refine hp_ne ?_ ?_; focus omega) | (with_reducible refine hp_al ?_ ?_; focus (first | omega | (simp <;> omega))) | with_reducible apply hp_set) <;> rfl)
  have bf8 : w8.heap[w5.heap.size]? = some (.cells #[.int .u8 (x3 : Int), .int .u64 (y3 : Int)] 24) := (m8.block _ (by first | omega | (simp <;> omega)) (fun f => f)).trans (by (repeat first | with_reducible exact bf7 | with_reducible exact heap_new _ _ | with_reducible exact heap_next _ _ _ | with_reducible exact heap_third _ _ _ _ | with_reducible refine hp_dr ?_ | (with_reducible refine hp_ne ?_ ?_; focus omega) | (with_reducible refine hp_al ?_ ?_; focus (first | omega | (simp <;> omega))) | with_reducible apply hp_set) <;> rfl)
  have bg8 : w8.heap[w6.heap.size]? = some (.cells #[.int .u8 (x3 : Int), .int .u64 (y3 : Int)] 24) := (m8.block _ (by first | omega | (simp <;> omega)) (fun f => f)).trans (by (repeat first | with_reducible exact bg7 | with_reducible exact heap_new _ _ | with_reducible exact heap_next _ _ _ | with_reducible exact heap_third _ _ _ _ | with_reducible refine hp_dr ?_ | (with_reducible refine hp_ne ?_ ?_; focus omega) | (with_reducible refine hp_al ?_ ?_; focus (first | omega | (simp <;> omega))) | with_reducible apply hp_set) <;> rfl)
  have bi8 : w8.heap[w7.heap.size]? = some (.cells #[.int .u8 (x4 : Int), .int .u64 (y4 : Int)] 24) := (m8.block _ (by first | omega | (simp <;> omega)) (fun f => f)).trans (by (repeat first | with_reducible exact heap_new _ _ | with_reducible exact heap_new _ _ | with_reducible exact heap_next _ _ _ | with_reducible exact heap_third _ _ _ _ | with_reducible refine hp_dr ?_ | (with_reducible refine hp_ne ?_ ?_; focus omega) | (with_reducible refine hp_al ?_ ?_; focus (first | omega | (simp <;> omega))) | with_reducible apply hp_set) <;> rfl)
  clear m8 n7 bc7 lc7 xc7 yc7 bf7 lf7 xf7 yf7 bg7 lg7 xg7 yg7
  have lc8 := heap_lt bc8
  have xc8 := cell2a bc8
  have yc8 := cell2b bc8
  have lf8 := heap_lt bf8
  have xf8 := cell2a bf8
  have yf8 := cell2b bf8
  have lg8 := heap_lt bg8
  have xg8 := cell2a bg8
  have yg8 := cell2b bg8
  have li8 := heap_lt bi8
  have xi8 := cell2a bi8
  have yi8 := cell2b bi8
  go_wp2_with fail
  refine (children_any H5.out hL hI _).mono ?_
  rintro e9 w9 ⟨rfl, m9⟩
  have n9 : Nw w w9 := Nw.tr (by repeat first | with_reducible exact n8 | with_reducible refine Fr.alloc ?_ _ | with_reducible refine Fr.drew ?_ | (with_reducible refine Fr.setCell ?_ _ _ (fun h => ?_); rotate_left; focus (simp only at h; omega))) m9
  have bc9 : w9.heap[w.heap.size]? = some (.cells #[.int .u8 (L : Int), .int .u64 (I : Int)] 24) := (m9.block _ (by first | omega | (simp <;> omega)) (fun f => f)).trans (by (repeat first | with_reducible exact bc8 | with_reducible exact heap_new _ _ | with_reducible exact heap_next _ _ _ | with_reducible exact heap_third _ _ _ _ | with_reducible refine hp_dr ?_ | (with_reducible refine hp_ne ?_ ?_; focus omega) | (with_reducible refine hp_al ?_ ?_; focus (first | omega | (simp <;> omega))) | with_reducible apply hp_set) <;> rfl)
  clear m9 n8 bc8 lc8 xc8 yc8 bf8 lf8 xf8 yf8 bg8 lg8 xg8 yg8 bi8 li8 xi8 yi8
  have lc9 := heap_lt bc9
  have xc9 := cell2a bc9
  have yc9 := cell2b bc9
  go_wp2_with fail
  refine (rchildren_any H5.out hL hI _).mono ?_
  rintro e10 w10 ⟨rfl, m10⟩
  have n10 : Nw w w10 := Nw.tr (by repeat first | with_reducible exact n9 | with_reducible refine Fr.alloc ?_ _ | with_reducible refine Fr.drew ?_ | (with_reducible refine Fr.setCell ?_ _ _ (fun h => ?_); rotate_left; focus (simp only at h; omega))) m10
  have bl10 : w10.heap[w9.heap.size]? = some (.cells #[.int .u8 (x5 : Int), .int .u64 (y5 : Int)] 24) := (m10.block _ (by first | omega | (simp <;> omega)) (fun f => f)).trans (by (repeat first | with_reducible exact heap_new _ _ | with_reducible exact heap_new _ _ | with_reducible exact heap_next _ _ _ | with_reducible exact heap_third _ _ _ _ | with_reducible refine hp_dr ?_ | (with_reducible refine hp_ne ?_ ?_; focus omega) | (with_reducible refine hp_al ?_ ?_; focus (first | omega | (simp <;> omega))) | with_reducible apply hp_set) <;> rfl)
  have bm10 : w10.heap[w9.heap.size + 1]? = some (.cells #[.int .u8 (x6 : Int), .int .u64 (y6 : Int)] 24) := (m10.block _ (by first | omega | (simp <;> omega)) (fun f => f)).trans (by (repeat first | with_reducible exact heap_new _ _ | with_reducible exact heap_new _ _ | with_reducible exact heap_next _ _ _ | with_reducible exact heap_third _ _ _ _ | with_reducible refine hp_dr ?_ | (with_reducible refine hp_ne ?_ ?_; focus omega) | (with_reducible refine hp_al ?_ ?_; focus (first | omega | (simp <;> omega))) | with_reducible apply hp_set) <;> rfl)
  clear m10 n9 bc9 lc9 xc9 yc9
  have ll10 := heap_lt bl10
  have xl10 := cell2a bl10
  have yl10 := cell2b bl10
  have lm10 := heap_lt bm10
  have xm10 := cell2a bm10
  have ym10 := cell2b bm10
  go_wp2_with fail
  refine (alive_any _ (HT.out.nw (by repeat first | with_reducible exact n10 | with_reducible refine Fr.alloc ?_ _ | with_reducible refine Fr.drew ?_ | (with_reducible refine Fr.setCell ?_ _ _ (fun h => ?_); rotate_left; focus (simp only at h; omega))))).mono ?_
  rintro e11 w11 ⟨rfl, m11⟩
  have n11 : Nw w w11 := Nw.tr (by repeat first | with_reducible exact n10 | with_reducible refine Fr.alloc ?_ _ | with_reducible refine Fr.drew ?_ | (with_reducible refine Fr.setCell ?_ _ _ (fun h => ?_); rotate_left; focus (simp only at h; omega))) m11
  clear m11 n10 bl10 ll10 xl10 yl10 bm10 lm10 xm10 ym10
  go_wp2
  go_ret
  exact ⟨rfl, n11⟩
end Go.Proofs.YtibkmcmgolbhhaaDoor
