/- Digests: made, written to, asked. -/
import Derived.Test.YtebbgpnhkpbefaaDoorP7
namespace Go.Proofs.YtebbgpnhkpbefaaDoor
open Go.RowKit
set_option linter.unusedVariables false
set_option linter.unusedSimpArgs false

/-- The beginning lies where the program lays it. -/
def Bg (w : World) : Prop := ∀ i, i < 8 → w.cell? ⟨2, i, none⟩ = (vals H0)[i]?
theorem Bg.fr {w w' : World} {d : Nat} (h : Bg w) (k : Fr (fun k => k = d) w w') (hn : d ≠ 2) : Bg w' := fun i hi => by
  obtain ⟨u, hu⟩ : ∃ u, (vals H0)[i]? = some u := ⟨_, vals_at H0 i hi⟩
  have h1 := (h i hi).trans hu
  rw [(k.cell (World.block_lt_of_cell? w _ h1) (fun e => hn e.symm)), h i hi]
theorem Bg.nw {w w' : World} (h : Bg w) (k : Nw w w') : Bg w' := fun i hi => by
  obtain ⟨u, hu⟩ : ∃ u, (vals H0)[i]? = some u := ⟨_, vals_at H0 i hi⟩
  rw [k.cellOf ((h i hi).trans hu), hu]
/-- What is laid: both tables. -/
structure Laid (w : World) : Prop where
  k : Ks w
  b : Bg w
theorem Laid.nw {w w' : World} (h : Laid w) (k : Nw w w') : Laid w' := ⟨h.k.nw k, h.b.nw k⟩
theorem Laid.lt {w : World} (h : Laid w) : 19 ≤ w.heap.size := by
  have h1 := World.block_lt_of_cell? w _ (h.k 0 (by decide))
  have h2 := World.block_lt_of_cell? w _ ((h.b 0 (by decide)).trans (vals_at H0 0 (by decide)))
  have e1 : w.heap.size > 18 := h1
  have e2 : w.heap.size > 2 := h2
  omega
theorem Laid.fr {w w' : World} {d : Nat} (h : Laid w) (k : Fr (fun k => k = d) w w') (hd : 19 ≤ d) : Laid w' := ⟨h.k.fr k (by omega), h.b.fr k (by omega)⟩
/-- Nothing yet. -/
abbrev d0 : Array Value := dcs H0 (List.replicate 64 0) 0
theorem dig_new {w : World} {d : Nat} (h : w.heap[d]? = some (.cells d0 tD (0, 0))) : Dig w d [] := ⟨List.replicate 64 0, by simp, rfl, h⟩

theorem d0_eq : (Array.foldl (fun cs (x : Value × Nat) => cs.setIfInBounds (1 + x.snd) x.fst) (Tryd.zeroCells78.setIfInBounds 0 (Value.bool true)) (vals H0).zipIdx 0 (vals H0).size) = d0 := by kernel_rfl
set_option maxRecDepth 100000 in
set_option maxHeartbeats 1000000 in
theorem new_any (w : World) (hL : Laid w) :
    Calls Tryd.prog 18 #[] w fun e w' => e = .returned (.pointer (some ⟨w.heap.size, 0, none⟩)) ∧ Dig w' w.heap.size [] ∧ Nw w w' := by
  have HL : Hid (Laid w) := hL
  clear hL
  go_enter Tryd.func18, Tryd.ntmps18
  go_wp2_with (refine wp_load_cells rfl (.global 2) 75 8 rfl Tryd.isAgg75 Tryd.sizeOf75 2 0 rfl (vals H0) rfl (fun j u hj => by rw [Nat.zero_add, HL.out.b j (by have := (Array.getElem?_eq_some_iff.1 hj).1; simpa [vals] using this)]; exact hj) ?_)
  go_ret
  have e0 : (Array.foldl (fun cs (x : Value × Nat) => cs.setIfInBounds (1 + x.snd) x.fst) (Tryd.zeroCells78.setIfInBounds 0 (Value.bool true)) (vals H0).zipIdx 0 (vals H0).size) = d0 := d0_eq
  rw [e0]
  exact ⟨rfl, dig_new (heap_new w _), (Fr.refl _ _).alloc _⟩

set_option maxRecDepth 100000 in
set_option maxHeartbeats 1000000 in
theorem there_any (d : Nat) (b : Bool) (w : World) (hc : w.cell? ⟨d, 0, none⟩ = some (.bool b)) :
    Calls Tryd.prog 47 #[.pointer (some ⟨d, 0, none⟩)] w fun e w' => e = .returned (.bool b) ∧ w' = w := by
  go_enter Tryd.func47, Tryd.ntmps47
  go_wp2
  go_ret
  exact ⟨rfl, rfl⟩
theorem there_nil (w : World) : Calls Tryd.prog 47 #[.pointer none] w fun e w' => e = .returned (.bool false) ∧ w' = w := by
  go_enter Tryd.func47, Tryd.ntmps47
  go_wp2
  go_ret
  exact ⟨rfl, rfl⟩
theorem Dig.made {w : World} {d : Nat} {L : List UInt8} (h : Dig w d L) : w.cell? ⟨d, 0, none⟩ = some (.bool true) := by
  obtain ⟨blk, h1, h2, h3⟩ := h
  exact (cell_of h3 0).trans (dcs_0 _ _ _)
/-- A digest that is not there: nil, or one that no call made. -/
def Non (w : World) (p : Option Addr) : Prop := p = none ∨ ∃ d, p = some ⟨d, 0, none⟩ ∧ w.cell? ⟨d, 0, none⟩ = some (.bool false)
theorem there_non (p : Option Addr) (w : World) (h : Non w p) : Calls Tryd.prog 47 #[.pointer p] w fun e w' => e = .returned (.bool false) ∧ w' = w := by
  rcases h with rfl | ⟨d, rfl, h⟩
  · exact there_nil w
  · exact there_any d false w h
theorem write_non (p : Option Addr) (v : Value) (w : World) (h : Non w p) : Calls Tryd.prog 19 #[.pointer p, v] w fun e w' => e = .returned (.tuple #[]) ∧ w' = w := by
  have q := there_non p w h
  go_enter Tryd.func19, Tryd.ntmps19
  go_wp2_with fail
  refine q.mono ?_
  rintro e w' ⟨rfl, rfl⟩
  go_wp2
  exact bodyPost_end (v := .tuple #[]) (by simp [results, Tryd.results19, go_sem]) rfl ⟨rfl, rfl⟩
set_option maxHeartbeats 1000000 in
theorem write_dig (d : Nat) (L : List UInt8) (v : Value) (s : ByteArray) (w : World) (h : Dig w d L) (hL : Laid w) (hd : 19 ≤ d) (hcv : (convert 53 9 v).run Tryd.prog w = .ok (.string s) w) (hlen : L.length + s.size < 4611686018427387904) :
    Calls Tryd.prog 19 #[.pointer (some ⟨d, 0, none⟩), v] w fun e w' => e = .returned (.tuple #[]) ∧ Dig w' d (L ++ s.data.toList) ∧ Fr (fun k => k = d) w w' := by
  have q := there_any d true w h.made
  have q2 := take_any d L s w h hL.k (by omega) hlen
  clear h hL
  go_enter Tryd.func19, Tryd.ntmps19
  go_wp2_with fail
  refine q.mono ?_
  rintro e w' ⟨rfl, rfl⟩
  go_wp2_with fail
  refine q2.mono ?_
  rintro e w2 ⟨rfl, D2, f2⟩
  go_wp2
  exact bodyPost_end (v := .tuple #[]) (by simp [results, Tryd.results19, go_sem]) rfl ⟨rfl, D2, f2⟩
theorem dcs_one (s : V8) (blk : List UInt8) (n : Nat) : ∀ u ∈ (dcs s blk n).toList, u.oneCell' = true := by
  intro u hu
  simp only [dcs, List.toList_toArray, List.mem_cons, List.mem_append, List.not_mem_nil, or_false] at hu
  rcases hu with rfl | h | h | rfl
  · rfl
  · exact vals_one s u h
  · obtain ⟨b, _, rfl⟩ := List.mem_map.1 h; rfl
  · rfl
theorem zc_d : Tryd.zeroCells78.toList.drop (0 + 74) = [] := by kernel_rfl
theorem zc_s : Tryd.zeroCells78.size = 74 := by kernel_rfl
/-- What 32 noughts are. -/
abbrev zh : Value := .agg z32
set_option maxRecDepth 100000 in
set_option maxHeartbeats 1000000 in
theorem sum_non (p : Option Addr) (w : World) (h : Non w p) : Calls Tryd.prog 20 #[.pointer p] w fun e w' => e = .returned zh ∧ Nw w w' := by
  have HP : Hid (Non w p) := h
  clear h
  go_enter Tryd.func20, Tryd.ntmps20
  go_wp2_with fail
  have hz := (heap_new w (.cells #[.int .u8 0, .int .u8 0, .int .u8 0, .int .u8 0, .int .u8 0, .int .u8 0, .int .u8 0, .int .u8 0, .int .u8 0, .int .u8 0, .int .u8 0, .int .u8 0, .int .u8 0, .int .u8 0, .int .u8 0, .int .u8 0, .int .u8 0, .int .u8 0, .int .u8 0, .int .u8 0, .int .u8 0, .int .u8 0, .int .u8 0, .int .u8 0, .int .u8 0, .int .u8 0, .int .u8 0, .int .u8 0, .int .u8 0, .int .u8 0, .int .u8 0, .int .u8 0] 38)).trans (show _ = some (.cells z32 38 (0, 0)) by kernel_rfl)
  have n0 : Nw w (w.alloc (.cells #[.int .u8 0, .int .u8 0, .int .u8 0, .int .u8 0, .int .u8 0, .int .u8 0, .int .u8 0, .int .u8 0, .int .u8 0, .int .u8 0, .int .u8 0, .int .u8 0, .int .u8 0, .int .u8 0, .int .u8 0, .int .u8 0, .int .u8 0, .int .u8 0, .int .u8 0, .int .u8 0, .int .u8 0, .int .u8 0, .int .u8 0, .int .u8 0, .int .u8 0, .int .u8 0, .int .u8 0, .int .u8 0, .int .u8 0, .int .u8 0, .int .u8 0, .int .u8 0] 38)) := (Fr.refl _ _).alloc _
  generalize (w.alloc (.cells #[.int .u8 0, .int .u8 0, .int .u8 0, .int .u8 0, .int .u8 0, .int .u8 0, .int .u8 0, .int .u8 0, .int .u8 0, .int .u8 0, .int .u8 0, .int .u8 0, .int .u8 0, .int .u8 0, .int .u8 0, .int .u8 0, .int .u8 0, .int .u8 0, .int .u8 0, .int .u8 0, .int .u8 0, .int .u8 0, .int .u8 0, .int .u8 0, .int .u8 0, .int .u8 0, .int .u8 0, .int .u8 0, .int .u8 0, .int .u8 0, .int .u8 0, .int .u8 0] 38)) = w0 at hz n0 ⊢
  have hP0 : Non w0 p := by
    rcases HP.out with h | ⟨d, h, hc⟩
    · exact .inl h
    · exact .inr ⟨d, h, n0.cellOf hc⟩
  refine (there_non p w0 hP0).mono ?_
  rintro e w' ⟨rfl, rfl⟩
  clear hP0
  go_wp2_with (refine wp_store_agg rfl (.tmp 2) (.tmp 7) 38 32 rfl Tryd.sizeOf38 w.heap.size 0 rfl z32 38 hz _ rfl (by first | rfl | kernel_rfl) (by simp [Value.oneCell']) (by decide) z32 (by kernel_rfl) ?_; intro w5 j5 f5 z5)
  exact bodyPost_ret (results_cell Tryd.results20 Tryd.isAgg38 Tryd.sizeOf38 rfl j5 (by kernel_rfl)) rfl ⟨rfl, n0.trans f5 (fun k hk q => by omega)⟩
set_option maxRecDepth 100000 in
set_option maxHeartbeats 1000000 in
theorem sum_dig (d : Nat) (L : List UInt8) (w : World) (h : Dig w d L) (hL : Laid w) (hlen : L.length < 576460752303423488) : Calls Tryd.prog 20 #[.pointer (some ⟨d, 0, none⟩)] w fun e w' => e = .returned (hsh (sha L)) ∧ Nw w w' := by
  have HD : Hid (Dig w d L) := h
  have HL : Hid (Laid w) := hL
  have hs2 := hL.lt
  clear h hL
  go_enter Tryd.func20, Tryd.ntmps20
  go_wp2_with fail
  have hz := (heap_new w (.cells #[.int .u8 0, .int .u8 0, .int .u8 0, .int .u8 0, .int .u8 0, .int .u8 0, .int .u8 0, .int .u8 0, .int .u8 0, .int .u8 0, .int .u8 0, .int .u8 0, .int .u8 0, .int .u8 0, .int .u8 0, .int .u8 0, .int .u8 0, .int .u8 0, .int .u8 0, .int .u8 0, .int .u8 0, .int .u8 0, .int .u8 0, .int .u8 0, .int .u8 0, .int .u8 0, .int .u8 0, .int .u8 0, .int .u8 0, .int .u8 0, .int .u8 0, .int .u8 0] 38)).trans (show _ = some (.cells z32 38 (0, 0)) by kernel_rfl)
  have n0 : Nw w (w.alloc (.cells #[.int .u8 0, .int .u8 0, .int .u8 0, .int .u8 0, .int .u8 0, .int .u8 0, .int .u8 0, .int .u8 0, .int .u8 0, .int .u8 0, .int .u8 0, .int .u8 0, .int .u8 0, .int .u8 0, .int .u8 0, .int .u8 0, .int .u8 0, .int .u8 0, .int .u8 0, .int .u8 0, .int .u8 0, .int .u8 0, .int .u8 0, .int .u8 0, .int .u8 0, .int .u8 0, .int .u8 0, .int .u8 0, .int .u8 0, .int .u8 0, .int .u8 0, .int .u8 0] 38)) := (Fr.refl _ _).alloc _
  have s0 : (w.alloc (.cells #[.int .u8 0, .int .u8 0, .int .u8 0, .int .u8 0, .int .u8 0, .int .u8 0, .int .u8 0, .int .u8 0, .int .u8 0, .int .u8 0, .int .u8 0, .int .u8 0, .int .u8 0, .int .u8 0, .int .u8 0, .int .u8 0, .int .u8 0, .int .u8 0, .int .u8 0, .int .u8 0, .int .u8 0, .int .u8 0, .int .u8 0, .int .u8 0, .int .u8 0, .int .u8 0, .int .u8 0, .int .u8 0, .int .u8 0, .int .u8 0, .int .u8 0, .int .u8 0] 38)).heap.size = w.heap.size + 1 := World.size_alloc _ _
  generalize (w.alloc (.cells #[.int .u8 0, .int .u8 0, .int .u8 0, .int .u8 0, .int .u8 0, .int .u8 0, .int .u8 0, .int .u8 0, .int .u8 0, .int .u8 0, .int .u8 0, .int .u8 0, .int .u8 0, .int .u8 0, .int .u8 0, .int .u8 0, .int .u8 0, .int .u8 0, .int .u8 0, .int .u8 0, .int .u8 0, .int .u8 0, .int .u8 0, .int .u8 0, .int .u8 0, .int .u8 0, .int .u8 0, .int .u8 0, .int .u8 0, .int .u8 0, .int .u8 0, .int .u8 0] 38)) = w0 at hz n0 s0 ⊢
  have S0 : Hid (w0.heap.size = w.heap.size + 1) := s0
  have N0 : Hid (w.heap.size ≤ w0.heap.size) := n0.size
  clear s0
  have D0 := HD.out.keep n0 (fun f => f)
  have q := there_any d true w0 D0.made
  obtain ⟨blk, h1, h2, h3⟩ := D0
  obtain ⟨C, hC⟩ : ∃ C, C = dcs (st L (L.length / 64)) blk L.length := ⟨_, rfl⟩
  have hCs : C.size = 74 := by rw [hC]; exact dcs_size _ _ _ h1
  have hC1 : Hid (∀ u ∈ C.toList, u.oneCell' = true) := by unfold Hid; rw [hC]; exact dcs_one _ _ _
  rw [← hC] at h3
  have HC : Hid (C = dcs (st L (L.length / 64)) blk L.length) := hC
  have H1 : Hid (blk.length = 64) := h1
  have H2 : Hid (blk.take (L.length % 64) = L.drop (64 * (L.length / 64))) := h2
  clear hC h1 h2
  refine q.mono ?_
  rintro e w' ⟨rfl, rfl⟩
  clear q
  go_wp2_with first
    | (refine wp_load_agg rfl (.tmp 9) 78 74 rfl Tryd.isAgg78 Tryd.sizeOf78 d 0 rfl C tD (0, 0) h3 C hCs (fun j _ => by rw [Nat.zero_add]) ?_)
    | (refine wp_store_agg rfl (.tmp 3) (.tmp 10) 78 74 rfl Tryd.sizeOf78 w'.heap.size 0 rfl _ 78 (heap_new _ _) C rfl hCs hC1.out (by first | decide | exact Nat.le_refl _ | kernel_rfl) C (by simp [zc_d]) ?_; intro w5 j5 f5 z5)
    | (go_at_call 42; refine (end_any w'.heap.size L w5 ⟨blk, H1.out, H2.out, by rw [← HC.out]; exact j5⟩ (HL.out.k.nw (n0.tr (((Fr.refl _ _).alloc _).trans f5 (fun k hk q => by omega)))) (by have := N0.out; omega) hlen).mono ?_; rintro e6 w6 ⟨rfl, f6⟩; have z6 := (f6.block w.heap.size (Nat.lt_of_lt_of_le (heap_lt hz) (((Fr.refl _ w').alloc _).trans f5 (fun k hk q => by omega) : Nw w' w5).size) (by have := S0.out; omega)).trans (((((Fr.refl _ w').alloc _).trans f5 (fun k hk q => by omega) : Nw w' w5).block w.heap.size (heap_lt hz) (fun f => f)).trans hz); unfold hsh)
    | (refine wp_store_agg rfl (.tmp 2) (.tmp 11) 38 32 rfl Tryd.sizeOf38 w.heap.size 0 rfl z32 38 z6 (hcs (sha L) 32) rfl (hcs_size _ _) (hcs_one _ 32) (by decide) (hcs (sha L) 32) (by rw [z32_drop]; simp) ?_; intro w7 j7 f7 z7)
  have n5 : Nw w' w5 := ((Fr.refl _ _).alloc _).trans f5 (fun k hk q => by omega)
  exact bodyPost_ret (results_cell Tryd.results20 Tryd.isAgg38 Tryd.sizeOf38 rfl j7 (hcs_size _ _)) rfl ⟨rfl, ((n0.tr n5).trans f6 (fun k hk q => by have := N0.out; omega)).trans f7 (fun k hk q => by omega)⟩
end Go.Proofs.YtebbgpnhkpbefaaDoor
