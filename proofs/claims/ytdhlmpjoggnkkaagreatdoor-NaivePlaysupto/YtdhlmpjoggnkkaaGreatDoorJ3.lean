/- What a step with a log answers: the document. -/
import Derived.Test.YtdhlmpjoggnkkaaGreatDoorJ2
namespace Go.Proofs.YtdhlmpjoggnkkaaGreatDoor
open Go.RowKit
set_option linter.unusedVariables false
set_option linter.unusedSimpArgs false

theorem heap_fourth (w : World) (o p q r : Obj) : ((((w.alloc o).alloc p).alloc q).alloc r).heap[w.heap.size + 1 + 1 + 1]? = some r := by
  have := heap_third (w.alloc o) p q r
  rwa [World.size_alloc] at this
theorem heap_fifth (w : World) (o p q r s : Obj) : (((((w.alloc o).alloc p).alloc q).alloc r).alloc s).heap[w.heap.size + 1 + 1 + 1 + 1]? = some s := by
  have := heap_fourth (w.alloc o) p q r s
  rwa [World.size_alloc] at this

set_option maxRecDepth 100000 in
set_option maxHeartbeats 3000000 in
theorem meant_0 {w : World} (P : Value) (fc fp : Int) (m : Nat) (who kind : Int) (s : ByteArray) (x y z : Nat) (hk1 : -9223372036854775808 ≤ kind) (hk2 : kind ≤ 9223372036854775807) (hkd : kind % 7 = 0) (QF : ∀ W, Nw w W → Calls Tryz.prog 25 #[P, .string s] W fun e w' => e = .returned (.tuple #[.int .u64 (m : Int), flt fc fp]) ∧ Nw W w') :
    Calls Tryz.prog 8 #[P, .agg (opc who kind s x y z)] w fun e w' => e = .returned (.tuple #[.agg (tcs (m : Int) ⟨#[]⟩ zh (.slice none 0 0)), flt fc fp]) ∧ Nw w w' := by
  have QR := show Hid (∀ W, Calls Tryz.prog 6 #[.int .i64 kind, .int .i64 7] W fun e w' => e = .returned (.int .i64 0) ∧ w' = W) from fun W => by have q := round_any kind 7 hk1 hk2 (by decide) (by decide) W; rw [hkd] at q; exact q
  have QF' := show Hid (∀ W, Nw w W → Calls Tryz.prog 25 #[P, .string s] W fun e w' => e = .returned (.tuple #[.int .u64 (m : Int), flt fc fp]) ∧ Nw W w') from QF
  clear QF hkd
  go_enter Tryz.func8, Tryz.ntmps8
  go_wp2_with fail
  rw [tz_h]
  refine (QR.out _).mono ?_
  rintro e w1 ⟨rfl, h1⟩
  have b0 : w1.heap[w.heap.size]? = some (.cells (opc who kind s x y z) 53) := by rw [h1]; (repeat first | with_reducible exact heap_new _ _ | with_reducible exact heap_new _ _ | with_reducible exact heap_next _ _ _ | with_reducible exact heap_third _ _ _ _ | with_reducible refine hp_dr ?_ | (with_reducible refine hp_ne ?_ ?_; focus omega) | (with_reducible refine hp_al ?_ ?_; focus (first | omega | (simp <;> omega))) | with_reducible apply hp_set) <;> rfl
  have b1 : w1.heap[w.heap.size + 1]? = some (.cells (tcs 0 ⟨#[]⟩ zh (.slice none 0 0)) 59) := by rw [h1]; (repeat first | with_reducible exact heap_next _ _ _ | with_reducible exact heap_new _ _ | with_reducible exact heap_next _ _ _ | with_reducible exact heap_third _ _ _ _ | with_reducible refine hp_dr ?_ | (with_reducible refine hp_ne ?_ ?_; focus omega) | (with_reducible refine hp_al ?_ ?_; focus (first | omega | (simp <;> omega))) | with_reducible apply hp_set) <;> rfl
  have b2 : w1.heap[w.heap.size + 1 + 1]? = some (.cells #[.int .i64 0, .int .i64 0] 61) := by rw [h1]; (repeat first | with_reducible exact heap_third _ _ _ _ | with_reducible exact heap_new _ _ | with_reducible exact heap_next _ _ _ | with_reducible exact heap_third _ _ _ _ | with_reducible refine hp_dr ?_ | (with_reducible refine hp_ne ?_ ?_; focus omega) | (with_reducible refine hp_al ?_ ?_; focus (first | omega | (simp <;> omega))) | with_reducible apply hp_set) <;> rfl
  have b3 : w1.heap[w.heap.size + 1 + 1 + 1]? = some (.cells (tcs 0 ⟨#[]⟩ zh (.slice none 0 0)) 59) := by rw [h1]; exact hp_al (by simp) (heap_fourth _ _ _ _ _)
  have b4 : w1.heap[w.heap.size + 1 + 1 + 1 + 1]? = some (.cells #[.int .i64 0, .int .i64 0] 61) := by rw [h1]; exact heap_fifth _ _ _ _ _ _
  have N1 : Hid (Nw w w1) := by rw [h1]; exact ((((nwa w _).alloc _).alloc _).alloc _).alloc _
  clear h1
  have o1 := (cell_of b0 1).trans rfl
  have o2 := (cell_of b0 2).trans rfl
  have o3 := (cell_of b0 3).trans rfl
  have o4 := (cell_of b0 4).trans rfl
  have o5 := (cell_of b0 5).trans rfl
  have l0 := heap_lt b0
  obtain ⟨br, hbr⟩ : ∃ br, br = w.heap.size + 1 := ⟨_, rfl⟩
  obtain ⟨bf, hbf⟩ : ∃ bf, bf = w.heap.size + 1 + 1 := ⟨_, rfl⟩
  obtain ⟨bt, hbt⟩ : ∃ bt, bt = w.heap.size + 1 + 1 + 1 := ⟨_, rfl⟩
  obtain ⟨bg, hbg⟩ : ∃ bg, bg = w.heap.size + 1 + 1 + 1 + 1 := ⟨_, rfl⟩
  have HB : Hid (br ≠ bf ∧ br ≠ bt ∧ br ≠ bg ∧ bf ≠ bt ∧ bf ≠ bg ∧ bt ≠ bg ∧ w.heap.size < br ∧ w.heap.size < bf ∧ w.heap.size < bt ∧ w.heap.size < bg) := ⟨by omega, by omega, by omega, by omega, by omega, by omega, by omega, by omega, by omega, by omega⟩
  rw [← hbg] at b4 ⊢
  rw [← hbt] at b3 ⊢
  rw [← hbf] at b2 ⊢
  rw [← hbr] at b1 ⊢
  have B1 : Hid (w1.heap[br]? = some (.cells (tcs 0 ⟨#[]⟩ zh (.slice none 0 0)) 59)) := b1
  have B2 : Hid (w1.heap[bf]? = some (.cells #[.int .i64 0, .int .i64 0] 61)) := b2
  have B3 : Hid (w1.heap[bt]? = some (.cells (tcs 0 ⟨#[]⟩ zh (.slice none 0 0)) 59)) := b3
  have B4 : Hid (w1.heap[bg]? = some (.cells #[.int .i64 0, .int .i64 0] 61)) := b4
  clear hbr hbt hbf hbg b0 b1 b2 b3 b4
  go_wp2_with fail
  refine (QF'.out _ N1.out).mono ?_
  rintro e w2 ⟨rfl, n2⟩
  have C1 : Hid (w2.heap[br]? = some (.cells (tcs 0 ⟨#[]⟩ zh (.slice none 0 0)) 59)) := (n2.block _ (heap_lt B1.out) (fun f => f)).trans B1.out
  have C2 : Hid (w2.heap[bf]? = some (.cells #[.int .i64 0, .int .i64 0] 61)) := (n2.block _ (heap_lt B2.out) (fun f => f)).trans B2.out
  have C3 : Hid (w2.heap[bt]? = some (.cells (tcs 0 ⟨#[]⟩ zh (.slice none 0 0)) 59)) := (n2.block _ (heap_lt B3.out) (fun f => f)).trans B3.out
  have C4 : Hid (w2.heap[bg]? = some (.cells #[.int .i64 0, .int .i64 0] 61)) := (n2.block _ (heap_lt B4.out) (fun f => f)).trans B4.out
  have N2 : Hid (Nw w w2) := N1.out.tr n2
  clear n2 B1 B2 B3 B4 o1 o2 o3 o4 o5 l0
  have lr := heap_lt C1.out
  have lt := heap_lt C3.out
  have lg := heap_lt C4.out
  have hs35 : (tcs (m : Int) ⟨#[]⟩ zh (.slice none 0 0)).size = 35 := tcs_size _ _ _ zh32 _
  have c2 := (cell_of C3.out 0).trans (tcs_0 _ _ _ _)
  have f2 := frozen_of C3.out 0
  have hbg1 := hp_ne (o := 0) (u := .int .u64 (m : Int)) (fun q : bg = bt => HB.out.2.2.2.2.2.1 q.symm) C4.out
  have hbt1 : (w2.setCell ⟨bt, 0, none⟩ (.int .u64 (m : Int))).heap[bt]? = some (.cells (tcs (m : Int) ⟨#[]⟩ zh (.slice none 0 0)) 59) := hp_set C3.out (tcs_set0 _ _ _ _ _)
  have hbr1 := hp_ne (o := 0) (u := .int .u64 (m : Int)) (fun q : br = bt => HB.out.2.1 q) C1.out
  have hbf1 := hp_ne (o := 0) (u := .int .u64 (m : Int)) (fun q : bf = bt => HB.out.2.2.2.1 q) C2.out
  have F2 : Hid (Fr (fun k => k = bt) w2 (w2.setCell ⟨bt, 0, none⟩ (.int .u64 (m : Int)))) := Fr.setCell (S := fun k => k = bt) (Fr.refl _ w2) ⟨bt, 0, none⟩ _ (fun _ => rfl)
  go_wp2_with (refine wp_store_agg rfl (.tmp 7) (.tmp 31) 61 2 rfl Tryz.sizeOf61 bg 0 rfl _ 61 hbg1 #[.int .i64 fc, .int .i64 fp] rfl rfl (by simp [Value.oneCell']) (by decide) #[.int .i64 fc, .int .i64 fp] rfl ?_; intro w3 j3 f3 _)
  have D1 : Hid (w3.heap[br]? = some (.cells (tcs 0 ⟨#[]⟩ zh (.slice none 0 0)) 59)) := (f3.block _ (heap_lt hbr1) (fun q => HB.out.2.2.1 q)).trans hbr1
  have D2 : Hid (w3.heap[bf]? = some (.cells #[.int .i64 0, .int .i64 0] 61)) := (f3.block _ (heap_lt hbf1) (fun q => HB.out.2.2.2.2.1 q)).trans hbf1
  have D3 : Hid (w3.heap[bt]? = some (.cells (tcs (m : Int) ⟨#[]⟩ zh (.slice none 0 0)) 59)) := (f3.block _ (heap_lt hbt1) (fun q => HB.out.2.2.2.2.2.1 q)).trans hbt1
  have D4 : Hid (w3.heap[bg]? = some (.cells #[.int .i64 fc, .int .i64 fp] 61)) := j3
  have F3 : Hid (Fr (fun k => k = bt ∨ k = bg) w2 w3) := (F2.out.mono (fun _ _ q => .inl q)).trans f3 (fun _ _ q => .inr q)
  clear f3 j3
  have hkp : Hid (∀ V, Fr (fun k => k = br ∨ k = bf) w3 V → V.heap[bt]? = some (.cells (tcs (m : Int) ⟨#[]⟩ zh (.slice none 0 0)) 59) ∧ V.heap[bg]? = some (.cells #[.int .i64 fc, .int .i64 fp] 61)) := fun V hV => ⟨(hV.block _ (heap_lt D3.out) (fun q => by have := HB.out; omega)).trans D3.out, (hV.block _ (heap_lt D4.out) (fun q => by have := HB.out; omega)).trans D4.out⟩
  have nb : Nw w3 w3.drew := (Fr.refl _ _).drew
  refine wp_region_held_drew (S := fun V => V.heap[bt]? = some (.cells (tcs (m : Int) ⟨#[]⟩ zh (.slice none 0 0)) 59) ∧ V.heap[bg]? = some (.cells #[.int .i64 fc, .int .i64 fp] 61)) (by kernel_rfl) (hkp.out _ (nb.mono (fun _ _ f => f.elim))) ?_
  intro hS0
  refine wpAnyH_take (i := 0) (oi := ({ dst := some 90, op := Op.load 59 (Operand.tmp 6), type := 59, pos := "law.go:91", after := #[], guard := none } : Oper)) (v := .agg (tcs (m : Int) ⟨#[]⟩ zh (.slice none 0 0))) rfl (by kernel_rfl) (by kernel_rfl) (by kernel_rfl) (fun _ _ _ h => h) (yields_load_agg rfl (.tmp 6) 59 35 rfl Tryz.isAgg59 Tryz.sizeOf59 bt rfl 59 _ hs35 (fun w hw => hw.1)) hS0 ?_
  try simp only [Act.put, List.setIfInBounds_toArray, List.set_cons_zero, List.set_cons_succ]
  refine wpAnyH_take (i := 1) (oi := ({ dst := some 91, op := Op.load 61 (Operand.tmp 7), type := 61, pos := "law.go:91", after := #[{ on := 2, ground := Ground.gcOnly Departure.lateStores }], guard := none } : Oper)) (v := flt fc fp) rfl (by kernel_rfl) (by kernel_rfl) (by kernel_rfl) (fun _ _ _ h => h) (yields_load_agg rfl (.tmp 7) 61 2 rfl Tryz.isAgg61 Tryz.sizeOf61 bg rfl 61 _ rfl (fun w hw => hw.2)) hS0 ?_
  try simp only [Act.put, List.setIfInBounds_toArray, List.set_cons_zero, List.set_cons_succ]
  have E1 : w3.drew.heap[br]? = some (.cells (tcs 0 ⟨#[]⟩ zh (.slice none 0 0)) 59) := D1.out
  refine wpAnyH_ready (rs := [2]) (by kernel_rfl) (by simp) ?_
  refine AllReadyH.cons rfl (fun K' hK => ?_) AllReadyH.nil
  refine step_store_agg rfl (.tmp 4) (.tmp 90) 59 35 rfl Tryz.sizeOf59 br 0 rfl _ 59 E1 (tcs (m : Int) ⟨#[]⟩ zh (.slice none 0 0)) rfl hs35 (tcs_one _ _ _ _ _ _) (Nat.le_of_eq (by rw [tcs_size _ _ _ zh32])) (tcs (m : Int) ⟨#[]⟩ zh (.slice none 0 0)) (by rw [drop_all (tcs_size _ _ _ zh32 _)]; simp) ?_
  intro w4 j4 f4 z4
  have f4b : Fr (fun k => k = br ∨ k = bf) w3 w4 := ((nb.mono (fun _ _ f => f.elim)).trans f4 (fun _ _ q => .inl q))
  have E2 : w4.heap[bf]? = some (.cells #[.int .i64 0, .int .i64 0] 61) := (f4.block _ (heap_lt D2.out) (fun q => HB.out.1 q.symm)).trans D2.out
  refine hK.out _ _ (hkp.out _ f4b) (fun hS0 => ?_)
  try simp only [Act.put, List.setIfInBounds_toArray, List.set_cons_zero, List.set_cons_succ]
  refine wpAnyH_ready (rs := [3]) (by kernel_rfl) (by simp) ?_
  refine AllReadyH.cons rfl (fun K' hK => ?_) AllReadyH.nil
  refine step_store_agg rfl (.tmp 5) (.tmp 91) 61 2 rfl Tryz.sizeOf61 bf 0 rfl _ 61 E2 #[.int .i64 fc, .int .i64 fp] rfl rfl (by simp [Value.oneCell']) (by decide) #[.int .i64 fc, .int .i64 fp] rfl ?_
  intro w5 j5 f5 z5
  have f5b : Fr (fun k => k = br ∨ k = bf) w3 w5 := f4b.trans f5 (fun _ _ q => .inr q)
  have j45 := (f5.block _ (heap_lt j4) (fun q => HB.out.1 q)).trans j4
  refine hK.out _ _ (hkp.out _ f5b) (fun hS0 => ?_)
  try simp only [Act.put, List.setIfInBounds_toArray, List.set_cons_zero, List.set_cons_succ]
  refine wpAnyH_done (by kernel_rfl) ?_ _
  go_wp2_with fail
  exact bodyPost_ret (results_cells Tryz.results8 Tryz.isAgg59 Tryz.sizeOf59 Tryz.isAgg61 Tryz.sizeOf61 rfl rfl j45 hs35 j5 rfl) rfl ⟨rfl, (N2.out.trans F3.out (fun k hk q => by have := HB.out; omega)).trans f5b (fun k hk q => by have := HB.out; omega)⟩

set_option maxRecDepth 100000 in
set_option maxHeartbeats 3000000 in
theorem meant_app {w : World} (P : Value) (fc fp : Int) (m : Nat) (S : Nat → Prop) (G : World → World → Prop) (hSlt : ∀ k, S k → k < w.heap.size) (hG : ∀ W A B : World, Nw w W → G W A → ∀ T : Nat → Prop, Fr T A B → (∀ k, T k → w.heap.size ≤ k) → (∀ k, T k → k < W.heap.size) → G W B) (who kind : Int) (s : ByteArray) (x y z : Nat) (hk1 : -9223372036854775808 ≤ kind) (hk2 : kind ≤ 9223372036854775807) (hkd : kind % 7 = 0) (QF : ∀ W, Nw w W → Calls Tryz.prog 25 #[P, .string s] W fun e w' => e = .returned (.tuple #[.int .u64 (m : Int), flt fc fp]) ∧ G W w' ∧ Fr S W w') :
    Calls Tryz.prog 8 #[P, .agg (opc who kind s x y z)] w fun e w' => e = .returned (.tuple #[.agg (tcs (m : Int) ⟨#[]⟩ zh (.slice none 0 0)), flt fc fp]) ∧ (∃ W, Nw w W ∧ G W w') ∧ Fr S w w' := by
  have QR := show Hid (∀ W, Calls Tryz.prog 6 #[.int .i64 kind, .int .i64 7] W fun e w' => e = .returned (.int .i64 0) ∧ w' = W) from fun W => by have q := round_any kind 7 hk1 hk2 (by decide) (by decide) W; rw [hkd] at q; exact q
  have QF' := show Hid (∀ W, Nw w W → Calls Tryz.prog 25 #[P, .string s] W fun e w' => e = .returned (.tuple #[.int .u64 (m : Int), flt fc fp]) ∧ G W w' ∧ Fr S W w') from QF
  clear QF hkd
  go_enter Tryz.func8, Tryz.ntmps8
  go_wp2_with fail
  rw [tz_h]
  refine (QR.out _).mono ?_
  rintro e w1 ⟨rfl, h1⟩
  have b0 : w1.heap[w.heap.size]? = some (.cells (opc who kind s x y z) 53) := by rw [h1]; (repeat first | with_reducible exact heap_new _ _ | with_reducible exact heap_new _ _ | with_reducible exact heap_next _ _ _ | with_reducible exact heap_third _ _ _ _ | with_reducible refine hp_dr ?_ | (with_reducible refine hp_ne ?_ ?_; focus omega) | (with_reducible refine hp_al ?_ ?_; focus (first | omega | (simp <;> omega))) | with_reducible apply hp_set) <;> rfl
  have b1 : w1.heap[w.heap.size + 1]? = some (.cells (tcs 0 ⟨#[]⟩ zh (.slice none 0 0)) 59) := by rw [h1]; (repeat first | with_reducible exact heap_next _ _ _ | with_reducible exact heap_new _ _ | with_reducible exact heap_next _ _ _ | with_reducible exact heap_third _ _ _ _ | with_reducible refine hp_dr ?_ | (with_reducible refine hp_ne ?_ ?_; focus omega) | (with_reducible refine hp_al ?_ ?_; focus (first | omega | (simp <;> omega))) | with_reducible apply hp_set) <;> rfl
  have b2 : w1.heap[w.heap.size + 1 + 1]? = some (.cells #[.int .i64 0, .int .i64 0] 61) := by rw [h1]; (repeat first | with_reducible exact heap_third _ _ _ _ | with_reducible exact heap_new _ _ | with_reducible exact heap_next _ _ _ | with_reducible exact heap_third _ _ _ _ | with_reducible refine hp_dr ?_ | (with_reducible refine hp_ne ?_ ?_; focus omega) | (with_reducible refine hp_al ?_ ?_; focus (first | omega | (simp <;> omega))) | with_reducible apply hp_set) <;> rfl
  have b3 : w1.heap[w.heap.size + 1 + 1 + 1]? = some (.cells (tcs 0 ⟨#[]⟩ zh (.slice none 0 0)) 59) := by rw [h1]; exact hp_al (by simp) (heap_fourth _ _ _ _ _)
  have b4 : w1.heap[w.heap.size + 1 + 1 + 1 + 1]? = some (.cells #[.int .i64 0, .int .i64 0] 61) := by rw [h1]; exact heap_fifth _ _ _ _ _ _
  have N1 : Hid (Nw w w1) := by rw [h1]; exact ((((nwa w _).alloc _).alloc _).alloc _).alloc _
  clear h1
  have o1 := (cell_of b0 1).trans rfl
  have o2 := (cell_of b0 2).trans rfl
  have o3 := (cell_of b0 3).trans rfl
  have o4 := (cell_of b0 4).trans rfl
  have o5 := (cell_of b0 5).trans rfl
  have l0 := heap_lt b0
  obtain ⟨br, hbr⟩ : ∃ br, br = w.heap.size + 1 := ⟨_, rfl⟩
  obtain ⟨bf, hbf⟩ : ∃ bf, bf = w.heap.size + 1 + 1 := ⟨_, rfl⟩
  obtain ⟨bt, hbt⟩ : ∃ bt, bt = w.heap.size + 1 + 1 + 1 := ⟨_, rfl⟩
  obtain ⟨bg, hbg⟩ : ∃ bg, bg = w.heap.size + 1 + 1 + 1 + 1 := ⟨_, rfl⟩
  have HB : Hid (br ≠ bf ∧ br ≠ bt ∧ br ≠ bg ∧ bf ≠ bt ∧ bf ≠ bg ∧ bt ≠ bg ∧ w.heap.size < br ∧ w.heap.size < bf ∧ w.heap.size < bt ∧ w.heap.size < bg) := ⟨by omega, by omega, by omega, by omega, by omega, by omega, by omega, by omega, by omega, by omega⟩
  rw [← hbg] at b4 ⊢
  rw [← hbt] at b3 ⊢
  rw [← hbf] at b2 ⊢
  rw [← hbr] at b1 ⊢
  have B1 : Hid (w1.heap[br]? = some (.cells (tcs 0 ⟨#[]⟩ zh (.slice none 0 0)) 59)) := b1
  have B2 : Hid (w1.heap[bf]? = some (.cells #[.int .i64 0, .int .i64 0] 61)) := b2
  have B3 : Hid (w1.heap[bt]? = some (.cells (tcs 0 ⟨#[]⟩ zh (.slice none 0 0)) 59)) := b3
  have B4 : Hid (w1.heap[bg]? = some (.cells #[.int .i64 0, .int .i64 0] 61)) := b4
  clear hbr hbt hbf hbg b0 b1 b2 b3 b4
  go_wp2_with fail
  refine (QF'.out _ N1.out).mono ?_
  rintro e w2 ⟨rfl, g2, n2⟩
  have C1 : Hid (w2.heap[br]? = some (.cells (tcs 0 ⟨#[]⟩ zh (.slice none 0 0)) 59)) := (n2.block _ (heap_lt B1.out) (fun q => by have := hSlt _ q; have := HB.out; omega)).trans B1.out
  have C2 : Hid (w2.heap[bf]? = some (.cells #[.int .i64 0, .int .i64 0] 61)) := (n2.block _ (heap_lt B2.out) (fun q => by have := hSlt _ q; have := HB.out; omega)).trans B2.out
  have C3 : Hid (w2.heap[bt]? = some (.cells (tcs 0 ⟨#[]⟩ zh (.slice none 0 0)) 59)) := (n2.block _ (heap_lt B3.out) (fun q => by have := hSlt _ q; have := HB.out; omega)).trans B3.out
  have C4 : Hid (w2.heap[bg]? = some (.cells #[.int .i64 0, .int .i64 0] 61)) := (n2.block _ (heap_lt B4.out) (fun q => by have := hSlt _ q; have := HB.out; omega)).trans B4.out
  have N2 : Hid (Fr S w w2) := (N1.out.mono (fun _ _ f => f.elim)).trans n2 (fun _ _ q => q)
  have G2 : Hid (G w1 w2) := g2
  have LB : Hid (br < w1.heap.size ∧ bf < w1.heap.size ∧ bt < w1.heap.size ∧ bg < w1.heap.size) := ⟨heap_lt B1.out, heap_lt B2.out, heap_lt B3.out, heap_lt B4.out⟩
  clear g2 n2 B1 B2 B3 B4 o1 o2 o3 o4 o5 l0
  have lr := heap_lt C1.out
  have lt := heap_lt C3.out
  have lg := heap_lt C4.out
  have hs35 : (tcs (m : Int) ⟨#[]⟩ zh (.slice none 0 0)).size = 35 := tcs_size _ _ _ zh32 _
  have c2 := (cell_of C3.out 0).trans (tcs_0 _ _ _ _)
  have f2 := frozen_of C3.out 0
  have hbg1 := hp_ne (o := 0) (u := .int .u64 (m : Int)) (fun q : bg = bt => HB.out.2.2.2.2.2.1 q.symm) C4.out
  have hbt1 : (w2.setCell ⟨bt, 0, none⟩ (.int .u64 (m : Int))).heap[bt]? = some (.cells (tcs (m : Int) ⟨#[]⟩ zh (.slice none 0 0)) 59) := hp_set C3.out (tcs_set0 _ _ _ _ _)
  have hbr1 := hp_ne (o := 0) (u := .int .u64 (m : Int)) (fun q : br = bt => HB.out.2.1 q) C1.out
  have hbf1 := hp_ne (o := 0) (u := .int .u64 (m : Int)) (fun q : bf = bt => HB.out.2.2.2.1 q) C2.out
  have F2 : Hid (Fr (fun k => k = bt) w2 (w2.setCell ⟨bt, 0, none⟩ (.int .u64 (m : Int)))) := Fr.setCell (S := fun k => k = bt) (Fr.refl _ w2) ⟨bt, 0, none⟩ _ (fun _ => rfl)
  go_wp2_with (refine wp_store_agg rfl (.tmp 7) (.tmp 31) 61 2 rfl Tryz.sizeOf61 bg 0 rfl _ 61 hbg1 #[.int .i64 fc, .int .i64 fp] rfl rfl (by simp [Value.oneCell']) (by decide) #[.int .i64 fc, .int .i64 fp] rfl ?_; intro w3 j3 f3 _)
  have D1 : Hid (w3.heap[br]? = some (.cells (tcs 0 ⟨#[]⟩ zh (.slice none 0 0)) 59)) := (f3.block _ (heap_lt hbr1) (fun q => HB.out.2.2.1 q)).trans hbr1
  have D2 : Hid (w3.heap[bf]? = some (.cells #[.int .i64 0, .int .i64 0] 61)) := (f3.block _ (heap_lt hbf1) (fun q => HB.out.2.2.2.2.1 q)).trans hbf1
  have D3 : Hid (w3.heap[bt]? = some (.cells (tcs (m : Int) ⟨#[]⟩ zh (.slice none 0 0)) 59)) := (f3.block _ (heap_lt hbt1) (fun q => HB.out.2.2.2.2.2.1 q)).trans hbt1
  have D4 : Hid (w3.heap[bg]? = some (.cells #[.int .i64 fc, .int .i64 fp] 61)) := j3
  have F3 : Hid (Fr (fun k => k = bt ∨ k = bg) w2 w3) := (F2.out.mono (fun _ _ q => .inl q)).trans f3 (fun _ _ q => .inr q)
  clear f3 j3
  have hkp : Hid (∀ V, Fr (fun k => k = br ∨ k = bf) w3 V → V.heap[bt]? = some (.cells (tcs (m : Int) ⟨#[]⟩ zh (.slice none 0 0)) 59) ∧ V.heap[bg]? = some (.cells #[.int .i64 fc, .int .i64 fp] 61)) := fun V hV => ⟨(hV.block _ (heap_lt D3.out) (fun q => by have := HB.out; omega)).trans D3.out, (hV.block _ (heap_lt D4.out) (fun q => by have := HB.out; omega)).trans D4.out⟩
  have nb : Nw w3 w3.drew := (Fr.refl _ _).drew
  refine wp_region_held_drew (S := fun V => V.heap[bt]? = some (.cells (tcs (m : Int) ⟨#[]⟩ zh (.slice none 0 0)) 59) ∧ V.heap[bg]? = some (.cells #[.int .i64 fc, .int .i64 fp] 61)) (by kernel_rfl) (hkp.out _ (nb.mono (fun _ _ f => f.elim))) ?_
  intro hS0
  refine wpAnyH_take (i := 0) (oi := ({ dst := some 90, op := Op.load 59 (Operand.tmp 6), type := 59, pos := "law.go:91", after := #[], guard := none } : Oper)) (v := .agg (tcs (m : Int) ⟨#[]⟩ zh (.slice none 0 0))) rfl (by kernel_rfl) (by kernel_rfl) (by kernel_rfl) (fun _ _ _ h => h) (yields_load_agg rfl (.tmp 6) 59 35 rfl Tryz.isAgg59 Tryz.sizeOf59 bt rfl 59 _ hs35 (fun w hw => hw.1)) hS0 ?_
  try simp only [Act.put, List.setIfInBounds_toArray, List.set_cons_zero, List.set_cons_succ]
  refine wpAnyH_take (i := 1) (oi := ({ dst := some 91, op := Op.load 61 (Operand.tmp 7), type := 61, pos := "law.go:91", after := #[{ on := 2, ground := Ground.gcOnly Departure.lateStores }], guard := none } : Oper)) (v := flt fc fp) rfl (by kernel_rfl) (by kernel_rfl) (by kernel_rfl) (fun _ _ _ h => h) (yields_load_agg rfl (.tmp 7) 61 2 rfl Tryz.isAgg61 Tryz.sizeOf61 bg rfl 61 _ rfl (fun w hw => hw.2)) hS0 ?_
  try simp only [Act.put, List.setIfInBounds_toArray, List.set_cons_zero, List.set_cons_succ]
  have E1 : w3.drew.heap[br]? = some (.cells (tcs 0 ⟨#[]⟩ zh (.slice none 0 0)) 59) := D1.out
  refine wpAnyH_ready (rs := [2]) (by kernel_rfl) (by simp) ?_
  refine AllReadyH.cons rfl (fun K' hK => ?_) AllReadyH.nil
  refine step_store_agg rfl (.tmp 4) (.tmp 90) 59 35 rfl Tryz.sizeOf59 br 0 rfl _ 59 E1 (tcs (m : Int) ⟨#[]⟩ zh (.slice none 0 0)) rfl hs35 (tcs_one _ _ _ _ _ _) (Nat.le_of_eq (by rw [tcs_size _ _ _ zh32])) (tcs (m : Int) ⟨#[]⟩ zh (.slice none 0 0)) (by rw [drop_all (tcs_size _ _ _ zh32 _)]; simp) ?_
  intro w4 j4 f4 z4
  have f4b : Fr (fun k => k = br ∨ k = bf) w3 w4 := ((nb.mono (fun _ _ f => f.elim)).trans f4 (fun _ _ q => .inl q))
  have E2 : w4.heap[bf]? = some (.cells #[.int .i64 0, .int .i64 0] 61) := (f4.block _ (heap_lt D2.out) (fun q => HB.out.1 q.symm)).trans D2.out
  refine hK.out _ _ (hkp.out _ f4b) (fun hS0 => ?_)
  try simp only [Act.put, List.setIfInBounds_toArray, List.set_cons_zero, List.set_cons_succ]
  refine wpAnyH_ready (rs := [3]) (by kernel_rfl) (by simp) ?_
  refine AllReadyH.cons rfl (fun K' hK => ?_) AllReadyH.nil
  refine step_store_agg rfl (.tmp 5) (.tmp 91) 61 2 rfl Tryz.sizeOf61 bf 0 rfl _ 61 E2 #[.int .i64 fc, .int .i64 fp] rfl rfl (by simp [Value.oneCell']) (by decide) #[.int .i64 fc, .int .i64 fp] rfl ?_
  intro w5 j5 f5 z5
  have f5b : Fr (fun k => k = br ∨ k = bf) w3 w5 := f4b.trans f5 (fun _ _ q => .inr q)
  have j45 := (f5.block _ (heap_lt j4) (fun q => HB.out.1 q)).trans j4
  refine hK.out _ _ (hkp.out _ f5b) (fun hS0 => ?_)
  try simp only [Act.put, List.setIfInBounds_toArray, List.set_cons_zero, List.set_cons_succ]
  refine wpAnyH_done (by kernel_rfl) ?_ _
  go_wp2_with fail
  have FF : Fr (fun k => k = bt ∨ k = bg ∨ k = br ∨ k = bf) w2 w5 := (F3.out.mono (fun _ _ q => by omega)).trans f5b (fun _ _ q => by omega)
  exact bodyPost_ret (results_cells Tryz.results8 Tryz.isAgg59 Tryz.sizeOf59 Tryz.isAgg61 Tryz.sizeOf61 rfl rfl j45 hs35 j5 rfl) rfl ⟨rfl, ⟨w1, N1.out, hG w1 w2 w5 N1.out G2.out (fun k => k = bt ∨ k = bg ∨ k = br ∨ k = bf) FF (fun k q => by have := HB.out; omega) (fun k q => by have := LB.out; omega)⟩, (N2.out.trans F3.out (fun k hk q => (by have := HB.out; omega : False).elim)).trans f5b (fun k hk q => (by have := HB.out; omega : False).elim)⟩

set_option maxRecDepth 100000 in
set_option maxHeartbeats 3000000 in
theorem meant_1 {w : World} (P : Value) (fc fp : Int) (r : ByteArray) (who kind : Int) (s : ByteArray) (x y z : Nat) (hk1 : -9223372036854775808 ≤ kind) (hk2 : kind ≤ 9223372036854775807) (hkd : kind % 7 = 1) (QF : ∀ W, Nw w W → Calls Tryz.prog 26 #[P, .int .u64 (x : Int)] W fun e w' => e = .returned (.tuple #[.string r, flt fc fp]) ∧ Nw W w') :
    Calls Tryz.prog 8 #[P, .agg (opc who kind s x y z)] w fun e w' => e = .returned (.tuple #[.agg (tcs 0 r zh (.slice none 0 0)), flt fc fp]) ∧ Nw w w' := by
  have QR := show Hid (∀ W, Calls Tryz.prog 6 #[.int .i64 kind, .int .i64 7] W fun e w' => e = .returned (.int .i64 1) ∧ w' = W) from fun W => by have q := round_any kind 7 hk1 hk2 (by decide) (by decide) W; rw [hkd] at q; exact q
  have QF' := show Hid (∀ W, Nw w W → Calls Tryz.prog 26 #[P, .int .u64 (x : Int)] W fun e w' => e = .returned (.tuple #[.string r, flt fc fp]) ∧ Nw W w') from QF
  clear QF hkd
  go_enter Tryz.func8, Tryz.ntmps8
  go_wp2_with fail
  rw [tz_h]
  refine (QR.out _).mono ?_
  rintro e w1 ⟨rfl, h1⟩
  have b0 : w1.heap[w.heap.size]? = some (.cells (opc who kind s x y z) 53) := by rw [h1]; (repeat first | with_reducible exact heap_new _ _ | with_reducible exact heap_new _ _ | with_reducible exact heap_next _ _ _ | with_reducible exact heap_third _ _ _ _ | with_reducible refine hp_dr ?_ | (with_reducible refine hp_ne ?_ ?_; focus omega) | (with_reducible refine hp_al ?_ ?_; focus (first | omega | (simp <;> omega))) | with_reducible apply hp_set) <;> rfl
  have b1 : w1.heap[w.heap.size + 1]? = some (.cells (tcs 0 ⟨#[]⟩ zh (.slice none 0 0)) 59) := by rw [h1]; (repeat first | with_reducible exact heap_next _ _ _ | with_reducible exact heap_new _ _ | with_reducible exact heap_next _ _ _ | with_reducible exact heap_third _ _ _ _ | with_reducible refine hp_dr ?_ | (with_reducible refine hp_ne ?_ ?_; focus omega) | (with_reducible refine hp_al ?_ ?_; focus (first | omega | (simp <;> omega))) | with_reducible apply hp_set) <;> rfl
  have b2 : w1.heap[w.heap.size + 1 + 1]? = some (.cells #[.int .i64 0, .int .i64 0] 61) := by rw [h1]; (repeat first | with_reducible exact heap_third _ _ _ _ | with_reducible exact heap_new _ _ | with_reducible exact heap_next _ _ _ | with_reducible exact heap_third _ _ _ _ | with_reducible refine hp_dr ?_ | (with_reducible refine hp_ne ?_ ?_; focus omega) | (with_reducible refine hp_al ?_ ?_; focus (first | omega | (simp <;> omega))) | with_reducible apply hp_set) <;> rfl
  have b3 : w1.heap[w.heap.size + 1 + 1 + 1]? = some (.cells (tcs 0 ⟨#[]⟩ zh (.slice none 0 0)) 59) := by rw [h1]; exact hp_al (by simp) (heap_fourth _ _ _ _ _)
  have b4 : w1.heap[w.heap.size + 1 + 1 + 1 + 1]? = some (.cells #[.int .i64 0, .int .i64 0] 61) := by rw [h1]; exact heap_fifth _ _ _ _ _ _
  have N1 : Hid (Nw w w1) := by rw [h1]; exact ((((nwa w _).alloc _).alloc _).alloc _).alloc _
  clear h1
  have o1 := (cell_of b0 1).trans rfl
  have o2 := (cell_of b0 2).trans rfl
  have o3 := (cell_of b0 3).trans rfl
  have o4 := (cell_of b0 4).trans rfl
  have o5 := (cell_of b0 5).trans rfl
  have l0 := heap_lt b0
  obtain ⟨br, hbr⟩ : ∃ br, br = w.heap.size + 1 := ⟨_, rfl⟩
  obtain ⟨bf, hbf⟩ : ∃ bf, bf = w.heap.size + 1 + 1 := ⟨_, rfl⟩
  obtain ⟨bt, hbt⟩ : ∃ bt, bt = w.heap.size + 1 + 1 + 1 := ⟨_, rfl⟩
  obtain ⟨bg, hbg⟩ : ∃ bg, bg = w.heap.size + 1 + 1 + 1 + 1 := ⟨_, rfl⟩
  have HB : Hid (br ≠ bf ∧ br ≠ bt ∧ br ≠ bg ∧ bf ≠ bt ∧ bf ≠ bg ∧ bt ≠ bg ∧ w.heap.size < br ∧ w.heap.size < bf ∧ w.heap.size < bt ∧ w.heap.size < bg) := ⟨by omega, by omega, by omega, by omega, by omega, by omega, by omega, by omega, by omega, by omega⟩
  rw [← hbg] at b4 ⊢
  rw [← hbt] at b3 ⊢
  rw [← hbf] at b2 ⊢
  rw [← hbr] at b1 ⊢
  have B1 : Hid (w1.heap[br]? = some (.cells (tcs 0 ⟨#[]⟩ zh (.slice none 0 0)) 59)) := b1
  have B2 : Hid (w1.heap[bf]? = some (.cells #[.int .i64 0, .int .i64 0] 61)) := b2
  have B3 : Hid (w1.heap[bt]? = some (.cells (tcs 0 ⟨#[]⟩ zh (.slice none 0 0)) 59)) := b3
  have B4 : Hid (w1.heap[bg]? = some (.cells #[.int .i64 0, .int .i64 0] 61)) := b4
  clear hbr hbt hbf hbg b0 b1 b2 b3 b4
  go_wp2_with fail
  refine (QF'.out _ N1.out).mono ?_
  rintro e w2 ⟨rfl, n2⟩
  have C1 : Hid (w2.heap[br]? = some (.cells (tcs 0 ⟨#[]⟩ zh (.slice none 0 0)) 59)) := (n2.block _ (heap_lt B1.out) (fun f => f)).trans B1.out
  have C2 : Hid (w2.heap[bf]? = some (.cells #[.int .i64 0, .int .i64 0] 61)) := (n2.block _ (heap_lt B2.out) (fun f => f)).trans B2.out
  have C3 : Hid (w2.heap[bt]? = some (.cells (tcs 0 ⟨#[]⟩ zh (.slice none 0 0)) 59)) := (n2.block _ (heap_lt B3.out) (fun f => f)).trans B3.out
  have C4 : Hid (w2.heap[bg]? = some (.cells #[.int .i64 0, .int .i64 0] 61)) := (n2.block _ (heap_lt B4.out) (fun f => f)).trans B4.out
  have N2 : Hid (Nw w w2) := N1.out.tr n2
  clear n2 B1 B2 B3 B4 o1 o2 o3 o4 o5 l0
  have lr := heap_lt C1.out
  have lt := heap_lt C3.out
  have lg := heap_lt C4.out
  have hs35 : (tcs 0 r zh (.slice none 0 0)).size = 35 := tcs_size _ _ _ zh32 _
  have c2 := (cell_of C3.out 1).trans (tcs_1 _ _ _ _)
  have f2 := frozen_of C3.out 1
  have hbg1 := hp_ne (o := 1) (u := .string r) (fun q : bg = bt => HB.out.2.2.2.2.2.1 q.symm) C4.out
  have hbt1 : (w2.setCell ⟨bt, 1, none⟩ (.string r)).heap[bt]? = some (.cells (tcs 0 r zh (.slice none 0 0)) 59) := hp_set C3.out (tcs_set1 _ _ _ _ _)
  have hbr1 := hp_ne (o := 1) (u := .string r) (fun q : br = bt => HB.out.2.1 q) C1.out
  have hbf1 := hp_ne (o := 1) (u := .string r) (fun q : bf = bt => HB.out.2.2.2.1 q) C2.out
  have F2 : Hid (Fr (fun k => k = bt) w2 (w2.setCell ⟨bt, 1, none⟩ (.string r))) := Fr.setCell (S := fun k => k = bt) (Fr.refl _ w2) ⟨bt, 1, none⟩ _ (fun _ => rfl)
  go_wp2_with (refine wp_store_agg rfl (.tmp 7) (.tmp 41) 61 2 rfl Tryz.sizeOf61 bg 0 rfl _ 61 hbg1 #[.int .i64 fc, .int .i64 fp] rfl rfl (by simp [Value.oneCell']) (by decide) #[.int .i64 fc, .int .i64 fp] rfl ?_; intro w3 j3 f3 _)
  have D1 : Hid (w3.heap[br]? = some (.cells (tcs 0 ⟨#[]⟩ zh (.slice none 0 0)) 59)) := (f3.block _ (heap_lt hbr1) (fun q => HB.out.2.2.1 q)).trans hbr1
  have D2 : Hid (w3.heap[bf]? = some (.cells #[.int .i64 0, .int .i64 0] 61)) := (f3.block _ (heap_lt hbf1) (fun q => HB.out.2.2.2.2.1 q)).trans hbf1
  have D3 : Hid (w3.heap[bt]? = some (.cells (tcs 0 r zh (.slice none 0 0)) 59)) := (f3.block _ (heap_lt hbt1) (fun q => HB.out.2.2.2.2.2.1 q)).trans hbt1
  have D4 : Hid (w3.heap[bg]? = some (.cells #[.int .i64 fc, .int .i64 fp] 61)) := j3
  have F3 : Hid (Fr (fun k => k = bt ∨ k = bg) w2 w3) := (F2.out.mono (fun _ _ q => .inl q)).trans f3 (fun _ _ q => .inr q)
  clear f3 j3
  have hkp : Hid (∀ V, Fr (fun k => k = br ∨ k = bf) w3 V → V.heap[bt]? = some (.cells (tcs 0 r zh (.slice none 0 0)) 59) ∧ V.heap[bg]? = some (.cells #[.int .i64 fc, .int .i64 fp] 61)) := fun V hV => ⟨(hV.block _ (heap_lt D3.out) (fun q => by have := HB.out; omega)).trans D3.out, (hV.block _ (heap_lt D4.out) (fun q => by have := HB.out; omega)).trans D4.out⟩
  have nb : Nw w3 w3.drew := (Fr.refl _ _).drew
  refine wp_region_held_drew (S := fun V => V.heap[bt]? = some (.cells (tcs 0 r zh (.slice none 0 0)) 59) ∧ V.heap[bg]? = some (.cells #[.int .i64 fc, .int .i64 fp] 61)) (by kernel_rfl) (hkp.out _ (nb.mono (fun _ _ f => f.elim))) ?_
  intro hS0
  refine wpAnyH_take (i := 0) (oi := ({ dst := some 90, op := Op.load 59 (Operand.tmp 6), type := 59, pos := "law.go:91", after := #[], guard := none } : Oper)) (v := .agg (tcs 0 r zh (.slice none 0 0))) rfl (by kernel_rfl) (by kernel_rfl) (by kernel_rfl) (fun _ _ _ h => h) (yields_load_agg rfl (.tmp 6) 59 35 rfl Tryz.isAgg59 Tryz.sizeOf59 bt rfl 59 _ hs35 (fun w hw => hw.1)) hS0 ?_
  try simp only [Act.put, List.setIfInBounds_toArray, List.set_cons_zero, List.set_cons_succ]
  refine wpAnyH_take (i := 1) (oi := ({ dst := some 91, op := Op.load 61 (Operand.tmp 7), type := 61, pos := "law.go:91", after := #[{ on := 2, ground := Ground.gcOnly Departure.lateStores }], guard := none } : Oper)) (v := flt fc fp) rfl (by kernel_rfl) (by kernel_rfl) (by kernel_rfl) (fun _ _ _ h => h) (yields_load_agg rfl (.tmp 7) 61 2 rfl Tryz.isAgg61 Tryz.sizeOf61 bg rfl 61 _ rfl (fun w hw => hw.2)) hS0 ?_
  try simp only [Act.put, List.setIfInBounds_toArray, List.set_cons_zero, List.set_cons_succ]
  have E1 : w3.drew.heap[br]? = some (.cells (tcs 0 ⟨#[]⟩ zh (.slice none 0 0)) 59) := D1.out
  refine wpAnyH_ready (rs := [2]) (by kernel_rfl) (by simp) ?_
  refine AllReadyH.cons rfl (fun K' hK => ?_) AllReadyH.nil
  refine step_store_agg rfl (.tmp 4) (.tmp 90) 59 35 rfl Tryz.sizeOf59 br 0 rfl _ 59 E1 (tcs 0 r zh (.slice none 0 0)) rfl hs35 (tcs_one _ _ _ _ _ _) (Nat.le_of_eq (by rw [tcs_size _ _ _ zh32])) (tcs 0 r zh (.slice none 0 0)) (by rw [drop_all (tcs_size _ _ _ zh32 _)]; simp) ?_
  intro w4 j4 f4 z4
  have f4b : Fr (fun k => k = br ∨ k = bf) w3 w4 := ((nb.mono (fun _ _ f => f.elim)).trans f4 (fun _ _ q => .inl q))
  have E2 : w4.heap[bf]? = some (.cells #[.int .i64 0, .int .i64 0] 61) := (f4.block _ (heap_lt D2.out) (fun q => HB.out.1 q.symm)).trans D2.out
  refine hK.out _ _ (hkp.out _ f4b) (fun hS0 => ?_)
  try simp only [Act.put, List.setIfInBounds_toArray, List.set_cons_zero, List.set_cons_succ]
  refine wpAnyH_ready (rs := [3]) (by kernel_rfl) (by simp) ?_
  refine AllReadyH.cons rfl (fun K' hK => ?_) AllReadyH.nil
  refine step_store_agg rfl (.tmp 5) (.tmp 91) 61 2 rfl Tryz.sizeOf61 bf 0 rfl _ 61 E2 #[.int .i64 fc, .int .i64 fp] rfl rfl (by simp [Value.oneCell']) (by decide) #[.int .i64 fc, .int .i64 fp] rfl ?_
  intro w5 j5 f5 z5
  have f5b : Fr (fun k => k = br ∨ k = bf) w3 w5 := f4b.trans f5 (fun _ _ q => .inr q)
  have j45 := (f5.block _ (heap_lt j4) (fun q => HB.out.1 q)).trans j4
  refine hK.out _ _ (hkp.out _ f5b) (fun hS0 => ?_)
  try simp only [Act.put, List.setIfInBounds_toArray, List.set_cons_zero, List.set_cons_succ]
  refine wpAnyH_done (by kernel_rfl) ?_ _
  go_wp2_with fail
  exact bodyPost_ret (results_cells Tryz.results8 Tryz.isAgg59 Tryz.sizeOf59 Tryz.isAgg61 Tryz.sizeOf61 rfl rfl j45 hs35 j5 rfl) rfl ⟨rfl, (N2.out.trans F3.out (fun k hk q => by have := HB.out; omega)).trans f5b (fun k hk q => by have := HB.out; omega)⟩

set_option maxRecDepth 100000 in
set_option maxHeartbeats 3000000 in
theorem meant_2 {w : World} (P : Value) (fc fp : Int) (R : List UInt8) (hR : R.length = 32) (who kind : Int) (s : ByteArray) (x y z : Nat) (hk1 : -9223372036854775808 ≤ kind) (hk2 : kind ≤ 9223372036854775807) (hkd : kind % 7 = 2) (QF : ∀ W, Nw w W → Calls Tryz.prog 27 #[P, sp x y] W fun e w' => e = .returned (.tuple #[.agg (hbs R), flt fc fp]) ∧ Nw W w') :
    Calls Tryz.prog 8 #[P, .agg (opc who kind s x y z)] w fun e w' => e = .returned (.tuple #[.agg (tcs 0 ⟨#[]⟩ R (.slice none 0 0)), flt fc fp]) ∧ Nw w w' := by
  have QR := show Hid (∀ W, Calls Tryz.prog 6 #[.int .i64 kind, .int .i64 7] W fun e w' => e = .returned (.int .i64 2) ∧ w' = W) from fun W => by have q := round_any kind 7 hk1 hk2 (by decide) (by decide) W; rw [hkd] at q; exact q
  have QF' := show Hid (∀ W, Nw w W → Calls Tryz.prog 27 #[P, sp x y] W fun e w' => e = .returned (.tuple #[.agg (hbs R), flt fc fp]) ∧ Nw W w') from QF
  clear QF hkd
  go_enter Tryz.func8, Tryz.ntmps8
  go_wp2_with fail
  rw [tz_h]
  refine (QR.out _).mono ?_
  rintro e w1 ⟨rfl, h1⟩
  have b0 : w1.heap[w.heap.size]? = some (.cells (opc who kind s x y z) 53) := by rw [h1]; (repeat first | with_reducible exact heap_new _ _ | with_reducible exact heap_new _ _ | with_reducible exact heap_next _ _ _ | with_reducible exact heap_third _ _ _ _ | with_reducible refine hp_dr ?_ | (with_reducible refine hp_ne ?_ ?_; focus omega) | (with_reducible refine hp_al ?_ ?_; focus (first | omega | (simp <;> omega))) | with_reducible apply hp_set) <;> rfl
  have b1 : w1.heap[w.heap.size + 1]? = some (.cells (tcs 0 ⟨#[]⟩ zh (.slice none 0 0)) 59) := by rw [h1]; (repeat first | with_reducible exact heap_next _ _ _ | with_reducible exact heap_new _ _ | with_reducible exact heap_next _ _ _ | with_reducible exact heap_third _ _ _ _ | with_reducible refine hp_dr ?_ | (with_reducible refine hp_ne ?_ ?_; focus omega) | (with_reducible refine hp_al ?_ ?_; focus (first | omega | (simp <;> omega))) | with_reducible apply hp_set) <;> rfl
  have b2 : w1.heap[w.heap.size + 1 + 1]? = some (.cells #[.int .i64 0, .int .i64 0] 61) := by rw [h1]; (repeat first | with_reducible exact heap_third _ _ _ _ | with_reducible exact heap_new _ _ | with_reducible exact heap_next _ _ _ | with_reducible exact heap_third _ _ _ _ | with_reducible refine hp_dr ?_ | (with_reducible refine hp_ne ?_ ?_; focus omega) | (with_reducible refine hp_al ?_ ?_; focus (first | omega | (simp <;> omega))) | with_reducible apply hp_set) <;> rfl
  have b3 : w1.heap[w.heap.size + 1 + 1 + 1]? = some (.cells (tcs 0 ⟨#[]⟩ zh (.slice none 0 0)) 59) := by rw [h1]; exact hp_al (by simp) (heap_fourth _ _ _ _ _)
  have b4 : w1.heap[w.heap.size + 1 + 1 + 1 + 1]? = some (.cells #[.int .i64 0, .int .i64 0] 61) := by rw [h1]; exact heap_fifth _ _ _ _ _ _
  have N1 : Hid (Nw w w1) := by rw [h1]; exact ((((nwa w _).alloc _).alloc _).alloc _).alloc _
  clear h1
  have o1 := (cell_of b0 1).trans rfl
  have o2 := (cell_of b0 2).trans rfl
  have o3 := (cell_of b0 3).trans rfl
  have o4 := (cell_of b0 4).trans rfl
  have o5 := (cell_of b0 5).trans rfl
  have l0 := heap_lt b0
  obtain ⟨br, hbr⟩ : ∃ br, br = w.heap.size + 1 := ⟨_, rfl⟩
  obtain ⟨bf, hbf⟩ : ∃ bf, bf = w.heap.size + 1 + 1 := ⟨_, rfl⟩
  obtain ⟨bt, hbt⟩ : ∃ bt, bt = w.heap.size + 1 + 1 + 1 := ⟨_, rfl⟩
  obtain ⟨bg, hbg⟩ : ∃ bg, bg = w.heap.size + 1 + 1 + 1 + 1 := ⟨_, rfl⟩
  have HB : Hid (br ≠ bf ∧ br ≠ bt ∧ br ≠ bg ∧ bf ≠ bt ∧ bf ≠ bg ∧ bt ≠ bg ∧ w.heap.size < br ∧ w.heap.size < bf ∧ w.heap.size < bt ∧ w.heap.size < bg) := ⟨by omega, by omega, by omega, by omega, by omega, by omega, by omega, by omega, by omega, by omega⟩
  rw [← hbg] at b4 ⊢
  rw [← hbt] at b3 ⊢
  rw [← hbf] at b2 ⊢
  rw [← hbr] at b1 ⊢
  have B1 : Hid (w1.heap[br]? = some (.cells (tcs 0 ⟨#[]⟩ zh (.slice none 0 0)) 59)) := b1
  have B2 : Hid (w1.heap[bf]? = some (.cells #[.int .i64 0, .int .i64 0] 61)) := b2
  have B3 : Hid (w1.heap[bt]? = some (.cells (tcs 0 ⟨#[]⟩ zh (.slice none 0 0)) 59)) := b3
  have B4 : Hid (w1.heap[bg]? = some (.cells #[.int .i64 0, .int .i64 0] 61)) := b4
  clear hbr hbt hbf hbg b0 b1 b2 b3 b4
  go_wp2_with fail
  refine (QF'.out _ N1.out).mono ?_
  rintro e w2 ⟨rfl, n2⟩
  have C1 : Hid (w2.heap[br]? = some (.cells (tcs 0 ⟨#[]⟩ zh (.slice none 0 0)) 59)) := (n2.block _ (heap_lt B1.out) (fun f => f)).trans B1.out
  have C2 : Hid (w2.heap[bf]? = some (.cells #[.int .i64 0, .int .i64 0] 61)) := (n2.block _ (heap_lt B2.out) (fun f => f)).trans B2.out
  have C3 : Hid (w2.heap[bt]? = some (.cells (tcs 0 ⟨#[]⟩ zh (.slice none 0 0)) 59)) := (n2.block _ (heap_lt B3.out) (fun f => f)).trans B3.out
  have C4 : Hid (w2.heap[bg]? = some (.cells #[.int .i64 0, .int .i64 0] 61)) := (n2.block _ (heap_lt B4.out) (fun f => f)).trans B4.out
  have N2 : Hid (Nw w w2) := N1.out.tr n2
  clear n2 B1 B2 B3 B4 o1 o2 o3 o4 o5 l0
  have lr := heap_lt C1.out
  have lt := heap_lt C3.out
  have lg := heap_lt C4.out
  have hs35 : (tcs 0 ⟨#[]⟩ R (.slice none 0 0)).size = 35 := tcs_size _ _ _ hR _
  go_wp2_with first
    | (refine wp_store_agg rfl (.tmp 55) (.tmp 53) 56 32 rfl Tryz.sizeOf56 bt 2 rfl _ 59 C3.out (hbs R) rfl (by rw [hbs_size, hR]) (hbs_one _) (Nat.le_trans (by decide) (Nat.le_of_eq (tcs_size _ _ _ zh32 _).symm)) (tcs 0 ⟨#[]⟩ R (.slice none 0 0)) (tcs_seth _ _ _ _ zh32 hR _) ?_; intro wq hbt1 fq _; have hbg1 := (fq.block _ (heap_lt C4.out) (fun q => HB.out.2.2.2.2.2.1 q.symm)).trans C4.out; have hbr1 := (fq.block _ (heap_lt C1.out) (fun q => HB.out.2.1 q)).trans C1.out; have hbf1 := (fq.block _ (heap_lt C2.out) (fun q => HB.out.2.2.2.1 q)).trans C2.out; have F2 : Hid (Fr (fun k => k = bt) w2 wq) := fq; clear fq)
    | (refine wp_store_agg rfl (.tmp 7) (.tmp 54) 61 2 rfl Tryz.sizeOf61 bg 0 rfl _ 61 hbg1 #[.int .i64 fc, .int .i64 fp] rfl rfl (by simp [Value.oneCell']) (by decide) #[.int .i64 fc, .int .i64 fp] rfl ?_; intro w3 j3 f3 _)
  have D1 : Hid (w3.heap[br]? = some (.cells (tcs 0 ⟨#[]⟩ zh (.slice none 0 0)) 59)) := (f3.block _ (heap_lt hbr1) (fun q => HB.out.2.2.1 q)).trans hbr1
  have D2 : Hid (w3.heap[bf]? = some (.cells #[.int .i64 0, .int .i64 0] 61)) := (f3.block _ (heap_lt hbf1) (fun q => HB.out.2.2.2.2.1 q)).trans hbf1
  have D3 : Hid (w3.heap[bt]? = some (.cells (tcs 0 ⟨#[]⟩ R (.slice none 0 0)) 59)) := (f3.block _ (heap_lt hbt1) (fun q => HB.out.2.2.2.2.2.1 q)).trans hbt1
  have D4 : Hid (w3.heap[bg]? = some (.cells #[.int .i64 fc, .int .i64 fp] 61)) := j3
  have F3 : Hid (Fr (fun k => k = bt ∨ k = bg) w2 w3) := (F2.out.mono (fun _ _ q => .inl q)).trans f3 (fun _ _ q => .inr q)
  clear f3 j3
  have hkp : Hid (∀ V, Fr (fun k => k = br ∨ k = bf) w3 V → V.heap[bt]? = some (.cells (tcs 0 ⟨#[]⟩ R (.slice none 0 0)) 59) ∧ V.heap[bg]? = some (.cells #[.int .i64 fc, .int .i64 fp] 61)) := fun V hV => ⟨(hV.block _ (heap_lt D3.out) (fun q => by have := HB.out; omega)).trans D3.out, (hV.block _ (heap_lt D4.out) (fun q => by have := HB.out; omega)).trans D4.out⟩
  have nb : Nw w3 w3.drew := (Fr.refl _ _).drew
  refine wp_region_held_drew (S := fun V => V.heap[bt]? = some (.cells (tcs 0 ⟨#[]⟩ R (.slice none 0 0)) 59) ∧ V.heap[bg]? = some (.cells #[.int .i64 fc, .int .i64 fp] 61)) (by kernel_rfl) (hkp.out _ (nb.mono (fun _ _ f => f.elim))) ?_
  intro hS0
  refine wpAnyH_take (i := 0) (oi := ({ dst := some 90, op := Op.load 59 (Operand.tmp 6), type := 59, pos := "law.go:91", after := #[], guard := none } : Oper)) (v := .agg (tcs 0 ⟨#[]⟩ R (.slice none 0 0))) rfl (by kernel_rfl) (by kernel_rfl) (by kernel_rfl) (fun _ _ _ h => h) (yields_load_agg rfl (.tmp 6) 59 35 rfl Tryz.isAgg59 Tryz.sizeOf59 bt rfl 59 _ hs35 (fun w hw => hw.1)) hS0 ?_
  try simp only [Act.put, List.setIfInBounds_toArray, List.set_cons_zero, List.set_cons_succ]
  refine wpAnyH_take (i := 1) (oi := ({ dst := some 91, op := Op.load 61 (Operand.tmp 7), type := 61, pos := "law.go:91", after := #[{ on := 2, ground := Ground.gcOnly Departure.lateStores }], guard := none } : Oper)) (v := flt fc fp) rfl (by kernel_rfl) (by kernel_rfl) (by kernel_rfl) (fun _ _ _ h => h) (yields_load_agg rfl (.tmp 7) 61 2 rfl Tryz.isAgg61 Tryz.sizeOf61 bg rfl 61 _ rfl (fun w hw => hw.2)) hS0 ?_
  try simp only [Act.put, List.setIfInBounds_toArray, List.set_cons_zero, List.set_cons_succ]
  have E1 : w3.drew.heap[br]? = some (.cells (tcs 0 ⟨#[]⟩ zh (.slice none 0 0)) 59) := D1.out
  refine wpAnyH_ready (rs := [2]) (by kernel_rfl) (by simp) ?_
  refine AllReadyH.cons rfl (fun K' hK => ?_) AllReadyH.nil
  refine step_store_agg rfl (.tmp 4) (.tmp 90) 59 35 rfl Tryz.sizeOf59 br 0 rfl _ 59 E1 (tcs 0 ⟨#[]⟩ R (.slice none 0 0)) rfl hs35 (tcs_one _ _ _ _ _ _) (Nat.le_of_eq (by rw [tcs_size _ _ _ zh32])) (tcs 0 ⟨#[]⟩ R (.slice none 0 0)) (by rw [drop_all (tcs_size _ _ _ zh32 _)]; simp) ?_
  intro w4 j4 f4 z4
  have f4b : Fr (fun k => k = br ∨ k = bf) w3 w4 := ((nb.mono (fun _ _ f => f.elim)).trans f4 (fun _ _ q => .inl q))
  have E2 : w4.heap[bf]? = some (.cells #[.int .i64 0, .int .i64 0] 61) := (f4.block _ (heap_lt D2.out) (fun q => HB.out.1 q.symm)).trans D2.out
  refine hK.out _ _ (hkp.out _ f4b) (fun hS0 => ?_)
  try simp only [Act.put, List.setIfInBounds_toArray, List.set_cons_zero, List.set_cons_succ]
  refine wpAnyH_ready (rs := [3]) (by kernel_rfl) (by simp) ?_
  refine AllReadyH.cons rfl (fun K' hK => ?_) AllReadyH.nil
  refine step_store_agg rfl (.tmp 5) (.tmp 91) 61 2 rfl Tryz.sizeOf61 bf 0 rfl _ 61 E2 #[.int .i64 fc, .int .i64 fp] rfl rfl (by simp [Value.oneCell']) (by decide) #[.int .i64 fc, .int .i64 fp] rfl ?_
  intro w5 j5 f5 z5
  have f5b : Fr (fun k => k = br ∨ k = bf) w3 w5 := f4b.trans f5 (fun _ _ q => .inr q)
  have j45 := (f5.block _ (heap_lt j4) (fun q => HB.out.1 q)).trans j4
  refine hK.out _ _ (hkp.out _ f5b) (fun hS0 => ?_)
  try simp only [Act.put, List.setIfInBounds_toArray, List.set_cons_zero, List.set_cons_succ]
  refine wpAnyH_done (by kernel_rfl) ?_ _
  go_wp2_with fail
  exact bodyPost_ret (results_cells Tryz.results8 Tryz.isAgg59 Tryz.sizeOf59 Tryz.isAgg61 Tryz.sizeOf61 rfl rfl j45 hs35 j5 rfl) rfl ⟨rfl, (N2.out.trans F3.out (fun k hk q => by have := HB.out; omega)).trans f5b (fun k hk q => by have := HB.out; omega)⟩

set_option maxRecDepth 100000 in
set_option maxHeartbeats 3000000 in
theorem meant_3 {w : World} (P : Value) (fc fp : Int) (R : List UInt8) (hR : R.length = 32) (who kind : Int) (s : ByteArray) (x y z : Nat) (hk1 : -9223372036854775808 ≤ kind) (hk2 : kind ≤ 9223372036854775807) (hkd : kind % 7 = 3) (QF : ∀ W, Nw w W → Calls Tryz.prog 28 #[P, .int .u64 (x : Int)] W fun e w' => e = .returned (.tuple #[.agg (hbs R), flt fc fp]) ∧ Nw W w') :
    Calls Tryz.prog 8 #[P, .agg (opc who kind s x y z)] w fun e w' => e = .returned (.tuple #[.agg (tcs 0 ⟨#[]⟩ R (.slice none 0 0)), flt fc fp]) ∧ Nw w w' := by
  have QR := show Hid (∀ W, Calls Tryz.prog 6 #[.int .i64 kind, .int .i64 7] W fun e w' => e = .returned (.int .i64 3) ∧ w' = W) from fun W => by have q := round_any kind 7 hk1 hk2 (by decide) (by decide) W; rw [hkd] at q; exact q
  have QF' := show Hid (∀ W, Nw w W → Calls Tryz.prog 28 #[P, .int .u64 (x : Int)] W fun e w' => e = .returned (.tuple #[.agg (hbs R), flt fc fp]) ∧ Nw W w') from QF
  clear QF hkd
  go_enter Tryz.func8, Tryz.ntmps8
  go_wp2_with fail
  rw [tz_h]
  refine (QR.out _).mono ?_
  rintro e w1 ⟨rfl, h1⟩
  have b0 : w1.heap[w.heap.size]? = some (.cells (opc who kind s x y z) 53) := by rw [h1]; (repeat first | with_reducible exact heap_new _ _ | with_reducible exact heap_new _ _ | with_reducible exact heap_next _ _ _ | with_reducible exact heap_third _ _ _ _ | with_reducible refine hp_dr ?_ | (with_reducible refine hp_ne ?_ ?_; focus omega) | (with_reducible refine hp_al ?_ ?_; focus (first | omega | (simp <;> omega))) | with_reducible apply hp_set) <;> rfl
  have b1 : w1.heap[w.heap.size + 1]? = some (.cells (tcs 0 ⟨#[]⟩ zh (.slice none 0 0)) 59) := by rw [h1]; (repeat first | with_reducible exact heap_next _ _ _ | with_reducible exact heap_new _ _ | with_reducible exact heap_next _ _ _ | with_reducible exact heap_third _ _ _ _ | with_reducible refine hp_dr ?_ | (with_reducible refine hp_ne ?_ ?_; focus omega) | (with_reducible refine hp_al ?_ ?_; focus (first | omega | (simp <;> omega))) | with_reducible apply hp_set) <;> rfl
  have b2 : w1.heap[w.heap.size + 1 + 1]? = some (.cells #[.int .i64 0, .int .i64 0] 61) := by rw [h1]; (repeat first | with_reducible exact heap_third _ _ _ _ | with_reducible exact heap_new _ _ | with_reducible exact heap_next _ _ _ | with_reducible exact heap_third _ _ _ _ | with_reducible refine hp_dr ?_ | (with_reducible refine hp_ne ?_ ?_; focus omega) | (with_reducible refine hp_al ?_ ?_; focus (first | omega | (simp <;> omega))) | with_reducible apply hp_set) <;> rfl
  have b3 : w1.heap[w.heap.size + 1 + 1 + 1]? = some (.cells (tcs 0 ⟨#[]⟩ zh (.slice none 0 0)) 59) := by rw [h1]; exact hp_al (by simp) (heap_fourth _ _ _ _ _)
  have b4 : w1.heap[w.heap.size + 1 + 1 + 1 + 1]? = some (.cells #[.int .i64 0, .int .i64 0] 61) := by rw [h1]; exact heap_fifth _ _ _ _ _ _
  have N1 : Hid (Nw w w1) := by rw [h1]; exact ((((nwa w _).alloc _).alloc _).alloc _).alloc _
  clear h1
  have o1 := (cell_of b0 1).trans rfl
  have o2 := (cell_of b0 2).trans rfl
  have o3 := (cell_of b0 3).trans rfl
  have o4 := (cell_of b0 4).trans rfl
  have o5 := (cell_of b0 5).trans rfl
  have l0 := heap_lt b0
  obtain ⟨br, hbr⟩ : ∃ br, br = w.heap.size + 1 := ⟨_, rfl⟩
  obtain ⟨bf, hbf⟩ : ∃ bf, bf = w.heap.size + 1 + 1 := ⟨_, rfl⟩
  obtain ⟨bt, hbt⟩ : ∃ bt, bt = w.heap.size + 1 + 1 + 1 := ⟨_, rfl⟩
  obtain ⟨bg, hbg⟩ : ∃ bg, bg = w.heap.size + 1 + 1 + 1 + 1 := ⟨_, rfl⟩
  have HB : Hid (br ≠ bf ∧ br ≠ bt ∧ br ≠ bg ∧ bf ≠ bt ∧ bf ≠ bg ∧ bt ≠ bg ∧ w.heap.size < br ∧ w.heap.size < bf ∧ w.heap.size < bt ∧ w.heap.size < bg) := ⟨by omega, by omega, by omega, by omega, by omega, by omega, by omega, by omega, by omega, by omega⟩
  rw [← hbg] at b4 ⊢
  rw [← hbt] at b3 ⊢
  rw [← hbf] at b2 ⊢
  rw [← hbr] at b1 ⊢
  have B1 : Hid (w1.heap[br]? = some (.cells (tcs 0 ⟨#[]⟩ zh (.slice none 0 0)) 59)) := b1
  have B2 : Hid (w1.heap[bf]? = some (.cells #[.int .i64 0, .int .i64 0] 61)) := b2
  have B3 : Hid (w1.heap[bt]? = some (.cells (tcs 0 ⟨#[]⟩ zh (.slice none 0 0)) 59)) := b3
  have B4 : Hid (w1.heap[bg]? = some (.cells #[.int .i64 0, .int .i64 0] 61)) := b4
  clear hbr hbt hbf hbg b0 b1 b2 b3 b4
  go_wp2_with fail
  refine (QF'.out _ N1.out).mono ?_
  rintro e w2 ⟨rfl, n2⟩
  have C1 : Hid (w2.heap[br]? = some (.cells (tcs 0 ⟨#[]⟩ zh (.slice none 0 0)) 59)) := (n2.block _ (heap_lt B1.out) (fun f => f)).trans B1.out
  have C2 : Hid (w2.heap[bf]? = some (.cells #[.int .i64 0, .int .i64 0] 61)) := (n2.block _ (heap_lt B2.out) (fun f => f)).trans B2.out
  have C3 : Hid (w2.heap[bt]? = some (.cells (tcs 0 ⟨#[]⟩ zh (.slice none 0 0)) 59)) := (n2.block _ (heap_lt B3.out) (fun f => f)).trans B3.out
  have C4 : Hid (w2.heap[bg]? = some (.cells #[.int .i64 0, .int .i64 0] 61)) := (n2.block _ (heap_lt B4.out) (fun f => f)).trans B4.out
  have N2 : Hid (Nw w w2) := N1.out.tr n2
  clear n2 B1 B2 B3 B4 o1 o2 o3 o4 o5 l0
  have lr := heap_lt C1.out
  have lt := heap_lt C3.out
  have lg := heap_lt C4.out
  have hs35 : (tcs 0 ⟨#[]⟩ R (.slice none 0 0)).size = 35 := tcs_size _ _ _ hR _
  go_wp2_with first
    | (refine wp_store_agg rfl (.tmp 65) (.tmp 63) 56 32 rfl Tryz.sizeOf56 bt 2 rfl _ 59 C3.out (hbs R) rfl (by rw [hbs_size, hR]) (hbs_one _) (Nat.le_trans (by decide) (Nat.le_of_eq (tcs_size _ _ _ zh32 _).symm)) (tcs 0 ⟨#[]⟩ R (.slice none 0 0)) (tcs_seth _ _ _ _ zh32 hR _) ?_; intro wq hbt1 fq _; have hbg1 := (fq.block _ (heap_lt C4.out) (fun q => HB.out.2.2.2.2.2.1 q.symm)).trans C4.out; have hbr1 := (fq.block _ (heap_lt C1.out) (fun q => HB.out.2.1 q)).trans C1.out; have hbf1 := (fq.block _ (heap_lt C2.out) (fun q => HB.out.2.2.2.1 q)).trans C2.out; have F2 : Hid (Fr (fun k => k = bt) w2 wq) := fq; clear fq)
    | (refine wp_store_agg rfl (.tmp 7) (.tmp 64) 61 2 rfl Tryz.sizeOf61 bg 0 rfl _ 61 hbg1 #[.int .i64 fc, .int .i64 fp] rfl rfl (by simp [Value.oneCell']) (by decide) #[.int .i64 fc, .int .i64 fp] rfl ?_; intro w3 j3 f3 _)
  have D1 : Hid (w3.heap[br]? = some (.cells (tcs 0 ⟨#[]⟩ zh (.slice none 0 0)) 59)) := (f3.block _ (heap_lt hbr1) (fun q => HB.out.2.2.1 q)).trans hbr1
  have D2 : Hid (w3.heap[bf]? = some (.cells #[.int .i64 0, .int .i64 0] 61)) := (f3.block _ (heap_lt hbf1) (fun q => HB.out.2.2.2.2.1 q)).trans hbf1
  have D3 : Hid (w3.heap[bt]? = some (.cells (tcs 0 ⟨#[]⟩ R (.slice none 0 0)) 59)) := (f3.block _ (heap_lt hbt1) (fun q => HB.out.2.2.2.2.2.1 q)).trans hbt1
  have D4 : Hid (w3.heap[bg]? = some (.cells #[.int .i64 fc, .int .i64 fp] 61)) := j3
  have F3 : Hid (Fr (fun k => k = bt ∨ k = bg) w2 w3) := (F2.out.mono (fun _ _ q => .inl q)).trans f3 (fun _ _ q => .inr q)
  clear f3 j3
  have hkp : Hid (∀ V, Fr (fun k => k = br ∨ k = bf) w3 V → V.heap[bt]? = some (.cells (tcs 0 ⟨#[]⟩ R (.slice none 0 0)) 59) ∧ V.heap[bg]? = some (.cells #[.int .i64 fc, .int .i64 fp] 61)) := fun V hV => ⟨(hV.block _ (heap_lt D3.out) (fun q => by have := HB.out; omega)).trans D3.out, (hV.block _ (heap_lt D4.out) (fun q => by have := HB.out; omega)).trans D4.out⟩
  have nb : Nw w3 w3.drew := (Fr.refl _ _).drew
  refine wp_region_held_drew (S := fun V => V.heap[bt]? = some (.cells (tcs 0 ⟨#[]⟩ R (.slice none 0 0)) 59) ∧ V.heap[bg]? = some (.cells #[.int .i64 fc, .int .i64 fp] 61)) (by kernel_rfl) (hkp.out _ (nb.mono (fun _ _ f => f.elim))) ?_
  intro hS0
  refine wpAnyH_take (i := 0) (oi := ({ dst := some 90, op := Op.load 59 (Operand.tmp 6), type := 59, pos := "law.go:91", after := #[], guard := none } : Oper)) (v := .agg (tcs 0 ⟨#[]⟩ R (.slice none 0 0))) rfl (by kernel_rfl) (by kernel_rfl) (by kernel_rfl) (fun _ _ _ h => h) (yields_load_agg rfl (.tmp 6) 59 35 rfl Tryz.isAgg59 Tryz.sizeOf59 bt rfl 59 _ hs35 (fun w hw => hw.1)) hS0 ?_
  try simp only [Act.put, List.setIfInBounds_toArray, List.set_cons_zero, List.set_cons_succ]
  refine wpAnyH_take (i := 1) (oi := ({ dst := some 91, op := Op.load 61 (Operand.tmp 7), type := 61, pos := "law.go:91", after := #[{ on := 2, ground := Ground.gcOnly Departure.lateStores }], guard := none } : Oper)) (v := flt fc fp) rfl (by kernel_rfl) (by kernel_rfl) (by kernel_rfl) (fun _ _ _ h => h) (yields_load_agg rfl (.tmp 7) 61 2 rfl Tryz.isAgg61 Tryz.sizeOf61 bg rfl 61 _ rfl (fun w hw => hw.2)) hS0 ?_
  try simp only [Act.put, List.setIfInBounds_toArray, List.set_cons_zero, List.set_cons_succ]
  have E1 : w3.drew.heap[br]? = some (.cells (tcs 0 ⟨#[]⟩ zh (.slice none 0 0)) 59) := D1.out
  refine wpAnyH_ready (rs := [2]) (by kernel_rfl) (by simp) ?_
  refine AllReadyH.cons rfl (fun K' hK => ?_) AllReadyH.nil
  refine step_store_agg rfl (.tmp 4) (.tmp 90) 59 35 rfl Tryz.sizeOf59 br 0 rfl _ 59 E1 (tcs 0 ⟨#[]⟩ R (.slice none 0 0)) rfl hs35 (tcs_one _ _ _ _ _ _) (Nat.le_of_eq (by rw [tcs_size _ _ _ zh32])) (tcs 0 ⟨#[]⟩ R (.slice none 0 0)) (by rw [drop_all (tcs_size _ _ _ zh32 _)]; simp) ?_
  intro w4 j4 f4 z4
  have f4b : Fr (fun k => k = br ∨ k = bf) w3 w4 := ((nb.mono (fun _ _ f => f.elim)).trans f4 (fun _ _ q => .inl q))
  have E2 : w4.heap[bf]? = some (.cells #[.int .i64 0, .int .i64 0] 61) := (f4.block _ (heap_lt D2.out) (fun q => HB.out.1 q.symm)).trans D2.out
  refine hK.out _ _ (hkp.out _ f4b) (fun hS0 => ?_)
  try simp only [Act.put, List.setIfInBounds_toArray, List.set_cons_zero, List.set_cons_succ]
  refine wpAnyH_ready (rs := [3]) (by kernel_rfl) (by simp) ?_
  refine AllReadyH.cons rfl (fun K' hK => ?_) AllReadyH.nil
  refine step_store_agg rfl (.tmp 5) (.tmp 91) 61 2 rfl Tryz.sizeOf61 bf 0 rfl _ 61 E2 #[.int .i64 fc, .int .i64 fp] rfl rfl (by simp [Value.oneCell']) (by decide) #[.int .i64 fc, .int .i64 fp] rfl ?_
  intro w5 j5 f5 z5
  have f5b : Fr (fun k => k = br ∨ k = bf) w3 w5 := f4b.trans f5 (fun _ _ q => .inr q)
  have j45 := (f5.block _ (heap_lt j4) (fun q => HB.out.1 q)).trans j4
  refine hK.out _ _ (hkp.out _ f5b) (fun hS0 => ?_)
  try simp only [Act.put, List.setIfInBounds_toArray, List.set_cons_zero, List.set_cons_succ]
  refine wpAnyH_done (by kernel_rfl) ?_ _
  go_wp2_with fail
  exact bodyPost_ret (results_cells Tryz.results8 Tryz.isAgg59 Tryz.sizeOf59 Tryz.isAgg61 Tryz.sizeOf61 rfl rfl j45 hs35 j5 rfl) rfl ⟨rfl, (N2.out.trans F3.out (fun k hk q => by have := HB.out; omega)).trans f5b (fun k hk q => by have := HB.out; omega)⟩

set_option maxRecDepth 100000 in
set_option maxHeartbeats 3000000 in
theorem meant_4 {w : World} (P : Value) (fc fp : Int) (l : List (List UInt8)) (who kind : Int) (s : ByteArray) (x y z : Nat) (hk1 : -9223372036854775808 ≤ kind) (hk2 : kind ≤ 9223372036854775807) (hkd : kind % 7 = 4) (QF : ∀ W, Nw w W → Calls Tryz.prog 29 #[P, .int .u64 (x : Int), .int .u64 (y : Int)] W fun e w' => ∃ u, e = .returned (.tuple #[u, flt fc fp]) ∧ w'.ownsRow W.heap.size 56 32 u l.length (hsc l) ∧ Nw W w') :
    Calls Tryz.prog 8 #[P, .agg (opc who kind s x y z)] w fun e w' => ∃ u, e = .returned (.tuple #[.agg (tcs 0 ⟨#[]⟩ zh u), flt fc fp]) ∧ w'.ownsRow w.heap.size 56 32 u l.length (hsc l) ∧ Nw w w' := by
  have QR := show Hid (∀ W, Calls Tryz.prog 6 #[.int .i64 kind, .int .i64 7] W fun e w' => e = .returned (.int .i64 4) ∧ w' = W) from fun W => by have q := round_any kind 7 hk1 hk2 (by decide) (by decide) W; rw [hkd] at q; exact q
  have QF' := show Hid (∀ W, Nw w W → Calls Tryz.prog 29 #[P, .int .u64 (x : Int), .int .u64 (y : Int)] W fun e w' => ∃ u, e = .returned (.tuple #[u, flt fc fp]) ∧ w'.ownsRow W.heap.size 56 32 u l.length (hsc l) ∧ Nw W w') from QF
  clear QF hkd
  go_enter Tryz.func8, Tryz.ntmps8
  go_wp2_with fail
  rw [tz_h]
  refine (QR.out _).mono ?_
  rintro e w1 ⟨rfl, h1⟩
  have b0 : w1.heap[w.heap.size]? = some (.cells (opc who kind s x y z) 53) := by rw [h1]; (repeat first | with_reducible exact heap_new _ _ | with_reducible exact heap_new _ _ | with_reducible exact heap_next _ _ _ | with_reducible exact heap_third _ _ _ _ | with_reducible refine hp_dr ?_ | (with_reducible refine hp_ne ?_ ?_; focus omega) | (with_reducible refine hp_al ?_ ?_; focus (first | omega | (simp <;> omega))) | with_reducible apply hp_set) <;> rfl
  have b1 : w1.heap[w.heap.size + 1]? = some (.cells (tcs 0 ⟨#[]⟩ zh (.slice none 0 0)) 59) := by rw [h1]; (repeat first | with_reducible exact heap_next _ _ _ | with_reducible exact heap_new _ _ | with_reducible exact heap_next _ _ _ | with_reducible exact heap_third _ _ _ _ | with_reducible refine hp_dr ?_ | (with_reducible refine hp_ne ?_ ?_; focus omega) | (with_reducible refine hp_al ?_ ?_; focus (first | omega | (simp <;> omega))) | with_reducible apply hp_set) <;> rfl
  have b2 : w1.heap[w.heap.size + 1 + 1]? = some (.cells #[.int .i64 0, .int .i64 0] 61) := by rw [h1]; (repeat first | with_reducible exact heap_third _ _ _ _ | with_reducible exact heap_new _ _ | with_reducible exact heap_next _ _ _ | with_reducible exact heap_third _ _ _ _ | with_reducible refine hp_dr ?_ | (with_reducible refine hp_ne ?_ ?_; focus omega) | (with_reducible refine hp_al ?_ ?_; focus (first | omega | (simp <;> omega))) | with_reducible apply hp_set) <;> rfl
  have b3 : w1.heap[w.heap.size + 1 + 1 + 1]? = some (.cells (tcs 0 ⟨#[]⟩ zh (.slice none 0 0)) 59) := by rw [h1]; exact hp_al (by simp) (heap_fourth _ _ _ _ _)
  have b4 : w1.heap[w.heap.size + 1 + 1 + 1 + 1]? = some (.cells #[.int .i64 0, .int .i64 0] 61) := by rw [h1]; exact heap_fifth _ _ _ _ _ _
  have N1 : Hid (Nw w w1) := by rw [h1]; exact ((((nwa w _).alloc _).alloc _).alloc _).alloc _
  clear h1
  have o1 := (cell_of b0 1).trans rfl
  have o2 := (cell_of b0 2).trans rfl
  have o3 := (cell_of b0 3).trans rfl
  have o4 := (cell_of b0 4).trans rfl
  have o5 := (cell_of b0 5).trans rfl
  have l0 := heap_lt b0
  obtain ⟨br, hbr⟩ : ∃ br, br = w.heap.size + 1 := ⟨_, rfl⟩
  obtain ⟨bf, hbf⟩ : ∃ bf, bf = w.heap.size + 1 + 1 := ⟨_, rfl⟩
  obtain ⟨bt, hbt⟩ : ∃ bt, bt = w.heap.size + 1 + 1 + 1 := ⟨_, rfl⟩
  obtain ⟨bg, hbg⟩ : ∃ bg, bg = w.heap.size + 1 + 1 + 1 + 1 := ⟨_, rfl⟩
  have HB : Hid (br ≠ bf ∧ br ≠ bt ∧ br ≠ bg ∧ bf ≠ bt ∧ bf ≠ bg ∧ bt ≠ bg ∧ w.heap.size < br ∧ w.heap.size < bf ∧ w.heap.size < bt ∧ w.heap.size < bg) := ⟨by omega, by omega, by omega, by omega, by omega, by omega, by omega, by omega, by omega, by omega⟩
  rw [← hbg] at b4 ⊢
  rw [← hbt] at b3 ⊢
  rw [← hbf] at b2 ⊢
  rw [← hbr] at b1 ⊢
  have B1 : Hid (w1.heap[br]? = some (.cells (tcs 0 ⟨#[]⟩ zh (.slice none 0 0)) 59)) := b1
  have B2 : Hid (w1.heap[bf]? = some (.cells #[.int .i64 0, .int .i64 0] 61)) := b2
  have B3 : Hid (w1.heap[bt]? = some (.cells (tcs 0 ⟨#[]⟩ zh (.slice none 0 0)) 59)) := b3
  have B4 : Hid (w1.heap[bg]? = some (.cells #[.int .i64 0, .int .i64 0] 61)) := b4
  clear hbr hbt hbf hbg b0 b1 b2 b3 b4
  go_wp2_with fail
  refine (QF'.out _ N1.out).mono ?_
  rintro e w2 ⟨u, rfl, ou, n2⟩
  have C1 : Hid (w2.heap[br]? = some (.cells (tcs 0 ⟨#[]⟩ zh (.slice none 0 0)) 59)) := (n2.block _ (heap_lt B1.out) (fun f => f)).trans B1.out
  have C2 : Hid (w2.heap[bf]? = some (.cells #[.int .i64 0, .int .i64 0] 61)) := (n2.block _ (heap_lt B2.out) (fun f => f)).trans B2.out
  have C3 : Hid (w2.heap[bt]? = some (.cells (tcs 0 ⟨#[]⟩ zh (.slice none 0 0)) 59)) := (n2.block _ (heap_lt B3.out) (fun f => f)).trans B3.out
  have C4 : Hid (w2.heap[bg]? = some (.cells #[.int .i64 0, .int .i64 0] 61)) := (n2.block _ (heap_lt B4.out) (fun f => f)).trans B4.out
  have N2 : Hid (Nw w w2) := N1.out.tr n2
  have O2 : Hid (w2.ownsRow w.heap.size 56 32 u l.length (hsc l)) := ownsRow_base ou N1.out.size
  have GU : Hid (∀ g, u.ownBlock = some g → g ≠ br ∧ g ≠ bf ∧ g ≠ bt ∧ g ≠ bg) := fun g hg => by have h1 := (ou.lt g hg).1; have h2 := heap_lt B1.out; have h3 := heap_lt B2.out; have h4 := heap_lt B3.out; have h5 := heap_lt B4.out; omega
  obtain ⟨ua, uc, rfl⟩ := ownsRow_form ou
  clear ou n2 B1 B2 B3 B4 o1 o2 o3 o4 o5 l0
  have lr := heap_lt C1.out
  have lt := heap_lt C3.out
  have lg := heap_lt C4.out
  have hs35 : (tcs 0 ⟨#[]⟩ zh (.slice ua l.length uc)).size = 35 := tcs_size _ _ _ zh32 _
  have c2 := (cell_of C3.out 34).trans (tcs_34 _ _ _ zh32 _)
  have f2 := frozen_of C3.out 34
  have hbg1 := hp_ne (o := 34) (u := .slice ua l.length uc) (fun q : bg = bt => HB.out.2.2.2.2.2.1 q.symm) C4.out
  have hbt1 : (w2.setCell ⟨bt, 34, none⟩ (.slice ua l.length uc)).heap[bt]? = some (.cells (tcs 0 ⟨#[]⟩ zh (.slice ua l.length uc)) 59) := hp_set C3.out (tcs_set34 _ _ _ zh32 _ _)
  have hbr1 := hp_ne (o := 34) (u := .slice ua l.length uc) (fun q : br = bt => HB.out.2.1 q) C1.out
  have hbf1 := hp_ne (o := 34) (u := .slice ua l.length uc) (fun q : bf = bt => HB.out.2.2.2.1 q) C2.out
  have F2 : Hid (Fr (fun k => k = bt) w2 (w2.setCell ⟨bt, 34, none⟩ (.slice ua l.length uc))) := Fr.setCell (S := fun k => k = bt) (Fr.refl _ w2) ⟨bt, 34, none⟩ _ (fun _ => rfl)
  go_wp2_with (refine wp_store_agg rfl (.tmp 7) (.tmp 76) 61 2 rfl Tryz.sizeOf61 bg 0 rfl _ 61 hbg1 #[.int .i64 fc, .int .i64 fp] rfl rfl (by simp [Value.oneCell']) (by decide) #[.int .i64 fc, .int .i64 fp] rfl ?_; intro w3 j3 f3 _)
  have D1 : Hid (w3.heap[br]? = some (.cells (tcs 0 ⟨#[]⟩ zh (.slice none 0 0)) 59)) := (f3.block _ (heap_lt hbr1) (fun q => HB.out.2.2.1 q)).trans hbr1
  have D2 : Hid (w3.heap[bf]? = some (.cells #[.int .i64 0, .int .i64 0] 61)) := (f3.block _ (heap_lt hbf1) (fun q => HB.out.2.2.2.2.1 q)).trans hbf1
  have D3 : Hid (w3.heap[bt]? = some (.cells (tcs 0 ⟨#[]⟩ zh (.slice ua l.length uc)) 59)) := (f3.block _ (heap_lt hbt1) (fun q => HB.out.2.2.2.2.2.1 q)).trans hbt1
  have D4 : Hid (w3.heap[bg]? = some (.cells #[.int .i64 fc, .int .i64 fp] 61)) := j3
  have F3 : Hid (Fr (fun k => k = bt ∨ k = bg) w2 w3) := (F2.out.mono (fun _ _ q => .inl q)).trans f3 (fun _ _ q => .inr q)
  clear f3 j3
  have hkp : Hid (∀ V, Fr (fun k => k = br ∨ k = bf) w3 V → V.heap[bt]? = some (.cells (tcs 0 ⟨#[]⟩ zh (.slice ua l.length uc)) 59) ∧ V.heap[bg]? = some (.cells #[.int .i64 fc, .int .i64 fp] 61)) := fun V hV => ⟨(hV.block _ (heap_lt D3.out) (fun q => by have := HB.out; omega)).trans D3.out, (hV.block _ (heap_lt D4.out) (fun q => by have := HB.out; omega)).trans D4.out⟩
  have nb : Nw w3 w3.drew := (Fr.refl _ _).drew
  refine wp_region_held_drew (S := fun V => V.heap[bt]? = some (.cells (tcs 0 ⟨#[]⟩ zh (.slice ua l.length uc)) 59) ∧ V.heap[bg]? = some (.cells #[.int .i64 fc, .int .i64 fp] 61)) (by kernel_rfl) (hkp.out _ (nb.mono (fun _ _ f => f.elim))) ?_
  intro hS0
  refine wpAnyH_take (i := 0) (oi := ({ dst := some 90, op := Op.load 59 (Operand.tmp 6), type := 59, pos := "law.go:91", after := #[], guard := none } : Oper)) (v := .agg (tcs 0 ⟨#[]⟩ zh (.slice ua l.length uc))) rfl (by kernel_rfl) (by kernel_rfl) (by kernel_rfl) (fun _ _ _ h => h) (yields_load_agg rfl (.tmp 6) 59 35 rfl Tryz.isAgg59 Tryz.sizeOf59 bt rfl 59 _ hs35 (fun w hw => hw.1)) hS0 ?_
  try simp only [Act.put, List.setIfInBounds_toArray, List.set_cons_zero, List.set_cons_succ]
  refine wpAnyH_take (i := 1) (oi := ({ dst := some 91, op := Op.load 61 (Operand.tmp 7), type := 61, pos := "law.go:91", after := #[{ on := 2, ground := Ground.gcOnly Departure.lateStores }], guard := none } : Oper)) (v := flt fc fp) rfl (by kernel_rfl) (by kernel_rfl) (by kernel_rfl) (fun _ _ _ h => h) (yields_load_agg rfl (.tmp 7) 61 2 rfl Tryz.isAgg61 Tryz.sizeOf61 bg rfl 61 _ rfl (fun w hw => hw.2)) hS0 ?_
  try simp only [Act.put, List.setIfInBounds_toArray, List.set_cons_zero, List.set_cons_succ]
  have E1 : w3.drew.heap[br]? = some (.cells (tcs 0 ⟨#[]⟩ zh (.slice none 0 0)) 59) := D1.out
  refine wpAnyH_ready (rs := [2]) (by kernel_rfl) (by simp) ?_
  refine AllReadyH.cons rfl (fun K' hK => ?_) AllReadyH.nil
  refine step_store_agg rfl (.tmp 4) (.tmp 90) 59 35 rfl Tryz.sizeOf59 br 0 rfl _ 59 E1 (tcs 0 ⟨#[]⟩ zh (.slice ua l.length uc)) rfl hs35 (tcs_one _ _ _ _ _ _) (Nat.le_of_eq (by rw [tcs_size _ _ _ zh32])) (tcs 0 ⟨#[]⟩ zh (.slice ua l.length uc)) (by rw [drop_all (tcs_size _ _ _ zh32 _)]; simp) ?_
  intro w4 j4 f4 z4
  have f4b : Fr (fun k => k = br ∨ k = bf) w3 w4 := ((nb.mono (fun _ _ f => f.elim)).trans f4 (fun _ _ q => .inl q))
  have E2 : w4.heap[bf]? = some (.cells #[.int .i64 0, .int .i64 0] 61) := (f4.block _ (heap_lt D2.out) (fun q => HB.out.1 q.symm)).trans D2.out
  refine hK.out _ _ (hkp.out _ f4b) (fun hS0 => ?_)
  try simp only [Act.put, List.setIfInBounds_toArray, List.set_cons_zero, List.set_cons_succ]
  refine wpAnyH_ready (rs := [3]) (by kernel_rfl) (by simp) ?_
  refine AllReadyH.cons rfl (fun K' hK => ?_) AllReadyH.nil
  refine step_store_agg rfl (.tmp 5) (.tmp 91) 61 2 rfl Tryz.sizeOf61 bf 0 rfl _ 61 E2 #[.int .i64 fc, .int .i64 fp] rfl rfl (by simp [Value.oneCell']) (by decide) #[.int .i64 fc, .int .i64 fp] rfl ?_
  intro w5 j5 f5 z5
  have f5b : Fr (fun k => k = br ∨ k = bf) w3 w5 := f4b.trans f5 (fun _ _ q => .inr q)
  have j45 := (f5.block _ (heap_lt j4) (fun q => HB.out.1 q)).trans j4
  refine hK.out _ _ (hkp.out _ f5b) (fun hS0 => ?_)
  try simp only [Act.put, List.setIfInBounds_toArray, List.set_cons_zero, List.set_cons_succ]
  refine wpAnyH_done (by kernel_rfl) ?_ _
  go_wp2_with fail
  have FF : Fr (fun k => k = bt ∨ k = bg ∨ k = br ∨ k = bf) w2 w5 := (F3.out.mono (fun _ _ q => by omega)).trans f5b (fun _ _ q => by omega)
  exact bodyPost_ret (results_cells Tryz.results8 Tryz.isAgg59 Tryz.sizeOf59 Tryz.isAgg61 Tryz.sizeOf61 rfl rfl j45 hs35 j5 rfl) rfl ⟨_, rfl, ownsRow_keep O2.out (fun g hg => FF.block g (O2.out.lt g hg).2 (fun q => by have := GU.out g hg; omega)), (N2.out.trans F3.out (fun k hk q => by have := HB.out; omega)).trans f5b (fun k hk q => by have := HB.out; omega)⟩

set_option maxRecDepth 100000 in
set_option maxHeartbeats 3000000 in
theorem meant_5 {w : World} (P : Value) (fc fp : Int) (l : List (List UInt8)) (who kind : Int) (s : ByteArray) (x y z : Nat) (hk1 : -9223372036854775808 ≤ kind) (hk2 : kind ≤ 9223372036854775807) (hkd : kind % 7 = 5) (QF : ∀ W, Nw w W → Calls Tryz.prog 30 #[P, .int .u64 (x : Int), .int .u64 (y : Int)] W fun e w' => ∃ u, e = .returned (.tuple #[u, flt fc fp]) ∧ w'.ownsRow W.heap.size 56 32 u l.length (hsc l) ∧ Nw W w') :
    Calls Tryz.prog 8 #[P, .agg (opc who kind s x y z)] w fun e w' => ∃ u, e = .returned (.tuple #[.agg (tcs 0 ⟨#[]⟩ zh u), flt fc fp]) ∧ w'.ownsRow w.heap.size 56 32 u l.length (hsc l) ∧ Nw w w' := by
  have QR := show Hid (∀ W, Calls Tryz.prog 6 #[.int .i64 kind, .int .i64 7] W fun e w' => e = .returned (.int .i64 5) ∧ w' = W) from fun W => by have q := round_any kind 7 hk1 hk2 (by decide) (by decide) W; rw [hkd] at q; exact q
  have QF' := show Hid (∀ W, Nw w W → Calls Tryz.prog 30 #[P, .int .u64 (x : Int), .int .u64 (y : Int)] W fun e w' => ∃ u, e = .returned (.tuple #[u, flt fc fp]) ∧ w'.ownsRow W.heap.size 56 32 u l.length (hsc l) ∧ Nw W w') from QF
  clear QF hkd
  go_enter Tryz.func8, Tryz.ntmps8
  go_wp2_with fail
  rw [tz_h]
  refine (QR.out _).mono ?_
  rintro e w1 ⟨rfl, h1⟩
  have b0 : w1.heap[w.heap.size]? = some (.cells (opc who kind s x y z) 53) := by rw [h1]; (repeat first | with_reducible exact heap_new _ _ | with_reducible exact heap_new _ _ | with_reducible exact heap_next _ _ _ | with_reducible exact heap_third _ _ _ _ | with_reducible refine hp_dr ?_ | (with_reducible refine hp_ne ?_ ?_; focus omega) | (with_reducible refine hp_al ?_ ?_; focus (first | omega | (simp <;> omega))) | with_reducible apply hp_set) <;> rfl
  have b1 : w1.heap[w.heap.size + 1]? = some (.cells (tcs 0 ⟨#[]⟩ zh (.slice none 0 0)) 59) := by rw [h1]; (repeat first | with_reducible exact heap_next _ _ _ | with_reducible exact heap_new _ _ | with_reducible exact heap_next _ _ _ | with_reducible exact heap_third _ _ _ _ | with_reducible refine hp_dr ?_ | (with_reducible refine hp_ne ?_ ?_; focus omega) | (with_reducible refine hp_al ?_ ?_; focus (first | omega | (simp <;> omega))) | with_reducible apply hp_set) <;> rfl
  have b2 : w1.heap[w.heap.size + 1 + 1]? = some (.cells #[.int .i64 0, .int .i64 0] 61) := by rw [h1]; (repeat first | with_reducible exact heap_third _ _ _ _ | with_reducible exact heap_new _ _ | with_reducible exact heap_next _ _ _ | with_reducible exact heap_third _ _ _ _ | with_reducible refine hp_dr ?_ | (with_reducible refine hp_ne ?_ ?_; focus omega) | (with_reducible refine hp_al ?_ ?_; focus (first | omega | (simp <;> omega))) | with_reducible apply hp_set) <;> rfl
  have b3 : w1.heap[w.heap.size + 1 + 1 + 1]? = some (.cells (tcs 0 ⟨#[]⟩ zh (.slice none 0 0)) 59) := by rw [h1]; exact hp_al (by simp) (heap_fourth _ _ _ _ _)
  have b4 : w1.heap[w.heap.size + 1 + 1 + 1 + 1]? = some (.cells #[.int .i64 0, .int .i64 0] 61) := by rw [h1]; exact heap_fifth _ _ _ _ _ _
  have N1 : Hid (Nw w w1) := by rw [h1]; exact ((((nwa w _).alloc _).alloc _).alloc _).alloc _
  clear h1
  have o1 := (cell_of b0 1).trans rfl
  have o2 := (cell_of b0 2).trans rfl
  have o3 := (cell_of b0 3).trans rfl
  have o4 := (cell_of b0 4).trans rfl
  have o5 := (cell_of b0 5).trans rfl
  have l0 := heap_lt b0
  obtain ⟨br, hbr⟩ : ∃ br, br = w.heap.size + 1 := ⟨_, rfl⟩
  obtain ⟨bf, hbf⟩ : ∃ bf, bf = w.heap.size + 1 + 1 := ⟨_, rfl⟩
  obtain ⟨bt, hbt⟩ : ∃ bt, bt = w.heap.size + 1 + 1 + 1 := ⟨_, rfl⟩
  obtain ⟨bg, hbg⟩ : ∃ bg, bg = w.heap.size + 1 + 1 + 1 + 1 := ⟨_, rfl⟩
  have HB : Hid (br ≠ bf ∧ br ≠ bt ∧ br ≠ bg ∧ bf ≠ bt ∧ bf ≠ bg ∧ bt ≠ bg ∧ w.heap.size < br ∧ w.heap.size < bf ∧ w.heap.size < bt ∧ w.heap.size < bg) := ⟨by omega, by omega, by omega, by omega, by omega, by omega, by omega, by omega, by omega, by omega⟩
  rw [← hbg] at b4 ⊢
  rw [← hbt] at b3 ⊢
  rw [← hbf] at b2 ⊢
  rw [← hbr] at b1 ⊢
  have B1 : Hid (w1.heap[br]? = some (.cells (tcs 0 ⟨#[]⟩ zh (.slice none 0 0)) 59)) := b1
  have B2 : Hid (w1.heap[bf]? = some (.cells #[.int .i64 0, .int .i64 0] 61)) := b2
  have B3 : Hid (w1.heap[bt]? = some (.cells (tcs 0 ⟨#[]⟩ zh (.slice none 0 0)) 59)) := b3
  have B4 : Hid (w1.heap[bg]? = some (.cells #[.int .i64 0, .int .i64 0] 61)) := b4
  clear hbr hbt hbf hbg b0 b1 b2 b3 b4
  go_wp2_with fail
  refine (QF'.out _ N1.out).mono ?_
  rintro e w2 ⟨u, rfl, ou, n2⟩
  have C1 : Hid (w2.heap[br]? = some (.cells (tcs 0 ⟨#[]⟩ zh (.slice none 0 0)) 59)) := (n2.block _ (heap_lt B1.out) (fun f => f)).trans B1.out
  have C2 : Hid (w2.heap[bf]? = some (.cells #[.int .i64 0, .int .i64 0] 61)) := (n2.block _ (heap_lt B2.out) (fun f => f)).trans B2.out
  have C3 : Hid (w2.heap[bt]? = some (.cells (tcs 0 ⟨#[]⟩ zh (.slice none 0 0)) 59)) := (n2.block _ (heap_lt B3.out) (fun f => f)).trans B3.out
  have C4 : Hid (w2.heap[bg]? = some (.cells #[.int .i64 0, .int .i64 0] 61)) := (n2.block _ (heap_lt B4.out) (fun f => f)).trans B4.out
  have N2 : Hid (Nw w w2) := N1.out.tr n2
  have O2 : Hid (w2.ownsRow w.heap.size 56 32 u l.length (hsc l)) := ownsRow_base ou N1.out.size
  have GU : Hid (∀ g, u.ownBlock = some g → g ≠ br ∧ g ≠ bf ∧ g ≠ bt ∧ g ≠ bg) := fun g hg => by have h1 := (ou.lt g hg).1; have h2 := heap_lt B1.out; have h3 := heap_lt B2.out; have h4 := heap_lt B3.out; have h5 := heap_lt B4.out; omega
  obtain ⟨ua, uc, rfl⟩ := ownsRow_form ou
  clear ou n2 B1 B2 B3 B4 o1 o2 o3 o4 o5 l0
  have lr := heap_lt C1.out
  have lt := heap_lt C3.out
  have lg := heap_lt C4.out
  have hs35 : (tcs 0 ⟨#[]⟩ zh (.slice ua l.length uc)).size = 35 := tcs_size _ _ _ zh32 _
  have c2 := (cell_of C3.out 34).trans (tcs_34 _ _ _ zh32 _)
  have f2 := frozen_of C3.out 34
  have hbg1 := hp_ne (o := 34) (u := .slice ua l.length uc) (fun q : bg = bt => HB.out.2.2.2.2.2.1 q.symm) C4.out
  have hbt1 : (w2.setCell ⟨bt, 34, none⟩ (.slice ua l.length uc)).heap[bt]? = some (.cells (tcs 0 ⟨#[]⟩ zh (.slice ua l.length uc)) 59) := hp_set C3.out (tcs_set34 _ _ _ zh32 _ _)
  have hbr1 := hp_ne (o := 34) (u := .slice ua l.length uc) (fun q : br = bt => HB.out.2.1 q) C1.out
  have hbf1 := hp_ne (o := 34) (u := .slice ua l.length uc) (fun q : bf = bt => HB.out.2.2.2.1 q) C2.out
  have F2 : Hid (Fr (fun k => k = bt) w2 (w2.setCell ⟨bt, 34, none⟩ (.slice ua l.length uc))) := Fr.setCell (S := fun k => k = bt) (Fr.refl _ w2) ⟨bt, 34, none⟩ _ (fun _ => rfl)
  go_wp2_with (refine wp_store_agg rfl (.tmp 7) (.tmp 88) 61 2 rfl Tryz.sizeOf61 bg 0 rfl _ 61 hbg1 #[.int .i64 fc, .int .i64 fp] rfl rfl (by simp [Value.oneCell']) (by decide) #[.int .i64 fc, .int .i64 fp] rfl ?_; intro w3 j3 f3 _)
  have D1 : Hid (w3.heap[br]? = some (.cells (tcs 0 ⟨#[]⟩ zh (.slice none 0 0)) 59)) := (f3.block _ (heap_lt hbr1) (fun q => HB.out.2.2.1 q)).trans hbr1
  have D2 : Hid (w3.heap[bf]? = some (.cells #[.int .i64 0, .int .i64 0] 61)) := (f3.block _ (heap_lt hbf1) (fun q => HB.out.2.2.2.2.1 q)).trans hbf1
  have D3 : Hid (w3.heap[bt]? = some (.cells (tcs 0 ⟨#[]⟩ zh (.slice ua l.length uc)) 59)) := (f3.block _ (heap_lt hbt1) (fun q => HB.out.2.2.2.2.2.1 q)).trans hbt1
  have D4 : Hid (w3.heap[bg]? = some (.cells #[.int .i64 fc, .int .i64 fp] 61)) := j3
  have F3 : Hid (Fr (fun k => k = bt ∨ k = bg) w2 w3) := (F2.out.mono (fun _ _ q => .inl q)).trans f3 (fun _ _ q => .inr q)
  clear f3 j3
  have hkp : Hid (∀ V, Fr (fun k => k = br ∨ k = bf) w3 V → V.heap[bt]? = some (.cells (tcs 0 ⟨#[]⟩ zh (.slice ua l.length uc)) 59) ∧ V.heap[bg]? = some (.cells #[.int .i64 fc, .int .i64 fp] 61)) := fun V hV => ⟨(hV.block _ (heap_lt D3.out) (fun q => by have := HB.out; omega)).trans D3.out, (hV.block _ (heap_lt D4.out) (fun q => by have := HB.out; omega)).trans D4.out⟩
  have nb : Nw w3 w3.drew := (Fr.refl _ _).drew
  refine wp_region_held_drew (S := fun V => V.heap[bt]? = some (.cells (tcs 0 ⟨#[]⟩ zh (.slice ua l.length uc)) 59) ∧ V.heap[bg]? = some (.cells #[.int .i64 fc, .int .i64 fp] 61)) (by kernel_rfl) (hkp.out _ (nb.mono (fun _ _ f => f.elim))) ?_
  intro hS0
  refine wpAnyH_take (i := 0) (oi := ({ dst := some 90, op := Op.load 59 (Operand.tmp 6), type := 59, pos := "law.go:91", after := #[], guard := none } : Oper)) (v := .agg (tcs 0 ⟨#[]⟩ zh (.slice ua l.length uc))) rfl (by kernel_rfl) (by kernel_rfl) (by kernel_rfl) (fun _ _ _ h => h) (yields_load_agg rfl (.tmp 6) 59 35 rfl Tryz.isAgg59 Tryz.sizeOf59 bt rfl 59 _ hs35 (fun w hw => hw.1)) hS0 ?_
  try simp only [Act.put, List.setIfInBounds_toArray, List.set_cons_zero, List.set_cons_succ]
  refine wpAnyH_take (i := 1) (oi := ({ dst := some 91, op := Op.load 61 (Operand.tmp 7), type := 61, pos := "law.go:91", after := #[{ on := 2, ground := Ground.gcOnly Departure.lateStores }], guard := none } : Oper)) (v := flt fc fp) rfl (by kernel_rfl) (by kernel_rfl) (by kernel_rfl) (fun _ _ _ h => h) (yields_load_agg rfl (.tmp 7) 61 2 rfl Tryz.isAgg61 Tryz.sizeOf61 bg rfl 61 _ rfl (fun w hw => hw.2)) hS0 ?_
  try simp only [Act.put, List.setIfInBounds_toArray, List.set_cons_zero, List.set_cons_succ]
  have E1 : w3.drew.heap[br]? = some (.cells (tcs 0 ⟨#[]⟩ zh (.slice none 0 0)) 59) := D1.out
  refine wpAnyH_ready (rs := [2]) (by kernel_rfl) (by simp) ?_
  refine AllReadyH.cons rfl (fun K' hK => ?_) AllReadyH.nil
  refine step_store_agg rfl (.tmp 4) (.tmp 90) 59 35 rfl Tryz.sizeOf59 br 0 rfl _ 59 E1 (tcs 0 ⟨#[]⟩ zh (.slice ua l.length uc)) rfl hs35 (tcs_one _ _ _ _ _ _) (Nat.le_of_eq (by rw [tcs_size _ _ _ zh32])) (tcs 0 ⟨#[]⟩ zh (.slice ua l.length uc)) (by rw [drop_all (tcs_size _ _ _ zh32 _)]; simp) ?_
  intro w4 j4 f4 z4
  have f4b : Fr (fun k => k = br ∨ k = bf) w3 w4 := ((nb.mono (fun _ _ f => f.elim)).trans f4 (fun _ _ q => .inl q))
  have E2 : w4.heap[bf]? = some (.cells #[.int .i64 0, .int .i64 0] 61) := (f4.block _ (heap_lt D2.out) (fun q => HB.out.1 q.symm)).trans D2.out
  refine hK.out _ _ (hkp.out _ f4b) (fun hS0 => ?_)
  try simp only [Act.put, List.setIfInBounds_toArray, List.set_cons_zero, List.set_cons_succ]
  refine wpAnyH_ready (rs := [3]) (by kernel_rfl) (by simp) ?_
  refine AllReadyH.cons rfl (fun K' hK => ?_) AllReadyH.nil
  refine step_store_agg rfl (.tmp 5) (.tmp 91) 61 2 rfl Tryz.sizeOf61 bf 0 rfl _ 61 E2 #[.int .i64 fc, .int .i64 fp] rfl rfl (by simp [Value.oneCell']) (by decide) #[.int .i64 fc, .int .i64 fp] rfl ?_
  intro w5 j5 f5 z5
  have f5b : Fr (fun k => k = br ∨ k = bf) w3 w5 := f4b.trans f5 (fun _ _ q => .inr q)
  have j45 := (f5.block _ (heap_lt j4) (fun q => HB.out.1 q)).trans j4
  refine hK.out _ _ (hkp.out _ f5b) (fun hS0 => ?_)
  try simp only [Act.put, List.setIfInBounds_toArray, List.set_cons_zero, List.set_cons_succ]
  refine wpAnyH_done (by kernel_rfl) ?_ _
  go_wp2_with fail
  have FF : Fr (fun k => k = bt ∨ k = bg ∨ k = br ∨ k = bf) w2 w5 := (F3.out.mono (fun _ _ q => by omega)).trans f5b (fun _ _ q => by omega)
  exact bodyPost_ret (results_cells Tryz.results8 Tryz.isAgg59 Tryz.sizeOf59 Tryz.isAgg61 Tryz.sizeOf61 rfl rfl j45 hs35 j5 rfl) rfl ⟨_, rfl, ownsRow_keep O2.out (fun g hg => FF.block g (O2.out.lt g hg).2 (fun q => by have := GU.out g hg; omega)), (N2.out.trans F3.out (fun k hk q => by have := HB.out; omega)).trans f5b (fun k hk q => by have := HB.out; omega)⟩

set_option maxRecDepth 100000 in
set_option maxHeartbeats 3000000 in
theorem meant_6 {w : World} (P : Value) (fc fp : Int) (l : List (List UInt8)) (who kind : Int) (s : ByteArray) (x y z : Nat) (hk1 : -9223372036854775808 ≤ kind) (hk2 : kind ≤ 9223372036854775807) (hkd : kind % 7 = 6) (QF : ∀ W, Nw w W → Calls Tryz.prog 31 #[P, .int .u64 (x : Int), .int .u64 (y : Int), .int .u64 (z : Int)] W fun e w' => ∃ u, e = .returned (.tuple #[u, flt fc fp]) ∧ w'.ownsRow W.heap.size 56 32 u l.length (hsc l) ∧ Nw W w') :
    Calls Tryz.prog 8 #[P, .agg (opc who kind s x y z)] w fun e w' => ∃ u, e = .returned (.tuple #[.agg (tcs 0 ⟨#[]⟩ zh u), flt fc fp]) ∧ w'.ownsRow w.heap.size 56 32 u l.length (hsc l) ∧ Nw w w' := by
  have QR := show Hid (∀ W, Calls Tryz.prog 6 #[.int .i64 kind, .int .i64 7] W fun e w' => e = .returned (.int .i64 6) ∧ w' = W) from fun W => by have q := round_any kind 7 hk1 hk2 (by decide) (by decide) W; rw [hkd] at q; exact q
  have QF' := show Hid (∀ W, Nw w W → Calls Tryz.prog 31 #[P, .int .u64 (x : Int), .int .u64 (y : Int), .int .u64 (z : Int)] W fun e w' => ∃ u, e = .returned (.tuple #[u, flt fc fp]) ∧ w'.ownsRow W.heap.size 56 32 u l.length (hsc l) ∧ Nw W w') from QF
  clear QF hkd
  go_enter Tryz.func8, Tryz.ntmps8
  go_wp2_with fail
  rw [tz_h]
  refine (QR.out _).mono ?_
  rintro e w1 ⟨rfl, h1⟩
  have b0 : w1.heap[w.heap.size]? = some (.cells (opc who kind s x y z) 53) := by rw [h1]; (repeat first | with_reducible exact heap_new _ _ | with_reducible exact heap_new _ _ | with_reducible exact heap_next _ _ _ | with_reducible exact heap_third _ _ _ _ | with_reducible refine hp_dr ?_ | (with_reducible refine hp_ne ?_ ?_; focus omega) | (with_reducible refine hp_al ?_ ?_; focus (first | omega | (simp <;> omega))) | with_reducible apply hp_set) <;> rfl
  have b1 : w1.heap[w.heap.size + 1]? = some (.cells (tcs 0 ⟨#[]⟩ zh (.slice none 0 0)) 59) := by rw [h1]; (repeat first | with_reducible exact heap_next _ _ _ | with_reducible exact heap_new _ _ | with_reducible exact heap_next _ _ _ | with_reducible exact heap_third _ _ _ _ | with_reducible refine hp_dr ?_ | (with_reducible refine hp_ne ?_ ?_; focus omega) | (with_reducible refine hp_al ?_ ?_; focus (first | omega | (simp <;> omega))) | with_reducible apply hp_set) <;> rfl
  have b2 : w1.heap[w.heap.size + 1 + 1]? = some (.cells #[.int .i64 0, .int .i64 0] 61) := by rw [h1]; (repeat first | with_reducible exact heap_third _ _ _ _ | with_reducible exact heap_new _ _ | with_reducible exact heap_next _ _ _ | with_reducible exact heap_third _ _ _ _ | with_reducible refine hp_dr ?_ | (with_reducible refine hp_ne ?_ ?_; focus omega) | (with_reducible refine hp_al ?_ ?_; focus (first | omega | (simp <;> omega))) | with_reducible apply hp_set) <;> rfl
  have b3 : w1.heap[w.heap.size + 1 + 1 + 1]? = some (.cells (tcs 0 ⟨#[]⟩ zh (.slice none 0 0)) 59) := by rw [h1]; exact hp_al (by simp) (heap_fourth _ _ _ _ _)
  have b4 : w1.heap[w.heap.size + 1 + 1 + 1 + 1]? = some (.cells #[.int .i64 0, .int .i64 0] 61) := by rw [h1]; exact heap_fifth _ _ _ _ _ _
  have N1 : Hid (Nw w w1) := by rw [h1]; exact ((((nwa w _).alloc _).alloc _).alloc _).alloc _
  clear h1
  have o1 := (cell_of b0 1).trans rfl
  have o2 := (cell_of b0 2).trans rfl
  have o3 := (cell_of b0 3).trans rfl
  have o4 := (cell_of b0 4).trans rfl
  have o5 := (cell_of b0 5).trans rfl
  have l0 := heap_lt b0
  obtain ⟨br, hbr⟩ : ∃ br, br = w.heap.size + 1 := ⟨_, rfl⟩
  obtain ⟨bf, hbf⟩ : ∃ bf, bf = w.heap.size + 1 + 1 := ⟨_, rfl⟩
  obtain ⟨bt, hbt⟩ : ∃ bt, bt = w.heap.size + 1 + 1 + 1 := ⟨_, rfl⟩
  obtain ⟨bg, hbg⟩ : ∃ bg, bg = w.heap.size + 1 + 1 + 1 + 1 := ⟨_, rfl⟩
  have HB : Hid (br ≠ bf ∧ br ≠ bt ∧ br ≠ bg ∧ bf ≠ bt ∧ bf ≠ bg ∧ bt ≠ bg ∧ w.heap.size < br ∧ w.heap.size < bf ∧ w.heap.size < bt ∧ w.heap.size < bg) := ⟨by omega, by omega, by omega, by omega, by omega, by omega, by omega, by omega, by omega, by omega⟩
  rw [← hbg] at b4 ⊢
  rw [← hbt] at b3 ⊢
  rw [← hbf] at b2 ⊢
  rw [← hbr] at b1 ⊢
  have B1 : Hid (w1.heap[br]? = some (.cells (tcs 0 ⟨#[]⟩ zh (.slice none 0 0)) 59)) := b1
  have B2 : Hid (w1.heap[bf]? = some (.cells #[.int .i64 0, .int .i64 0] 61)) := b2
  have B3 : Hid (w1.heap[bt]? = some (.cells (tcs 0 ⟨#[]⟩ zh (.slice none 0 0)) 59)) := b3
  have B4 : Hid (w1.heap[bg]? = some (.cells #[.int .i64 0, .int .i64 0] 61)) := b4
  clear hbr hbt hbf hbg b0 b1 b2 b3 b4
  go_wp2_with fail
  refine (QF'.out _ N1.out).mono ?_
  rintro e w2 ⟨u, rfl, ou, n2⟩
  have C1 : Hid (w2.heap[br]? = some (.cells (tcs 0 ⟨#[]⟩ zh (.slice none 0 0)) 59)) := (n2.block _ (heap_lt B1.out) (fun f => f)).trans B1.out
  have C2 : Hid (w2.heap[bf]? = some (.cells #[.int .i64 0, .int .i64 0] 61)) := (n2.block _ (heap_lt B2.out) (fun f => f)).trans B2.out
  have C3 : Hid (w2.heap[bt]? = some (.cells (tcs 0 ⟨#[]⟩ zh (.slice none 0 0)) 59)) := (n2.block _ (heap_lt B3.out) (fun f => f)).trans B3.out
  have C4 : Hid (w2.heap[bg]? = some (.cells #[.int .i64 0, .int .i64 0] 61)) := (n2.block _ (heap_lt B4.out) (fun f => f)).trans B4.out
  have N2 : Hid (Nw w w2) := N1.out.tr n2
  have O2 : Hid (w2.ownsRow w.heap.size 56 32 u l.length (hsc l)) := ownsRow_base ou N1.out.size
  have GU : Hid (∀ g, u.ownBlock = some g → g ≠ br ∧ g ≠ bf ∧ g ≠ bt ∧ g ≠ bg) := fun g hg => by have h1 := (ou.lt g hg).1; have h2 := heap_lt B1.out; have h3 := heap_lt B2.out; have h4 := heap_lt B3.out; have h5 := heap_lt B4.out; omega
  obtain ⟨ua, uc, rfl⟩ := ownsRow_form ou
  clear ou n2 B1 B2 B3 B4 o1 o2 o3 o4 o5 l0
  have lr := heap_lt C1.out
  have lt := heap_lt C3.out
  have lg := heap_lt C4.out
  have hs35 : (tcs 0 ⟨#[]⟩ zh (.slice ua l.length uc)).size = 35 := tcs_size _ _ _ zh32 _
  have c2 := (cell_of C3.out 34).trans (tcs_34 _ _ _ zh32 _)
  have f2 := frozen_of C3.out 34
  have hbg1 := hp_ne (o := 34) (u := .slice ua l.length uc) (fun q : bg = bt => HB.out.2.2.2.2.2.1 q.symm) C4.out
  have hbt1 : (w2.setCell ⟨bt, 34, none⟩ (.slice ua l.length uc)).heap[bt]? = some (.cells (tcs 0 ⟨#[]⟩ zh (.slice ua l.length uc)) 59) := hp_set C3.out (tcs_set34 _ _ _ zh32 _ _)
  have hbr1 := hp_ne (o := 34) (u := .slice ua l.length uc) (fun q : br = bt => HB.out.2.1 q) C1.out
  have hbf1 := hp_ne (o := 34) (u := .slice ua l.length uc) (fun q : bf = bt => HB.out.2.2.2.1 q) C2.out
  have F2 : Hid (Fr (fun k => k = bt) w2 (w2.setCell ⟨bt, 34, none⟩ (.slice ua l.length uc))) := Fr.setCell (S := fun k => k = bt) (Fr.refl _ w2) ⟨bt, 34, none⟩ _ (fun _ => rfl)
  go_wp2_with (refine wp_store_agg rfl (.tmp 7) (.tmp 21) 61 2 rfl Tryz.sizeOf61 bg 0 rfl _ 61 hbg1 #[.int .i64 fc, .int .i64 fp] rfl rfl (by simp [Value.oneCell']) (by decide) #[.int .i64 fc, .int .i64 fp] rfl ?_; intro w3 j3 f3 _)
  have D1 : Hid (w3.heap[br]? = some (.cells (tcs 0 ⟨#[]⟩ zh (.slice none 0 0)) 59)) := (f3.block _ (heap_lt hbr1) (fun q => HB.out.2.2.1 q)).trans hbr1
  have D2 : Hid (w3.heap[bf]? = some (.cells #[.int .i64 0, .int .i64 0] 61)) := (f3.block _ (heap_lt hbf1) (fun q => HB.out.2.2.2.2.1 q)).trans hbf1
  have D3 : Hid (w3.heap[bt]? = some (.cells (tcs 0 ⟨#[]⟩ zh (.slice ua l.length uc)) 59)) := (f3.block _ (heap_lt hbt1) (fun q => HB.out.2.2.2.2.2.1 q)).trans hbt1
  have D4 : Hid (w3.heap[bg]? = some (.cells #[.int .i64 fc, .int .i64 fp] 61)) := j3
  have F3 : Hid (Fr (fun k => k = bt ∨ k = bg) w2 w3) := (F2.out.mono (fun _ _ q => .inl q)).trans f3 (fun _ _ q => .inr q)
  clear f3 j3
  have hkp : Hid (∀ V, Fr (fun k => k = br ∨ k = bf) w3 V → V.heap[bt]? = some (.cells (tcs 0 ⟨#[]⟩ zh (.slice ua l.length uc)) 59) ∧ V.heap[bg]? = some (.cells #[.int .i64 fc, .int .i64 fp] 61)) := fun V hV => ⟨(hV.block _ (heap_lt D3.out) (fun q => by have := HB.out; omega)).trans D3.out, (hV.block _ (heap_lt D4.out) (fun q => by have := HB.out; omega)).trans D4.out⟩
  have nb : Nw w3 w3.drew := (Fr.refl _ _).drew
  refine wp_region_held_drew (S := fun V => V.heap[bt]? = some (.cells (tcs 0 ⟨#[]⟩ zh (.slice ua l.length uc)) 59) ∧ V.heap[bg]? = some (.cells #[.int .i64 fc, .int .i64 fp] 61)) (by kernel_rfl) (hkp.out _ (nb.mono (fun _ _ f => f.elim))) ?_
  intro hS0
  refine wpAnyH_take (i := 0) (oi := ({ dst := some 90, op := Op.load 59 (Operand.tmp 6), type := 59, pos := "law.go:91", after := #[], guard := none } : Oper)) (v := .agg (tcs 0 ⟨#[]⟩ zh (.slice ua l.length uc))) rfl (by kernel_rfl) (by kernel_rfl) (by kernel_rfl) (fun _ _ _ h => h) (yields_load_agg rfl (.tmp 6) 59 35 rfl Tryz.isAgg59 Tryz.sizeOf59 bt rfl 59 _ hs35 (fun w hw => hw.1)) hS0 ?_
  try simp only [Act.put, List.setIfInBounds_toArray, List.set_cons_zero, List.set_cons_succ]
  refine wpAnyH_take (i := 1) (oi := ({ dst := some 91, op := Op.load 61 (Operand.tmp 7), type := 61, pos := "law.go:91", after := #[{ on := 2, ground := Ground.gcOnly Departure.lateStores }], guard := none } : Oper)) (v := flt fc fp) rfl (by kernel_rfl) (by kernel_rfl) (by kernel_rfl) (fun _ _ _ h => h) (yields_load_agg rfl (.tmp 7) 61 2 rfl Tryz.isAgg61 Tryz.sizeOf61 bg rfl 61 _ rfl (fun w hw => hw.2)) hS0 ?_
  try simp only [Act.put, List.setIfInBounds_toArray, List.set_cons_zero, List.set_cons_succ]
  have E1 : w3.drew.heap[br]? = some (.cells (tcs 0 ⟨#[]⟩ zh (.slice none 0 0)) 59) := D1.out
  refine wpAnyH_ready (rs := [2]) (by kernel_rfl) (by simp) ?_
  refine AllReadyH.cons rfl (fun K' hK => ?_) AllReadyH.nil
  refine step_store_agg rfl (.tmp 4) (.tmp 90) 59 35 rfl Tryz.sizeOf59 br 0 rfl _ 59 E1 (tcs 0 ⟨#[]⟩ zh (.slice ua l.length uc)) rfl hs35 (tcs_one _ _ _ _ _ _) (Nat.le_of_eq (by rw [tcs_size _ _ _ zh32])) (tcs 0 ⟨#[]⟩ zh (.slice ua l.length uc)) (by rw [drop_all (tcs_size _ _ _ zh32 _)]; simp) ?_
  intro w4 j4 f4 z4
  have f4b : Fr (fun k => k = br ∨ k = bf) w3 w4 := ((nb.mono (fun _ _ f => f.elim)).trans f4 (fun _ _ q => .inl q))
  have E2 : w4.heap[bf]? = some (.cells #[.int .i64 0, .int .i64 0] 61) := (f4.block _ (heap_lt D2.out) (fun q => HB.out.1 q.symm)).trans D2.out
  refine hK.out _ _ (hkp.out _ f4b) (fun hS0 => ?_)
  try simp only [Act.put, List.setIfInBounds_toArray, List.set_cons_zero, List.set_cons_succ]
  refine wpAnyH_ready (rs := [3]) (by kernel_rfl) (by simp) ?_
  refine AllReadyH.cons rfl (fun K' hK => ?_) AllReadyH.nil
  refine step_store_agg rfl (.tmp 5) (.tmp 91) 61 2 rfl Tryz.sizeOf61 bf 0 rfl _ 61 E2 #[.int .i64 fc, .int .i64 fp] rfl rfl (by simp [Value.oneCell']) (by decide) #[.int .i64 fc, .int .i64 fp] rfl ?_
  intro w5 j5 f5 z5
  have f5b : Fr (fun k => k = br ∨ k = bf) w3 w5 := f4b.trans f5 (fun _ _ q => .inr q)
  have j45 := (f5.block _ (heap_lt j4) (fun q => HB.out.1 q)).trans j4
  refine hK.out _ _ (hkp.out _ f5b) (fun hS0 => ?_)
  try simp only [Act.put, List.setIfInBounds_toArray, List.set_cons_zero, List.set_cons_succ]
  refine wpAnyH_done (by kernel_rfl) ?_ _
  go_wp2_with fail
  have FF : Fr (fun k => k = bt ∨ k = bg ∨ k = br ∨ k = bf) w2 w5 := (F3.out.mono (fun _ _ q => by omega)).trans f5b (fun _ _ q => by omega)
  exact bodyPost_ret (results_cells Tryz.results8 Tryz.isAgg59 Tryz.sizeOf59 Tryz.isAgg61 Tryz.sizeOf61 rfl rfl j45 hs35 j5 rfl) rfl ⟨_, rfl, ownsRow_keep O2.out (fun g hg => FF.block g (O2.out.lt g hg).2 (fun q => by have := GU.out g hg; omega)), (N2.out.trans F3.out (fun k hk q => by have := HB.out; omega)).trans f5b (fun k hk q => by have := HB.out; omega)⟩
end Go.Proofs.YtdhlmpjoggnkkaaGreatDoor
