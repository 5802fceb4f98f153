/- Every script of writers. -/
import Derived.Test.YtlkkadkdanjfoaaDoorV5
import Derived.Deep.CutRange
import Derived.Deep.RegionHeld3
namespace Go.Proofs.YtlkkadkdanjfoaaDoor
open Go.RowKit
set_option linter.unusedVariables false
set_option linter.unusedSimpArgs false
set_option maxRecDepth 100000 in
set_option maxHeartbeats 8000000 in
theorem writes_any (w : World) (a : Nat → Addr) (v0 : Value) (n0 : Nat) (A0 : Nat → Array Value) (hS : Sent w.heap.size w a) (hT : Thw w v0 n0 A0) (hn0 : n0 ≤ 150000) :
    Calls Tryd.prog 3 #[v0] w fun e w' => e = .returned (.bool true) ∧ Fr (fun _ => False) w w' := by
  have hTs := hT.2.2
  obtain ⟨_, g0, c0, rfl, hm0, _⟩ := hTs
  go_enter Tryd.func3, Tryd.ntmps3
  go_wp2_with fail
  refine (newW w).mono ?_
  rintro e w1 ⟨rfl, h1, f1, z1⟩
  go_wp2_with fail
  refine (newW w1).mono ?_
  rintro e w2 ⟨rfl, h2, f2, z2⟩
  obtain ⟨W, hW, hC, fW⟩ := start4 w w1 w2 h1 f1 z1 h2 f2 z2
  have HW : Hid (W = (((w2.alloc (.cells #[.bool false, .slice none 0 0] 27)).alloc (.cells #[.pointer (some ⟨w.heap.size, 0, none⟩), .pointer (some ⟨w.heap.size + 1, 0, none⟩), .pointer none, .pointer (some ⟨w.heap.size + 1 + 1, 0, none⟩)] 23)).alloc (.cells #[.string ⟨#[]⟩, .string ⟨#[]⟩, .string ⟨#[]⟩, .string ⟨#[]⟩] 29))) := hW
  clear hW h1 h2
  go_wp2_with fail
  rw [← HW.out]
  clear z1 z2 HW
  go_loopw [6] (fun i wr => ∃ (k : Nat) (v0 v1 : Value) (l0 l1 : List UInt8), k ≤ n0 ∧ i = .int .i64 k ∧ Cw wr w.heap.size v0 v1 l0 l1 l0 l1 ∧ Fr (fun _ => False) w wr ∧ l0.length ≤ k * 1048608 ∧ l1.length ≤ k * 1048608) (fun i _ => n0 - (intOf i).toNat)
  case atStart => exact ⟨0, _, _, [], [], by omega, rfl, hC, fW, by simp, by simp⟩
  case round =>
    clear hC fW
    obtain ⟨k, v0, v1, l0, l1, hk, rfl, hC, gr, hl0, hl1⟩ := hrel
    by_cases hlt : k < n0
    · obtain ⟨who, hwho, hwb1, hwb2⟩ := hT.1 k hlt
      obtain ⟨kd, m, wd, t, lh, hTf, htb⟩ := hT.2.1 k hlt
      have t0r := hT.2.2.fr gr (fun _ _ f => f)
      obtain ⟨_, _, he, hn1, hx⟩ := t0r.2
      obtain ⟨g, off, rfl, hgl, hcl⟩ := hx (by omega)
      have hck := hcl k hlt
      injection he with e1 e2 e3
      subst e1 e3
      clear t0r hcl hx e2
      have hkn : (k : Int) < n0 := by omega
      have hs37 := hTf.g.size
      have ka : (wr.alloc (.cells (tZ 0 0 0 ⟨#[]⟩) 34)).heap[wr.heap.size]? = some (.cells (tZ 0 0 0 ⟨#[]⟩) 34 (0, 0)) := heap_alloc_new wr _
      have fa : Fr (fun _ => False) wr (wr.alloc (.cells (tZ 0 0 0 ⟨#[]⟩) 34)) := (Fr.refl _ _).alloc _
      have hqs := heap_lt hC.hq
      go_wp2_with (first
        | (refine wp_load_cells rfl (.tmp 36) 34 37 rfl Tryd.isAgg34 Tryd.sizeOf34 g (off + k * 37) rfl (A0 k) hs37 hck ?_)
        | (refine wp_store_agg rfl (.tmp 7) (.tmp 37) 34 37 rfl Tryd.sizeOf34 wr.heap.size 0 rfl (tZ 0 0 0 ⟨#[]⟩) 34 ka (A0 k) rfl hs37 hTf.one (by decide) (A0 k) (by have : (tZ 0 0 0 ⟨#[]⟩).toList.drop (0 + 37) = [] := rfl; rw [this]; simp) ?_; intro w4 j4 f4 z4; have d0 := (cell_of j4 0).trans hwho))
      have g4 : Fr (fun _ => False) wr w4 := fa.trans f4 (fun k hk q => by omega)
      refine (round_any who _ hwb1 hwb2).mono ?_
      rintro e w5 ⟨rfl, rfl⟩
      clear d0
      obtain ⟨L, c, p, hfo, hF⟩ := foR_cases kd m wd t lh
      have hform := form_t w5 hTf htb
      rw [hfo] at hform
      go_wp2_with (refine wp_load_agg rfl (.tmp 7) 34 37 rfl Tryd.isAgg34 Tryd.sizeOf34 wr.heap.size 0 rfl (A0 k) 34 (0, 0) j4 (A0 k) hs37 (fun j _ => by rw [Nat.zero_add]) ?_)
      refine hform.mono ?_
      rintro e w6 ⟨rfl, f6⟩
      clear hform
      have j6 := (f6.block _ (heap_lt j4) (fun f => f)).trans j4
      have kb : (w6.alloc (.cells #[.int .i64 0, .int .i64 0] 37)).heap[w6.heap.size]? = some (.cells #[.int .i64 0, .int .i64 0] 37 (0, 0)) := heap_alloc_new w6 _
      have fb : Fr (fun _ => False) w6 (w6.alloc (.cells #[.int .i64 0, .int .i64 0] 37)) := (Fr.refl _ _).alloc _
      have HF : Hid ((fmT kd m wd t lh = some L ∧ c = 0 ∧ p = 0) ∨ (fmT kd m wd t lh = none ∧ L = [] ∧ c = 2 ∧ p = -1)) := hF
      clear hF hfo
      have h4 : who % 4 = 0 ∨ who % 4 = 1 ∨ who % 4 = 2 ∨ who % 4 = 3 := by omega
      have hM := heap_lt hC.hq
      have hg0 := fun g e => (hC.h0.gt g e).2
      have hg1 := fun g e => (hC.h1.gt g e).2
      have hLl : L.length ≤ 1048608 := by
        rcases HF.out with ⟨h, _⟩ | ⟨_, h, _⟩
        · have := fm_len h hTf.n1 hTf.n2 hTf.hl (by omega); omega
        · rw [h]; simp
      have HLN0 : Hid ((l0 ++ L).length ≤ (k + 1) * 1048608) := Nat.le_trans (Nat.le_of_eq List.length_append) (by omega)
      have HLN1 : Hid ((l1 ++ L).length ≤ (k + 1) * 1048608) := Nat.le_trans (Nat.le_of_eq List.length_append) (by omega)
      have HLO0 : Hid (l0.length ≤ (k + 1) * 1048608) := Nat.le_trans hl0 (Nat.mul_le_mul_right _ (Nat.le_succ k))
      have HLO1 : Hid (l1.length ≤ (k + 1) * 1048608) := Nat.le_trans hl1 (Nat.mul_le_mul_right _ (Nat.le_succ k))
      rcases h4 with h4 | h4 | h4 | h4
      · rw [h4]
        go_wp2_with (refine wp_store_agg rfl (.tmp 10) (.tmp 45) 37 2 rfl Tryd.sizeOf37 w6.heap.size 0 rfl #[.int .i64 0, .int .i64 0] 37 kb #[.int .i64 c, .int .i64 p] rfl rfl (by simp [Value.oneCell']) (by decide) #[.int .i64 c, .int .i64 p] rfl ?_; intro w7 j7 f7 z7; clear kb)
        have g7 : Fr (fun _ => False) w6 w7 := fb.trans f7 (fun k hk q => by omega)
        have g47 : Fr (fun _ => False) wr w7 := (g4.trans f6 (fun _ _ q => q)).trans g7 (fun _ _ q => q)
        have i7 := (g7.block _ (heap_lt j6) (fun f => f)).trans j6
        have hC7 := hC.fr g47 (fun _ _ f => f)
        have hw6 : wr.heap.size ≤ w6.heap.size := (g4.trans f6 (fun _ _ q => q)).size
        have hsp := sp0 (M := wr.heap.size) (hS.fr (gr.trans g47 (fun _ _ q => q)) (nofalse _)) hC7 hTf htb (by have : k * 1048608 ≤ 150000 * 1048608 := Nat.mul_le_mul_right _ (by omega); omega) hM hg0 HF.out
        clear f4 f6 f7 ka fa fb g7
        have cr := (cell_of hC7.hr 0).trans (show _ = some _ from rfl)
        go_cut [11] from 28 to 91 (fun ev wx => ∃ code v0' v1', EV wx a ev code none ∧ sameB code none c p = true ∧ Cw wx w.heap.size v0' v1' (l0 ++ L) l1 l0 l1 ∧ Fr (fun j => w.heap.size ≤ j ∧ j < wr.heap.size) w7 wx)
        case first =>
          refine wp_region_any (by kernel_rfl) ?_
          try (change wpAny _ _ _ _ _ _ _ (World.drew _))
          refine wpAny_take (i := 0) (v := .slice (some ⟨w.heap.size + 1 + 1 + 1, 0, none⟩) 4 4) rfl (by kernel_rfl) (by kernel_rfl) (by kernel_rfl) (fun _ _ _ h => h) (Or.inl ⟨by rfl, by intro w; go_simp⟩) ?_
          refine wpAny_take (i := 1) (v := .int .i64 0) rfl (by kernel_rfl) (by kernel_rfl) (by kernel_rfl) (fun _ _ _ h => h) (Or.inl ⟨by rfl, by intro w; go_simp⟩) ?_
          refine wpAny_ready (rs := [2, 4]) (by kernel_rfl) (by simp) ?_
          refine AllReady.cons rfl (fun K hK => ?_) (AllReady.cons rfl (fun K hK => ?_) AllReady.nil)
          · go_simp
            refine hK _ _ ?_
            clear hK K
            refine wpAny_ready (rs := [3, 4]) (by kernel_rfl) (by simp) ?_
            refine AllReady.cons rfl (fun K hK => ?_) (AllReady.cons rfl (fun K hK => ?_) AllReady.nil)
            · go_simp
              refine hK _ _ ?_
              clear hK K
              refine wpAny_ready (rs := [4]) (by kernel_rfl) (by simp) ?_
              refine AllReady.cons rfl (fun K hK => ?_) AllReady.nil
              refine step_load_agg rfl (.tmp 7) 34 37 rfl Tryd.isAgg34 Tryd.sizeOf34 wr.heap.size 0 rfl (A0 k) 34 (0, 0) i7 (A0 k) hs37 (fun j _ => by rw [Nat.zero_add]) ?_
              refine hK _ _ ?_
              clear hK K
              refine wpAny_ready (rs := [5]) (by kernel_rfl) (by simp) ?_
              refine AllReady.cons rfl (fun K hK => ?_) AllReady.nil
              go_simp
              go_wp2_with (go_at_call 13; refine (hsp _ (Fr.refl _ w7).drew).mono ?_; rintro e w8 ⟨ev, code, rfl, hev, hsame, ⟨v0', v1', hC8⟩, f8⟩)
              refine wpAny_take (i := 6) (v := ev) rfl (by kernel_rfl) (by kernel_rfl) (by kernel_rfl) (fun _ _ _ h => h) (Or.inl ⟨by rfl, by intro w; go_simp⟩) ?_
              refine wpAny_done (by kernel_rfl) ?_ _
              go_wp2_with fail
              go_meet
              exact ⟨code, v0', v1', hev, hsame, by simpa using hC8, ((Fr.refl (fun j => w.heap.size ≤ j ∧ j < wr.heap.size) w7).drew).trans f8 (fun _ _ q => q)⟩
            · refine step_load_agg rfl (.tmp 7) 34 37 rfl Tryd.isAgg34 Tryd.sizeOf34 wr.heap.size 0 rfl (A0 k) 34 (0, 0) i7 (A0 k) hs37 (fun j _ => by rw [Nat.zero_add]) ?_
              refine hK _ _ ?_
              clear hK K
              refine wpAny_ready (rs := [3]) (by kernel_rfl) (by simp) ?_
              refine AllReady.cons rfl (fun K hK => ?_) AllReady.nil
              go_simp
              refine hK _ _ ?_
              clear hK K
              refine wpAny_ready (rs := [5]) (by kernel_rfl) (by simp) ?_
              refine AllReady.cons rfl (fun K hK => ?_) AllReady.nil
              go_simp
              go_wp2_with (go_at_call 13; refine (hsp _ (Fr.refl _ w7).drew).mono ?_; rintro e w8 ⟨ev, code, rfl, hev, hsame, ⟨v0', v1', hC8⟩, f8⟩)
              refine wpAny_take (i := 6) (v := ev) rfl (by kernel_rfl) (by kernel_rfl) (by kernel_rfl) (fun _ _ _ h => h) (Or.inl ⟨by rfl, by intro w; go_simp⟩) ?_
              refine wpAny_done (by kernel_rfl) ?_ _
              go_wp2_with fail
              go_meet
              exact ⟨code, v0', v1', hev, hsame, by simpa using hC8, ((Fr.refl (fun j => w.heap.size ≤ j ∧ j < wr.heap.size) w7).drew).trans f8 (fun _ _ q => q)⟩
          · refine step_load_agg rfl (.tmp 7) 34 37 rfl Tryd.isAgg34 Tryd.sizeOf34 wr.heap.size 0 rfl (A0 k) 34 (0, 0) i7 (A0 k) hs37 (fun j _ => by rw [Nat.zero_add]) ?_
            refine hK _ _ ?_
            clear hK K
            refine wpAny_ready (rs := [2]) (by kernel_rfl) (by simp) ?_
            refine AllReady.cons rfl (fun K hK => ?_) AllReady.nil
            go_simp
            refine hK _ _ ?_
            clear hK K
            refine wpAny_ready (rs := [3]) (by kernel_rfl) (by simp) ?_
            refine AllReady.cons rfl (fun K hK => ?_) AllReady.nil
            go_simp
            refine hK _ _ ?_
            clear hK K
            refine wpAny_ready (rs := [5]) (by kernel_rfl) (by simp) ?_
            refine AllReady.cons rfl (fun K hK => ?_) AllReady.nil
            go_simp
            go_wp2_with (go_at_call 13; refine (hsp _ (Fr.refl _ w7).drew).mono ?_; rintro e w8 ⟨ev, code, rfl, hev, hsame, ⟨v0', v1', hC8⟩, f8⟩)
            refine wpAny_take (i := 6) (v := ev) rfl (by kernel_rfl) (by kernel_rfl) (by kernel_rfl) (fun _ _ _ h => h) (Or.inl ⟨by rfl, by intro w; go_simp⟩) ?_
            refine wpAny_done (by kernel_rfl) ?_ _
            go_wp2_with fail
            go_meet
            exact ⟨code, v0', v1', hev, hsame, by simpa using hC8, ((Fr.refl (fun j => w.heap.size ≤ j ∧ j < wr.heap.size) w7).drew).trans f8 (fun _ _ q => q)⟩
        case rest =>
          obtain ⟨code, v0', v1', hev, hsame, hC8, f8⟩ := hcut
          have cq := (cell_of hC8.hq 0).trans (show _ = some _ from rfl)
          have cqf := frozen_of hC8.hq 0
          have j8 := (f8.block _ (heap_lt j7) (by omega)).trans j7
          clear cr hsp
          go_wp2_with fail
          obtain ⟨W9, hW9⟩ : ∃ W9, W9 = wc.setCell ⟨w.heap.size + 1 + 1 + 1 + 1, 0, none⟩ (.string (⟨l0.toArray⟩ ++ ⟨L.toArray⟩)) := ⟨_, rfl⟩
          have hC9 : Cw W9 w.heap.size v0' v1' (l0 ++ L) l1 (l0 ++ L) l1 := by rw [hW9]; exact hC8.want 0 _ (by rw [cat_bytes]; rfl)
          have f9 : Fr (fun j => j = w.heap.size + 1 + 1 + 1 + 1) wc W9 := by rw [hW9]; exact (Fr.refl (fun j => j = w.heap.size + 1 + 1 + 1 + 1) wc).setCell ⟨w.heap.size + 1 + 1 + 1 + 1, 0, none⟩ _ (fun _ => rfl)
          have j9 := (f9.block _ (heap_lt j8) (by omega)).trans j8
          have gr9 : Fr (fun _ => False) w W9 := ((gr.trans g47 (fun _ _ q => q)).trans f8 (fun k hk q => by omega)).trans f9 (fun k hk q => by omega)
          rw [← hW9]
          clear hW9 cq cqf f9 j8 hC8
          have hsm : ∀ W1, Fr (fun _ => False) W9 W1 → Calls Tryd.prog 14 #[u11, .agg #[.int .i64 c, .int .i64 p]] W1 fun e w' => e = .returned (.bool true) ∧ Fr (fun _ => False) W1 w' := fun W1 f => by
            have := same_any (hS.fr (gr9.trans f (fun _ _ q => q)) (nofalse _)) (hev.any (w' := W1)) c p
            rwa [hsame] at this
          have hdn : ∀ W1, Fr (fun _ => False) W9 W1 → Calls Tryd.prog 15 #[.pointer (some ⟨w.heap.size, 0, none⟩)] W1 fun e w' => e = .returned (.string ⟨(l0 ++ L).toArray⟩) ∧ w' = W1 := fun W1 f => wdone _ v0' _ _ (hC9.fr f (fun _ _ f => f)).h0
          have cr9 := (cell_of hC9.hr 0).trans (show _ = some _ from rfl)
          have cf0 := (cell_of j9 0).trans (show _ = some _ from rfl)
          have cf1 := (cell_of j9 1).trans (show _ = some _ from rfl)
          have hkp : ∀ w', Fr (fun _ => False) W9 w' → (w'.cell? ⟨w.heap.size + 1 + 1 + 1, 0, none⟩ = some (.pointer (some ⟨w.heap.size, 0, none⟩)) ∧ w'.cell? ⟨w.heap.size + 1 + 1 + 1 + 1, 0, none⟩ = some (.string ⟨(l0 ++ L).toArray⟩) ∧ w'.cell? ⟨w6.heap.size, 0, none⟩ = some (.int .i64 c) ∧ w'.cell? ⟨w6.heap.size, 1, none⟩ = some (.int .i64 p)) := fun w' f => ⟨(cell_of (hC9.fr f (fun _ _ f => f)).hr 0).trans rfl, (cell_of (hC9.fr f (fun _ _ f => f)).hq 0).trans rfl, (cell_of ((f.block _ (heap_lt j9) (fun f => f)).trans j9) 0).trans rfl, (cell_of ((f.block _ (heap_lt j9) (fun f => f)).trans j9) 1).trans rfl⟩
          go_region_held3 (fun w' => w'.cell? ⟨w.heap.size + 1 + 1 + 1, 0, none⟩ = some (.pointer (some ⟨w.heap.size, 0, none⟩)) ∧ w'.cell? ⟨w.heap.size + 1 + 1 + 1 + 1, 0, none⟩ = some (.string ⟨(l0 ++ L).toArray⟩) ∧ w'.cell? ⟨w6.heap.size, 0, none⟩ = some (.int .i64 c) ∧ w'.cell? ⟨w6.heap.size, 1, none⟩ = some (.int .i64 p)) (first | exact hkp _ g10 | exact hkp _ (Fr.refl _ W9).drew)
            (first
            | (go_at_call 14; refine (hsm _ (Fr.refl _ W9).drew).mono ?_; rintro e w10 ⟨rfl, f10⟩; have g10 : Fr (fun _ => False) W9 w10 := ((Fr.refl (fun _ => False) W9).drew).trans f10 (fun _ _ q => q))
            | (go_at_call 15; refine (hdn _ g10).mono ?_; rintro e w11 ⟨rfl, rfl⟩))
          all_goals
            go_wp2_with fail
            go_roundw
            case rel => exact ⟨k + 1, v0', v1', (l0 ++ L), l1, by omega, by go_num, hC9.fr g10 (fun _ _ f => f), gr9.trans g10 (fun _ _ q => q), HLN0.out, HLO1.out⟩
            case measure => simp [intOf]; omega
      · rw [h4]
        go_wp2_with (refine wp_store_agg rfl (.tmp 10) (.tmp 45) 37 2 rfl Tryd.sizeOf37 w6.heap.size 0 rfl #[.int .i64 0, .int .i64 0] 37 kb #[.int .i64 c, .int .i64 p] rfl rfl (by simp [Value.oneCell']) (by decide) #[.int .i64 c, .int .i64 p] rfl ?_; intro w7 j7 f7 z7; clear kb)
        have g7 : Fr (fun _ => False) w6 w7 := fb.trans f7 (fun k hk q => by omega)
        have g47 : Fr (fun _ => False) wr w7 := (g4.trans f6 (fun _ _ q => q)).trans g7 (fun _ _ q => q)
        have i7 := (g7.block _ (heap_lt j6) (fun f => f)).trans j6
        have hC7 := hC.fr g47 (fun _ _ f => f)
        have hw6 : wr.heap.size ≤ w6.heap.size := (g4.trans f6 (fun _ _ q => q)).size
        have hsp := sp1 (M := wr.heap.size) (hS.fr (gr.trans g47 (fun _ _ q => q)) (nofalse _)) hC7 hTf htb (by have : k * 1048608 ≤ 150000 * 1048608 := Nat.mul_le_mul_right _ (by omega); omega) hM hg1 HF.out
        clear f4 f6 f7 ka fa fb g7
        have cr := (cell_of hC7.hr 1).trans (show _ = some _ from rfl)
        go_cut [11] from 28 to 91 (fun ev wx => ∃ code v0' v1', EV wx a ev code none ∧ sameB code none c p = true ∧ Cw wx w.heap.size v0' v1' l0 (l1 ++ L) l0 l1 ∧ Fr (fun j => w.heap.size ≤ j ∧ j < wr.heap.size) w7 wx)
        case first =>
          refine wp_region_any (by kernel_rfl) ?_
          try (change wpAny _ _ _ _ _ _ _ (World.drew _))
          refine wpAny_take (i := 0) (v := .slice (some ⟨w.heap.size + 1 + 1 + 1, 0, none⟩) 4 4) rfl (by kernel_rfl) (by kernel_rfl) (by kernel_rfl) (fun _ _ _ h => h) (Or.inl ⟨by rfl, by intro w; go_simp⟩) ?_
          refine wpAny_take (i := 1) (v := .int .i64 1) rfl (by kernel_rfl) (by kernel_rfl) (by kernel_rfl) (fun _ _ _ h => h) (Or.inl ⟨by rfl, by intro w; go_simp⟩) ?_
          refine wpAny_ready (rs := [2, 4]) (by kernel_rfl) (by simp) ?_
          refine AllReady.cons rfl (fun K hK => ?_) (AllReady.cons rfl (fun K hK => ?_) AllReady.nil)
          · go_simp
            refine hK _ _ ?_
            clear hK K
            refine wpAny_ready (rs := [3, 4]) (by kernel_rfl) (by simp) ?_
            refine AllReady.cons rfl (fun K hK => ?_) (AllReady.cons rfl (fun K hK => ?_) AllReady.nil)
            · go_simp
              refine hK _ _ ?_
              clear hK K
              refine wpAny_ready (rs := [4]) (by kernel_rfl) (by simp) ?_
              refine AllReady.cons rfl (fun K hK => ?_) AllReady.nil
              refine step_load_agg rfl (.tmp 7) 34 37 rfl Tryd.isAgg34 Tryd.sizeOf34 wr.heap.size 0 rfl (A0 k) 34 (0, 0) i7 (A0 k) hs37 (fun j _ => by rw [Nat.zero_add]) ?_
              refine hK _ _ ?_
              clear hK K
              refine wpAny_ready (rs := [5]) (by kernel_rfl) (by simp) ?_
              refine AllReady.cons rfl (fun K hK => ?_) AllReady.nil
              go_simp
              go_wp2_with (go_at_call 13; refine (hsp _ (Fr.refl _ w7).drew).mono ?_; rintro e w8 ⟨ev, code, rfl, hev, hsame, ⟨v0', v1', hC8⟩, f8⟩)
              refine wpAny_take (i := 6) (v := ev) rfl (by kernel_rfl) (by kernel_rfl) (by kernel_rfl) (fun _ _ _ h => h) (Or.inl ⟨by rfl, by intro w; go_simp⟩) ?_
              refine wpAny_done (by kernel_rfl) ?_ _
              go_wp2_with fail
              go_meet
              exact ⟨code, v0', v1', hev, hsame, by simpa using hC8, ((Fr.refl (fun j => w.heap.size ≤ j ∧ j < wr.heap.size) w7).drew).trans f8 (fun _ _ q => q)⟩
            · refine step_load_agg rfl (.tmp 7) 34 37 rfl Tryd.isAgg34 Tryd.sizeOf34 wr.heap.size 0 rfl (A0 k) 34 (0, 0) i7 (A0 k) hs37 (fun j _ => by rw [Nat.zero_add]) ?_
              refine hK _ _ ?_
              clear hK K
              refine wpAny_ready (rs := [3]) (by kernel_rfl) (by simp) ?_
              refine AllReady.cons rfl (fun K hK => ?_) AllReady.nil
              go_simp
              refine hK _ _ ?_
              clear hK K
              refine wpAny_ready (rs := [5]) (by kernel_rfl) (by simp) ?_
              refine AllReady.cons rfl (fun K hK => ?_) AllReady.nil
              go_simp
              go_wp2_with (go_at_call 13; refine (hsp _ (Fr.refl _ w7).drew).mono ?_; rintro e w8 ⟨ev, code, rfl, hev, hsame, ⟨v0', v1', hC8⟩, f8⟩)
              refine wpAny_take (i := 6) (v := ev) rfl (by kernel_rfl) (by kernel_rfl) (by kernel_rfl) (fun _ _ _ h => h) (Or.inl ⟨by rfl, by intro w; go_simp⟩) ?_
              refine wpAny_done (by kernel_rfl) ?_ _
              go_wp2_with fail
              go_meet
              exact ⟨code, v0', v1', hev, hsame, by simpa using hC8, ((Fr.refl (fun j => w.heap.size ≤ j ∧ j < wr.heap.size) w7).drew).trans f8 (fun _ _ q => q)⟩
          · refine step_load_agg rfl (.tmp 7) 34 37 rfl Tryd.isAgg34 Tryd.sizeOf34 wr.heap.size 0 rfl (A0 k) 34 (0, 0) i7 (A0 k) hs37 (fun j _ => by rw [Nat.zero_add]) ?_
            refine hK _ _ ?_
            clear hK K
            refine wpAny_ready (rs := [2]) (by kernel_rfl) (by simp) ?_
            refine AllReady.cons rfl (fun K hK => ?_) AllReady.nil
            go_simp
            refine hK _ _ ?_
            clear hK K
            refine wpAny_ready (rs := [3]) (by kernel_rfl) (by simp) ?_
            refine AllReady.cons rfl (fun K hK => ?_) AllReady.nil
            go_simp
            refine hK _ _ ?_
            clear hK K
            refine wpAny_ready (rs := [5]) (by kernel_rfl) (by simp) ?_
            refine AllReady.cons rfl (fun K hK => ?_) AllReady.nil
            go_simp
            go_wp2_with (go_at_call 13; refine (hsp _ (Fr.refl _ w7).drew).mono ?_; rintro e w8 ⟨ev, code, rfl, hev, hsame, ⟨v0', v1', hC8⟩, f8⟩)
            refine wpAny_take (i := 6) (v := ev) rfl (by kernel_rfl) (by kernel_rfl) (by kernel_rfl) (fun _ _ _ h => h) (Or.inl ⟨by rfl, by intro w; go_simp⟩) ?_
            refine wpAny_done (by kernel_rfl) ?_ _
            go_wp2_with fail
            go_meet
            exact ⟨code, v0', v1', hev, hsame, by simpa using hC8, ((Fr.refl (fun j => w.heap.size ≤ j ∧ j < wr.heap.size) w7).drew).trans f8 (fun _ _ q => q)⟩
        case rest =>
          obtain ⟨code, v0', v1', hev, hsame, hC8, f8⟩ := hcut
          have cq := (cell_of hC8.hq 1).trans (show _ = some _ from rfl)
          have cqf := frozen_of hC8.hq 1
          have j8 := (f8.block _ (heap_lt j7) (by omega)).trans j7
          clear cr hsp
          go_wp2_with fail
          obtain ⟨W9, hW9⟩ : ∃ W9, W9 = wc.setCell ⟨w.heap.size + 1 + 1 + 1 + 1, 1, none⟩ (.string (⟨l1.toArray⟩ ++ ⟨L.toArray⟩)) := ⟨_, rfl⟩
          have hC9 : Cw W9 w.heap.size v0' v1' l0 (l1 ++ L) l0 (l1 ++ L) := by rw [hW9]; exact hC8.want 1 _ (by rw [cat_bytes]; rfl)
          have f9 : Fr (fun j => j = w.heap.size + 1 + 1 + 1 + 1) wc W9 := by rw [hW9]; exact (Fr.refl (fun j => j = w.heap.size + 1 + 1 + 1 + 1) wc).setCell ⟨w.heap.size + 1 + 1 + 1 + 1, 1, none⟩ _ (fun _ => rfl)
          have j9 := (f9.block _ (heap_lt j8) (by omega)).trans j8
          have gr9 : Fr (fun _ => False) w W9 := ((gr.trans g47 (fun _ _ q => q)).trans f8 (fun k hk q => by omega)).trans f9 (fun k hk q => by omega)
          rw [← hW9]
          clear hW9 cq cqf f9 j8 hC8
          have hsm : ∀ W1, Fr (fun _ => False) W9 W1 → Calls Tryd.prog 14 #[u11, .agg #[.int .i64 c, .int .i64 p]] W1 fun e w' => e = .returned (.bool true) ∧ Fr (fun _ => False) W1 w' := fun W1 f => by
            have := same_any (hS.fr (gr9.trans f (fun _ _ q => q)) (nofalse _)) (hev.any (w' := W1)) c p
            rwa [hsame] at this
          have hdn : ∀ W1, Fr (fun _ => False) W9 W1 → Calls Tryd.prog 15 #[.pointer (some ⟨w.heap.size + 1, 0, none⟩)] W1 fun e w' => e = .returned (.string ⟨(l1 ++ L).toArray⟩) ∧ w' = W1 := fun W1 f => wdone _ v1' _ _ (hC9.fr f (fun _ _ f => f)).h1
          have cr9 := (cell_of hC9.hr 1).trans (show _ = some _ from rfl)
          have cf0 := (cell_of j9 0).trans (show _ = some _ from rfl)
          have cf1 := (cell_of j9 1).trans (show _ = some _ from rfl)
          have hkp : ∀ w', Fr (fun _ => False) W9 w' → (w'.cell? ⟨w.heap.size + 1 + 1 + 1, 1, none⟩ = some (.pointer (some ⟨w.heap.size + 1, 0, none⟩)) ∧ w'.cell? ⟨w.heap.size + 1 + 1 + 1 + 1, 1, none⟩ = some (.string ⟨(l1 ++ L).toArray⟩) ∧ w'.cell? ⟨w6.heap.size, 0, none⟩ = some (.int .i64 c) ∧ w'.cell? ⟨w6.heap.size, 1, none⟩ = some (.int .i64 p)) := fun w' f => ⟨(cell_of (hC9.fr f (fun _ _ f => f)).hr 1).trans rfl, (cell_of (hC9.fr f (fun _ _ f => f)).hq 1).trans rfl, (cell_of ((f.block _ (heap_lt j9) (fun f => f)).trans j9) 0).trans rfl, (cell_of ((f.block _ (heap_lt j9) (fun f => f)).trans j9) 1).trans rfl⟩
          go_region_held3 (fun w' => w'.cell? ⟨w.heap.size + 1 + 1 + 1, 1, none⟩ = some (.pointer (some ⟨w.heap.size + 1, 0, none⟩)) ∧ w'.cell? ⟨w.heap.size + 1 + 1 + 1 + 1, 1, none⟩ = some (.string ⟨(l1 ++ L).toArray⟩) ∧ w'.cell? ⟨w6.heap.size, 0, none⟩ = some (.int .i64 c) ∧ w'.cell? ⟨w6.heap.size, 1, none⟩ = some (.int .i64 p)) (first | exact hkp _ g10 | exact hkp _ (Fr.refl _ W9).drew)
            (first
            | (go_at_call 14; refine (hsm _ (Fr.refl _ W9).drew).mono ?_; rintro e w10 ⟨rfl, f10⟩; have g10 : Fr (fun _ => False) W9 w10 := ((Fr.refl (fun _ => False) W9).drew).trans f10 (fun _ _ q => q))
            | (go_at_call 15; refine (hdn _ g10).mono ?_; rintro e w11 ⟨rfl, rfl⟩))
          all_goals
            go_wp2_with fail
            go_roundw
            case rel => exact ⟨k + 1, v0', v1', l0, (l1 ++ L), by omega, by go_num, hC9.fr g10 (fun _ _ f => f), gr9.trans g10 (fun _ _ q => q), HLO0.out, HLN1.out⟩
            case measure => simp [intOf]; omega
      · rw [h4]
        go_wp2_with (refine wp_store_agg rfl (.tmp 10) (.tmp 45) 37 2 rfl Tryd.sizeOf37 w6.heap.size 0 rfl #[.int .i64 0, .int .i64 0] 37 kb #[.int .i64 c, .int .i64 p] rfl rfl (by simp [Value.oneCell']) (by decide) #[.int .i64 c, .int .i64 p] rfl ?_; intro w7 j7 f7 z7; clear kb; have i7' := ((fb.trans f7 (fun k hk q => by omega) : Fr (fun _ => False) w6 w7).block _ (heap_lt j6) (fun f => f)).trans j6; have d1 := (cell_of i7' 1).trans hTf.g.k)
        have g7 : Fr (fun _ => False) w6 w7 := fb.trans f7 (fun k hk q => by omega)
        have g47 : Fr (fun _ => False) wr w7 := (g4.trans f6 (fun _ _ q => q)).trans g7 (fun _ _ q => q)
        have i7 := (g7.block _ (heap_lt j6) (fun f => f)).trans j6
        have hC7 := hC.fr g47 (fun _ _ f => f)
        have hw6 : wr.heap.size ≤ w6.heap.size := (g4.trans f6 (fun _ _ q => q)).size
        refine (round_any kd _ hTf.g.k1 hTf.g.k2).mono ?_
        rintro e w7' ⟨rfl, rfl⟩
        by_cases hk0 : kd % 4 = 0
        · rw [hk0]
          go_wp2_with fail
          refine (plain_any 1 _ (by omega)).mono ?_
          rintro e w8 ⟨rfl, f8⟩
          have j8 := (f8.block _ (heap_lt j7) (fun f => f)).trans j7
          go_wp2_with (refine wp_store_agg rfl (.tmp 10) (.tmp 52) 37 2 rfl Tryd.sizeOf37 w6.heap.size 0 rfl #[.int .i64 c, .int .i64 p] 37 j8 #[.int .i64 1, .int .i64 (-1)] rfl rfl (by simp [Value.oneCell']) (Nat.le_refl 2) #[.int .i64 1, .int .i64 (-1)] rfl ?_; intro wt jt ft zt)
          try simp only [Act.put]
          have gt : Fr (fun _ => False) wr wt := (g47.trans f8 (fun _ _ q => q)).trans ft (fun k hk q => by omega)
          have hjn : wr.heap.size < w6.heap.size := Nat.lt_of_lt_of_le (heap_lt j4) f6.size
          have it := (ft.block _ (Nat.lt_of_lt_of_le (heap_lt i7) f8.size) (by omega)).trans ((f8.block _ (heap_lt i7) (fun f => f)).trans i7)
          have hCt := hC.fr gt (fun _ _ f => f)
          have hsp := spn (M := wr.heap.size) (k := 2) (rp := none) (hS.fr (gr.trans gt (fun _ _ q => q)) (nofalse _)) hCt hTf (Nt.nil _) (by omega) (.inl ⟨hk0, rfl, rfl⟩)
          clear f4 f6 f7 ka fa fb g7 d1 i7' i7 j8 f8 ft
          have cr := (cell_of hCt.hr 2).trans (show _ = some _ from rfl)
          go_cut [11] from 28 to 91 (fun ev wx => ∃ code v0' v1', EV wx a ev code none ∧ sameB code none 1 (-1) = true ∧ Cw wx w.heap.size v0' v1' l0 l1 l0 l1 ∧ Fr (fun j => w.heap.size ≤ j ∧ j < wr.heap.size) wt wx)
          case first =>
            refine wp_region_any (by kernel_rfl) ?_
            try (change wpAny _ _ _ _ _ _ _ (World.drew _))
            refine wpAny_take (i := 0) (v := .slice (some ⟨w.heap.size + 1 + 1 + 1, 0, none⟩) 4 4) rfl (by kernel_rfl) (by kernel_rfl) (by kernel_rfl) (fun _ _ _ h => h) (Or.inl ⟨by rfl, by intro w; go_simp⟩) ?_
            refine wpAny_take (i := 1) (v := .int .i64 2) rfl (by kernel_rfl) (by kernel_rfl) (by kernel_rfl) (fun _ _ _ h => h) (Or.inl ⟨by rfl, by intro w; go_simp⟩) ?_
            refine wpAny_ready (rs := [2, 4]) (by kernel_rfl) (by simp) ?_
            refine AllReady.cons rfl (fun K hK => ?_) (AllReady.cons rfl (fun K hK => ?_) AllReady.nil)
            · go_simp
              refine hK _ _ ?_
              clear hK K
              refine wpAny_ready (rs := [3, 4]) (by kernel_rfl) (by simp) ?_
              refine AllReady.cons rfl (fun K hK => ?_) (AllReady.cons rfl (fun K hK => ?_) AllReady.nil)
              · go_simp
                refine hK _ _ ?_
                clear hK K
                refine wpAny_ready (rs := [4]) (by kernel_rfl) (by simp) ?_
                refine AllReady.cons rfl (fun K hK => ?_) AllReady.nil
                refine step_load_agg rfl (.tmp 7) 34 37 rfl Tryd.isAgg34 Tryd.sizeOf34 wr.heap.size 0 rfl (A0 k) 34 (0, 0) it (A0 k) hs37 (fun j _ => by rw [Nat.zero_add]) ?_
                refine hK _ _ ?_
                clear hK K
                refine wpAny_ready (rs := [5]) (by kernel_rfl) (by simp) ?_
                refine AllReady.cons rfl (fun K hK => ?_) AllReady.nil
                go_simp
                go_wp2_with (go_at_call 13; refine (hsp _ (Fr.refl _ wt).drew).mono ?_; rintro e w8 ⟨ev, code, rfl, hev, hsame, ⟨v0', v1', hC8⟩, f8⟩)
                refine wpAny_take (i := 6) (v := ev) rfl (by kernel_rfl) (by kernel_rfl) (by kernel_rfl) (fun _ _ _ h => h) (Or.inl ⟨by rfl, by intro w; go_simp⟩) ?_
                refine wpAny_done (by kernel_rfl) ?_ _
                go_wp2_with fail
                go_meet
                exact ⟨code, v0', v1', hev, hsame, by simpa using hC8, ((Fr.refl (fun j => w.heap.size ≤ j ∧ j < wr.heap.size) wt).drew).trans f8 (fun _ _ q => q)⟩
              · refine step_load_agg rfl (.tmp 7) 34 37 rfl Tryd.isAgg34 Tryd.sizeOf34 wr.heap.size 0 rfl (A0 k) 34 (0, 0) it (A0 k) hs37 (fun j _ => by rw [Nat.zero_add]) ?_
                refine hK _ _ ?_
                clear hK K
                refine wpAny_ready (rs := [3]) (by kernel_rfl) (by simp) ?_
                refine AllReady.cons rfl (fun K hK => ?_) AllReady.nil
                go_simp
                refine hK _ _ ?_
                clear hK K
                refine wpAny_ready (rs := [5]) (by kernel_rfl) (by simp) ?_
                refine AllReady.cons rfl (fun K hK => ?_) AllReady.nil
                go_simp
                go_wp2_with (go_at_call 13; refine (hsp _ (Fr.refl _ wt).drew).mono ?_; rintro e w8 ⟨ev, code, rfl, hev, hsame, ⟨v0', v1', hC8⟩, f8⟩)
                refine wpAny_take (i := 6) (v := ev) rfl (by kernel_rfl) (by kernel_rfl) (by kernel_rfl) (fun _ _ _ h => h) (Or.inl ⟨by rfl, by intro w; go_simp⟩) ?_
                refine wpAny_done (by kernel_rfl) ?_ _
                go_wp2_with fail
                go_meet
                exact ⟨code, v0', v1', hev, hsame, by simpa using hC8, ((Fr.refl (fun j => w.heap.size ≤ j ∧ j < wr.heap.size) wt).drew).trans f8 (fun _ _ q => q)⟩
            · refine step_load_agg rfl (.tmp 7) 34 37 rfl Tryd.isAgg34 Tryd.sizeOf34 wr.heap.size 0 rfl (A0 k) 34 (0, 0) it (A0 k) hs37 (fun j _ => by rw [Nat.zero_add]) ?_
              refine hK _ _ ?_
              clear hK K
              refine wpAny_ready (rs := [2]) (by kernel_rfl) (by simp) ?_
              refine AllReady.cons rfl (fun K hK => ?_) AllReady.nil
              go_simp
              refine hK _ _ ?_
              clear hK K
              refine wpAny_ready (rs := [3]) (by kernel_rfl) (by simp) ?_
              refine AllReady.cons rfl (fun K hK => ?_) AllReady.nil
              go_simp
              refine hK _ _ ?_
              clear hK K
              refine wpAny_ready (rs := [5]) (by kernel_rfl) (by simp) ?_
              refine AllReady.cons rfl (fun K hK => ?_) AllReady.nil
              go_simp
              go_wp2_with (go_at_call 13; refine (hsp _ (Fr.refl _ wt).drew).mono ?_; rintro e w8 ⟨ev, code, rfl, hev, hsame, ⟨v0', v1', hC8⟩, f8⟩)
              refine wpAny_take (i := 6) (v := ev) rfl (by kernel_rfl) (by kernel_rfl) (by kernel_rfl) (fun _ _ _ h => h) (Or.inl ⟨by rfl, by intro w; go_simp⟩) ?_
              refine wpAny_done (by kernel_rfl) ?_ _
              go_wp2_with fail
              go_meet
              exact ⟨code, v0', v1', hev, hsame, by simpa using hC8, ((Fr.refl (fun j => w.heap.size ≤ j ∧ j < wr.heap.size) wt).drew).trans f8 (fun _ _ q => q)⟩
          case rest =>
            obtain ⟨code, v0', v1', hev, hsame, hC8, f8⟩ := hcut
            have cq := (cell_of hC8.hq 2).trans (show _ = some _ from rfl)
            have cqf := frozen_of hC8.hq 2
            have j8 := (f8.block _ (heap_lt jt) (by omega)).trans jt
            clear cr hsp
            go_wp2_with fail
            obtain ⟨W9, hW9⟩ : ∃ W9, W9 = wc.setCell ⟨w.heap.size + 1 + 1 + 1 + 1, 2, none⟩ (.string (⟨#[]⟩ ++ ⟨#[]⟩)) := ⟨_, rfl⟩
            have hC9 : Cw W9 w.heap.size v0' v1' l0 l1 l0 l1 := by rw [hW9]; exact hC8.want 2 _ (by rfl)
            have f9 : Fr (fun j => j = w.heap.size + 1 + 1 + 1 + 1) wc W9 := by rw [hW9]; exact (Fr.refl (fun j => j = w.heap.size + 1 + 1 + 1 + 1) wc).setCell ⟨w.heap.size + 1 + 1 + 1 + 1, 2, none⟩ _ (fun _ => rfl)
            have j9 := (f9.block _ (heap_lt j8) (by omega)).trans j8
            have gr9 : Fr (fun _ => False) w W9 := ((gr.trans gt (fun _ _ q => q)).trans f8 (fun k hk q => by omega)).trans f9 (fun k hk q => by omega)
            rw [← hW9]
            clear hW9 cq cqf f9 j8 hC8
            have hsm : ∀ W1, Fr (fun _ => False) W9 W1 → Calls Tryd.prog 14 #[u11, .agg #[.int .i64 1, .int .i64 (-1)]] W1 fun e w' => e = .returned (.bool true) ∧ Fr (fun _ => False) W1 w' := fun W1 f => by
              have := same_any (hS.fr (gr9.trans f (fun _ _ q => q)) (nofalse _)) (hev.any (w' := W1)) 1 (-1)
              rwa [hsame] at this
            have hdn : ∀ W1, Fr (fun _ => False) W9 W1 → Calls Tryd.prog 15 #[.pointer none] W1 fun e w' => e = .returned (.string ⟨#[]⟩) ∧ w' = W1 := fun W1 f => ndone (Nt.nil _)
            have cr9 := (cell_of hC9.hr 2).trans (show _ = some _ from rfl)
            have cf0 := (cell_of j9 0).trans (show _ = some _ from rfl)
            have cf1 := (cell_of j9 1).trans (show _ = some _ from rfl)
            have hkp : ∀ w', Fr (fun _ => False) W9 w' → (w'.cell? ⟨w.heap.size + 1 + 1 + 1, 2, none⟩ = some (.pointer none) ∧ w'.cell? ⟨w.heap.size + 1 + 1 + 1 + 1, 2, none⟩ = some (.string ⟨#[]⟩) ∧ w'.cell? ⟨w6.heap.size, 0, none⟩ = some (.int .i64 1) ∧ w'.cell? ⟨w6.heap.size, 1, none⟩ = some (.int .i64 (-1))) := fun w' f => ⟨(cell_of (hC9.fr f (fun _ _ f => f)).hr 2).trans rfl, (cell_of (hC9.fr f (fun _ _ f => f)).hq 2).trans rfl, (cell_of ((f.block _ (heap_lt j9) (fun f => f)).trans j9) 0).trans rfl, (cell_of ((f.block _ (heap_lt j9) (fun f => f)).trans j9) 1).trans rfl⟩
            go_region_held3 (fun w' => w'.cell? ⟨w.heap.size + 1 + 1 + 1, 2, none⟩ = some (.pointer none) ∧ w'.cell? ⟨w.heap.size + 1 + 1 + 1 + 1, 2, none⟩ = some (.string ⟨#[]⟩) ∧ w'.cell? ⟨w6.heap.size, 0, none⟩ = some (.int .i64 1) ∧ w'.cell? ⟨w6.heap.size, 1, none⟩ = some (.int .i64 (-1))) (first | exact hkp _ g10 | exact hkp _ (Fr.refl _ W9).drew)
              (first
              | (go_at_call 14; refine (hsm _ (Fr.refl _ W9).drew).mono ?_; rintro e w10 ⟨rfl, f10⟩; have g10 : Fr (fun _ => False) W9 w10 := ((Fr.refl (fun _ => False) W9).drew).trans f10 (fun _ _ q => q))
              | (go_at_call 15; refine (hdn _ g10).mono ?_; rintro e w11 ⟨rfl, rfl⟩))
            all_goals
              go_wp2_with fail
              go_roundw
              case rel => exact ⟨k + 1, v0', v1', l0, l1, by omega, by go_num, hC9.fr g10 (fun _ _ f => f), gr9.trans g10 (fun _ _ q => q), HLO0.out, HLO1.out⟩
              case measure => simp [intOf]; omega
        · have hkb : (kd % 4 == 0) = false := by rw [beq_eq_false_iff_ne]; exact hk0
          obtain ⟨rfl, rfl⟩ := fm_some hk0 HF.out
          go_wp2_with fail
          have hsp := spn (M := wr.heap.size) (k := 2) (rp := none) (hS.fr (gr.trans g47 (fun _ _ q => q)) (nofalse _)) hC7 hTf (Nt.nil _) (by omega) (.inr ⟨hk0, rfl, rfl⟩)
          clear f4 f6 f7 ka fa fb g7 d1 i7'
          have cr := (cell_of hC7.hr 2).trans (show _ = some _ from rfl)
          go_cut [11] from 28 to 91 (fun ev wx => ∃ code v0' v1', EV wx a ev code none ∧ sameB code none 0 0 = true ∧ Cw wx w.heap.size v0' v1' l0 l1 l0 l1 ∧ Fr (fun j => w.heap.size ≤ j ∧ j < wr.heap.size) w7' wx)
          case first =>
            refine wp_region_any (by kernel_rfl) ?_
            try (change wpAny _ _ _ _ _ _ _ (World.drew _))
            refine wpAny_take (i := 0) (v := .slice (some ⟨w.heap.size + 1 + 1 + 1, 0, none⟩) 4 4) rfl (by kernel_rfl) (by kernel_rfl) (by kernel_rfl) (fun _ _ _ h => h) (Or.inl ⟨by rfl, by intro w; go_simp⟩) ?_
            refine wpAny_take (i := 1) (v := .int .i64 2) rfl (by kernel_rfl) (by kernel_rfl) (by kernel_rfl) (fun _ _ _ h => h) (Or.inl ⟨by rfl, by intro w; go_simp⟩) ?_
            refine wpAny_ready (rs := [2, 4]) (by kernel_rfl) (by simp) ?_
            refine AllReady.cons rfl (fun K hK => ?_) (AllReady.cons rfl (fun K hK => ?_) AllReady.nil)
            · go_simp
              refine hK _ _ ?_
              clear hK K
              refine wpAny_ready (rs := [3, 4]) (by kernel_rfl) (by simp) ?_
              refine AllReady.cons rfl (fun K hK => ?_) (AllReady.cons rfl (fun K hK => ?_) AllReady.nil)
              · go_simp
                refine hK _ _ ?_
                clear hK K
                refine wpAny_ready (rs := [4]) (by kernel_rfl) (by simp) ?_
                refine AllReady.cons rfl (fun K hK => ?_) AllReady.nil
                refine step_load_agg rfl (.tmp 7) 34 37 rfl Tryd.isAgg34 Tryd.sizeOf34 wr.heap.size 0 rfl (A0 k) 34 (0, 0) i7 (A0 k) hs37 (fun j _ => by rw [Nat.zero_add]) ?_
                refine hK _ _ ?_
                clear hK K
                refine wpAny_ready (rs := [5]) (by kernel_rfl) (by simp) ?_
                refine AllReady.cons rfl (fun K hK => ?_) AllReady.nil
                go_simp
                go_wp2_with (go_at_call 13; refine (hsp _ (Fr.refl _ w7').drew).mono ?_; rintro e w8 ⟨ev, code, rfl, hev, hsame, ⟨v0', v1', hC8⟩, f8⟩)
                refine wpAny_take (i := 6) (v := ev) rfl (by kernel_rfl) (by kernel_rfl) (by kernel_rfl) (fun _ _ _ h => h) (Or.inl ⟨by rfl, by intro w; go_simp⟩) ?_
                refine wpAny_done (by kernel_rfl) ?_ _
                go_wp2_with fail
                go_meet
                exact ⟨code, v0', v1', hev, hsame, by simpa using hC8, ((Fr.refl (fun j => w.heap.size ≤ j ∧ j < wr.heap.size) w7').drew).trans f8 (fun _ _ q => q)⟩
              · refine step_load_agg rfl (.tmp 7) 34 37 rfl Tryd.isAgg34 Tryd.sizeOf34 wr.heap.size 0 rfl (A0 k) 34 (0, 0) i7 (A0 k) hs37 (fun j _ => by rw [Nat.zero_add]) ?_
                refine hK _ _ ?_
                clear hK K
                refine wpAny_ready (rs := [3]) (by kernel_rfl) (by simp) ?_
                refine AllReady.cons rfl (fun K hK => ?_) AllReady.nil
                go_simp
                refine hK _ _ ?_
                clear hK K
                refine wpAny_ready (rs := [5]) (by kernel_rfl) (by simp) ?_
                refine AllReady.cons rfl (fun K hK => ?_) AllReady.nil
                go_simp
                go_wp2_with (go_at_call 13; refine (hsp _ (Fr.refl _ w7').drew).mono ?_; rintro e w8 ⟨ev, code, rfl, hev, hsame, ⟨v0', v1', hC8⟩, f8⟩)
                refine wpAny_take (i := 6) (v := ev) rfl (by kernel_rfl) (by kernel_rfl) (by kernel_rfl) (fun _ _ _ h => h) (Or.inl ⟨by rfl, by intro w; go_simp⟩) ?_
                refine wpAny_done (by kernel_rfl) ?_ _
                go_wp2_with fail
                go_meet
                exact ⟨code, v0', v1', hev, hsame, by simpa using hC8, ((Fr.refl (fun j => w.heap.size ≤ j ∧ j < wr.heap.size) w7').drew).trans f8 (fun _ _ q => q)⟩
            · refine step_load_agg rfl (.tmp 7) 34 37 rfl Tryd.isAgg34 Tryd.sizeOf34 wr.heap.size 0 rfl (A0 k) 34 (0, 0) i7 (A0 k) hs37 (fun j _ => by rw [Nat.zero_add]) ?_
              refine hK _ _ ?_
              clear hK K
              refine wpAny_ready (rs := [2]) (by kernel_rfl) (by simp) ?_
              refine AllReady.cons rfl (fun K hK => ?_) AllReady.nil
              go_simp
              refine hK _ _ ?_
              clear hK K
              refine wpAny_ready (rs := [3]) (by kernel_rfl) (by simp) ?_
              refine AllReady.cons rfl (fun K hK => ?_) AllReady.nil
              go_simp
              refine hK _ _ ?_
              clear hK K
              refine wpAny_ready (rs := [5]) (by kernel_rfl) (by simp) ?_
              refine AllReady.cons rfl (fun K hK => ?_) AllReady.nil
              go_simp
              go_wp2_with (go_at_call 13; refine (hsp _ (Fr.refl _ w7').drew).mono ?_; rintro e w8 ⟨ev, code, rfl, hev, hsame, ⟨v0', v1', hC8⟩, f8⟩)
              refine wpAny_take (i := 6) (v := ev) rfl (by kernel_rfl) (by kernel_rfl) (by kernel_rfl) (fun _ _ _ h => h) (Or.inl ⟨by rfl, by intro w; go_simp⟩) ?_
              refine wpAny_done (by kernel_rfl) ?_ _
              go_wp2_with fail
              go_meet
              exact ⟨code, v0', v1', hev, hsame, by simpa using hC8, ((Fr.refl (fun j => w.heap.size ≤ j ∧ j < wr.heap.size) w7').drew).trans f8 (fun _ _ q => q)⟩
          case rest =>
            obtain ⟨code, v0', v1', hev, hsame, hC8, f8⟩ := hcut
            have cq := (cell_of hC8.hq 2).trans (show _ = some _ from rfl)
            have cqf := frozen_of hC8.hq 2
            have j8 := (f8.block _ (heap_lt j7) (by omega)).trans j7
            clear cr hsp
            go_wp2_with fail
            obtain ⟨W9, hW9⟩ : ∃ W9, W9 = wc.setCell ⟨w.heap.size + 1 + 1 + 1 + 1, 2, none⟩ (.string (⟨#[]⟩ ++ ⟨#[]⟩)) := ⟨_, rfl⟩
            have hC9 : Cw W9 w.heap.size v0' v1' l0 l1 l0 l1 := by rw [hW9]; exact hC8.want 2 _ (by rfl)
            have f9 : Fr (fun j => j = w.heap.size + 1 + 1 + 1 + 1) wc W9 := by rw [hW9]; exact (Fr.refl (fun j => j = w.heap.size + 1 + 1 + 1 + 1) wc).setCell ⟨w.heap.size + 1 + 1 + 1 + 1, 2, none⟩ _ (fun _ => rfl)
            have j9 := (f9.block _ (heap_lt j8) (by omega)).trans j8
            have gr9 : Fr (fun _ => False) w W9 := ((gr.trans g47 (fun _ _ q => q)).trans f8 (fun k hk q => by omega)).trans f9 (fun k hk q => by omega)
            rw [← hW9]
            clear hW9 cq cqf f9 j8 hC8
            have hsm : ∀ W1, Fr (fun _ => False) W9 W1 → Calls Tryd.prog 14 #[u11, .agg #[.int .i64 0, .int .i64 0]] W1 fun e w' => e = .returned (.bool true) ∧ Fr (fun _ => False) W1 w' := fun W1 f => by
              have := same_any (hS.fr (gr9.trans f (fun _ _ q => q)) (nofalse _)) (hev.any (w' := W1)) 0 0
              rwa [hsame] at this
            have hdn : ∀ W1, Fr (fun _ => False) W9 W1 → Calls Tryd.prog 15 #[.pointer none] W1 fun e w' => e = .returned (.string ⟨#[]⟩) ∧ w' = W1 := fun W1 f => ndone (Nt.nil _)
            have cr9 := (cell_of hC9.hr 2).trans (show _ = some _ from rfl)
            have cf0 := (cell_of j9 0).trans (show _ = some _ from rfl)
            have cf1 := (cell_of j9 1).trans (show _ = some _ from rfl)
            have hkp : ∀ w', Fr (fun _ => False) W9 w' → (w'.cell? ⟨w.heap.size + 1 + 1 + 1, 2, none⟩ = some (.pointer none) ∧ w'.cell? ⟨w.heap.size + 1 + 1 + 1 + 1, 2, none⟩ = some (.string ⟨#[]⟩) ∧ w'.cell? ⟨w6.heap.size, 0, none⟩ = some (.int .i64 0) ∧ w'.cell? ⟨w6.heap.size, 1, none⟩ = some (.int .i64 0)) := fun w' f => ⟨(cell_of (hC9.fr f (fun _ _ f => f)).hr 2).trans rfl, (cell_of (hC9.fr f (fun _ _ f => f)).hq 2).trans rfl, (cell_of ((f.block _ (heap_lt j9) (fun f => f)).trans j9) 0).trans rfl, (cell_of ((f.block _ (heap_lt j9) (fun f => f)).trans j9) 1).trans rfl⟩
            go_region_held3 (fun w' => w'.cell? ⟨w.heap.size + 1 + 1 + 1, 2, none⟩ = some (.pointer none) ∧ w'.cell? ⟨w.heap.size + 1 + 1 + 1 + 1, 2, none⟩ = some (.string ⟨#[]⟩) ∧ w'.cell? ⟨w6.heap.size, 0, none⟩ = some (.int .i64 0) ∧ w'.cell? ⟨w6.heap.size, 1, none⟩ = some (.int .i64 0)) (first | exact hkp _ g10 | exact hkp _ (Fr.refl _ W9).drew)
              (first
              | (go_at_call 14; refine (hsm _ (Fr.refl _ W9).drew).mono ?_; rintro e w10 ⟨rfl, f10⟩; have g10 : Fr (fun _ => False) W9 w10 := ((Fr.refl (fun _ => False) W9).drew).trans f10 (fun _ _ q => q))
              | (go_at_call 15; refine (hdn _ g10).mono ?_; rintro e w11 ⟨rfl, rfl⟩))
            all_goals
              go_wp2_with fail
              go_roundw
              case rel => exact ⟨k + 1, v0', v1', l0, l1, by omega, by go_num, hC9.fr g10 (fun _ _ f => f), gr9.trans g10 (fun _ _ q => q), HLO0.out, HLO1.out⟩
              case measure => simp [intOf]; omega
      · rw [h4]
        go_wp2_with (refine wp_store_agg rfl (.tmp 10) (.tmp 45) 37 2 rfl Tryd.sizeOf37 w6.heap.size 0 rfl #[.int .i64 0, .int .i64 0] 37 kb #[.int .i64 c, .int .i64 p] rfl rfl (by simp [Value.oneCell']) (by decide) #[.int .i64 c, .int .i64 p] rfl ?_; intro w7 j7 f7 z7; clear kb; have i7' := ((fb.trans f7 (fun k hk q => by omega) : Fr (fun _ => False) w6 w7).block _ (heap_lt j6) (fun f => f)).trans j6; have d1 := (cell_of i7' 1).trans hTf.g.k)
        have g7 : Fr (fun _ => False) w6 w7 := fb.trans f7 (fun k hk q => by omega)
        have g47 : Fr (fun _ => False) wr w7 := (g4.trans f6 (fun _ _ q => q)).trans g7 (fun _ _ q => q)
        have i7 := (g7.block _ (heap_lt j6) (fun f => f)).trans j6
        have hC7 := hC.fr g47 (fun _ _ f => f)
        have hw6 : wr.heap.size ≤ w6.heap.size := (g4.trans f6 (fun _ _ q => q)).size
        refine (round_any kd _ hTf.g.k1 hTf.g.k2).mono ?_
        rintro e w7' ⟨rfl, rfl⟩
        by_cases hk0 : kd % 4 = 0
        · rw [hk0]
          go_wp2_with fail
          refine (plain_any 1 _ (by omega)).mono ?_
          rintro e w8 ⟨rfl, f8⟩
          have j8 := (f8.block _ (heap_lt j7) (fun f => f)).trans j7
          go_wp2_with (refine wp_store_agg rfl (.tmp 10) (.tmp 52) 37 2 rfl Tryd.sizeOf37 w6.heap.size 0 rfl #[.int .i64 c, .int .i64 p] 37 j8 #[.int .i64 1, .int .i64 (-1)] rfl rfl (by simp [Value.oneCell']) (Nat.le_refl 2) #[.int .i64 1, .int .i64 (-1)] rfl ?_; intro wt jt ft zt)
          try simp only [Act.put]
          have gt : Fr (fun _ => False) wr wt := (g47.trans f8 (fun _ _ q => q)).trans ft (fun k hk q => by omega)
          have hjn : wr.heap.size < w6.heap.size := Nat.lt_of_lt_of_le (heap_lt j4) f6.size
          have it := (ft.block _ (Nat.lt_of_lt_of_le (heap_lt i7) f8.size) (by omega)).trans ((f8.block _ (heap_lt i7) (fun f => f)).trans i7)
          have hCt := hC.fr gt (fun _ _ f => f)
          have hsp := spn (M := wr.heap.size) (k := 3) (rp := (some ⟨w.heap.size + 1 + 1, 0, none⟩)) (hS.fr (gr.trans gt (fun _ _ q => q)) (nofalse _)) hCt hTf (Nt.un ((cell_of hCt.h3 0).trans rfl)) (by omega) (.inl ⟨hk0, rfl, rfl⟩)
          clear f4 f6 f7 ka fa fb g7 d1 i7' i7 j8 f8 ft
          have cr := (cell_of hCt.hr 3).trans (show _ = some _ from rfl)
          go_cut [11] from 28 to 91 (fun ev wx => ∃ code v0' v1', EV wx a ev code none ∧ sameB code none 1 (-1) = true ∧ Cw wx w.heap.size v0' v1' l0 l1 l0 l1 ∧ Fr (fun j => w.heap.size ≤ j ∧ j < wr.heap.size) wt wx)
          case first =>
            refine wp_region_any (by kernel_rfl) ?_
            try (change wpAny _ _ _ _ _ _ _ (World.drew _))
            refine wpAny_take (i := 0) (v := .slice (some ⟨w.heap.size + 1 + 1 + 1, 0, none⟩) 4 4) rfl (by kernel_rfl) (by kernel_rfl) (by kernel_rfl) (fun _ _ _ h => h) (Or.inl ⟨by rfl, by intro w; go_simp⟩) ?_
            refine wpAny_take (i := 1) (v := .int .i64 3) rfl (by kernel_rfl) (by kernel_rfl) (by kernel_rfl) (fun _ _ _ h => h) (Or.inl ⟨by rfl, by intro w; go_simp⟩) ?_
            refine wpAny_ready (rs := [2, 4]) (by kernel_rfl) (by simp) ?_
            refine AllReady.cons rfl (fun K hK => ?_) (AllReady.cons rfl (fun K hK => ?_) AllReady.nil)
            · go_simp
              refine hK _ _ ?_
              clear hK K
              refine wpAny_ready (rs := [3, 4]) (by kernel_rfl) (by simp) ?_
              refine AllReady.cons rfl (fun K hK => ?_) (AllReady.cons rfl (fun K hK => ?_) AllReady.nil)
              · go_simp
                refine hK _ _ ?_
                clear hK K
                refine wpAny_ready (rs := [4]) (by kernel_rfl) (by simp) ?_
                refine AllReady.cons rfl (fun K hK => ?_) AllReady.nil
                refine step_load_agg rfl (.tmp 7) 34 37 rfl Tryd.isAgg34 Tryd.sizeOf34 wr.heap.size 0 rfl (A0 k) 34 (0, 0) it (A0 k) hs37 (fun j _ => by rw [Nat.zero_add]) ?_
                refine hK _ _ ?_
                clear hK K
                refine wpAny_ready (rs := [5]) (by kernel_rfl) (by simp) ?_
                refine AllReady.cons rfl (fun K hK => ?_) AllReady.nil
                go_simp
                go_wp2_with (go_at_call 13; refine (hsp _ (Fr.refl _ wt).drew).mono ?_; rintro e w8 ⟨ev, code, rfl, hev, hsame, ⟨v0', v1', hC8⟩, f8⟩)
                refine wpAny_take (i := 6) (v := ev) rfl (by kernel_rfl) (by kernel_rfl) (by kernel_rfl) (fun _ _ _ h => h) (Or.inl ⟨by rfl, by intro w; go_simp⟩) ?_
                refine wpAny_done (by kernel_rfl) ?_ _
                go_wp2_with fail
                go_meet
                exact ⟨code, v0', v1', hev, hsame, by simpa using hC8, ((Fr.refl (fun j => w.heap.size ≤ j ∧ j < wr.heap.size) wt).drew).trans f8 (fun _ _ q => q)⟩
              · refine step_load_agg rfl (.tmp 7) 34 37 rfl Tryd.isAgg34 Tryd.sizeOf34 wr.heap.size 0 rfl (A0 k) 34 (0, 0) it (A0 k) hs37 (fun j _ => by rw [Nat.zero_add]) ?_
                refine hK _ _ ?_
                clear hK K
                refine wpAny_ready (rs := [3]) (by kernel_rfl) (by simp) ?_
                refine AllReady.cons rfl (fun K hK => ?_) AllReady.nil
                go_simp
                refine hK _ _ ?_
                clear hK K
                refine wpAny_ready (rs := [5]) (by kernel_rfl) (by simp) ?_
                refine AllReady.cons rfl (fun K hK => ?_) AllReady.nil
                go_simp
                go_wp2_with (go_at_call 13; refine (hsp _ (Fr.refl _ wt).drew).mono ?_; rintro e w8 ⟨ev, code, rfl, hev, hsame, ⟨v0', v1', hC8⟩, f8⟩)
                refine wpAny_take (i := 6) (v := ev) rfl (by kernel_rfl) (by kernel_rfl) (by kernel_rfl) (fun _ _ _ h => h) (Or.inl ⟨by rfl, by intro w; go_simp⟩) ?_
                refine wpAny_done (by kernel_rfl) ?_ _
                go_wp2_with fail
                go_meet
                exact ⟨code, v0', v1', hev, hsame, by simpa using hC8, ((Fr.refl (fun j => w.heap.size ≤ j ∧ j < wr.heap.size) wt).drew).trans f8 (fun _ _ q => q)⟩
            · refine step_load_agg rfl (.tmp 7) 34 37 rfl Tryd.isAgg34 Tryd.sizeOf34 wr.heap.size 0 rfl (A0 k) 34 (0, 0) it (A0 k) hs37 (fun j _ => by rw [Nat.zero_add]) ?_
              refine hK _ _ ?_
              clear hK K
              refine wpAny_ready (rs := [2]) (by kernel_rfl) (by simp) ?_
              refine AllReady.cons rfl (fun K hK => ?_) AllReady.nil
              go_simp
              refine hK _ _ ?_
              clear hK K
              refine wpAny_ready (rs := [3]) (by kernel_rfl) (by simp) ?_
              refine AllReady.cons rfl (fun K hK => ?_) AllReady.nil
              go_simp
              refine hK _ _ ?_
              clear hK K
              refine wpAny_ready (rs := [5]) (by kernel_rfl) (by simp) ?_
              refine AllReady.cons rfl (fun K hK => ?_) AllReady.nil
              go_simp
              go_wp2_with (go_at_call 13; refine (hsp _ (Fr.refl _ wt).drew).mono ?_; rintro e w8 ⟨ev, code, rfl, hev, hsame, ⟨v0', v1', hC8⟩, f8⟩)
              refine wpAny_take (i := 6) (v := ev) rfl (by kernel_rfl) (by kernel_rfl) (by kernel_rfl) (fun _ _ _ h => h) (Or.inl ⟨by rfl, by intro w; go_simp⟩) ?_
              refine wpAny_done (by kernel_rfl) ?_ _
              go_wp2_with fail
              go_meet
              exact ⟨code, v0', v1', hev, hsame, by simpa using hC8, ((Fr.refl (fun j => w.heap.size ≤ j ∧ j < wr.heap.size) wt).drew).trans f8 (fun _ _ q => q)⟩
          case rest =>
            obtain ⟨code, v0', v1', hev, hsame, hC8, f8⟩ := hcut
            have cq := (cell_of hC8.hq 3).trans (show _ = some _ from rfl)
            have cqf := frozen_of hC8.hq 3
            have j8 := (f8.block _ (heap_lt jt) (by omega)).trans jt
            clear cr hsp
            go_wp2_with fail
            obtain ⟨W9, hW9⟩ : ∃ W9, W9 = wc.setCell ⟨w.heap.size + 1 + 1 + 1 + 1, 3, none⟩ (.string (⟨#[]⟩ ++ ⟨#[]⟩)) := ⟨_, rfl⟩
            have hC9 : Cw W9 w.heap.size v0' v1' l0 l1 l0 l1 := by rw [hW9]; exact hC8.want 3 _ (by rfl)
            have f9 : Fr (fun j => j = w.heap.size + 1 + 1 + 1 + 1) wc W9 := by rw [hW9]; exact (Fr.refl (fun j => j = w.heap.size + 1 + 1 + 1 + 1) wc).setCell ⟨w.heap.size + 1 + 1 + 1 + 1, 3, none⟩ _ (fun _ => rfl)
            have j9 := (f9.block _ (heap_lt j8) (by omega)).trans j8
            have gr9 : Fr (fun _ => False) w W9 := ((gr.trans gt (fun _ _ q => q)).trans f8 (fun k hk q => by omega)).trans f9 (fun k hk q => by omega)
            rw [← hW9]
            clear hW9 cq cqf f9 j8 hC8
            have hsm : ∀ W1, Fr (fun _ => False) W9 W1 → Calls Tryd.prog 14 #[u11, .agg #[.int .i64 1, .int .i64 (-1)]] W1 fun e w' => e = .returned (.bool true) ∧ Fr (fun _ => False) W1 w' := fun W1 f => by
              have := same_any (hS.fr (gr9.trans f (fun _ _ q => q)) (nofalse _)) (hev.any (w' := W1)) 1 (-1)
              rwa [hsame] at this
            have hdn : ∀ W1, Fr (fun _ => False) W9 W1 → Calls Tryd.prog 15 #[.pointer (some ⟨w.heap.size + 1 + 1, 0, none⟩)] W1 fun e w' => e = .returned (.string ⟨#[]⟩) ∧ w' = W1 := fun W1 f => ndone (Nt.un ((cell_of (hC9.fr f (fun _ _ f => f)).h3 0).trans rfl))
            have cr9 := (cell_of hC9.hr 3).trans (show _ = some _ from rfl)
            have cf0 := (cell_of j9 0).trans (show _ = some _ from rfl)
            have cf1 := (cell_of j9 1).trans (show _ = some _ from rfl)
            have hkp : ∀ w', Fr (fun _ => False) W9 w' → (w'.cell? ⟨w.heap.size + 1 + 1 + 1, 3, none⟩ = some (.pointer (some ⟨w.heap.size + 1 + 1, 0, none⟩)) ∧ w'.cell? ⟨w.heap.size + 1 + 1 + 1 + 1, 3, none⟩ = some (.string ⟨#[]⟩) ∧ w'.cell? ⟨w6.heap.size, 0, none⟩ = some (.int .i64 1) ∧ w'.cell? ⟨w6.heap.size, 1, none⟩ = some (.int .i64 (-1))) := fun w' f => ⟨(cell_of (hC9.fr f (fun _ _ f => f)).hr 3).trans rfl, (cell_of (hC9.fr f (fun _ _ f => f)).hq 3).trans rfl, (cell_of ((f.block _ (heap_lt j9) (fun f => f)).trans j9) 0).trans rfl, (cell_of ((f.block _ (heap_lt j9) (fun f => f)).trans j9) 1).trans rfl⟩
            go_region_held3 (fun w' => w'.cell? ⟨w.heap.size + 1 + 1 + 1, 3, none⟩ = some (.pointer (some ⟨w.heap.size + 1 + 1, 0, none⟩)) ∧ w'.cell? ⟨w.heap.size + 1 + 1 + 1 + 1, 3, none⟩ = some (.string ⟨#[]⟩) ∧ w'.cell? ⟨w6.heap.size, 0, none⟩ = some (.int .i64 1) ∧ w'.cell? ⟨w6.heap.size, 1, none⟩ = some (.int .i64 (-1))) (first | exact hkp _ g10 | exact hkp _ (Fr.refl _ W9).drew)
              (first
              | (go_at_call 14; refine (hsm _ (Fr.refl _ W9).drew).mono ?_; rintro e w10 ⟨rfl, f10⟩; have g10 : Fr (fun _ => False) W9 w10 := ((Fr.refl (fun _ => False) W9).drew).trans f10 (fun _ _ q => q))
              | (go_at_call 15; refine (hdn _ g10).mono ?_; rintro e w11 ⟨rfl, rfl⟩))
            all_goals
              go_wp2_with fail
              go_roundw
              case rel => exact ⟨k + 1, v0', v1', l0, l1, by omega, by go_num, hC9.fr g10 (fun _ _ f => f), gr9.trans g10 (fun _ _ q => q), HLO0.out, HLO1.out⟩
              case measure => simp [intOf]; omega
        · have hkb : (kd % 4 == 0) = false := by rw [beq_eq_false_iff_ne]; exact hk0
          obtain ⟨rfl, rfl⟩ := fm_some hk0 HF.out
          go_wp2_with fail
          have hsp := spn (M := wr.heap.size) (k := 3) (rp := (some ⟨w.heap.size + 1 + 1, 0, none⟩)) (hS.fr (gr.trans g47 (fun _ _ q => q)) (nofalse _)) hC7 hTf (Nt.un ((cell_of hC7.h3 0).trans rfl)) (by omega) (.inr ⟨hk0, rfl, rfl⟩)
          clear f4 f6 f7 ka fa fb g7 d1 i7'
          have cr := (cell_of hC7.hr 3).trans (show _ = some _ from rfl)
          go_cut [11] from 28 to 91 (fun ev wx => ∃ code v0' v1', EV wx a ev code none ∧ sameB code none 0 0 = true ∧ Cw wx w.heap.size v0' v1' l0 l1 l0 l1 ∧ Fr (fun j => w.heap.size ≤ j ∧ j < wr.heap.size) w7' wx)
          case first =>
            refine wp_region_any (by kernel_rfl) ?_
            try (change wpAny _ _ _ _ _ _ _ (World.drew _))
            refine wpAny_take (i := 0) (v := .slice (some ⟨w.heap.size + 1 + 1 + 1, 0, none⟩) 4 4) rfl (by kernel_rfl) (by kernel_rfl) (by kernel_rfl) (fun _ _ _ h => h) (Or.inl ⟨by rfl, by intro w; go_simp⟩) ?_
            refine wpAny_take (i := 1) (v := .int .i64 3) rfl (by kernel_rfl) (by kernel_rfl) (by kernel_rfl) (fun _ _ _ h => h) (Or.inl ⟨by rfl, by intro w; go_simp⟩) ?_
            refine wpAny_ready (rs := [2, 4]) (by kernel_rfl) (by simp) ?_
            refine AllReady.cons rfl (fun K hK => ?_) (AllReady.cons rfl (fun K hK => ?_) AllReady.nil)
            · go_simp
              refine hK _ _ ?_
              clear hK K
              refine wpAny_ready (rs := [3, 4]) (by kernel_rfl) (by simp) ?_
              refine AllReady.cons rfl (fun K hK => ?_) (AllReady.cons rfl (fun K hK => ?_) AllReady.nil)
              · go_simp
                refine hK _ _ ?_
                clear hK K
                refine wpAny_ready (rs := [4]) (by kernel_rfl) (by simp) ?_
                refine AllReady.cons rfl (fun K hK => ?_) AllReady.nil
                refine step_load_agg rfl (.tmp 7) 34 37 rfl Tryd.isAgg34 Tryd.sizeOf34 wr.heap.size 0 rfl (A0 k) 34 (0, 0) i7 (A0 k) hs37 (fun j _ => by rw [Nat.zero_add]) ?_
                refine hK _ _ ?_
                clear hK K
                refine wpAny_ready (rs := [5]) (by kernel_rfl) (by simp) ?_
                refine AllReady.cons rfl (fun K hK => ?_) AllReady.nil
                go_simp
                go_wp2_with (go_at_call 13; refine (hsp _ (Fr.refl _ w7').drew).mono ?_; rintro e w8 ⟨ev, code, rfl, hev, hsame, ⟨v0', v1', hC8⟩, f8⟩)
                refine wpAny_take (i := 6) (v := ev) rfl (by kernel_rfl) (by kernel_rfl) (by kernel_rfl) (fun _ _ _ h => h) (Or.inl ⟨by rfl, by intro w; go_simp⟩) ?_
                refine wpAny_done (by kernel_rfl) ?_ _
                go_wp2_with fail
                go_meet
                exact ⟨code, v0', v1', hev, hsame, by simpa using hC8, ((Fr.refl (fun j => w.heap.size ≤ j ∧ j < wr.heap.size) w7').drew).trans f8 (fun _ _ q => q)⟩
              · refine step_load_agg rfl (.tmp 7) 34 37 rfl Tryd.isAgg34 Tryd.sizeOf34 wr.heap.size 0 rfl (A0 k) 34 (0, 0) i7 (A0 k) hs37 (fun j _ => by rw [Nat.zero_add]) ?_
                refine hK _ _ ?_
                clear hK K
                refine wpAny_ready (rs := [3]) (by kernel_rfl) (by simp) ?_
                refine AllReady.cons rfl (fun K hK => ?_) AllReady.nil
                go_simp
                refine hK _ _ ?_
                clear hK K
                refine wpAny_ready (rs := [5]) (by kernel_rfl) (by simp) ?_
                refine AllReady.cons rfl (fun K hK => ?_) AllReady.nil
                go_simp
                go_wp2_with (go_at_call 13; refine (hsp _ (Fr.refl _ w7').drew).mono ?_; rintro e w8 ⟨ev, code, rfl, hev, hsame, ⟨v0', v1', hC8⟩, f8⟩)
                refine wpAny_take (i := 6) (v := ev) rfl (by kernel_rfl) (by kernel_rfl) (by kernel_rfl) (fun _ _ _ h => h) (Or.inl ⟨by rfl, by intro w; go_simp⟩) ?_
                refine wpAny_done (by kernel_rfl) ?_ _
                go_wp2_with fail
                go_meet
                exact ⟨code, v0', v1', hev, hsame, by simpa using hC8, ((Fr.refl (fun j => w.heap.size ≤ j ∧ j < wr.heap.size) w7').drew).trans f8 (fun _ _ q => q)⟩
            · refine step_load_agg rfl (.tmp 7) 34 37 rfl Tryd.isAgg34 Tryd.sizeOf34 wr.heap.size 0 rfl (A0 k) 34 (0, 0) i7 (A0 k) hs37 (fun j _ => by rw [Nat.zero_add]) ?_
              refine hK _ _ ?_
              clear hK K
              refine wpAny_ready (rs := [2]) (by kernel_rfl) (by simp) ?_
              refine AllReady.cons rfl (fun K hK => ?_) AllReady.nil
              go_simp
              refine hK _ _ ?_
              clear hK K
              refine wpAny_ready (rs := [3]) (by kernel_rfl) (by simp) ?_
              refine AllReady.cons rfl (fun K hK => ?_) AllReady.nil
              go_simp
              refine hK _ _ ?_
              clear hK K
              refine wpAny_ready (rs := [5]) (by kernel_rfl) (by simp) ?_
              refine AllReady.cons rfl (fun K hK => ?_) AllReady.nil
              go_simp
              go_wp2_with (go_at_call 13; refine (hsp _ (Fr.refl _ w7').drew).mono ?_; rintro e w8 ⟨ev, code, rfl, hev, hsame, ⟨v0', v1', hC8⟩, f8⟩)
              refine wpAny_take (i := 6) (v := ev) rfl (by kernel_rfl) (by kernel_rfl) (by kernel_rfl) (fun _ _ _ h => h) (Or.inl ⟨by rfl, by intro w; go_simp⟩) ?_
              refine wpAny_done (by kernel_rfl) ?_ _
              go_wp2_with fail
              go_meet
              exact ⟨code, v0', v1', hev, hsame, by simpa using hC8, ((Fr.refl (fun j => w.heap.size ≤ j ∧ j < wr.heap.size) w7').drew).trans f8 (fun _ _ q => q)⟩
          case rest =>
            obtain ⟨code, v0', v1', hev, hsame, hC8, f8⟩ := hcut
            have cq := (cell_of hC8.hq 3).trans (show _ = some _ from rfl)
            have cqf := frozen_of hC8.hq 3
            have j8 := (f8.block _ (heap_lt j7) (by omega)).trans j7
            clear cr hsp
            go_wp2_with fail
            obtain ⟨W9, hW9⟩ : ∃ W9, W9 = wc.setCell ⟨w.heap.size + 1 + 1 + 1 + 1, 3, none⟩ (.string (⟨#[]⟩ ++ ⟨#[]⟩)) := ⟨_, rfl⟩
            have hC9 : Cw W9 w.heap.size v0' v1' l0 l1 l0 l1 := by rw [hW9]; exact hC8.want 3 _ (by rfl)
            have f9 : Fr (fun j => j = w.heap.size + 1 + 1 + 1 + 1) wc W9 := by rw [hW9]; exact (Fr.refl (fun j => j = w.heap.size + 1 + 1 + 1 + 1) wc).setCell ⟨w.heap.size + 1 + 1 + 1 + 1, 3, none⟩ _ (fun _ => rfl)
            have j9 := (f9.block _ (heap_lt j8) (by omega)).trans j8
            have gr9 : Fr (fun _ => False) w W9 := ((gr.trans g47 (fun _ _ q => q)).trans f8 (fun k hk q => by omega)).trans f9 (fun k hk q => by omega)
            rw [← hW9]
            clear hW9 cq cqf f9 j8 hC8
            have hsm : ∀ W1, Fr (fun _ => False) W9 W1 → Calls Tryd.prog 14 #[u11, .agg #[.int .i64 0, .int .i64 0]] W1 fun e w' => e = .returned (.bool true) ∧ Fr (fun _ => False) W1 w' := fun W1 f => by
              have := same_any (hS.fr (gr9.trans f (fun _ _ q => q)) (nofalse _)) (hev.any (w' := W1)) 0 0
              rwa [hsame] at this
            have hdn : ∀ W1, Fr (fun _ => False) W9 W1 → Calls Tryd.prog 15 #[.pointer (some ⟨w.heap.size + 1 + 1, 0, none⟩)] W1 fun e w' => e = .returned (.string ⟨#[]⟩) ∧ w' = W1 := fun W1 f => ndone (Nt.un ((cell_of (hC9.fr f (fun _ _ f => f)).h3 0).trans rfl))
            have cr9 := (cell_of hC9.hr 3).trans (show _ = some _ from rfl)
            have cf0 := (cell_of j9 0).trans (show _ = some _ from rfl)
            have cf1 := (cell_of j9 1).trans (show _ = some _ from rfl)
            have hkp : ∀ w', Fr (fun _ => False) W9 w' → (w'.cell? ⟨w.heap.size + 1 + 1 + 1, 3, none⟩ = some (.pointer (some ⟨w.heap.size + 1 + 1, 0, none⟩)) ∧ w'.cell? ⟨w.heap.size + 1 + 1 + 1 + 1, 3, none⟩ = some (.string ⟨#[]⟩) ∧ w'.cell? ⟨w6.heap.size, 0, none⟩ = some (.int .i64 0) ∧ w'.cell? ⟨w6.heap.size, 1, none⟩ = some (.int .i64 0)) := fun w' f => ⟨(cell_of (hC9.fr f (fun _ _ f => f)).hr 3).trans rfl, (cell_of (hC9.fr f (fun _ _ f => f)).hq 3).trans rfl, (cell_of ((f.block _ (heap_lt j9) (fun f => f)).trans j9) 0).trans rfl, (cell_of ((f.block _ (heap_lt j9) (fun f => f)).trans j9) 1).trans rfl⟩
            go_region_held3 (fun w' => w'.cell? ⟨w.heap.size + 1 + 1 + 1, 3, none⟩ = some (.pointer (some ⟨w.heap.size + 1 + 1, 0, none⟩)) ∧ w'.cell? ⟨w.heap.size + 1 + 1 + 1 + 1, 3, none⟩ = some (.string ⟨#[]⟩) ∧ w'.cell? ⟨w6.heap.size, 0, none⟩ = some (.int .i64 0) ∧ w'.cell? ⟨w6.heap.size, 1, none⟩ = some (.int .i64 0)) (first | exact hkp _ g10 | exact hkp _ (Fr.refl _ W9).drew)
              (first
              | (go_at_call 14; refine (hsm _ (Fr.refl _ W9).drew).mono ?_; rintro e w10 ⟨rfl, f10⟩; have g10 : Fr (fun _ => False) W9 w10 := ((Fr.refl (fun _ => False) W9).drew).trans f10 (fun _ _ q => q))
              | (go_at_call 15; refine (hdn _ g10).mono ?_; rintro e w11 ⟨rfl, rfl⟩))
            all_goals
              go_wp2_with fail
              go_roundw
              case rel => exact ⟨k + 1, v0', v1', l0, l1, by omega, by go_num, hC9.fr g10 (fun _ _ f => f), gr9.trans g10 (fun _ _ q => q), HLO0.out, HLO1.out⟩
              case measure => simp [intOf]; omega
    · have hge : ¬ ((k : Int) < n0) := by omega
      go_wp2_with fail
      go_loopw [12] (fun i wx => ∃ (j : Nat), j ≤ 4 ∧ i = .int .i64 j ∧ Cw wx w.heap.size v0 v1 l0 l1 l0 l1 ∧ Fr (fun _ => False) w wx) (fun i _ => 4 - (intOf i).toNat)
      case atStart => exact ⟨0, by omega, rfl, hC, gr⟩
      case round =>
        obtain ⟨j, hj, rfl, hCx, gx⟩ := hrel
        have hj5 : j = 0 ∨ j = 1 ∨ j = 2 ∨ j = 3 ∨ j = 4 := by omega
        rcases hj5 with rfl | rfl | rfl | rfl | rfl
        · have hkp : ∀ w', Fr (fun _ => False) wr w' → (w'.cell? ⟨w.heap.size + 1 + 1 + 1, 0, none⟩ = some (.pointer (some ⟨w.heap.size, 0, none⟩)) ∧ w'.cell? ⟨w.heap.size + 1 + 1 + 1 + 1, 0, none⟩ = some (.string ⟨l0.toArray⟩)) := fun w' f => ⟨(cell_of (hCx.fr f (fun _ _ f => f)).hr 0).trans rfl, (cell_of (hCx.fr f (fun _ _ f => f)).hq 0).trans rfl⟩
          have hdn : ∀ W1, Fr (fun _ => False) wr W1 → Calls Tryd.prog 15 #[.pointer (some ⟨w.heap.size, 0, none⟩)] W1 fun e w' => e = .returned (.string ⟨l0.toArray⟩) ∧ w' = W1 := fun W1 f => wdone _ v0 _ _ (hCx.fr f (fun _ _ f => f)).h0
          go_wp2_with fail
          go_region_held3 (fun w' => w'.cell? ⟨w.heap.size + 1 + 1 + 1, 0, none⟩ = some (.pointer (some ⟨w.heap.size, 0, none⟩)) ∧ w'.cell? ⟨w.heap.size + 1 + 1 + 1 + 1, 0, none⟩ = some (.string ⟨l0.toArray⟩)) (first | exact hkp _ (Fr.refl _ wr).drew)
            (first
            | (go_at_call 15; refine (hdn _ (Fr.refl _ wr).drew).mono ?_; rintro e w11 ⟨rfl, rfl⟩))
          all_goals
            go_wp2_with fail
            go_roundw
            case rel => exact ⟨1, by omega, by go_num, hCx.fr (Fr.refl (fun _ => False) wr).drew (fun _ _ f => f), gx.drew⟩
            case measure => simp [intOf]
        · have hkp : ∀ w', Fr (fun _ => False) wr w' → (w'.cell? ⟨w.heap.size + 1 + 1 + 1, 1, none⟩ = some (.pointer (some ⟨w.heap.size + 1, 0, none⟩)) ∧ w'.cell? ⟨w.heap.size + 1 + 1 + 1 + 1, 1, none⟩ = some (.string ⟨l1.toArray⟩)) := fun w' f => ⟨(cell_of (hCx.fr f (fun _ _ f => f)).hr 1).trans rfl, (cell_of (hCx.fr f (fun _ _ f => f)).hq 1).trans rfl⟩
          have hdn : ∀ W1, Fr (fun _ => False) wr W1 → Calls Tryd.prog 15 #[.pointer (some ⟨w.heap.size + 1, 0, none⟩)] W1 fun e w' => e = .returned (.string ⟨l1.toArray⟩) ∧ w' = W1 := fun W1 f => wdone _ v1 _ _ (hCx.fr f (fun _ _ f => f)).h1
          go_wp2_with fail
          go_region_held3 (fun w' => w'.cell? ⟨w.heap.size + 1 + 1 + 1, 1, none⟩ = some (.pointer (some ⟨w.heap.size + 1, 0, none⟩)) ∧ w'.cell? ⟨w.heap.size + 1 + 1 + 1 + 1, 1, none⟩ = some (.string ⟨l1.toArray⟩)) (first | exact hkp _ (Fr.refl _ wr).drew)
            (first
            | (go_at_call 15; refine (hdn _ (Fr.refl _ wr).drew).mono ?_; rintro e w11 ⟨rfl, rfl⟩))
          all_goals
            go_wp2_with fail
            go_roundw
            case rel => exact ⟨2, by omega, by go_num, hCx.fr (Fr.refl (fun _ => False) wr).drew (fun _ _ f => f), gx.drew⟩
            case measure => simp [intOf]
        · have hkp : ∀ w', Fr (fun _ => False) wr w' → (w'.cell? ⟨w.heap.size + 1 + 1 + 1, 2, none⟩ = some (.pointer none) ∧ w'.cell? ⟨w.heap.size + 1 + 1 + 1 + 1, 2, none⟩ = some (.string ⟨#[]⟩)) := fun w' f => ⟨(cell_of (hCx.fr f (fun _ _ f => f)).hr 2).trans rfl, (cell_of (hCx.fr f (fun _ _ f => f)).hq 2).trans rfl⟩
          have hdn : ∀ W1, Fr (fun _ => False) wr W1 → Calls Tryd.prog 15 #[.pointer none] W1 fun e w' => e = .returned (.string ⟨#[]⟩) ∧ w' = W1 := fun W1 f => ndone (Nt.nil _)
          go_wp2_with fail
          go_region_held3 (fun w' => w'.cell? ⟨w.heap.size + 1 + 1 + 1, 2, none⟩ = some (.pointer none) ∧ w'.cell? ⟨w.heap.size + 1 + 1 + 1 + 1, 2, none⟩ = some (.string ⟨#[]⟩)) (first | exact hkp _ (Fr.refl _ wr).drew)
            (first
            | (go_at_call 15; refine (hdn _ (Fr.refl _ wr).drew).mono ?_; rintro e w11 ⟨rfl, rfl⟩))
          all_goals
            go_wp2_with fail
            go_roundw
            case rel => exact ⟨3, by omega, by go_num, hCx.fr (Fr.refl (fun _ => False) wr).drew (fun _ _ f => f), gx.drew⟩
            case measure => simp [intOf]
        · have hkp : ∀ w', Fr (fun _ => False) wr w' → (w'.cell? ⟨w.heap.size + 1 + 1 + 1, 3, none⟩ = some (.pointer (some ⟨w.heap.size + 1 + 1, 0, none⟩)) ∧ w'.cell? ⟨w.heap.size + 1 + 1 + 1 + 1, 3, none⟩ = some (.string ⟨#[]⟩)) := fun w' f => ⟨(cell_of (hCx.fr f (fun _ _ f => f)).hr 3).trans rfl, (cell_of (hCx.fr f (fun _ _ f => f)).hq 3).trans rfl⟩
          have hdn : ∀ W1, Fr (fun _ => False) wr W1 → Calls Tryd.prog 15 #[.pointer (some ⟨w.heap.size + 1 + 1, 0, none⟩)] W1 fun e w' => e = .returned (.string ⟨#[]⟩) ∧ w' = W1 := fun W1 f => ndone (Nt.un ((cell_of (hCx.fr f (fun _ _ f => f)).h3 0).trans rfl))
          go_wp2_with fail
          go_region_held3 (fun w' => w'.cell? ⟨w.heap.size + 1 + 1 + 1, 3, none⟩ = some (.pointer (some ⟨w.heap.size + 1 + 1, 0, none⟩)) ∧ w'.cell? ⟨w.heap.size + 1 + 1 + 1 + 1, 3, none⟩ = some (.string ⟨#[]⟩)) (first | exact hkp _ (Fr.refl _ wr).drew)
            (first
            | (go_at_call 15; refine (hdn _ (Fr.refl _ wr).drew).mono ?_; rintro e w11 ⟨rfl, rfl⟩))
          all_goals
            go_wp2_with fail
            go_roundw
            case rel => exact ⟨4, by omega, by go_num, hCx.fr (Fr.refl (fun _ => False) wr).drew (fun _ _ f => f), gx.drew⟩
            case measure => simp [intOf]
        · go_wp2_with fail
          refine (lives_any _ wr a (hS.fr gx (nofalse _))).mono ?_
          rintro e w5 ⟨rfl, f5⟩
          go_wp2_with fail
          go_ret
          exact ⟨rfl, gx.trans f5 (fun _ _ q => q)⟩
end Go.Proofs.YtlkkadkdanjfoaaDoor
