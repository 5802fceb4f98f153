/- CodecReads: the walk. -/
import Derived.Test.YtebbgpnhkpbefaaDoorcQ1
import Derived.Test.YtebbgpnhkpbefaaDoorcQ4
namespace Go.Proofs.YtebbgpnhkpbefaaDoor
open Go.RowKit
set_option linter.unusedVariables false
set_option linter.unusedSimpArgs false
theorem tz_size {V : Array Value} (h : Tz V) : V.size = 37 := by
  obtain ⟨x, k, n, wd, t, lh, hl, rfl⟩ := h
  simp [bc_len, hl]
theorem tz_kw {V : Array Value} (h : Tz V) : ∃ k wd : Int, V[1]? = some (.int .i64 k) ∧ V[3]? = some (.int .i64 wd) := by
  obtain ⟨x, k, n, wd, t, lh, hl, rfl⟩ := h
  exact ⟨k, wd, rfl, rfl⟩
theorem tz_one {V : Array Value} (h : Tz V) : ∀ u ∈ V.toList, u.oneCell' = true := by
  obtain ⟨x, k, n, wd, t, lh, hl, rfl⟩ := h
  intro u hu
  simp only [List.toList_toArray, List.mem_append] at hu
  rcases hu with hu | hu
  · have h1 : ([.int .i64 x, .int .i64 k, .int .u64 n, .int .i64 wd, .string t] : List Value).all (fun u => u.oneCell') = true := rfl
    exact List.all_eq_true.1 h1 u hu
  · exact bc_one lh u hu
abbrev Nw (w w' : World) : Prop := Fr (fun _ => False) w w'
theorem Nw.tr {a b c : World} (h : Nw a b) (k : Nw b c) : Nw a c := h.trans k (fun _ _ f => f)
/-- Left of both, whatever else turns. -/
theorem left_b2 {b c : Nat} {s : ByteArray} {w : World} {a : Nat → Addr} (h : Rel w b c s a) (hs : s.size ≤ maxLen) : ∃ l : Int,
    (∀ (S : Nat → Prop) W, Fr S w W → ¬ S b → ¬ S c → Calls Tryd.prog 12 #[.pointer (some ⟨b, 0, none⟩)] W fun e w' => e = .returned (.int .i64 l) ∧ Fr (fun _ => False) W w') ∧
    (∀ (S : Nat → Prop) W, Fr S w W → ¬ S b → ¬ S c → Calls Tryd.prog 10 #[.pointer (some ⟨c, 0, none⟩)] W fun e w' => e = .returned (.int .i64 l) ∧ Fr (fun _ => False) W w') := by
  rcases h with ⟨p, q, hp, hR, hRf⟩ | ⟨i, p, q, p', hi1, hi3, hqp, hR, hRf⟩
  · exact ⟨_, fun S W fW hb hc => (left_yes b s p q W (hR.fr fW hb) hp hs).mono (fun e w' h => ⟨h.1, h.2.2⟩), fun S W fW hb hc => fleft_yes c s p 0 W (hRf.fr fW hc) hp hs⟩
  · refine ⟨0, fun S W fW hb hc => (left_no b s p q (a i) W (hR.fr fW hb)).mono ?_, fun S W fW hb hc => (fleft_no c s p' _ _ W (hRf.fr fW hc) (by omega)).mono ?_⟩
    · rintro e w' ⟨rfl, rfl⟩; exact ⟨rfl, Fr.refl _ _⟩
    · rintro e w' ⟨rfl, rfl⟩; exact ⟨rfl, Fr.refl _ _⟩
/-- End of both, whatever else turns: the same error. -/
theorem end_b2 {B b c : Nat} {s : ByteArray} {w : World} {a : Nat → Addr} (hS : Sent B w a) (h : Rel w b c s a) (hs : s.size ≤ maxLen) : ∃ (x y : Int),
    (∀ (S : Nat → Prop) W, Fr S w W → ¬ S b → ¬ S c → (∀ k, k < B → ¬ S k) → Calls Tryd.prog 14 #[.pointer (some ⟨b, 0, none⟩)] W fun e w' => (∃ ev, e = .returned ev ∧ ∃ code pl, EV w' a ev code pl ∧ sameB code pl x y = true) ∧ Fr (fun _ => False) W w') ∧
    (∀ (S : Nat → Prop) W, Fr S w W → ¬ S b → ¬ S c → Calls Tryd.prog 11 #[.pointer (some ⟨c, 0, none⟩)] W fun e w' => e = .returned (.agg #[.int .i64 x, .int .i64 y]) ∧ Fr (fun _ => False) W w') := by
  rcases h with ⟨p, q, hp, hR, hRf⟩ | ⟨i, p, q, p', hi1, hi3, hqp, hR, hRf⟩
  · by_cases hpe : p = s.size
    · refine ⟨0, 0, fun S W fW hb hc hB => (end_ok b s p q (a 2) W (hR.fr fW hb) hpe hs (hS.fr fW hB).c2).mono ?_, fun S W fW hb hc => fend_ok c s p 0 W (hRf.fr fW hc) hpe hs⟩
      rintro e w' ⟨rfl, hf⟩
      exact ⟨⟨_, rfl, 0, none, .inl ⟨rfl, rfl, rfl⟩, rfl⟩, hf⟩
    · refine ⟨3, p, fun S W fW hb hc hB => (end_left b s p q (a 2) W (hR.fr fW hb) (by omega) hs (hS.fr fW hB).c2).mono ?_, fun S W fW hb hc => fend_left c s p 0 W (hRf.fr fW hc) (by omega) hs⟩
      rintro e w' ⟨rfl, hF, hf, _⟩
      exact ⟨⟨_, rfl, 3, some p, .inr (.inr ⟨2, _, p, by omega, rfl, hF, rfl, rfl⟩), by unfold sameB; rw [if_neg (by omega)]; simp⟩, hf⟩
  · refine ⟨(i : Int) + 1, plD i q, fun S W fW hb hc hB => (end_f (hS.fr fW hB) i hi1 hi3 (hR.fr fW hb)).mono ?_, fun S W fW hb hc => fend_bad c s p' _ _ W (hRf.fr fW hc) (by omega)⟩
    rintro e w' ⟨⟨t, u, rfl, hev⟩, hf⟩
    refine ⟨⟨_, rfl, i + 1, plF i q, hev, ?_⟩, hf⟩
    by_cases h2 : i = 2
    · subst h2
      have := hqp rfl
      unfold sameB plF plD
      rw [if_pos rfl, if_pos rfl, if_neg (by omega)]
      simp
    · unfold sameB plF plD
      rw [if_neg h2, if_neg h2, if_pos rfl]
      simp
theorem yields_load_g {P : Program} {ops : Array Oper} {S : World → Prop} {o : Oper} {a : Act} (hgd : Region.wanted o (yielded ops a.tmps) = true) (x : Operand) (t : TypeId) (n : Nat) (ho : o.op = .load t x)
    (hagg : ∀ W : World, (isAgg t).run P W = .ok true W) (hsz : ∀ W : World, (sizeOf t).run P W = .ok n W) (g : Nat) (hx : a.eval x = .pointer (some ⟨g, 0, none⟩)) (ty : TypeId)
    (V : Array Value) (hV : V.size = n) (hg : ∀ w, S w → w.heap[g]? = some (.cells V ty (0, 0))) : YieldsIf P ops S o (.agg V) a := by
  refine .inl ⟨hgd, fun w hw => ?_⟩
  have hl : (loadCells ⟨g, 0, none⟩ n).run P w = .ok V w := by
    have := run_loadCells_list (P := P) w ⟨g, 0, none⟩ V.toList (fun j v hv => by
      rw [addZ, cell_of (hg w hw)]
      simpa using hv)
    simpa [hV] using this
  unfold execOp
  simp only [ho, hx, Instr.loadAt, sure, loadVar, Sem.run_bind, Sem.run_pure, hagg, hsz, hl, Result.andThen_ok, if_true]
theorem Cr.lt2 {W : World} {B : Nat} {one two : ByteArray} {a : Nat → Addr} (h : Cr W B one two a) (q : Nat) (hq : q < 2) (L : Nat) (h1 : one.size ≤ L) (h2 : two.size ≤ L) : ∃ (rb mb : Nat) (s : ByteArray), s.size ≤ L ∧ Rel W rb mb s a ∧ W.cell? ⟨B + 1 + 1 + 1, q, none⟩ = some (.pointer (some ⟨rb, 0, none⟩)) ∧ W.cell? ⟨B + 1 + 1 + 1 + 1 + 1 + 1, q, none⟩ = some (.pointer (some ⟨mb, 0, none⟩)) ∧ B ≤ rb ∧ rb < B + 1 + 1 ∧ B + 1 + 1 + 1 + 1 ≤ mb ∧ mb < B + 1 + 1 + 1 + 1 + 1 + 1 ∧ ∀ W', Fr (fun j => j = rb ∨ j = mb) W W' → Rel W' rb mb s a → Cr W' B one two a := by
  rcases (show q = 0 ∨ q = 1 by omega) with rfl | rfl
  · exact ⟨B, B + 1 + 1 + 1 + 1, one, h1, h.r0, (cell_of h.hr 0).trans rfl, (cell_of h.hm 0).trans rfl, by omega, by omega, by omega, by omega, fun W' f r => h.up0 f r⟩
  · exact ⟨B + 1, B + 1 + 1 + 1 + 1 + 1, two, h2, h.r1, (cell_of h.hr 1).trans rfl, (cell_of h.hm 1).trans rfl, by omega, by omega, by omega, by omega, fun W' f r => h.up1 f r⟩
theorem Cr.ge2 {W : World} {B : Nat} {one two : ByteArray} {a : Nat → Addr} (h : Cr W B one two a) (q : Nat) (hq : q = 2 ∨ q = 3) : ∃ rp : Option Addr, W.cell? ⟨B + 1 + 1 + 1, q, none⟩ = some (.pointer rp) ∧ (∀ W', Fr (fun _ => False) W W' → Nr W' rp) ∧ (∀ W' x, Fr (fun _ => False) W W' → W'.cell? ⟨0, 0, none⟩ = some (sen x) → Calls Tryd.prog 14 #[.pointer rp] W' fun e w' => e = .returned (sen x) ∧ w' = W') := by
  rcases hq with rfl | rfl
  · exact ⟨none, (cell_of h.hr 2).trans rfl, fun W' _ => Nr.nil W', fun W' x _ hx => end_nil x W' hx⟩
  · have hb : ∀ W', Fr (fun _ => False) W W' → W'.cell? ⟨B + 1 + 1, 0, none⟩ = some (.bool false) := fun W' f => (f.cell (p := ⟨B + 1 + 1, 0, none⟩) (heap_lt h.h3) (fun f => f)).trans ((cell_of h.h3 0).trans rfl)
    exact ⟨some ⟨B + 1 + 1, 0, none⟩, (cell_of h.hr 3).trans rfl, fun W' f w1 f1 => ready_un _ w1 (hb w1 (f.trans f1 (fun _ _ q => q))), fun W' x f hx => end_unmade _ x W' (hb W' f) hx⟩
set_option maxRecDepth 100000 in
set_option maxHeartbeats 0 in
theorem reads_any (w : World) (a : Nat → Addr) (one two : ByteArray) (v0 : Value) (n0 : Nat) (A0 : Nat → Array Value) (hS : Sent w.heap.size w a) (hs1 : one.size ≤ 140737488355328) (hs2 : two.size ≤ 140737488355328) (hT : Thr w v0 n0 A0) :
    Calls Tryd.prog 3 #[.string one, .string two, v0] w fun e w' => e = .returned (.bool true) ∧ Fr (fun _ => False) w w' := by
  have hTs := hT.2
  obtain ⟨_, g0, c0, rfl, hm0, _⟩ := hTs
  go_enter Tryd.func3, Tryd.ntmps3
  go_wp2_with fail
  refine (newR one w).mono ?_
  rintro e w1 ⟨rfl, h1, f1, z1⟩
  go_wp2_with fail
  refine (newR two w1).mono ?_
  rintro e w2 ⟨rfl, h2, f2, z2⟩
  obtain ⟨W, hW, hC, fW⟩ := start6 w w1 w2 one two a h1 f1 z1 h2 f2 z2
  have HW : Hid _ := hW
  clear hW h1 h2
  go_wp2_with fail
  rw [← HW.out]
  clear z1 z2 HW
  go_loopw [10] (fun i wr => ∃ (k : Nat), k ≤ n0 ∧ i = .int .i64 k ∧ Cr wr w.heap.size one two a ∧ Fr (fun _ => False) w wr) (fun i _ => n0 - (intOf i).toNat)
  case atStart => exact ⟨0, by omega, rfl, hC, fW⟩
  case round =>
    clear hC fW
    obtain ⟨k, hk, rfl, hC, gr⟩ := hrel
    by_cases hlt : k < n0
    · obtain ⟨⟨who, hwho, hwb1, hwb2⟩, kd, m, wd, t, lh, hTf⟩ := hT.1 k hlt
      have t0r := hT.2.fr gr (fun _ _ f => f)
      obtain ⟨_, _, he, hn1, hx⟩ := t0r.2
      obtain ⟨g, off, rfl, hgl, hcl⟩ := hx (by omega)
      have hck := hcl k hlt
      injection he with e1 e2 e3
      subst e1 e3
      clear t0r hcl hx e2
      have hkn : (k : Int) < n0 := by omega
      have hs37 := hTf.g.size
      have ka : (wr.alloc (.cells (tZ 0 0 0 ⟨#[]⟩) 40)).heap[wr.heap.size]? = some (.cells (tZ 0 0 0 ⟨#[]⟩) 40 (0, 0)) := heap_alloc_new wr _
      have fa : Fr (fun _ => False) wr (wr.alloc (.cells (tZ 0 0 0 ⟨#[]⟩) 40)) := (Fr.refl _ _).alloc _
      have hqs := heap_lt hC.hm
      go_wp2_with (first
        | (refine wp_load_cells rfl (.tmp 49) 40 37 rfl Tryd.isAgg40 Tryd.sizeOf40 g (off + k * 37) rfl (A0 k) hs37 hck ?_)
        | (refine wp_store_agg rfl (.tmp 11) (.tmp 50) 40 37 rfl Tryd.sizeOf40 wr.heap.size 0 rfl (tZ 0 0 0 ⟨#[]⟩) 40 ka (A0 k) rfl hs37 hTf.one (by decide) (A0 k) (by have : (tZ 0 0 0 ⟨#[]⟩).toList.drop (0 + 37) = [] := rfl; rw [this]; simp) ?_; intro w4 j4 f4 z4; have d0 := (cell_of j4 0).trans hwho))
      have g4 : Fr (fun _ => False) wr w4 := fa.trans f4 (fun k hk q => by omega)
      refine (round_any who _ hwb1 hwb2).mono ?_
      rintro e w5 ⟨rfl, rfl⟩
      clear d0
      have hC5 := hC.fr g4
      obtain ⟨q, hq4, hqe⟩ : ∃ q : Nat, q < 4 ∧ who % 4 = (q : Int) := ⟨(who % 4).toNat, by omega, by omega⟩
      rw [hqe]
      clear hqe
      have gr5 := gr.trans g4 (fun _ _ q => q)
      have hq4i : (q : Int) < 4 := by omega
      by_cases hq2 : q < 2
      · have hq2i : (q : Int) < 2 := by omega
        have hq2t : decide ((q : Int) < 2) = true := by simp; omega
        obtain ⟨rb, mb, s, hss, hrel0, hcr, hcm, hrb1, hrb2, hmb1, hmb2, hup⟩ := hC5.lt2 q hq2 _ hs1 hs2
        have hpm5 : w.heap.size + 1 + 1 + 1 + 1 + 1 + 1 < w5.heap.size := heap_lt hC5.hm
        obtain ⟨pr, hpr⟩ : ∃ x, x = w.heap.size + 1 + 1 + 1 := ⟨_, rfl⟩
        obtain ⟨pm, hpm⟩ : ∃ x, x = w.heap.size + 1 + 1 + 1 + 1 + 1 + 1 := ⟨_, rfl⟩
        have o1 : rb < pr := by omega
        have o2 : pr < mb := by omega
        have o3 : mb < pm := by omega
        have o4 : pm < wr.heap.size := by rw [hpm]; exact hqs
        have o5 : w.heap.size ≤ rb := hrb1
        rw [← hpm] at hcm hpm5 ⊢
        rw [← hpr] at hcr ⊢
        have HPM : Hid (pm = w.heap.size + 1 + 1 + 1 + 1 + 1 + 1) := hpm
        have HPR : Hid (pr = w.heap.size + 1 + 1 + 1) := hpr
        clear hpm hpr hrb2 hmb1 hmb2
        obtain ⟨V, Mid, hVz, hTook, hMf, hMean⟩ := both_any (hS.fr gr5 (nofalse _)) hrb1 (by omega) hrel0 hss hTf.g
        have hTk : Tp a (some ⟨rb, 0, none⟩) (A0 k) V rb w5 Mid := ⟨hVz, hTook⟩
        have cr := hcr
        clear ka fa f4 z4
        have hV37 := tz_size hVz
        have hV1 := tz_one hVz
        have hT5 : wr.heap.size < w5.heap.size := heap_lt j4
        have hkS : ∀ (W : World) (Sx : Nat → Prop), Fr Sx w5 W → ¬ Sx wr.heap.size → ¬ Sx (pr) → (W.heap[wr.heap.size]? = some (.cells (A0 k) 40 (0, 0)) ∧ W.cell? ⟨pr, q, none⟩ = some (.pointer (some ⟨rb, 0, none⟩))) := fun W Sx f h1 h2 => ⟨(f.block _ hT5 h1).trans j4, (f.cell (p := ⟨pr, q, none⟩) (show pr < w5.heap.size by omega) h2).trans cr⟩
        go_wp2_with fail
        go_cut [13] from 41 to 124 (fun x wx => ∃ gx, x = .pointer (some ⟨gx, 0, none⟩) ∧ wx.heap[gx]? = some (.cells V 40 (0, 0)) ∧ Mid wx ∧ Fr (fun j => j = rb) w5 wx ∧ w5.heap.size ≤ gx)
        case first =>
          refine wp_region_held_drew (S := fun W => W.heap[wr.heap.size]? = some (.cells (A0 k) 40 (0, 0)) ∧ W.cell? ⟨pr, q, none⟩ = some (.pointer (some ⟨rb, 0, none⟩))) (by kernel_rfl) ⟨j4, cr⟩ ?_
          intro hS0
          refine wpAnyH_take (i := 0) (v := .slice (some ⟨pr, 0, none⟩) 4 4) rfl (by kernel_rfl) (by kernel_rfl) (by kernel_rfl) (fun _ _ _ h => h) (Or.inl ⟨by rfl, by intro w _; go_simp⟩) hS0 ?_
          try simp only [Act.put, List.setIfInBounds_toArray, List.set_cons_zero, List.set_cons_succ]
          refine wpAnyH_take (i := 1) (v := .int .i64 (q : Int)) rfl (by kernel_rfl) (by kernel_rfl) (by kernel_rfl) (fun _ _ _ h => h) (Or.inl ⟨by rfl, by intro w _; go_simp⟩) hS0 ?_
          try simp only [Act.put, List.setIfInBounds_toArray, List.set_cons_zero, List.set_cons_succ]
          refine wpAnyH_take (i := 2) (v := .pointer (some ⟨pr, q, none⟩)) rfl (by kernel_rfl) (by kernel_rfl) (by kernel_rfl) (fun _ _ _ h => h) (Or.inl ⟨by rfl, by intro w _; go_simp⟩) hS0 ?_
          try simp only [Act.put, List.setIfInBounds_toArray, List.set_cons_zero, List.set_cons_succ]
          refine wpAnyH_take (i := 3) (v := .pointer (some ⟨rb, 0, none⟩)) rfl (by kernel_rfl) (by kernel_rfl) (by kernel_rfl) (fun _ _ _ h => h) (Or.inl ⟨by rfl, by intro w hw; have hc := hw.2; go_simp⟩) hS0 ?_
          try simp only [Act.put, List.setIfInBounds_toArray, List.set_cons_zero, List.set_cons_succ]
          refine wpAnyH_take (i := 4) (v := .agg (A0 k)) rfl (by kernel_rfl) (by kernel_rfl) (by kernel_rfl) (fun _ _ _ h => h) (yields_load_agg rfl (.tmp 11) 40 37 rfl Tryd.isAgg40 Tryd.sizeOf40 wr.heap.size rfl 40 (A0 k) hs37 (fun w hw => hw.1)) hS0 ?_
          try simp only [Act.put, List.setIfInBounds_toArray, List.set_cons_zero, List.set_cons_succ]
          refine wpAnyH_ready (rs := [5, 6]) (by kernel_rfl) (by simp) ?_
          refine AllReadyH.cons rfl (fun K' hK => ?_) (AllReadyH.cons rfl (fun K' hK => ?_) AllReadyH.nil)
          · go_simp
            go_wp2_with (go_at_call 7; refine (hTk.2 _ (Fr.refl _ w5).drew).mono ?_; rintro e w8 ⟨rfl, hpt, f8⟩)
            have f8' : Fr (fun j => j = rb) w5 w8 := ((Fr.refl (fun j => j = rb) w5).drew).trans f8 (fun _ _ q => q)
            refine hK.out _ _ (hkS w8 _ f8' (by omega) (by omega)) (fun hS1 => ?_)
            try simp only [Act.put, List.setIfInBounds_toArray, List.set_cons_zero, List.set_cons_succ]
            refine wpAnyH_ready (rs := [6]) (by kernel_rfl) (by simp) ?_
            refine AllReadyH.cons rfl (fun K' hK => ?_) AllReadyH.nil
            go_simp
            have fA : Fr (fun _ => False) w8 (w8.alloc (.cells (tZ 0 0 0 ⟨#[]⟩) 40)) := (Fr.refl _ _).alloc _
            refine hK.out _ _ (hkS _ _ (f8'.alloc _) (by omega) (by omega)) (fun hS2 => ?_)
            try simp only [Act.put, List.setIfInBounds_toArray, List.set_cons_zero, List.set_cons_succ]
            refine wpAnyH_ready (rs := [7]) (by kernel_rfl) (by simp) ?_
            refine AllReadyH.cons rfl (fun K' hK => ?_) AllReadyH.nil
            refine step_store_agg rfl (.tmp 13) (.tmp 59) 40 37 rfl Tryd.sizeOf40 w8.heap.size 0 rfl (tZ 0 0 0 ⟨#[]⟩) 40 (heap_alloc_new w8 _) V rfl hV37 hV1 (by decide) V (by have : (tZ 0 0 0 ⟨#[]⟩).toList.drop (0 + 37) = [] := rfl; rw [this]; simp) ?_
            intro w9 j9 f9 z9
            have f9' := (f8'.alloc (.cells (tZ 0 0 0 ⟨#[]⟩) 40)).trans f9 (S' := fun j => j = w8.heap.size) (S := fun j => j = rb) (fun k hk q => by have := f8'.size; omega)
            refine hK.out _ _ (hkS w9 _ f9' (by omega) (by omega)) (fun hS3 => ?_)
            refine wpAnyH_done (by kernel_rfl) ?_ _
            go_wp2_with fail
            go_meet
            have hz8 := f8'.size
            exact ⟨w8.heap.size, rfl, j9, hMf (fun j => j = w8.heap.size) _ _ (hMf (fun _ => False) _ _ hpt fA (fun f => f) (fun f => f)) f9 (by omega) (by omega), f9', f8'.size⟩
          · go_simp
            have fA : Fr (fun _ => False) w5 (w5.alloc (.cells (tZ 0 0 0 ⟨#[]⟩) 40)).drew := ((Fr.refl _ _).alloc _).drew
            have kx : (w5.alloc (.cells (tZ 0 0 0 ⟨#[]⟩) 40)).drew.heap[w5.heap.size]? = some (.cells (tZ 0 0 0 ⟨#[]⟩) 40 (0, 0)) := heap_alloc_new w5 _
            refine hK.out _ _ (hkS _ _ fA (fun f => f) (fun f => f)) (fun hS1 => ?_)
            try simp only [Act.put, List.setIfInBounds_toArray, List.set_cons_zero, List.set_cons_succ]
            refine wpAnyH_ready (rs := [5]) (by kernel_rfl) (by simp) ?_
            refine AllReadyH.cons rfl (fun K' hK => ?_) AllReadyH.nil
            go_simp
            go_wp2_with (go_at_call 7; refine (hTk.2 _ fA).mono ?_; rintro e w8 ⟨rfl, hpt, f8⟩)
            have f8' : Fr (fun j => j = rb) w5 w8 := (fA.mono (fun _ _ f => f.elim)).trans f8 (fun _ _ q => q)
            have kx8 := (f8.block w5.heap.size (heap_lt kx) (by omega)).trans kx
            refine hK.out _ _ (hkS w8 _ f8' (by omega) (by omega)) (fun hS2 => ?_)
            try simp only [Act.put, List.setIfInBounds_toArray, List.set_cons_zero, List.set_cons_succ]
            refine wpAnyH_ready (rs := [7]) (by kernel_rfl) (by simp) ?_
            refine AllReadyH.cons rfl (fun K' hK => ?_) AllReadyH.nil
            refine step_store_agg rfl (.tmp 13) (.tmp 59) 40 37 rfl Tryd.sizeOf40 w5.heap.size 0 rfl (tZ 0 0 0 ⟨#[]⟩) 40 kx8 V rfl hV37 hV1 (by decide) V (by have : (tZ 0 0 0 ⟨#[]⟩).toList.drop (0 + 37) = [] := rfl; rw [this]; simp) ?_
            intro w9 j9 f9 z9
            have f9' := f8'.trans f9 (S := fun j => j = rb) (fun k hk q => by omega)
            refine hK.out _ _ (hkS w9 _ f9' (by omega) (by omega)) (fun hS3 => ?_)
            refine wpAnyH_done (by kernel_rfl) ?_ _
            go_wp2_with fail
            go_meet
            exact ⟨w5.heap.size, rfl, j9, hMf (fun j => j = w5.heap.size) _ _ hpt f9 (by omega) (by omega), f9', Nat.le_refl _⟩
        case rest =>
          obtain ⟨gx, rfl, jx, hMid, fx, hgx⟩ := hcut
          obtain ⟨k', wd', hVk, hVw⟩ := tz_kw hVz
          have dk := (cell_of jx 1).trans hVk
          have dw := (cell_of jx 3).trans hVw
          have hgl := heap_lt jx
          have kb : (wc.alloc (.cells (tZ 0 0 0 ⟨#[]⟩) 40)).heap[wc.heap.size]? = some (.cells (tZ 0 0 0 ⟨#[]⟩) 40 (0, 0)) := heap_alloc_new wc _
          have fb : Fr (fun _ => False) wc (wc.alloc (.cells (tZ 0 0 0 ⟨#[]⟩) 40)) := (Fr.refl _ _).alloc _
          clear hTk hTook cr hkS
          go_wp2_with (refine wp_store_agg rfl (.tmp 14) (.tmp 64) 40 37 rfl Tryd.sizeOf40 wc.heap.size 0 rfl (tZ 0 0 0 ⟨#[]⟩) 40 kb (tZ k' 0 wd' ⟨#[]⟩) rfl rfl (tZ_one _ _ _ _) (by decide) (tZ k' 0 wd' ⟨#[]⟩) rfl ?_; intro w10 j10 f10 z10; clear kb dk dw)
          have g10 : Fr (fun _ => False) wc w10 := fb.trans f10 (fun k hk q => by omega)
          refine (plain_any 1 _ (by omega)).mono ?_
          rintro e w11 ⟨rfl, f11⟩
          have g11 := g10.trans f11 (fun _ _ q => q)
          have j11 := (f11.block _ (heap_lt j10) (fun f => f)).trans j10
          have kc : (w11.alloc (.cells #[.int .i64 0, .int .i64 0] 32)).heap[w11.heap.size]? = some (.cells #[.int .i64 0, .int .i64 0] 32 (0, 0)) := heap_alloc_new w11 _
          have fc : Fr (fun _ => False) w11 (w11.alloc (.cells #[.int .i64 0, .int .i64 0] 32)) := (Fr.refl _ _).alloc _
          clear f10 z10 fb
          go_wp2_with (refine wp_store_agg rfl (.tmp 16) (.tmp 65) 32 2 rfl Tryd.sizeOf32 w11.heap.size 0 rfl #[.int .i64 0, .int .i64 0] 32 kc #[.int .i64 1, .int .i64 (-1)] rfl rfl (by simp [Value.oneCell']) (by decide) #[.int .i64 1, .int .i64 (-1)] rfl ?_; intro w12 j12 f12 z12; clear kc)
          have g12 : Fr (fun _ => False) wc w12 := (g11.trans fc (fun _ _ q => q)).trans f12 (fun k hk q => by have := g11.size; omega)
          have hl11 := g11.size
          have hwc := fx.size
          have j14 : w12.heap[wc.heap.size]? = some (.cells (tZ k' 0 wd' ⟨#[]⟩) 40 (0, 0)) := (f12.block _ (by have := heap_lt j11; simp; omega) (by have := heap_lt j11; omega)).trans ((fc.block _ (heap_lt j11) (fun f => f)).trans j11)
          have jx12 := (g12.block _ hgl (fun f => f)).trans jx
          have jT : w12.heap[wr.heap.size]? = some (.cells (A0 k) 40 (0, 0)) := (g12.block _ (by omega) (fun f => f)).trans ((fx.block _ hT5 (by omega)).trans j4)
          have hmc : w12.cell? ⟨pm, q, none⟩ = some (.pointer (some ⟨mb, 0, none⟩)) := (g12.cell (p := ⟨pm, q, none⟩) (Nat.lt_of_lt_of_le (hpm5) fx.size) (fun f => f)).trans ((fx.cell (p := ⟨pm, q, none⟩) (hpm5) (show ¬ (pm = rb) by omega)).trans hcm)
          have hk12 : ∀ W, Fr (fun j => j = mb) w12 W → (W.heap[wr.heap.size]? = some (.cells (A0 k) 40 (0, 0)) ∧ W.cell? ⟨pm, q, none⟩ = some (.pointer (some ⟨mb, 0, none⟩))) := fun W f => ⟨(f.block _ (heap_lt jT) (by omega)).trans jT, (f.cell (p := ⟨pm, q, none⟩) (World.block_lt_of_cell? w12 ⟨pm, q, none⟩ hmc) (show ¬ (pm = mb) by omega)).trans hmc⟩
          have hk16 : ∀ (W W' : World), (W.heap[wr.heap.size]? = some (.cells (A0 k) 40 (0, 0)) ∧ W.cell? ⟨pm, q, none⟩ = some (.pointer (some ⟨mb, 0, none⟩))) → Fr (fun j => j = wc.heap.size) W W' → (W'.heap[wr.heap.size]? = some (.cells (A0 k) 40 (0, 0)) ∧ W'.cell? ⟨pm, q, none⟩ = some (.pointer (some ⟨mb, 0, none⟩))) := fun W W' h f => ⟨(f.block _ (heap_lt h.1) (by omega)).trans h.1, (f.cell (p := ⟨pm, q, none⟩) (World.block_lt_of_cell? W ⟨pm, q, none⟩ h.2) (show ¬ (pm = wc.heap.size) by omega)).trans h.2⟩
          have o7 : wc.heap.size < w11.heap.size := heap_lt j11
          clear f12 z12 fc f11 j11 j10 g10
          refine wp_region_held_drew (S := fun W => W.heap[wr.heap.size]? = some (.cells (A0 k) 40 (0, 0)) ∧ W.cell? ⟨pm, q, none⟩ = some (.pointer (some ⟨mb, 0, none⟩))) (by kernel_rfl) (hk12 w12 (Fr.refl _ _)) ?_
          intro hS0
          refine wpAnyH_take (i := 0) (v := .slice (some ⟨pm, 0, none⟩) 2 2) rfl (by kernel_rfl) (by kernel_rfl) (by kernel_rfl) (fun _ _ _ h => h) (Or.inl ⟨by rfl, by intro w _; go_simp⟩) hS0 ?_
          try simp only [Act.put, List.setIfInBounds_toArray, List.set_cons_zero, List.set_cons_succ]
          refine wpAnyH_take (i := 1) (v := .int .i64 (q : Int)) rfl (by kernel_rfl) (by kernel_rfl) (by kernel_rfl) (fun _ _ _ h => h) (Or.inl ⟨by rfl, by intro w _; go_simp⟩) hS0 ?_
          try simp only [Act.put, List.setIfInBounds_toArray, List.set_cons_zero, List.set_cons_succ]
          refine wpAnyH_take (i := 2) (v := .pointer (some ⟨pm, q, none⟩)) rfl (by kernel_rfl) (by kernel_rfl) (by kernel_rfl) (fun _ _ _ h => h) (Or.inl ⟨by rfl, by intro w _; go_simp⟩) hS0 ?_
          try simp only [Act.put, List.setIfInBounds_toArray, List.set_cons_zero, List.set_cons_succ]
          refine wpAnyH_take (i := 3) (v := .pointer (some ⟨mb, 0, none⟩)) rfl (by kernel_rfl) (by kernel_rfl) (by kernel_rfl) (fun _ _ _ h => h) (Or.inl ⟨by rfl, by intro w hw; have hc := hw.2; go_simp⟩) hS0 ?_
          try simp only [Act.put, List.setIfInBounds_toArray, List.set_cons_zero, List.set_cons_succ]
          refine wpAnyH_take (i := 4) (v := .agg (A0 k)) rfl (by kernel_rfl) (by kernel_rfl) (by kernel_rfl) (fun _ _ _ h => h) (yields_load_agg rfl (.tmp 11) 40 37 rfl Tryd.isAgg40 Tryd.sizeOf40 wr.heap.size rfl 40 (A0 k) hs37 (fun w hw => hw.1)) hS0 ?_
          try simp only [Act.put, List.setIfInBounds_toArray, List.set_cons_zero, List.set_cons_succ]
          refine wpAnyH_ready (rs := [5]) (by kernel_rfl) (by simp) ?_
          refine AllReadyH.cons rfl (fun K' hK => ?_) AllReadyH.nil
          go_simp
          go_wp2_with (go_at_call 9; refine (hMean _ (hMf (fun _ => False) _ _ hMid ((g12).drew) (fun f => f) (fun f => f))).mono ?_; rintro e w13 ⟨rfl, hRel, f13⟩)
          have f13' : Fr (fun j => j = mb) w12 w13 := ((Fr.refl (fun j => j = mb) w12).drew).trans f13 (fun _ _ q => q)
          have j13 := (f13'.block _ (heap_lt j14) (by omega)).trans j14
          refine hK.out _ _ (hk12 w13 f13') (fun hS1 => ?_)
          try simp only [Act.put, List.setIfInBounds_toArray, List.set_cons_zero, List.set_cons_succ]
          refine wpAnyH_ready (rs := [6]) (by kernel_rfl) (by simp) ?_
          refine AllReadyH.cons rfl (fun K' hK => ?_) AllReadyH.nil
          refine step_store_agg rfl (.tmp 14) (.tmp 73) 40 37 rfl Tryd.sizeOf40 wc.heap.size 0 rfl (tZ k' 0 wd' ⟨#[]⟩) 40 j13 V rfl hV37 hV1 (by show 0 + 37 ≤ 37; omega) V (by have : (tZ k' 0 wd' ⟨#[]⟩).toList.drop (0 + 37) = [] := rfl; rw [this]; simp) ?_
          intro w14 j14' f14 z14
          refine hK.out _ _ (hk16 w13 w14 (hk12 w13 f13') f14) (fun hS2 => ?_)
          refine wpAnyH_done (by kernel_rfl) ?_ _
          have jw := j14'
          have hRel' := hRel.fr f14 (by omega) (by omega)
          have f16 : Fr (fun j => j = mb ∨ j = wc.heap.size) w12 w14 := (f13'.mono (fun _ _ q => .inl q)).trans f14 (fun k hk q => .inr q)
          clear hRel
          have hRel := hRel'
          have hl12 := g12.size
          have hmc16 := (f16.cell (p := ⟨pm, q, none⟩) (World.block_lt_of_cell? w12 ⟨pm, q, none⟩ hmc) (show ¬ (pm = mb ∨ pm = wc.heap.size) by omega)).trans hmc
          have jf16 := (f16.block _ (heap_lt j12) (by omega)).trans j12
          clear hk12 hk16 hmc
          obtain ⟨ll, hLA, hLB⟩ := left_b2 hRel (by unfold maxLen; omega)
          go_wp2_with fail
          refine (hLB _ _ (Fr.refl (fun _ => False) _) (fun f => f) (fun f => f)).mono ?_
          rintro e w17 ⟨rfl, f17⟩
          have hmc17 := (f17.cell (p := ⟨pm, q, none⟩) (World.block_lt_of_cell? _ ⟨pm, q, none⟩ hmc16) (fun f => f)).trans hmc16
          have jf17 := (f17.block _ (heap_lt jf16) (fun f => f)).trans jf16
          have gr12 : Fr (fun _ => False) w w12 := (gr5.trans fx (fun j hj (e : j = rb) => by omega)).trans g12 (fun _ _ f => f)
          have hwwc : w.heap.size ≤ wc.heap.size := (gr5.trans fx (S := fun _ => False) (fun j hj (e : j = rb) => by omega)).size
          have gr14 : Fr (fun _ => False) w w14 := gr12.trans f16 (fun j hj (e : j = mb ∨ j = wc.heap.size) => by omega)
          have hRel17 := hRel.fr f17 (fun f => f) (fun f => f)
          obtain ⟨x, y, hEA, hEB⟩ := end_b2 (B := w.heap.size) (hS.fr (gr14.trans f17 (fun _ _ f => f)) (nofalse _)) hRel17 (by unfold maxLen; omega)
          go_wp2_with fail
          refine (hEB _ _ (Fr.refl (fun _ => False) _) (fun f => f) (fun f => f)).mono ?_
          rintro e w17b ⟨rfl, f17b⟩
          have jf17b := (f17b.block _ (heap_lt jf17) (fun f => f)).trans jf17
          go_wp2_with (refine wp_store_agg rfl (.tmp 16) (.tmp 83) 32 2 rfl Tryd.sizeOf32 w11.heap.size 0 rfl #[.int .i64 1, .int .i64 (-1)] 32 jf17b #[.int .i64 x, .int .i64 y] rfl rfl (by simp [Value.oneCell']) (Nat.le_refl 2) #[.int .i64 x, .int .i64 y] rfl ?_; intro w18 j18 f18 z18)
          try simp only [Act.put]
          have f1418 : Fr (fun j => j = w11.heap.size) w14 w18 := ((f17.mono (S' := fun j => j = w11.heap.size) (fun _ _ f => f.elim)).trans f17b (fun _ _ f => f.elim)).trans f18 (fun _ _ e => e)
          have f1718 : Fr (fun j => j = w11.heap.size) w17 w18 := (f17b.mono (S' := fun j => j = w11.heap.size) (fun _ _ f => f.elim)).trans f18 (fun _ _ e => e)
          have gr18' : Nw w w18 := gr14.trans f1418 (fun j hj (e : j = w11.heap.size) => by omega)
          have fA : Fr (fun j => j = rb ∨ j = mb) w5 w14 := ((fx.mono (S' := fun j => j = rb ∨ j = mb) (fun _ _ e => .inl e)).trans g12 (fun _ _ f => f.elim)).trans f16 (fun j hj (e : j = mb ∨ j = wc.heap.size) => by omega)
          have fB : Fr (fun j => j = rb ∨ j = mb) w5 w18 := fA.trans f1418 (fun j hj (e : j = w11.heap.size) => by omega)
          have hRel18 : Hid (Rel w18 rb mb s a) := hRel.fr f1418 (show ¬ rb = w11.heap.size by omega) (show ¬ mb = w11.heap.size by omega)
          have FB : Hid (Fr (fun j => j = rb ∨ j = mb) w5 w18) := fB
          have o8 := heap_lt jx12
          have kx18 : w18.heap[gx]? = some (.cells V 40 (0, 0)) := (f1418.block gx (by have := f16.size; omega) (show ¬ gx = w11.heap.size by omega)).trans ((f16.block gx o8 (show ¬ (gx = mb ∨ gx = wc.heap.size) by omega)).trans jx12)
          have kw18 : w18.heap[wc.heap.size]? = some (.cells V 40 (0, 0)) := (f1418.block wc.heap.size (heap_lt jw) (show ¬ wc.heap.size = w11.heap.size by omega)).trans jw
          have cr18 : w18.cell? ⟨pr, q, none⟩ = some (.pointer (some ⟨rb, 0, none⟩)) := (fB.cell (p := ⟨pr, q, none⟩) (show pr < w5.heap.size by omega) (show ¬ (pr = rb ∨ pr = mb) by omega)).trans hcr
          have gr18 : Hid (Nw w w18) := gr18'
          have hL1 : Hid (∀ W, Nw w18 W → Calls Tryd.prog 12 #[.pointer (some ⟨rb, 0, none⟩)] W fun e w' => e = .returned (.int .i64 ll) ∧ Fr (fun _ => False) W w') := fun W f => hLA _ W (f1418.trans f (fun _ _ h => h.elim)) (show ¬ rb = w11.heap.size by omega) (show ¬ mb = w11.heap.size by omega)
          have hE1 : Hid (∀ W, Nw w18 W → Calls Tryd.prog 14 #[.pointer (some ⟨rb, 0, none⟩)] W fun e w' => (∃ ev, e = .returned ev ∧ ∃ code pl, EV w' a ev code pl ∧ sameB code pl x y = true) ∧ Fr (fun _ => False) W w') := fun W f => hEA _ W (f1718.trans f (fun _ _ h => h.elim)) (show ¬ rb = w11.heap.size by omega) (show ¬ mb = w11.heap.size by omega) (fun k hk (e : k = w11.heap.size) => by omega)
          obtain ⟨bw, hbw⟩ : ∃ b, b = wc.heap.size := ⟨_, rfl⟩
          obtain ⟨fb, hfb⟩ : ∃ b, b = w11.heap.size := ⟨_, rfl⟩
          rw [← hbw] at kw18 ⊢
          rw [← hfb] at j18 ⊢
          have hk19 : Hid (∀ W, Nw w18 W → (W.heap[gx]? = some (.cells V 40 (0, 0)) ∧ W.heap[bw]? = some (.cells V 40 (0, 0)) ∧ W.cell? ⟨pr, q, none⟩ = some (.pointer (some ⟨rb, 0, none⟩)) ∧ W.heap[fb]? = some (.cells #[.int .i64 x, .int .i64 y] 32 (0, 0)))) := fun W f => ⟨(f.block _ (heap_lt kx18) (fun f => f)).trans kx18, (f.block _ (heap_lt kw18) (fun f => f)).trans kw18, (f.cell (p := ⟨pr, q, none⟩) (World.block_lt_of_cell? _ ⟨pr, q, none⟩ cr18) (fun f => f)).trans cr18, (f.block _ (heap_lt j18) (fun f => f)).trans j18⟩
          have heV := fun W => thing_eq hVz W
          have hSH : Hid (Sent w.heap.size w a) := hS
          have HUP := show Hid _ from hup
          clear hup hLA hLB hEA hEB hmc16 hmc17 jf16 jf17 jf17b f17 f17b z18 hMf hMean hMid fA fB f1418 f1718 f18 kx18 kw18 cr18 j18 hRel hRel17 gr12 gr14 gr18' f16 jw jx12 hbw hfb
          have nb : Nw w18 w18.drew := (Fr.refl _ _).drew
          refine wp_region_held_drew (S := fun W => W.heap[gx]? = some (.cells V 40 (0, 0)) ∧ W.heap[bw]? = some (.cells V 40 (0, 0)) ∧ W.cell? ⟨pr, q, none⟩ = some (.pointer (some ⟨rb, 0, none⟩)) ∧ W.heap[fb]? = some (.cells #[.int .i64 x, .int .i64 y] 32 (0, 0))) (by kernel_rfl) (hk19.out _ nb) ?_
          intro hS0
          refine wpAnyH_take (i := 0) (oi := ({ dst := some 84, op := Op.load 40 (Operand.tmp 13), type := 40, pos := "law.go:154", after := #[], guard := none } : Oper)) (v := .agg V) rfl (by kernel_rfl) (by kernel_rfl) (by kernel_rfl) (fun _ _ _ h => h) (yields_load_agg rfl (.tmp 13) 40 37 rfl Tryd.isAgg40 Tryd.sizeOf40 gx rfl 40 V hV37 (fun w hw => hw.1)) hS0 ?_
          try simp only [Act.put, List.setIfInBounds_toArray, List.set_cons_zero, List.set_cons_succ]
          refine wpAnyH_take (i := 1) (oi := ({ dst := some 85, op := Op.load 40 (Operand.tmp 14), type := 40, pos := "law.go:154", after := #[], guard := none } : Oper)) (v := .agg V) rfl (by kernel_rfl) (by kernel_rfl) (by kernel_rfl) (fun _ _ _ h => h) (yields_load_agg rfl (.tmp 14) 40 37 rfl Tryd.isAgg40 Tryd.sizeOf40 bw rfl 40 V hV37 (fun w hw => hw.2.1)) hS0 ?_
          try simp only [Act.put, List.setIfInBounds_toArray, List.set_cons_zero, List.set_cons_succ]
          refine wpAnyH_take (i := 2) (oi := ({ dst := some 86, op := Op.binOp BinOp.neq 40 (Operand.tmp 84) (Operand.tmp 85) 40, type := 4, pos := "law.go:154", after := #[{ on := 0, ground := Ground.data }, { on := 1, ground := Ground.data }], guard := none } : Oper)) (v := .bool false) rfl (by kernel_rfl) (by kernel_rfl) (by kernel_rfl) (fun _ _ _ h => h) (Or.inl ⟨by rfl, by intro w hw; go_simp⟩) hS0 ?_
          try simp only [Act.put, List.setIfInBounds_toArray, List.set_cons_zero, List.set_cons_succ]
          refine wpAnyH_take (i := 3) (oi := ({ dst := some 87, op := Op.move (Operand.tmp 86), type := 4, pos := "law.go:154", after := #[{ on := 2, ground := Ground.data }], guard := none } : Oper)) (v := .bool false) rfl (by kernel_rfl) (by kernel_rfl) (by kernel_rfl) (fun _ _ _ h => h) (Or.inl ⟨by rfl, by intro w hw; go_simp⟩) hS0 ?_
          try simp only [Act.put, List.setIfInBounds_toArray, List.set_cons_zero, List.set_cons_succ]
          refine wpAnyH_take (i := 4) (oi := ({ dst := some 88, op := Op.move (Operand.tmp 8), type := 29, pos := "law.go:154", after := #[{ on := 3, ground := Ground.guard }], guard := some (3, false) } : Oper)) (v := .slice (some ⟨pr, 0, none⟩) 4 4) rfl (by kernel_rfl) (by kernel_rfl) (by kernel_rfl) (fun _ _ _ h => h) (Or.inl ⟨by rfl, by intro w hw; go_simp⟩) hS0 ?_
          try simp only [Act.put, List.setIfInBounds_toArray, List.set_cons_zero, List.set_cons_succ]
          refine wpAnyH_take (i := 5) (oi := ({ dst := some 89, op := Op.move (Operand.tmp 12), type := 3, pos := "law.go:154", after := #[{ on := 3, ground := Ground.guard }], guard := some (3, false) } : Oper)) (v := .int .i64 (q : Int)) rfl (by kernel_rfl) (by kernel_rfl) (by kernel_rfl) (fun _ _ _ h => h) (Or.inl ⟨by rfl, by intro w hw; go_simp⟩) hS0 ?_
          try simp only [Act.put, List.setIfInBounds_toArray, List.set_cons_zero, List.set_cons_succ]
          refine wpAnyH_take (i := 6) (oi := ({ dst := some 90, op := Op.indexAddr 29 (Operand.tmp 88) (Operand.tmp 89), type := 0, pos := "law.go:154", after := #[{ on := 4, ground := Ground.data }, { on := 5, ground := Ground.data }, { on := 3, ground := Ground.guard }], guard := some (3, false) } : Oper)) (v := .pointer (some ⟨pr, q, none⟩)) rfl (by kernel_rfl) (by kernel_rfl) (by kernel_rfl) (fun _ _ _ h => h) (Or.inl ⟨by rfl, by intro w hw; go_simp⟩) hS0 ?_
          try simp only [Act.put, List.setIfInBounds_toArray, List.set_cons_zero, List.set_cons_succ]
          refine wpAnyH_take (i := 7) (oi := ({ dst := some 91, op := Op.load 23 (Operand.tmp 90), type := 23, pos := "law.go:154", after := #[{ on := 6, ground := Ground.data }, { on := 3, ground := Ground.guard }], guard := some (3, false) } : Oper)) (v := .pointer (some ⟨rb, 0, none⟩)) rfl (by kernel_rfl) (by kernel_rfl) (by kernel_rfl) (fun _ _ _ h => h) (Or.inl ⟨by rfl, by intro w hw; have hc := hw.2.2.1; clear hw; go_simp⟩) hS0 ?_
          try simp only [Act.put, List.setIfInBounds_toArray, List.set_cons_zero, List.set_cons_succ]
          refine wpAnyH_take (i := 9) (oi := ({ dst := some 93, op := Op.move (Operand.tmp 15), type := 3, pos := "law.go:154", after := #[{ on := 3, ground := Ground.guard }], guard := some (3, false) } : Oper)) (v := .int .i64 ll) rfl (by kernel_rfl) (by kernel_rfl) (by kernel_rfl) (fun _ _ _ h => h) (Or.inl ⟨by rfl, by intro w hw; go_simp⟩) hS0 ?_
          try simp only [Act.put, List.setIfInBounds_toArray, List.set_cons_zero, List.set_cons_succ]
          refine wpAnyH_ready (rs := [8]) (by kernel_rfl) (by simp) ?_
          refine (AllReadyH.cons (o := ({ dst := some 92, op := Op.call { callee := Callee.value (Operand.func 12), args := #[Operand.tmp 91], argTypes := #[23] }, type := 3, pos := "law.go:154", after := #[{ on := 7, ground := Ground.data }, { on := 3, ground := Ground.chain }, { on := 3, ground := Ground.guard }], guard := some (3, false) } : Oper)) rfl (fun K' hK => ?_) AllReadyH.nil)
          go_simp
          go_wp2_with (go_at_call 12; refine (hL1.out _ nb).mono ?_; rintro ex w101 ⟨rfl, nw101⟩)
          have nb := Nw.tr nb nw101
          refine hK.out _ _ (hk19.out _ nb) (fun hS0 => ?_)
          try simp only [Act.put, List.setIfInBounds_toArray, List.set_cons_zero, List.set_cons_succ]
          refine wpAnyH_take (i := 10) (oi := ({ dst := some 94, op := Op.binOp BinOp.neq 3 (Operand.tmp 92) (Operand.tmp 93) 3, type := 4, pos := "law.go:154", after := #[{ on := 8, ground := Ground.data }, { on := 9, ground := Ground.data }, { on := 3, ground := Ground.guard }], guard := some (3, false) } : Oper)) (v := .bool false) rfl (by kernel_rfl) (by kernel_rfl) (by kernel_rfl) (fun _ _ _ h => h) (Or.inl ⟨by rfl, by intro w hw; go_simp⟩) hS0 ?_
          try simp only [Act.put, List.setIfInBounds_toArray, List.set_cons_zero, List.set_cons_succ]
          refine wpAnyH_take (i := 11) (oi := ({ dst := some 95, op := Op.pick (Operand.tmp 87) (Operand.const (Value.bool true)) (Operand.tmp 94), type := 4, pos := "law.go:154", after := #[{ on := 3, ground := Ground.data }, { on := 10, ground := Ground.data }], guard := none } : Oper)) (v := .bool false) rfl (by kernel_rfl) (by kernel_rfl) (by kernel_rfl) (fun _ _ _ h => h) (Or.inl ⟨by rfl, by intro w hw; go_simp⟩) hS0 ?_
          try simp only [Act.put, List.setIfInBounds_toArray, List.set_cons_zero, List.set_cons_succ]
          refine wpAnyH_take (i := 12) (oi := ({ dst := some 96, op := Op.move (Operand.tmp 95), type := 4, pos := "law.go:154", after := #[{ on := 11, ground := Ground.data }, { on := 8, ground := Ground.chain }], guard := none } : Oper)) (v := .bool false) rfl (by kernel_rfl) (by kernel_rfl) (by kernel_rfl) (fun _ _ _ h => h) (Or.inl ⟨by rfl, by intro w hw; go_simp⟩) hS0 ?_
          try simp only [Act.put, List.setIfInBounds_toArray, List.set_cons_zero, List.set_cons_succ]
          refine wpAnyH_take (i := 13) (oi := ({ dst := some 97, op := Op.move (Operand.tmp 8), type := 29, pos := "law.go:154", after := #[{ on := 12, ground := Ground.guard }], guard := some (12, false) } : Oper)) (v := .slice (some ⟨pr, 0, none⟩) 4 4) rfl (by kernel_rfl) (by kernel_rfl) (by kernel_rfl) (fun _ _ _ h => h) (Or.inl ⟨by rfl, by intro w hw; go_simp⟩) hS0 ?_
          try simp only [Act.put, List.setIfInBounds_toArray, List.set_cons_zero, List.set_cons_succ]
          refine wpAnyH_take (i := 14) (oi := ({ dst := some 98, op := Op.move (Operand.tmp 12), type := 3, pos := "law.go:154", after := #[{ on := 12, ground := Ground.guard }], guard := some (12, false) } : Oper)) (v := .int .i64 (q : Int)) rfl (by kernel_rfl) (by kernel_rfl) (by kernel_rfl) (fun _ _ _ h => h) (Or.inl ⟨by rfl, by intro w hw; go_simp⟩) hS0 ?_
          try simp only [Act.put, List.setIfInBounds_toArray, List.set_cons_zero, List.set_cons_succ]
          refine wpAnyH_take (i := 15) (oi := ({ dst := some 99, op := Op.indexAddr 29 (Operand.tmp 97) (Operand.tmp 98), type := 0, pos := "law.go:154", after := #[{ on := 13, ground := Ground.data }, { on := 14, ground := Ground.data }, { on := 12, ground := Ground.guard }], guard := some (12, false) } : Oper)) (v := .pointer (some ⟨pr, q, none⟩)) rfl (by kernel_rfl) (by kernel_rfl) (by kernel_rfl) (fun _ _ _ h => h) (Or.inl ⟨by rfl, by intro w hw; go_simp⟩) hS0 ?_
          try simp only [Act.put, List.setIfInBounds_toArray, List.set_cons_zero, List.set_cons_succ]
          refine wpAnyH_take (i := 16) (oi := ({ dst := some 100, op := Op.load 23 (Operand.tmp 99), type := 23, pos := "law.go:154", after := #[{ on := 15, ground := Ground.data }, { on := 12, ground := Ground.guard }], guard := some (12, false) } : Oper)) (v := .pointer (some ⟨rb, 0, none⟩)) rfl (by kernel_rfl) (by kernel_rfl) (by kernel_rfl) (fun _ _ _ h => h) (Or.inl ⟨by rfl, by intro w hw; have hc := hw.2.2.1; clear hw; go_simp⟩) hS0 ?_
          try simp only [Act.put, List.setIfInBounds_toArray, List.set_cons_zero, List.set_cons_succ]
          refine wpAnyH_take (i := 18) (oi := ({ dst := some 102, op := Op.load 32 (Operand.tmp 16), type := 32, pos := "law.go:154", after := #[{ on := 12, ground := Ground.guard }], guard := some (12, false) } : Oper)) (v := .agg #[.int .i64 x, .int .i64 y]) rfl (by kernel_rfl) (by kernel_rfl) (by kernel_rfl) (fun _ _ _ h => h) (yields_load_g (by rfl) (.tmp 16) 32 2 rfl Tryd.isAgg32 Tryd.sizeOf32 fb rfl 32 #[.int .i64 x, .int .i64 y] rfl (fun w hw => hw.2.2.2)) hS0 ?_
          try simp only [Act.put, List.setIfInBounds_toArray, List.set_cons_zero, List.set_cons_succ]
          refine wpAnyH_ready (rs := [17]) (by kernel_rfl) (by simp) ?_
          refine (AllReadyH.cons (o := ({ dst := some 101, op := Op.call { callee := Callee.value (Operand.func 14), args := #[Operand.tmp 100], argTypes := #[23] }, type := 26, pos := "law.go:154", after := #[{ on := 16, ground := Ground.data }, { on := 12, ground := Ground.chain }, { on := 12, ground := Ground.guard }], guard := some (12, false) } : Oper)) rfl (fun K' hK => ?_) AllReadyH.nil)
          go_simp
          go_wp2_with (go_at_call 14; refine (hE1.out _ nb).mono ?_; rintro ex w102 ⟨⟨ev1, rfl, code1, pl1, hev1, hsm1⟩, nw102⟩)
          have nb := Nw.tr nb nw102
          refine hK.out _ _ (hk19.out _ nb) (fun hS0 => ?_)
          try simp only [Act.put, List.setIfInBounds_toArray, List.set_cons_zero, List.set_cons_succ]
          refine wpAnyH_ready (rs := [19]) (by kernel_rfl) (by simp) ?_
          refine (AllReadyH.cons (o := ({ dst := some 103, op := Op.call { callee := Callee.value (Operand.func 13), args := #[Operand.tmp 101, Operand.tmp 102], argTypes := #[26, 32] }, type := 4, pos := "law.go:154", after := #[{ on := 17, ground := Ground.data }, { on := 18, ground := Ground.data }, { on := 17, ground := Ground.chain }, { on := 12, ground := Ground.guard }], guard := some (12, false) } : Oper)) rfl (fun K' hK => ?_) AllReadyH.nil)
          go_simp
          have hq := same_any (hSH.out.fr (Nw.tr gr18.out nb) (nofalse _)) hev1 (x) (y)
          rw [hsm1] at hq
          go_wp2_with (go_at_call 13; refine hq.mono ?_; rintro ex w103 ⟨rfl, nw103⟩)
          have nb := Nw.tr nb nw103
          refine hK.out _ _ (hk19.out _ nb) (fun hS0 => ?_)
          try simp only [Act.put, List.setIfInBounds_toArray, List.set_cons_zero, List.set_cons_succ]
          refine wpAnyH_take (i := 20) (oi := ({ dst := some 104, op := Op.unOp UnOp.not 4 (Operand.tmp 103), type := 4, pos := "law.go:154", after := #[{ on := 19, ground := Ground.data }, { on := 12, ground := Ground.guard }], guard := some (12, false) } : Oper)) (v := .bool false) rfl (by kernel_rfl) (by kernel_rfl) (by kernel_rfl) (fun _ _ _ h => h) (Or.inl ⟨by rfl, by intro w hw; go_simp⟩) hS0 ?_
          try simp only [Act.put, List.setIfInBounds_toArray, List.set_cons_zero, List.set_cons_succ]
          refine wpAnyH_take (i := 21) (oi := ({ dst := some 105, op := Op.pick (Operand.tmp 96) (Operand.const (Value.bool true)) (Operand.tmp 104), type := 4, pos := "law.go:154", after := #[{ on := 12, ground := Ground.data }, { on := 20, ground := Ground.data }], guard := none } : Oper)) (v := .bool false) rfl (by kernel_rfl) (by kernel_rfl) (by kernel_rfl) (fun _ _ _ h => h) (Or.inl ⟨by rfl, by intro w hw; go_simp⟩) hS0 ?_
          try simp only [Act.put, List.setIfInBounds_toArray, List.set_cons_zero, List.set_cons_succ]
          refine wpAnyH_take (i := 22) (oi := ({ dst := some 106, op := Op.move (Operand.tmp 105), type := 4, pos := "law.go:154", after := #[{ on := 21, ground := Ground.data }, { on := 19, ground := Ground.chain }], guard := none } : Oper)) (v := .bool false) rfl (by kernel_rfl) (by kernel_rfl) (by kernel_rfl) (fun _ _ _ h => h) (Or.inl ⟨by rfl, by intro w hw; go_simp⟩) hS0 ?_
          try simp only [Act.put, List.setIfInBounds_toArray, List.set_cons_zero, List.set_cons_succ]
          refine wpAnyH_take (i := 23) (oi := ({ dst := some 107, op := Op.move (Operand.tmp 8), type := 29, pos := "law.go:154", after := #[{ on := 22, ground := Ground.guard }], guard := some (22, false) } : Oper)) (v := .slice (some ⟨pr, 0, none⟩) 4 4) rfl (by kernel_rfl) (by kernel_rfl) (by kernel_rfl) (fun _ _ _ h => h) (Or.inl ⟨by rfl, by intro w hw; go_simp⟩) hS0 ?_
          try simp only [Act.put, List.setIfInBounds_toArray, List.set_cons_zero, List.set_cons_succ]
          refine wpAnyH_take (i := 24) (oi := ({ dst := some 108, op := Op.move (Operand.tmp 12), type := 3, pos := "law.go:154", after := #[{ on := 22, ground := Ground.guard }], guard := some (22, false) } : Oper)) (v := .int .i64 (q : Int)) rfl (by kernel_rfl) (by kernel_rfl) (by kernel_rfl) (fun _ _ _ h => h) (Or.inl ⟨by rfl, by intro w hw; go_simp⟩) hS0 ?_
          try simp only [Act.put, List.setIfInBounds_toArray, List.set_cons_zero, List.set_cons_succ]
          refine wpAnyH_take (i := 25) (oi := ({ dst := some 109, op := Op.indexAddr 29 (Operand.tmp 107) (Operand.tmp 108), type := 0, pos := "law.go:154", after := #[{ on := 23, ground := Ground.data }, { on := 24, ground := Ground.data }, { on := 22, ground := Ground.guard }], guard := some (22, false) } : Oper)) (v := .pointer (some ⟨pr, q, none⟩)) rfl (by kernel_rfl) (by kernel_rfl) (by kernel_rfl) (fun _ _ _ h => h) (Or.inl ⟨by rfl, by intro w hw; go_simp⟩) hS0 ?_
          try simp only [Act.put, List.setIfInBounds_toArray, List.set_cons_zero, List.set_cons_succ]
          refine wpAnyH_take (i := 26) (oi := ({ dst := some 110, op := Op.load 23 (Operand.tmp 109), type := 23, pos := "law.go:154", after := #[{ on := 25, ground := Ground.data }, { on := 22, ground := Ground.guard }], guard := some (22, false) } : Oper)) (v := .pointer (some ⟨rb, 0, none⟩)) rfl (by kernel_rfl) (by kernel_rfl) (by kernel_rfl) (fun _ _ _ h => h) (Or.inl ⟨by rfl, by intro w hw; have hc := hw.2.2.1; clear hw; go_simp⟩) hS0 ?_
          try simp only [Act.put, List.setIfInBounds_toArray, List.set_cons_zero, List.set_cons_succ]
          refine wpAnyH_take (i := 28) (oi := ({ dst := some 112, op := Op.move (Operand.tmp 15), type := 3, pos := "law.go:154", after := #[{ on := 22, ground := Ground.guard }], guard := some (22, false) } : Oper)) (v := .int .i64 ll) rfl (by kernel_rfl) (by kernel_rfl) (by kernel_rfl) (fun _ _ _ h => h) (Or.inl ⟨by rfl, by intro w hw; go_simp⟩) hS0 ?_
          try simp only [Act.put, List.setIfInBounds_toArray, List.set_cons_zero, List.set_cons_succ]
          refine wpAnyH_ready (rs := [27]) (by kernel_rfl) (by simp) ?_
          refine (AllReadyH.cons (o := ({ dst := some 111, op := Op.call { callee := Callee.value (Operand.func 12), args := #[Operand.tmp 110], argTypes := #[23] }, type := 3, pos := "law.go:154", after := #[{ on := 26, ground := Ground.data }, { on := 22, ground := Ground.chain }, { on := 22, ground := Ground.guard }], guard := some (22, false) } : Oper)) rfl (fun K' hK => ?_) AllReadyH.nil)
          go_simp
          go_wp2_with (go_at_call 12; refine (hL1.out _ nb).mono ?_; rintro ex w104 ⟨rfl, nw104⟩)
          have nb := Nw.tr nb nw104
          refine hK.out _ _ (hk19.out _ nb) (fun hS0 => ?_)
          try simp only [Act.put, List.setIfInBounds_toArray, List.set_cons_zero, List.set_cons_succ]
          refine wpAnyH_take (i := 29) (oi := ({ dst := some 113, op := Op.binOp BinOp.neq 3 (Operand.tmp 111) (Operand.tmp 112) 3, type := 4, pos := "law.go:154", after := #[{ on := 27, ground := Ground.data }, { on := 28, ground := Ground.data }, { on := 22, ground := Ground.guard }], guard := some (22, false) } : Oper)) (v := .bool false) rfl (by kernel_rfl) (by kernel_rfl) (by kernel_rfl) (fun _ _ _ h => h) (Or.inl ⟨by rfl, by intro w hw; go_simp⟩) hS0 ?_
          try simp only [Act.put, List.setIfInBounds_toArray, List.set_cons_zero, List.set_cons_succ]
          refine wpAnyH_take (i := 30) (oi := ({ dst := some 114, op := Op.pick (Operand.tmp 106) (Operand.const (Value.bool true)) (Operand.tmp 113), type := 4, pos := "law.go:154", after := #[{ on := 22, ground := Ground.data }, { on := 29, ground := Ground.data }], guard := none } : Oper)) (v := .bool false) rfl (by kernel_rfl) (by kernel_rfl) (by kernel_rfl) (fun _ _ _ h => h) (Or.inl ⟨by rfl, by intro w hw; go_simp⟩) hS0 ?_
          try simp only [Act.put, List.setIfInBounds_toArray, List.set_cons_zero, List.set_cons_succ]
          refine wpAnyH_take (i := 31) (oi := ({ dst := some 115, op := Op.move (Operand.tmp 114), type := 4, pos := "law.go:154", after := #[{ on := 30, ground := Ground.data }, { on := 27, ground := Ground.chain }], guard := none } : Oper)) (v := .bool false) rfl (by kernel_rfl) (by kernel_rfl) (by kernel_rfl) (fun _ _ _ h => h) (Or.inl ⟨by rfl, by intro w hw; go_simp⟩) hS0 ?_
          try simp only [Act.put, List.setIfInBounds_toArray, List.set_cons_zero, List.set_cons_succ]
          refine wpAnyH_take (i := 32) (oi := ({ dst := some 116, op := Op.move (Operand.tmp 8), type := 29, pos := "law.go:154", after := #[{ on := 31, ground := Ground.guard }], guard := some (31, false) } : Oper)) (v := .slice (some ⟨pr, 0, none⟩) 4 4) rfl (by kernel_rfl) (by kernel_rfl) (by kernel_rfl) (fun _ _ _ h => h) (Or.inl ⟨by rfl, by intro w hw; go_simp⟩) hS0 ?_
          try simp only [Act.put, List.setIfInBounds_toArray, List.set_cons_zero, List.set_cons_succ]
          refine wpAnyH_take (i := 33) (oi := ({ dst := some 117, op := Op.move (Operand.tmp 12), type := 3, pos := "law.go:154", after := #[{ on := 31, ground := Ground.guard }], guard := some (31, false) } : Oper)) (v := .int .i64 (q : Int)) rfl (by kernel_rfl) (by kernel_rfl) (by kernel_rfl) (fun _ _ _ h => h) (Or.inl ⟨by rfl, by intro w hw; go_simp⟩) hS0 ?_
          try simp only [Act.put, List.setIfInBounds_toArray, List.set_cons_zero, List.set_cons_succ]
          refine wpAnyH_take (i := 34) (oi := ({ dst := some 118, op := Op.indexAddr 29 (Operand.tmp 116) (Operand.tmp 117), type := 0, pos := "law.go:154", after := #[{ on := 32, ground := Ground.data }, { on := 33, ground := Ground.data }, { on := 31, ground := Ground.guard }], guard := some (31, false) } : Oper)) (v := .pointer (some ⟨pr, q, none⟩)) rfl (by kernel_rfl) (by kernel_rfl) (by kernel_rfl) (fun _ _ _ h => h) (Or.inl ⟨by rfl, by intro w hw; go_simp⟩) hS0 ?_
          try simp only [Act.put, List.setIfInBounds_toArray, List.set_cons_zero, List.set_cons_succ]
          refine wpAnyH_take (i := 35) (oi := ({ dst := some 119, op := Op.load 23 (Operand.tmp 118), type := 23, pos := "law.go:154", after := #[{ on := 34, ground := Ground.data }, { on := 31, ground := Ground.guard }], guard := some (31, false) } : Oper)) (v := .pointer (some ⟨rb, 0, none⟩)) rfl (by kernel_rfl) (by kernel_rfl) (by kernel_rfl) (fun _ _ _ h => h) (Or.inl ⟨by rfl, by intro w hw; have hc := hw.2.2.1; clear hw; go_simp⟩) hS0 ?_
          try simp only [Act.put, List.setIfInBounds_toArray, List.set_cons_zero, List.set_cons_succ]
          refine wpAnyH_take (i := 37) (oi := ({ dst := some 121, op := Op.load 32 (Operand.tmp 16), type := 32, pos := "law.go:154", after := #[{ on := 31, ground := Ground.guard }], guard := some (31, false) } : Oper)) (v := .agg #[.int .i64 x, .int .i64 y]) rfl (by kernel_rfl) (by kernel_rfl) (by kernel_rfl) (fun _ _ _ h => h) (yields_load_g (by rfl) (.tmp 16) 32 2 rfl Tryd.isAgg32 Tryd.sizeOf32 fb rfl 32 #[.int .i64 x, .int .i64 y] rfl (fun w hw => hw.2.2.2)) hS0 ?_
          try simp only [Act.put, List.setIfInBounds_toArray, List.set_cons_zero, List.set_cons_succ]
          refine wpAnyH_ready (rs := [36]) (by kernel_rfl) (by simp) ?_
          refine (AllReadyH.cons (o := ({ dst := some 120, op := Op.call { callee := Callee.value (Operand.func 14), args := #[Operand.tmp 119], argTypes := #[23] }, type := 26, pos := "law.go:154", after := #[{ on := 35, ground := Ground.data }, { on := 31, ground := Ground.chain }, { on := 31, ground := Ground.guard }], guard := some (31, false) } : Oper)) rfl (fun K' hK => ?_) AllReadyH.nil)
          go_simp
          go_wp2_with (go_at_call 14; refine (hE1.out _ nb).mono ?_; rintro ex w105 ⟨⟨ev2, rfl, code2, pl2, hev2, hsm2⟩, nw105⟩)
          have nb := Nw.tr nb nw105
          refine hK.out _ _ (hk19.out _ nb) (fun hS0 => ?_)
          try simp only [Act.put, List.setIfInBounds_toArray, List.set_cons_zero, List.set_cons_succ]
          refine wpAnyH_ready (rs := [38]) (by kernel_rfl) (by simp) ?_
          refine (AllReadyH.cons (o := ({ dst := some 122, op := Op.call { callee := Callee.value (Operand.func 13), args := #[Operand.tmp 120, Operand.tmp 121], argTypes := #[26, 32] }, type := 4, pos := "law.go:154", after := #[{ on := 36, ground := Ground.data }, { on := 37, ground := Ground.data }, { on := 36, ground := Ground.chain }, { on := 31, ground := Ground.guard }], guard := some (31, false) } : Oper)) rfl (fun K' hK => ?_) AllReadyH.nil)
          go_simp
          have hq := same_any (hSH.out.fr (Nw.tr gr18.out nb) (nofalse _)) hev2 (x) (y)
          rw [hsm2] at hq
          go_wp2_with (go_at_call 13; refine hq.mono ?_; rintro ex w106 ⟨rfl, nw106⟩)
          have nb := Nw.tr nb nw106
          refine hK.out _ _ (hk19.out _ nb) (fun hS0 => ?_)
          try simp only [Act.put, List.setIfInBounds_toArray, List.set_cons_zero, List.set_cons_succ]
          refine wpAnyH_take (i := 39) (oi := ({ dst := some 123, op := Op.unOp UnOp.not 4 (Operand.tmp 122), type := 4, pos := "law.go:154", after := #[{ on := 38, ground := Ground.data }, { on := 31, ground := Ground.guard }], guard := some (31, false) } : Oper)) (v := .bool false) rfl (by kernel_rfl) (by kernel_rfl) (by kernel_rfl) (fun _ _ _ h => h) (Or.inl ⟨by rfl, by intro w hw; go_simp⟩) hS0 ?_
          try simp only [Act.put, List.setIfInBounds_toArray, List.set_cons_zero, List.set_cons_succ]
          refine wpAnyH_take (i := 40) (oi := ({ dst := some 124, op := Op.pick (Operand.tmp 115) (Operand.const (Value.bool true)) (Operand.tmp 123), type := 4, pos := "law.go:154", after := #[{ on := 31, ground := Ground.data }, { on := 39, ground := Ground.data }], guard := none } : Oper)) (v := .bool false) rfl (by kernel_rfl) (by kernel_rfl) (by kernel_rfl) (fun _ _ _ h => h) (Or.inl ⟨by rfl, by intro w hw; go_simp⟩) hS0 ?_
          try simp only [Act.put, List.setIfInBounds_toArray, List.set_cons_zero, List.set_cons_succ]
          refine wpAnyH_done (by kernel_rfl) ?_ _
          have hC9 : Cr w106 w.heap.size one two a := HUP.out w106 (FB.out.trans nb (fun _ _ f => f.elim)) (hRel18.out.fr nb (fun f => f) (fun f => f))
          have gr9 : Nw w w106 := Nw.tr gr18.out nb
          have e1 := HPR.out
          have e2 := HPM.out
          clear HPR HPM hk19
          subst e1 e2
          go_wp2
          exact ⟨⟨k + 1, by omega, by go_num, hC9, gr9⟩, by simp [intOf]; omega⟩
      · have hq2i : ¬ (q : Int) < 2 := by omega
        obtain ⟨rp, hcr, hNr, hEn⟩ := hC5.ge2 q (by omega)
        obtain ⟨pr, hpr⟩ : ∃ x, x = w.heap.size + 1 + 1 + 1 := ⟨_, rfl⟩
        have o4 : pr < wr.heap.size := by rw [hpr]; omega
        have o5 : w.heap.size ≤ pr := by rw [hpr]; omega
        rw [← hpr] at hcr ⊢
        have HPR : Hid (pr = w.heap.size + 1 + 1 + 1) := hpr
        clear hpr
        obtain ⟨V, hV⟩ : ∃ V, V = zT kd wd := ⟨_, rfl⟩
        have hVz : Tz V := by rw [hV]; exact tz_Z _ _ _ _
        have HVQ : Hid (∃ k' wd' : Int, V[1]? = some (.int .i64 k') ∧ V[3]? = some (.int .i64 wd') ∧ tZ k' 0 wd' ⟨#[]⟩ = V) := by rw [hV]; exact ⟨_, _, rfl, rfl, rfl⟩
        have hTook : ∀ W, Nw w5 W → Calls Tryd.prog 7 #[.pointer rp, .agg (A0 k)] W fun e w' => e = .returned (.agg V) ∧ Fr (fun _ => False) W w' := fun W f => by rw [hV]; exact took_n (hS.fr (Nw.tr gr5 f) (nofalse _)) (hNr W f) hTf.g
        clear hV
        have cr := hcr
        clear ka fa f4 z4
        have hV37 := tz_size hVz
        have hV1 := tz_one hVz
        have hT5 : wr.heap.size < w5.heap.size := heap_lt j4
        have hkS : ∀ (W : World) (Sx : Nat → Prop), Fr Sx w5 W → ¬ Sx wr.heap.size → ¬ Sx (pr) → (W.heap[wr.heap.size]? = some (.cells (A0 k) 40 (0, 0)) ∧ W.cell? ⟨pr, q, none⟩ = some (.pointer rp)) := fun W Sx f h1 h2 => ⟨(f.block _ hT5 h1).trans j4, (f.cell (p := ⟨pr, q, none⟩) (show pr < w5.heap.size by omega) h2).trans cr⟩
        go_wp2_with fail
        go_cut [13] from 41 to 124 (fun x wx => ∃ gx, x = .pointer (some ⟨gx, 0, none⟩) ∧ wx.heap[gx]? = some (.cells V 40 (0, 0)) ∧ Fr (fun _ => False) w5 wx ∧ w5.heap.size ≤ gx)
        case first =>
          refine wp_region_held_drew (S := fun W => W.heap[wr.heap.size]? = some (.cells (A0 k) 40 (0, 0)) ∧ W.cell? ⟨pr, q, none⟩ = some (.pointer rp)) (by kernel_rfl) ⟨j4, cr⟩ ?_
          intro hS0
          refine wpAnyH_take (i := 0) (v := .slice (some ⟨pr, 0, none⟩) 4 4) rfl (by kernel_rfl) (by kernel_rfl) (by kernel_rfl) (fun _ _ _ h => h) (Or.inl ⟨by rfl, by intro w _; go_simp⟩) hS0 ?_
          try simp only [Act.put, List.setIfInBounds_toArray, List.set_cons_zero, List.set_cons_succ]
          refine wpAnyH_take (i := 1) (v := .int .i64 (q : Int)) rfl (by kernel_rfl) (by kernel_rfl) (by kernel_rfl) (fun _ _ _ h => h) (Or.inl ⟨by rfl, by intro w _; go_simp⟩) hS0 ?_
          try simp only [Act.put, List.setIfInBounds_toArray, List.set_cons_zero, List.set_cons_succ]
          refine wpAnyH_take (i := 2) (v := .pointer (some ⟨pr, q, none⟩)) rfl (by kernel_rfl) (by kernel_rfl) (by kernel_rfl) (fun _ _ _ h => h) (Or.inl ⟨by rfl, by intro w _; go_simp⟩) hS0 ?_
          try simp only [Act.put, List.setIfInBounds_toArray, List.set_cons_zero, List.set_cons_succ]
          refine wpAnyH_take (i := 3) (v := .pointer rp) rfl (by kernel_rfl) (by kernel_rfl) (by kernel_rfl) (fun _ _ _ h => h) (Or.inl ⟨by rfl, by intro w hw; have hc := hw.2; go_simp⟩) hS0 ?_
          try simp only [Act.put, List.setIfInBounds_toArray, List.set_cons_zero, List.set_cons_succ]
          refine wpAnyH_take (i := 4) (v := .agg (A0 k)) rfl (by kernel_rfl) (by kernel_rfl) (by kernel_rfl) (fun _ _ _ h => h) (yields_load_agg rfl (.tmp 11) 40 37 rfl Tryd.isAgg40 Tryd.sizeOf40 wr.heap.size rfl 40 (A0 k) hs37 (fun w hw => hw.1)) hS0 ?_
          try simp only [Act.put, List.setIfInBounds_toArray, List.set_cons_zero, List.set_cons_succ]
          refine wpAnyH_ready (rs := [5, 6]) (by kernel_rfl) (by simp) ?_
          refine AllReadyH.cons rfl (fun K' hK => ?_) (AllReadyH.cons rfl (fun K' hK => ?_) AllReadyH.nil)
          · go_simp
            go_wp2_with (go_at_call 7; refine (hTook _ (Fr.refl _ w5).drew).mono ?_; rintro e w8 ⟨rfl, f8⟩)
            have f8' : Fr (fun _ => False) w5 w8 := ((Fr.refl (fun _ => False) w5).drew).trans f8 (fun _ _ q => q)
            refine hK.out _ _ (hkS w8 _ f8' (fun f => f) (fun f => f)) (fun hS1 => ?_)
            try simp only [Act.put, List.setIfInBounds_toArray, List.set_cons_zero, List.set_cons_succ]
            refine wpAnyH_ready (rs := [6]) (by kernel_rfl) (by simp) ?_
            refine AllReadyH.cons rfl (fun K' hK => ?_) AllReadyH.nil
            go_simp
            have fA : Fr (fun _ => False) w8 (w8.alloc (.cells (tZ 0 0 0 ⟨#[]⟩) 40)) := (Fr.refl _ _).alloc _
            refine hK.out _ _ (hkS _ _ (f8'.alloc _) (fun f => f) (fun f => f)) (fun hS2 => ?_)
            try simp only [Act.put, List.setIfInBounds_toArray, List.set_cons_zero, List.set_cons_succ]
            refine wpAnyH_ready (rs := [7]) (by kernel_rfl) (by simp) ?_
            refine AllReadyH.cons rfl (fun K' hK => ?_) AllReadyH.nil
            refine step_store_agg rfl (.tmp 13) (.tmp 59) 40 37 rfl Tryd.sizeOf40 w8.heap.size 0 rfl (tZ 0 0 0 ⟨#[]⟩) 40 (heap_alloc_new w8 _) V rfl hV37 hV1 (by decide) V (by have : (tZ 0 0 0 ⟨#[]⟩).toList.drop (0 + 37) = [] := rfl; rw [this]; simp) ?_
            intro w9 j9 f9 z9
            have f9' := (f8'.alloc (.cells (tZ 0 0 0 ⟨#[]⟩) 40)).trans f9 (S' := fun j => j = w8.heap.size) (S := fun _ => False) (fun k hk q => by have := f8'.size; omega)
            refine hK.out _ _ (hkS w9 _ f9' (fun f => f) (fun f => f)) (fun hS3 => ?_)
            refine wpAnyH_done (by kernel_rfl) ?_ _
            go_wp2_with fail
            go_meet
            have hz8 := f8'.size
            exact ⟨w8.heap.size, rfl, j9, f9', f8'.size⟩
          · go_simp
            have fA : Fr (fun _ => False) w5 (w5.alloc (.cells (tZ 0 0 0 ⟨#[]⟩) 40)).drew := ((Fr.refl _ _).alloc _).drew
            have kx : (w5.alloc (.cells (tZ 0 0 0 ⟨#[]⟩) 40)).drew.heap[w5.heap.size]? = some (.cells (tZ 0 0 0 ⟨#[]⟩) 40 (0, 0)) := heap_alloc_new w5 _
            refine hK.out _ _ (hkS _ _ fA (fun f => f) (fun f => f)) (fun hS1 => ?_)
            try simp only [Act.put, List.setIfInBounds_toArray, List.set_cons_zero, List.set_cons_succ]
            refine wpAnyH_ready (rs := [5]) (by kernel_rfl) (by simp) ?_
            refine AllReadyH.cons rfl (fun K' hK => ?_) AllReadyH.nil
            go_simp
            go_wp2_with (go_at_call 7; refine (hTook _ fA).mono ?_; rintro e w8 ⟨rfl, f8⟩)
            have f8' : Fr (fun _ => False) w5 w8 := (fA.mono (fun _ _ f => f.elim)).trans f8 (fun _ _ q => q)
            have kx8 := (f8.block w5.heap.size (heap_lt kx) (fun f => f)).trans kx
            refine hK.out _ _ (hkS w8 _ f8' (fun f => f) (fun f => f)) (fun hS2 => ?_)
            try simp only [Act.put, List.setIfInBounds_toArray, List.set_cons_zero, List.set_cons_succ]
            refine wpAnyH_ready (rs := [7]) (by kernel_rfl) (by simp) ?_
            refine AllReadyH.cons rfl (fun K' hK => ?_) AllReadyH.nil
            refine step_store_agg rfl (.tmp 13) (.tmp 59) 40 37 rfl Tryd.sizeOf40 w5.heap.size 0 rfl (tZ 0 0 0 ⟨#[]⟩) 40 kx8 V rfl hV37 hV1 (by decide) V (by have : (tZ 0 0 0 ⟨#[]⟩).toList.drop (0 + 37) = [] := rfl; rw [this]; simp) ?_
            intro w9 j9 f9 z9
            have f9' := f8'.trans f9 (S := fun _ => False) (fun k hk q => by omega)
            refine hK.out _ _ (hkS w9 _ f9' (fun f => f) (fun f => f)) (fun hS3 => ?_)
            refine wpAnyH_done (by kernel_rfl) ?_ _
            go_wp2_with fail
            go_meet
            exact ⟨w5.heap.size, rfl, j9, f9', Nat.le_refl _⟩
        case rest =>
          obtain ⟨gx, rfl, jx, fx, hgx⟩ := hcut
          obtain ⟨k', wd', hVk, hVw, hVe⟩ := HVQ.out
          have HVE : Hid (tZ k' 0 wd' ⟨#[]⟩ = V) := hVe
          clear hVe HVQ
          have dk := (cell_of jx 1).trans hVk
          have dw := (cell_of jx 3).trans hVw
          have hgl := heap_lt jx
          have kb : (wc.alloc (.cells (tZ 0 0 0 ⟨#[]⟩) 40)).heap[wc.heap.size]? = some (.cells (tZ 0 0 0 ⟨#[]⟩) 40 (0, 0)) := heap_alloc_new wc _
          have fb : Fr (fun _ => False) wc (wc.alloc (.cells (tZ 0 0 0 ⟨#[]⟩) 40)) := (Fr.refl _ _).alloc _
          clear hTook cr hkS
          go_wp2_with (refine wp_store_agg rfl (.tmp 14) (.tmp 64) 40 37 rfl Tryd.sizeOf40 wc.heap.size 0 rfl (tZ 0 0 0 ⟨#[]⟩) 40 kb (tZ k' 0 wd' ⟨#[]⟩) rfl rfl (tZ_one _ _ _ _) (by decide) (tZ k' 0 wd' ⟨#[]⟩) rfl ?_; intro w10 j10 f10 z10; clear kb dk dw)
          have g10 : Fr (fun _ => False) wc w10 := fb.trans f10 (fun k hk q => by omega)
          refine (plain_any 1 _ (by omega)).mono ?_
          rintro e w11 ⟨rfl, f11⟩
          have g11 := g10.trans f11 (fun _ _ q => q)
          have j11 := (f11.block _ (heap_lt j10) (fun f => f)).trans j10
          have kc : (w11.alloc (.cells #[.int .i64 0, .int .i64 0] 32)).heap[w11.heap.size]? = some (.cells #[.int .i64 0, .int .i64 0] 32 (0, 0)) := heap_alloc_new w11 _
          have fc : Fr (fun _ => False) w11 (w11.alloc (.cells #[.int .i64 0, .int .i64 0] 32)) := (Fr.refl _ _).alloc _
          clear f10 z10 fb
          go_wp2_with (refine wp_store_agg rfl (.tmp 16) (.tmp 65) 32 2 rfl Tryd.sizeOf32 w11.heap.size 0 rfl #[.int .i64 0, .int .i64 0] 32 kc #[.int .i64 1, .int .i64 (-1)] rfl rfl (by simp [Value.oneCell']) (by decide) #[.int .i64 1, .int .i64 (-1)] rfl ?_; intro w12 j12 f12 z12; clear kc)
          have g12 : Fr (fun _ => False) wc w12 := (g11.trans fc (fun _ _ q => q)).trans f12 (fun k hk q => by have := g11.size; omega)
          have hl11 := g11.size
          have hwc := fx.size
          have j14 : w12.heap[wc.heap.size]? = some (.cells (tZ k' 0 wd' ⟨#[]⟩) 40 (0, 0)) := (f12.block _ (by have := heap_lt j11; simp; omega) (by have := heap_lt j11; omega)).trans ((fc.block _ (heap_lt j11) (fun f => f)).trans j11)
          have jx12 := (g12.block _ hgl (fun f => f)).trans jx
          have jT : w12.heap[wr.heap.size]? = some (.cells (A0 k) 40 (0, 0)) := (g12.block _ (by omega) (fun f => f)).trans ((fx.block _ hT5 (fun f => f)).trans j4)
          have o7 : wc.heap.size < w11.heap.size := heap_lt j11
          rw [HVE.out] at j14
          have n512 : Hid (Nw w5 w12) := Nw.tr fx g12
          have gr12 : Hid (Nw w w12) := Nw.tr gr5 n512.out
          have cr12 : w12.cell? ⟨pr, q, none⟩ = some (.pointer rp) := (n512.out.cell (p := ⟨pr, q, none⟩) (show pr < w5.heap.size by omega) (fun f => f)).trans hcr
          have hL1 : Hid (∀ W, Nw w12 W → Calls Tryd.prog 12 #[.pointer rp] W fun e w' => e = .returned (.int .i64 0) ∧ Fr (fun _ => False) W w') := fun W f => (nrleft (hNr W (Nw.tr n512.out f))).mono fun e w' ⟨h1, h2⟩ => ⟨h1, by rw [h2]; exact Fr.refl _ _⟩
          have hE1 : Hid (∀ W, Nw w12 W → Calls Tryd.prog 14 #[.pointer rp] W fun e w' => (∃ ev, e = .returned ev ∧ ∃ code pl, EV w' a ev code pl ∧ sameB code pl 1 (-1) = true) ∧ Fr (fun _ => False) W w') := fun W f => (hEn W (a 0) (Nw.tr n512.out f) (hS.fr (Nw.tr gr12.out f) (nofalse _)).c0).mono fun e w' ⟨h1, h2⟩ => ⟨⟨_, h1, 1, none, .inr (.inl ⟨0, by omega, rfl, rfl, rfl⟩), rfl⟩, by rw [h2]; exact Fr.refl _ _⟩
          obtain ⟨bw, hbw⟩ : ∃ b, b = wc.heap.size := ⟨_, rfl⟩
          obtain ⟨fb, hfb⟩ : ∃ b, b = w11.heap.size := ⟨_, rfl⟩
          rw [← hbw] at j14 ⊢
          rw [← hfb] at j12 ⊢
          have hk19 : Hid (∀ W, Nw w12 W → (W.heap[gx]? = some (.cells V 40 (0, 0)) ∧ W.heap[bw]? = some (.cells V 40 (0, 0)) ∧ W.cell? ⟨pr, q, none⟩ = some (.pointer rp) ∧ W.heap[fb]? = some (.cells #[.int .i64 1, .int .i64 (-1)] 32 (0, 0)))) := fun W f => ⟨(f.block _ (heap_lt jx12) (fun f => f)).trans jx12, (f.block _ (heap_lt j14) (fun f => f)).trans j14, (f.cell (p := ⟨pr, q, none⟩) (World.block_lt_of_cell? _ ⟨pr, q, none⟩ cr12) (fun f => f)).trans cr12, (f.block _ (heap_lt j12) (fun f => f)).trans j12⟩
          have heV := fun W => thing_eq hVz W
          have hSH : Hid (Sent w.heap.size w a) := hS
          clear hNr hEn cr12 jx12 jT j12 j14 hbw hfb f12 z12 fc f11 j11 j10 g10 hVk hVw
          go_wp2_with fail
          have nb : Nw w12 w12.drew := (Fr.refl _ _).drew
          refine wp_region_held_drew (S := fun W => W.heap[gx]? = some (.cells V 40 (0, 0)) ∧ W.heap[bw]? = some (.cells V 40 (0, 0)) ∧ W.cell? ⟨pr, q, none⟩ = some (.pointer rp) ∧ W.heap[fb]? = some (.cells #[.int .i64 1, .int .i64 (-1)] 32 (0, 0))) (by kernel_rfl) (hk19.out _ nb) ?_
          intro hS0
          refine wpAnyH_take (i := 0) (oi := ({ dst := some 84, op := Op.load 40 (Operand.tmp 13), type := 40, pos := "law.go:154", after := #[], guard := none } : Oper)) (v := .agg V) rfl (by kernel_rfl) (by kernel_rfl) (by kernel_rfl) (fun _ _ _ h => h) (yields_load_agg rfl (.tmp 13) 40 37 rfl Tryd.isAgg40 Tryd.sizeOf40 gx rfl 40 V hV37 (fun w hw => hw.1)) hS0 ?_
          try simp only [Act.put, List.setIfInBounds_toArray, List.set_cons_zero, List.set_cons_succ]
          refine wpAnyH_take (i := 1) (oi := ({ dst := some 85, op := Op.load 40 (Operand.tmp 14), type := 40, pos := "law.go:154", after := #[], guard := none } : Oper)) (v := .agg V) rfl (by kernel_rfl) (by kernel_rfl) (by kernel_rfl) (fun _ _ _ h => h) (yields_load_agg rfl (.tmp 14) 40 37 rfl Tryd.isAgg40 Tryd.sizeOf40 bw rfl 40 V hV37 (fun w hw => hw.2.1)) hS0 ?_
          try simp only [Act.put, List.setIfInBounds_toArray, List.set_cons_zero, List.set_cons_succ]
          refine wpAnyH_take (i := 2) (oi := ({ dst := some 86, op := Op.binOp BinOp.neq 40 (Operand.tmp 84) (Operand.tmp 85) 40, type := 4, pos := "law.go:154", after := #[{ on := 0, ground := Ground.data }, { on := 1, ground := Ground.data }], guard := none } : Oper)) (v := .bool false) rfl (by kernel_rfl) (by kernel_rfl) (by kernel_rfl) (fun _ _ _ h => h) (Or.inl ⟨by rfl, by intro w hw; go_simp⟩) hS0 ?_
          try simp only [Act.put, List.setIfInBounds_toArray, List.set_cons_zero, List.set_cons_succ]
          refine wpAnyH_take (i := 3) (oi := ({ dst := some 87, op := Op.move (Operand.tmp 86), type := 4, pos := "law.go:154", after := #[{ on := 2, ground := Ground.data }], guard := none } : Oper)) (v := .bool false) rfl (by kernel_rfl) (by kernel_rfl) (by kernel_rfl) (fun _ _ _ h => h) (Or.inl ⟨by rfl, by intro w hw; go_simp⟩) hS0 ?_
          try simp only [Act.put, List.setIfInBounds_toArray, List.set_cons_zero, List.set_cons_succ]
          refine wpAnyH_take (i := 4) (oi := ({ dst := some 88, op := Op.move (Operand.tmp 8), type := 29, pos := "law.go:154", after := #[{ on := 3, ground := Ground.guard }], guard := some (3, false) } : Oper)) (v := .slice (some ⟨pr, 0, none⟩) 4 4) rfl (by kernel_rfl) (by kernel_rfl) (by kernel_rfl) (fun _ _ _ h => h) (Or.inl ⟨by rfl, by intro w hw; go_simp⟩) hS0 ?_
          try simp only [Act.put, List.setIfInBounds_toArray, List.set_cons_zero, List.set_cons_succ]
          refine wpAnyH_take (i := 5) (oi := ({ dst := some 89, op := Op.move (Operand.tmp 12), type := 3, pos := "law.go:154", after := #[{ on := 3, ground := Ground.guard }], guard := some (3, false) } : Oper)) (v := .int .i64 (q : Int)) rfl (by kernel_rfl) (by kernel_rfl) (by kernel_rfl) (fun _ _ _ h => h) (Or.inl ⟨by rfl, by intro w hw; go_simp⟩) hS0 ?_
          try simp only [Act.put, List.setIfInBounds_toArray, List.set_cons_zero, List.set_cons_succ]
          refine wpAnyH_take (i := 6) (oi := ({ dst := some 90, op := Op.indexAddr 29 (Operand.tmp 88) (Operand.tmp 89), type := 0, pos := "law.go:154", after := #[{ on := 4, ground := Ground.data }, { on := 5, ground := Ground.data }, { on := 3, ground := Ground.guard }], guard := some (3, false) } : Oper)) (v := .pointer (some ⟨pr, q, none⟩)) rfl (by kernel_rfl) (by kernel_rfl) (by kernel_rfl) (fun _ _ _ h => h) (Or.inl ⟨by rfl, by intro w hw; go_simp⟩) hS0 ?_
          try simp only [Act.put, List.setIfInBounds_toArray, List.set_cons_zero, List.set_cons_succ]
          refine wpAnyH_take (i := 7) (oi := ({ dst := some 91, op := Op.load 23 (Operand.tmp 90), type := 23, pos := "law.go:154", after := #[{ on := 6, ground := Ground.data }, { on := 3, ground := Ground.guard }], guard := some (3, false) } : Oper)) (v := .pointer rp) rfl (by kernel_rfl) (by kernel_rfl) (by kernel_rfl) (fun _ _ _ h => h) (Or.inl ⟨by rfl, by intro w hw; have hc := hw.2.2.1; clear hw; go_simp⟩) hS0 ?_
          try simp only [Act.put, List.setIfInBounds_toArray, List.set_cons_zero, List.set_cons_succ]
          refine wpAnyH_take (i := 9) (oi := ({ dst := some 93, op := Op.move (Operand.tmp 15), type := 3, pos := "law.go:154", after := #[{ on := 3, ground := Ground.guard }], guard := some (3, false) } : Oper)) (v := .int .i64 0) rfl (by kernel_rfl) (by kernel_rfl) (by kernel_rfl) (fun _ _ _ h => h) (Or.inl ⟨by rfl, by intro w hw; go_simp⟩) hS0 ?_
          try simp only [Act.put, List.setIfInBounds_toArray, List.set_cons_zero, List.set_cons_succ]
          refine wpAnyH_ready (rs := [8]) (by kernel_rfl) (by simp) ?_
          refine (AllReadyH.cons (o := ({ dst := some 92, op := Op.call { callee := Callee.value (Operand.func 12), args := #[Operand.tmp 91], argTypes := #[23] }, type := 3, pos := "law.go:154", after := #[{ on := 7, ground := Ground.data }, { on := 3, ground := Ground.chain }, { on := 3, ground := Ground.guard }], guard := some (3, false) } : Oper)) rfl (fun K' hK => ?_) AllReadyH.nil)
          go_simp
          go_wp2_with (go_at_call 12; refine (hL1.out _ nb).mono ?_; rintro ex w101 ⟨rfl, nw101⟩)
          have nb := Nw.tr nb nw101
          refine hK.out _ _ (hk19.out _ nb) (fun hS0 => ?_)
          try simp only [Act.put, List.setIfInBounds_toArray, List.set_cons_zero, List.set_cons_succ]
          refine wpAnyH_take (i := 10) (oi := ({ dst := some 94, op := Op.binOp BinOp.neq 3 (Operand.tmp 92) (Operand.tmp 93) 3, type := 4, pos := "law.go:154", after := #[{ on := 8, ground := Ground.data }, { on := 9, ground := Ground.data }, { on := 3, ground := Ground.guard }], guard := some (3, false) } : Oper)) (v := .bool false) rfl (by kernel_rfl) (by kernel_rfl) (by kernel_rfl) (fun _ _ _ h => h) (Or.inl ⟨by rfl, by intro w hw; go_simp⟩) hS0 ?_
          try simp only [Act.put, List.setIfInBounds_toArray, List.set_cons_zero, List.set_cons_succ]
          refine wpAnyH_take (i := 11) (oi := ({ dst := some 95, op := Op.pick (Operand.tmp 87) (Operand.const (Value.bool true)) (Operand.tmp 94), type := 4, pos := "law.go:154", after := #[{ on := 3, ground := Ground.data }, { on := 10, ground := Ground.data }], guard := none } : Oper)) (v := .bool false) rfl (by kernel_rfl) (by kernel_rfl) (by kernel_rfl) (fun _ _ _ h => h) (Or.inl ⟨by rfl, by intro w hw; go_simp⟩) hS0 ?_
          try simp only [Act.put, List.setIfInBounds_toArray, List.set_cons_zero, List.set_cons_succ]
          refine wpAnyH_take (i := 12) (oi := ({ dst := some 96, op := Op.move (Operand.tmp 95), type := 4, pos := "law.go:154", after := #[{ on := 11, ground := Ground.data }, { on := 8, ground := Ground.chain }], guard := none } : Oper)) (v := .bool false) rfl (by kernel_rfl) (by kernel_rfl) (by kernel_rfl) (fun _ _ _ h => h) (Or.inl ⟨by rfl, by intro w hw; go_simp⟩) hS0 ?_
          try simp only [Act.put, List.setIfInBounds_toArray, List.set_cons_zero, List.set_cons_succ]
          refine wpAnyH_take (i := 13) (oi := ({ dst := some 97, op := Op.move (Operand.tmp 8), type := 29, pos := "law.go:154", after := #[{ on := 12, ground := Ground.guard }], guard := some (12, false) } : Oper)) (v := .slice (some ⟨pr, 0, none⟩) 4 4) rfl (by kernel_rfl) (by kernel_rfl) (by kernel_rfl) (fun _ _ _ h => h) (Or.inl ⟨by rfl, by intro w hw; go_simp⟩) hS0 ?_
          try simp only [Act.put, List.setIfInBounds_toArray, List.set_cons_zero, List.set_cons_succ]
          refine wpAnyH_take (i := 14) (oi := ({ dst := some 98, op := Op.move (Operand.tmp 12), type := 3, pos := "law.go:154", after := #[{ on := 12, ground := Ground.guard }], guard := some (12, false) } : Oper)) (v := .int .i64 (q : Int)) rfl (by kernel_rfl) (by kernel_rfl) (by kernel_rfl) (fun _ _ _ h => h) (Or.inl ⟨by rfl, by intro w hw; go_simp⟩) hS0 ?_
          try simp only [Act.put, List.setIfInBounds_toArray, List.set_cons_zero, List.set_cons_succ]
          refine wpAnyH_take (i := 15) (oi := ({ dst := some 99, op := Op.indexAddr 29 (Operand.tmp 97) (Operand.tmp 98), type := 0, pos := "law.go:154", after := #[{ on := 13, ground := Ground.data }, { on := 14, ground := Ground.data }, { on := 12, ground := Ground.guard }], guard := some (12, false) } : Oper)) (v := .pointer (some ⟨pr, q, none⟩)) rfl (by kernel_rfl) (by kernel_rfl) (by kernel_rfl) (fun _ _ _ h => h) (Or.inl ⟨by rfl, by intro w hw; go_simp⟩) hS0 ?_
          try simp only [Act.put, List.setIfInBounds_toArray, List.set_cons_zero, List.set_cons_succ]
          refine wpAnyH_take (i := 16) (oi := ({ dst := some 100, op := Op.load 23 (Operand.tmp 99), type := 23, pos := "law.go:154", after := #[{ on := 15, ground := Ground.data }, { on := 12, ground := Ground.guard }], guard := some (12, false) } : Oper)) (v := .pointer rp) rfl (by kernel_rfl) (by kernel_rfl) (by kernel_rfl) (fun _ _ _ h => h) (Or.inl ⟨by rfl, by intro w hw; have hc := hw.2.2.1; clear hw; go_simp⟩) hS0 ?_
          try simp only [Act.put, List.setIfInBounds_toArray, List.set_cons_zero, List.set_cons_succ]
          refine wpAnyH_take (i := 18) (oi := ({ dst := some 102, op := Op.load 32 (Operand.tmp 16), type := 32, pos := "law.go:154", after := #[{ on := 12, ground := Ground.guard }], guard := some (12, false) } : Oper)) (v := .agg #[.int .i64 1, .int .i64 (-1)]) rfl (by kernel_rfl) (by kernel_rfl) (by kernel_rfl) (fun _ _ _ h => h) (yields_load_g (by rfl) (.tmp 16) 32 2 rfl Tryd.isAgg32 Tryd.sizeOf32 fb rfl 32 #[.int .i64 1, .int .i64 (-1)] rfl (fun w hw => hw.2.2.2)) hS0 ?_
          try simp only [Act.put, List.setIfInBounds_toArray, List.set_cons_zero, List.set_cons_succ]
          refine wpAnyH_ready (rs := [17]) (by kernel_rfl) (by simp) ?_
          refine (AllReadyH.cons (o := ({ dst := some 101, op := Op.call { callee := Callee.value (Operand.func 14), args := #[Operand.tmp 100], argTypes := #[23] }, type := 26, pos := "law.go:154", after := #[{ on := 16, ground := Ground.data }, { on := 12, ground := Ground.chain }, { on := 12, ground := Ground.guard }], guard := some (12, false) } : Oper)) rfl (fun K' hK => ?_) AllReadyH.nil)
          go_simp
          go_wp2_with (go_at_call 14; refine (hE1.out _ nb).mono ?_; rintro ex w102 ⟨⟨ev1, rfl, code1, pl1, hev1, hsm1⟩, nw102⟩)
          have nb := Nw.tr nb nw102
          refine hK.out _ _ (hk19.out _ nb) (fun hS0 => ?_)
          try simp only [Act.put, List.setIfInBounds_toArray, List.set_cons_zero, List.set_cons_succ]
          refine wpAnyH_ready (rs := [19]) (by kernel_rfl) (by simp) ?_
          refine (AllReadyH.cons (o := ({ dst := some 103, op := Op.call { callee := Callee.value (Operand.func 13), args := #[Operand.tmp 101, Operand.tmp 102], argTypes := #[26, 32] }, type := 4, pos := "law.go:154", after := #[{ on := 17, ground := Ground.data }, { on := 18, ground := Ground.data }, { on := 17, ground := Ground.chain }, { on := 12, ground := Ground.guard }], guard := some (12, false) } : Oper)) rfl (fun K' hK => ?_) AllReadyH.nil)
          go_simp
          have hq := same_any (hSH.out.fr (Nw.tr gr12.out nb) (nofalse _)) hev1 (1) ((-1))
          rw [hsm1] at hq
          go_wp2_with (go_at_call 13; refine hq.mono ?_; rintro ex w103 ⟨rfl, nw103⟩)
          have nb := Nw.tr nb nw103
          refine hK.out _ _ (hk19.out _ nb) (fun hS0 => ?_)
          try simp only [Act.put, List.setIfInBounds_toArray, List.set_cons_zero, List.set_cons_succ]
          refine wpAnyH_take (i := 20) (oi := ({ dst := some 104, op := Op.unOp UnOp.not 4 (Operand.tmp 103), type := 4, pos := "law.go:154", after := #[{ on := 19, ground := Ground.data }, { on := 12, ground := Ground.guard }], guard := some (12, false) } : Oper)) (v := .bool false) rfl (by kernel_rfl) (by kernel_rfl) (by kernel_rfl) (fun _ _ _ h => h) (Or.inl ⟨by rfl, by intro w hw; go_simp⟩) hS0 ?_
          try simp only [Act.put, List.setIfInBounds_toArray, List.set_cons_zero, List.set_cons_succ]
          refine wpAnyH_take (i := 21) (oi := ({ dst := some 105, op := Op.pick (Operand.tmp 96) (Operand.const (Value.bool true)) (Operand.tmp 104), type := 4, pos := "law.go:154", after := #[{ on := 12, ground := Ground.data }, { on := 20, ground := Ground.data }], guard := none } : Oper)) (v := .bool false) rfl (by kernel_rfl) (by kernel_rfl) (by kernel_rfl) (fun _ _ _ h => h) (Or.inl ⟨by rfl, by intro w hw; go_simp⟩) hS0 ?_
          try simp only [Act.put, List.setIfInBounds_toArray, List.set_cons_zero, List.set_cons_succ]
          refine wpAnyH_take (i := 22) (oi := ({ dst := some 106, op := Op.move (Operand.tmp 105), type := 4, pos := "law.go:154", after := #[{ on := 21, ground := Ground.data }, { on := 19, ground := Ground.chain }], guard := none } : Oper)) (v := .bool false) rfl (by kernel_rfl) (by kernel_rfl) (by kernel_rfl) (fun _ _ _ h => h) (Or.inl ⟨by rfl, by intro w hw; go_simp⟩) hS0 ?_
          try simp only [Act.put, List.setIfInBounds_toArray, List.set_cons_zero, List.set_cons_succ]
          refine wpAnyH_take (i := 23) (oi := ({ dst := some 107, op := Op.move (Operand.tmp 8), type := 29, pos := "law.go:154", after := #[{ on := 22, ground := Ground.guard }], guard := some (22, false) } : Oper)) (v := .slice (some ⟨pr, 0, none⟩) 4 4) rfl (by kernel_rfl) (by kernel_rfl) (by kernel_rfl) (fun _ _ _ h => h) (Or.inl ⟨by rfl, by intro w hw; go_simp⟩) hS0 ?_
          try simp only [Act.put, List.setIfInBounds_toArray, List.set_cons_zero, List.set_cons_succ]
          refine wpAnyH_take (i := 24) (oi := ({ dst := some 108, op := Op.move (Operand.tmp 12), type := 3, pos := "law.go:154", after := #[{ on := 22, ground := Ground.guard }], guard := some (22, false) } : Oper)) (v := .int .i64 (q : Int)) rfl (by kernel_rfl) (by kernel_rfl) (by kernel_rfl) (fun _ _ _ h => h) (Or.inl ⟨by rfl, by intro w hw; go_simp⟩) hS0 ?_
          try simp only [Act.put, List.setIfInBounds_toArray, List.set_cons_zero, List.set_cons_succ]
          refine wpAnyH_take (i := 25) (oi := ({ dst := some 109, op := Op.indexAddr 29 (Operand.tmp 107) (Operand.tmp 108), type := 0, pos := "law.go:154", after := #[{ on := 23, ground := Ground.data }, { on := 24, ground := Ground.data }, { on := 22, ground := Ground.guard }], guard := some (22, false) } : Oper)) (v := .pointer (some ⟨pr, q, none⟩)) rfl (by kernel_rfl) (by kernel_rfl) (by kernel_rfl) (fun _ _ _ h => h) (Or.inl ⟨by rfl, by intro w hw; go_simp⟩) hS0 ?_
          try simp only [Act.put, List.setIfInBounds_toArray, List.set_cons_zero, List.set_cons_succ]
          refine wpAnyH_take (i := 26) (oi := ({ dst := some 110, op := Op.load 23 (Operand.tmp 109), type := 23, pos := "law.go:154", after := #[{ on := 25, ground := Ground.data }, { on := 22, ground := Ground.guard }], guard := some (22, false) } : Oper)) (v := .pointer rp) rfl (by kernel_rfl) (by kernel_rfl) (by kernel_rfl) (fun _ _ _ h => h) (Or.inl ⟨by rfl, by intro w hw; have hc := hw.2.2.1; clear hw; go_simp⟩) hS0 ?_
          try simp only [Act.put, List.setIfInBounds_toArray, List.set_cons_zero, List.set_cons_succ]
          refine wpAnyH_take (i := 28) (oi := ({ dst := some 112, op := Op.move (Operand.tmp 15), type := 3, pos := "law.go:154", after := #[{ on := 22, ground := Ground.guard }], guard := some (22, false) } : Oper)) (v := .int .i64 0) rfl (by kernel_rfl) (by kernel_rfl) (by kernel_rfl) (fun _ _ _ h => h) (Or.inl ⟨by rfl, by intro w hw; go_simp⟩) hS0 ?_
          try simp only [Act.put, List.setIfInBounds_toArray, List.set_cons_zero, List.set_cons_succ]
          refine wpAnyH_ready (rs := [27]) (by kernel_rfl) (by simp) ?_
          refine (AllReadyH.cons (o := ({ dst := some 111, op := Op.call { callee := Callee.value (Operand.func 12), args := #[Operand.tmp 110], argTypes := #[23] }, type := 3, pos := "law.go:154", after := #[{ on := 26, ground := Ground.data }, { on := 22, ground := Ground.chain }, { on := 22, ground := Ground.guard }], guard := some (22, false) } : Oper)) rfl (fun K' hK => ?_) AllReadyH.nil)
          go_simp
          go_wp2_with (go_at_call 12; refine (hL1.out _ nb).mono ?_; rintro ex w104 ⟨rfl, nw104⟩)
          have nb := Nw.tr nb nw104
          refine hK.out _ _ (hk19.out _ nb) (fun hS0 => ?_)
          try simp only [Act.put, List.setIfInBounds_toArray, List.set_cons_zero, List.set_cons_succ]
          refine wpAnyH_take (i := 29) (oi := ({ dst := some 113, op := Op.binOp BinOp.neq 3 (Operand.tmp 111) (Operand.tmp 112) 3, type := 4, pos := "law.go:154", after := #[{ on := 27, ground := Ground.data }, { on := 28, ground := Ground.data }, { on := 22, ground := Ground.guard }], guard := some (22, false) } : Oper)) (v := .bool false) rfl (by kernel_rfl) (by kernel_rfl) (by kernel_rfl) (fun _ _ _ h => h) (Or.inl ⟨by rfl, by intro w hw; go_simp⟩) hS0 ?_
          try simp only [Act.put, List.setIfInBounds_toArray, List.set_cons_zero, List.set_cons_succ]
          refine wpAnyH_take (i := 30) (oi := ({ dst := some 114, op := Op.pick (Operand.tmp 106) (Operand.const (Value.bool true)) (Operand.tmp 113), type := 4, pos := "law.go:154", after := #[{ on := 22, ground := Ground.data }, { on := 29, ground := Ground.data }], guard := none } : Oper)) (v := .bool false) rfl (by kernel_rfl) (by kernel_rfl) (by kernel_rfl) (fun _ _ _ h => h) (Or.inl ⟨by rfl, by intro w hw; go_simp⟩) hS0 ?_
          try simp only [Act.put, List.setIfInBounds_toArray, List.set_cons_zero, List.set_cons_succ]
          refine wpAnyH_take (i := 31) (oi := ({ dst := some 115, op := Op.move (Operand.tmp 114), type := 4, pos := "law.go:154", after := #[{ on := 30, ground := Ground.data }, { on := 27, ground := Ground.chain }], guard := none } : Oper)) (v := .bool false) rfl (by kernel_rfl) (by kernel_rfl) (by kernel_rfl) (fun _ _ _ h => h) (Or.inl ⟨by rfl, by intro w hw; go_simp⟩) hS0 ?_
          try simp only [Act.put, List.setIfInBounds_toArray, List.set_cons_zero, List.set_cons_succ]
          refine wpAnyH_take (i := 32) (oi := ({ dst := some 116, op := Op.move (Operand.tmp 8), type := 29, pos := "law.go:154", after := #[{ on := 31, ground := Ground.guard }], guard := some (31, false) } : Oper)) (v := .slice (some ⟨pr, 0, none⟩) 4 4) rfl (by kernel_rfl) (by kernel_rfl) (by kernel_rfl) (fun _ _ _ h => h) (Or.inl ⟨by rfl, by intro w hw; go_simp⟩) hS0 ?_
          try simp only [Act.put, List.setIfInBounds_toArray, List.set_cons_zero, List.set_cons_succ]
          refine wpAnyH_take (i := 33) (oi := ({ dst := some 117, op := Op.move (Operand.tmp 12), type := 3, pos := "law.go:154", after := #[{ on := 31, ground := Ground.guard }], guard := some (31, false) } : Oper)) (v := .int .i64 (q : Int)) rfl (by kernel_rfl) (by kernel_rfl) (by kernel_rfl) (fun _ _ _ h => h) (Or.inl ⟨by rfl, by intro w hw; go_simp⟩) hS0 ?_
          try simp only [Act.put, List.setIfInBounds_toArray, List.set_cons_zero, List.set_cons_succ]
          refine wpAnyH_take (i := 34) (oi := ({ dst := some 118, op := Op.indexAddr 29 (Operand.tmp 116) (Operand.tmp 117), type := 0, pos := "law.go:154", after := #[{ on := 32, ground := Ground.data }, { on := 33, ground := Ground.data }, { on := 31, ground := Ground.guard }], guard := some (31, false) } : Oper)) (v := .pointer (some ⟨pr, q, none⟩)) rfl (by kernel_rfl) (by kernel_rfl) (by kernel_rfl) (fun _ _ _ h => h) (Or.inl ⟨by rfl, by intro w hw; go_simp⟩) hS0 ?_
          try simp only [Act.put, List.setIfInBounds_toArray, List.set_cons_zero, List.set_cons_succ]
          refine wpAnyH_take (i := 35) (oi := ({ dst := some 119, op := Op.load 23 (Operand.tmp 118), type := 23, pos := "law.go:154", after := #[{ on := 34, ground := Ground.data }, { on := 31, ground := Ground.guard }], guard := some (31, false) } : Oper)) (v := .pointer rp) rfl (by kernel_rfl) (by kernel_rfl) (by kernel_rfl) (fun _ _ _ h => h) (Or.inl ⟨by rfl, by intro w hw; have hc := hw.2.2.1; clear hw; go_simp⟩) hS0 ?_
          try simp only [Act.put, List.setIfInBounds_toArray, List.set_cons_zero, List.set_cons_succ]
          refine wpAnyH_take (i := 37) (oi := ({ dst := some 121, op := Op.load 32 (Operand.tmp 16), type := 32, pos := "law.go:154", after := #[{ on := 31, ground := Ground.guard }], guard := some (31, false) } : Oper)) (v := .agg #[.int .i64 1, .int .i64 (-1)]) rfl (by kernel_rfl) (by kernel_rfl) (by kernel_rfl) (fun _ _ _ h => h) (yields_load_g (by rfl) (.tmp 16) 32 2 rfl Tryd.isAgg32 Tryd.sizeOf32 fb rfl 32 #[.int .i64 1, .int .i64 (-1)] rfl (fun w hw => hw.2.2.2)) hS0 ?_
          try simp only [Act.put, List.setIfInBounds_toArray, List.set_cons_zero, List.set_cons_succ]
          refine wpAnyH_ready (rs := [36]) (by kernel_rfl) (by simp) ?_
          refine (AllReadyH.cons (o := ({ dst := some 120, op := Op.call { callee := Callee.value (Operand.func 14), args := #[Operand.tmp 119], argTypes := #[23] }, type := 26, pos := "law.go:154", after := #[{ on := 35, ground := Ground.data }, { on := 31, ground := Ground.chain }, { on := 31, ground := Ground.guard }], guard := some (31, false) } : Oper)) rfl (fun K' hK => ?_) AllReadyH.nil)
          go_simp
          go_wp2_with (go_at_call 14; refine (hE1.out _ nb).mono ?_; rintro ex w105 ⟨⟨ev2, rfl, code2, pl2, hev2, hsm2⟩, nw105⟩)
          have nb := Nw.tr nb nw105
          refine hK.out _ _ (hk19.out _ nb) (fun hS0 => ?_)
          try simp only [Act.put, List.setIfInBounds_toArray, List.set_cons_zero, List.set_cons_succ]
          refine wpAnyH_ready (rs := [38]) (by kernel_rfl) (by simp) ?_
          refine (AllReadyH.cons (o := ({ dst := some 122, op := Op.call { callee := Callee.value (Operand.func 13), args := #[Operand.tmp 120, Operand.tmp 121], argTypes := #[26, 32] }, type := 4, pos := "law.go:154", after := #[{ on := 36, ground := Ground.data }, { on := 37, ground := Ground.data }, { on := 36, ground := Ground.chain }, { on := 31, ground := Ground.guard }], guard := some (31, false) } : Oper)) rfl (fun K' hK => ?_) AllReadyH.nil)
          go_simp
          have hq := same_any (hSH.out.fr (Nw.tr gr12.out nb) (nofalse _)) hev2 (1) ((-1))
          rw [hsm2] at hq
          go_wp2_with (go_at_call 13; refine hq.mono ?_; rintro ex w106 ⟨rfl, nw106⟩)
          have nb := Nw.tr nb nw106
          refine hK.out _ _ (hk19.out _ nb) (fun hS0 => ?_)
          try simp only [Act.put, List.setIfInBounds_toArray, List.set_cons_zero, List.set_cons_succ]
          refine wpAnyH_take (i := 39) (oi := ({ dst := some 123, op := Op.unOp UnOp.not 4 (Operand.tmp 122), type := 4, pos := "law.go:154", after := #[{ on := 38, ground := Ground.data }, { on := 31, ground := Ground.guard }], guard := some (31, false) } : Oper)) (v := .bool false) rfl (by kernel_rfl) (by kernel_rfl) (by kernel_rfl) (fun _ _ _ h => h) (Or.inl ⟨by rfl, by intro w hw; go_simp⟩) hS0 ?_
          try simp only [Act.put, List.setIfInBounds_toArray, List.set_cons_zero, List.set_cons_succ]
          refine wpAnyH_take (i := 40) (oi := ({ dst := some 124, op := Op.pick (Operand.tmp 115) (Operand.const (Value.bool true)) (Operand.tmp 123), type := 4, pos := "law.go:154", after := #[{ on := 31, ground := Ground.data }, { on := 39, ground := Ground.data }], guard := none } : Oper)) (v := .bool false) rfl (by kernel_rfl) (by kernel_rfl) (by kernel_rfl) (fun _ _ _ h => h) (Or.inl ⟨by rfl, by intro w hw; go_simp⟩) hS0 ?_
          try simp only [Act.put, List.setIfInBounds_toArray, List.set_cons_zero, List.set_cons_succ]
          refine wpAnyH_done (by kernel_rfl) ?_ _
          have hC9 : Cr w106 w.heap.size one two a := hC5.fr (Nw.tr n512.out nb)
          have gr9 : Nw w w106 := Nw.tr gr12.out nb
          have e1 := HPR.out
          clear HPR hk19
          subst e1
          go_wp2
          exact ⟨⟨k + 1, by omega, by go_num, hC9, gr9⟩, by simp [intOf]; omega⟩
    · have hkn : ¬ (k : Int) < (n0 : Int) := by omega
      obtain ⟨x1, y1, A1, B1⟩ := end_b2 (B := w.heap.size) (hS.fr gr (nofalse _)) hC.r0 (by unfold maxLen; omega)
      obtain ⟨x2, y2, A2, B2⟩ := end_b2 (B := w.heap.size) (hS.fr gr (nofalse _)) hC.r1 (by unfold maxLen; omega)
      obtain ⟨ll, LA, LB⟩ := left_b2 hC.r1 (by unfold maxLen; omega)
      have c0 := (cell_of hC.hr 0).trans (show _ = some _ from rfl)
      have c1 := (cell_of hC.hr 1).trans (show _ = some _ from rfl)
      have c2 := (cell_of hC.hm 0).trans (show _ = some _ from rfl)
      have c3 := (cell_of hC.hm 1).trans (show _ = some _ from rfl)
      have gr' := gr
      clear hC
      obtain ⟨pm, hpm⟩ : ∃ x, x = w.heap.size + 1 + 1 + 1 + 1 + 1 + 1 := ⟨_, rfl⟩
      rw [← hpm] at c2 c3 ⊢
      obtain ⟨m1, hm1⟩ : ∃ x, x = w.heap.size + 1 + 1 + 1 + 1 + 1 := ⟨_, rfl⟩
      rw [← hm1] at c3 A2 B2 LA LB
      obtain ⟨m0, hm0'⟩ : ∃ x, x = w.heap.size + 1 + 1 + 1 + 1 := ⟨_, rfl⟩
      rw [← hm0'] at c2 A1 B1
      obtain ⟨pr, hpr⟩ : ∃ x, x = w.heap.size + 1 + 1 + 1 := ⟨_, rfl⟩
      rw [← hpr] at c0 c1 ⊢
      obtain ⟨r1, hr1⟩ : ∃ x, x = w.heap.size + 1 := ⟨_, rfl⟩
      rw [← hr1] at c1 A2 B2 LA LB
      obtain ⟨r0, hr0⟩ : ∃ x, x = w.heap.size := ⟨_, rfl⟩
      rw [← hr0] at c0
      simp only [← hr0] at A1 B1
      have hEA1 := show Hid _ from A1
      have hEA2 := show Hid _ from A2
      have hEB1 := show Hid _ from B1
      have hEB2 := show Hid _ from B2
      have hLA := show Hid _ from LA
      have hLB := show Hid _ from LB
      clear hpm hm1 hm0' hpr hr1 hr0 A1 A2 B1 B2 LA LB
      have hk21 : Hid (∀ W, Nw wr W → (W.cell? ⟨pr, 0, none⟩ = some (.pointer (some ⟨r0, 0, none⟩)) ∧ W.cell? ⟨pr, 1, none⟩ = some (.pointer (some ⟨r1, 0, none⟩)) ∧ W.cell? ⟨pm, 0, none⟩ = some (.pointer (some ⟨m0, 0, none⟩)) ∧ W.cell? ⟨pm, 1, none⟩ = some (.pointer (some ⟨m1, 0, none⟩)))) := fun W f => ⟨(f.cell (p := ⟨pr, 0, none⟩) (World.block_lt_of_cell? _ ⟨pr, 0, none⟩ c0) (fun f => f)).trans c0, (f.cell (p := ⟨pr, 1, none⟩) (World.block_lt_of_cell? _ ⟨pr, 1, none⟩ c1) (fun f => f)).trans c1, (f.cell (p := ⟨pm, 0, none⟩) (World.block_lt_of_cell? _ ⟨pm, 0, none⟩ c2) (fun f => f)).trans c2, (f.cell (p := ⟨pm, 1, none⟩) (World.block_lt_of_cell? _ ⟨pm, 1, none⟩ c3) (fun f => f)).trans c3⟩
      have hSH : Hid (Sent w.heap.size w a) := hS
      have grH : Hid (Nw w wr) := gr
      clear c0 c1 c2 c3 gr gr'
      go_wp2_with fail
      have nb : Nw wr wr.drew := (Fr.refl _ _).drew
      refine wp_region_held_drew (S := fun W => W.cell? ⟨pr, 0, none⟩ = some (.pointer (some ⟨r0, 0, none⟩)) ∧ W.cell? ⟨pr, 1, none⟩ = some (.pointer (some ⟨r1, 0, none⟩)) ∧ W.cell? ⟨pm, 0, none⟩ = some (.pointer (some ⟨m0, 0, none⟩)) ∧ W.cell? ⟨pm, 1, none⟩ = some (.pointer (some ⟨m1, 0, none⟩))) (by kernel_rfl) (hk21.out _ nb) ?_
      intro hS0
      refine wpAnyH_take (i := 0) (oi := ({ dst := some 125, op := Op.move (Operand.tmp 8), type := 29, pos := "law.go:158", after := #[], guard := none } : Oper)) (v := .slice (some ⟨pr, 0, none⟩) 4 4) rfl (by kernel_rfl) (by kernel_rfl) (by kernel_rfl) (fun _ _ _ h => h) (Or.inl ⟨by rfl, by intro w hw; go_simp⟩) hS0 ?_
      try simp only [Act.put, List.setIfInBounds_toArray, List.set_cons_zero, List.set_cons_succ]
      refine wpAnyH_take (i := 1) (oi := ({ dst := some 126, op := Op.indexAddr 29 (Operand.tmp 125) (Operand.const (Value.int IntKind.i64 0)), type := 0, pos := "law.go:158", after := #[{ on := 0, ground := Ground.data }], guard := none } : Oper)) (v := .pointer (some ⟨pr, 0, none⟩)) rfl (by kernel_rfl) (by kernel_rfl) (by kernel_rfl) (fun _ _ _ h => h) (Or.inl ⟨by rfl, by intro w hw; go_simp⟩) hS0 ?_
      try simp only [Act.put, List.setIfInBounds_toArray, List.set_cons_zero, List.set_cons_succ]
      refine wpAnyH_take (i := 2) (oi := ({ dst := some 127, op := Op.load 23 (Operand.tmp 126), type := 23, pos := "law.go:158", after := #[{ on := 1, ground := Ground.data }], guard := none } : Oper)) (v := .pointer (some ⟨r0, 0, none⟩)) rfl (by kernel_rfl) (by kernel_rfl) (by kernel_rfl) (fun _ _ _ h => h) (Or.inl ⟨by rfl, by intro w hw; have hc := hw.1; clear hw; go_simp⟩) hS0 ?_
      try simp only [Act.put, List.setIfInBounds_toArray, List.set_cons_zero, List.set_cons_succ]
      refine wpAnyH_take (i := 4) (oi := ({ dst := some 129, op := Op.move (Operand.tmp 9), type := 35, pos := "law.go:158", after := #[], guard := none } : Oper)) (v := .slice (some ⟨pm, 0, none⟩) 2 2) rfl (by kernel_rfl) (by kernel_rfl) (by kernel_rfl) (fun _ _ _ h => h) (Or.inl ⟨by rfl, by intro w hw; go_simp⟩) hS0 ?_
      try simp only [Act.put, List.setIfInBounds_toArray, List.set_cons_zero, List.set_cons_succ]
      refine wpAnyH_take (i := 5) (oi := ({ dst := some 130, op := Op.indexAddr 35 (Operand.tmp 129) (Operand.const (Value.int IntKind.i64 0)), type := 0, pos := "law.go:158", after := #[{ on := 4, ground := Ground.data }], guard := none } : Oper)) (v := .pointer (some ⟨pm, 0, none⟩)) rfl (by kernel_rfl) (by kernel_rfl) (by kernel_rfl) (fun _ _ _ h => h) (Or.inl ⟨by rfl, by intro w hw; go_simp⟩) hS0 ?_
      try simp only [Act.put, List.setIfInBounds_toArray, List.set_cons_zero, List.set_cons_succ]
      refine wpAnyH_take (i := 6) (oi := ({ dst := some 131, op := Op.load 30 (Operand.tmp 130), type := 30, pos := "law.go:158", after := #[{ on := 5, ground := Ground.data }], guard := none } : Oper)) (v := .pointer (some ⟨m0, 0, none⟩)) rfl (by kernel_rfl) (by kernel_rfl) (by kernel_rfl) (fun _ _ _ h => h) (Or.inl ⟨by rfl, by intro w hw; have hc := hw.2.2.1; clear hw; go_simp⟩) hS0 ?_
      try simp only [Act.put, List.setIfInBounds_toArray, List.set_cons_zero, List.set_cons_succ]
      refine wpAnyH_ready (rs := [3]) (by kernel_rfl) (by simp) ?_
      refine (AllReadyH.cons (o := ({ dst := some 128, op := Op.call { callee := Callee.value (Operand.func 14), args := #[Operand.tmp 127], argTypes := #[23] }, type := 26, pos := "law.go:158", after := #[{ on := 2, ground := Ground.data }], guard := none } : Oper)) rfl (fun K' hK => ?_) AllReadyH.nil)
      go_simp
      go_wp2_with (go_at_call 14; refine (hEA1.out (fun _ => False) _ nb (fun f => f) (fun f => f) (nofalse _)).mono ?_; rintro ex w101 ⟨⟨ev1, rfl, code1, pl1, hev1, hsm1⟩, nw101⟩)
      have nb := Nw.tr nb nw101
      refine hK.out _ _ (hk21.out _ nb) (fun hS0 => ?_)
      try simp only [Act.put, List.setIfInBounds_toArray, List.set_cons_zero, List.set_cons_succ]
      refine wpAnyH_ready (rs := [7]) (by kernel_rfl) (by simp) ?_
      refine (AllReadyH.cons (o := ({ dst := some 132, op := Op.call { callee := Callee.value (Operand.func 11), args := #[Operand.tmp 131], argTypes := #[30] }, type := 32, pos := "law.go:158", after := #[{ on := 6, ground := Ground.data }, { on := 3, ground := Ground.chain }], guard := none } : Oper)) rfl (fun K' hK => ?_) AllReadyH.nil)
      go_simp
      go_wp2_with (go_at_call 11; refine (hEB1.out (fun _ => False) _ nb (fun f => f) (fun f => f)).mono ?_; rintro ex w102 ⟨rfl, nw102⟩)
      have nb := Nw.tr nb nw102
      refine hK.out _ _ (hk21.out _ nb) (fun hS0 => ?_)
      try simp only [Act.put, List.setIfInBounds_toArray, List.set_cons_zero, List.set_cons_succ]
      refine wpAnyH_ready (rs := [8]) (by kernel_rfl) (by simp) ?_
      refine (AllReadyH.cons (o := ({ dst := some 133, op := Op.call { callee := Callee.value (Operand.func 13), args := #[Operand.tmp 128, Operand.tmp 132], argTypes := #[26, 32] }, type := 4, pos := "law.go:158", after := #[{ on := 3, ground := Ground.data }, { on := 7, ground := Ground.data }, { on := 7, ground := Ground.chain }], guard := none } : Oper)) rfl (fun K' hK => ?_) AllReadyH.nil)
      go_simp
      have hq := same_any (hSH.out.fr (Nw.tr grH.out nb) (nofalse _)) (hev1.fr nw102) x1 y1
      rw [hsm1] at hq
      go_wp2_with (go_at_call 13; refine hq.mono ?_; rintro ex w103 ⟨rfl, nw103⟩)
      have nb := Nw.tr nb nw103
      refine hK.out _ _ (hk21.out _ nb) (fun hS0 => ?_)
      try simp only [Act.put, List.setIfInBounds_toArray, List.set_cons_zero, List.set_cons_succ]
      refine wpAnyH_take (i := 9) (oi := ({ dst := some 134, op := Op.move (Operand.tmp 133), type := 4, pos := "law.go:158", after := #[{ on := 8, ground := Ground.data }, { on := 8, ground := Ground.chain }], guard := none } : Oper)) (v := .bool true) rfl (by kernel_rfl) (by kernel_rfl) (by kernel_rfl) (fun _ _ _ h => h) (Or.inl ⟨by rfl, by intro w hw; go_simp⟩) hS0 ?_
      try simp only [Act.put, List.setIfInBounds_toArray, List.set_cons_zero, List.set_cons_succ]
      refine wpAnyH_take (i := 10) (oi := ({ dst := some 135, op := Op.move (Operand.tmp 8), type := 29, pos := "law.go:158", after := #[{ on := 9, ground := Ground.guard }], guard := some (9, true) } : Oper)) (v := .slice (some ⟨pr, 0, none⟩) 4 4) rfl (by kernel_rfl) (by kernel_rfl) (by kernel_rfl) (fun _ _ _ h => h) (Or.inl ⟨by rfl, by intro w hw; go_simp⟩) hS0 ?_
      try simp only [Act.put, List.setIfInBounds_toArray, List.set_cons_zero, List.set_cons_succ]
      refine wpAnyH_take (i := 11) (oi := ({ dst := some 136, op := Op.indexAddr 29 (Operand.tmp 135) (Operand.const (Value.int IntKind.i64 1)), type := 0, pos := "law.go:158", after := #[{ on := 10, ground := Ground.data }, { on := 9, ground := Ground.guard }], guard := some (9, true) } : Oper)) (v := .pointer (some ⟨pr, 1, none⟩)) rfl (by kernel_rfl) (by kernel_rfl) (by kernel_rfl) (fun _ _ _ h => h) (Or.inl ⟨by rfl, by intro w hw; go_simp⟩) hS0 ?_
      try simp only [Act.put, List.setIfInBounds_toArray, List.set_cons_zero, List.set_cons_succ]
      refine wpAnyH_take (i := 12) (oi := ({ dst := some 137, op := Op.load 23 (Operand.tmp 136), type := 23, pos := "law.go:158", after := #[{ on := 11, ground := Ground.data }, { on := 9, ground := Ground.guard }], guard := some (9, true) } : Oper)) (v := .pointer (some ⟨r1, 0, none⟩)) rfl (by kernel_rfl) (by kernel_rfl) (by kernel_rfl) (fun _ _ _ h => h) (Or.inl ⟨by rfl, by intro w hw; have hc := hw.2.1; clear hw; go_simp⟩) hS0 ?_
      try simp only [Act.put, List.setIfInBounds_toArray, List.set_cons_zero, List.set_cons_succ]
      refine wpAnyH_take (i := 14) (oi := ({ dst := some 139, op := Op.move (Operand.tmp 9), type := 35, pos := "law.go:158", after := #[{ on := 9, ground := Ground.guard }], guard := some (9, true) } : Oper)) (v := .slice (some ⟨pm, 0, none⟩) 2 2) rfl (by kernel_rfl) (by kernel_rfl) (by kernel_rfl) (fun _ _ _ h => h) (Or.inl ⟨by rfl, by intro w hw; go_simp⟩) hS0 ?_
      try simp only [Act.put, List.setIfInBounds_toArray, List.set_cons_zero, List.set_cons_succ]
      refine wpAnyH_take (i := 15) (oi := ({ dst := some 140, op := Op.indexAddr 35 (Operand.tmp 139) (Operand.const (Value.int IntKind.i64 1)), type := 0, pos := "law.go:158", after := #[{ on := 14, ground := Ground.data }, { on := 9, ground := Ground.guard }], guard := some (9, true) } : Oper)) (v := .pointer (some ⟨pm, 1, none⟩)) rfl (by kernel_rfl) (by kernel_rfl) (by kernel_rfl) (fun _ _ _ h => h) (Or.inl ⟨by rfl, by intro w hw; go_simp⟩) hS0 ?_
      try simp only [Act.put, List.setIfInBounds_toArray, List.set_cons_zero, List.set_cons_succ]
      refine wpAnyH_take (i := 16) (oi := ({ dst := some 141, op := Op.load 30 (Operand.tmp 140), type := 30, pos := "law.go:158", after := #[{ on := 15, ground := Ground.data }, { on := 9, ground := Ground.guard }], guard := some (9, true) } : Oper)) (v := .pointer (some ⟨m1, 0, none⟩)) rfl (by kernel_rfl) (by kernel_rfl) (by kernel_rfl) (fun _ _ _ h => h) (Or.inl ⟨by rfl, by intro w hw; have hc := hw.2.2.2; clear hw; go_simp⟩) hS0 ?_
      try simp only [Act.put, List.setIfInBounds_toArray, List.set_cons_zero, List.set_cons_succ]
      refine wpAnyH_ready (rs := [13]) (by kernel_rfl) (by simp) ?_
      refine (AllReadyH.cons (o := ({ dst := some 138, op := Op.call { callee := Callee.value (Operand.func 14), args := #[Operand.tmp 137], argTypes := #[23] }, type := 26, pos := "law.go:158", after := #[{ on := 12, ground := Ground.data }, { on := 9, ground := Ground.chain }, { on := 9, ground := Ground.guard }], guard := some (9, true) } : Oper)) rfl (fun K' hK => ?_) AllReadyH.nil)
      go_simp
      go_wp2_with (go_at_call 14; refine (hEA2.out (fun _ => False) _ nb (fun f => f) (fun f => f) (nofalse _)).mono ?_; rintro ex w104 ⟨⟨ev2, rfl, code2, pl2, hev2, hsm2⟩, nw104⟩)
      have nb := Nw.tr nb nw104
      refine hK.out _ _ (hk21.out _ nb) (fun hS0 => ?_)
      try simp only [Act.put, List.setIfInBounds_toArray, List.set_cons_zero, List.set_cons_succ]
      refine wpAnyH_ready (rs := [17]) (by kernel_rfl) (by simp) ?_
      refine (AllReadyH.cons (o := ({ dst := some 142, op := Op.call { callee := Callee.value (Operand.func 11), args := #[Operand.tmp 141], argTypes := #[30] }, type := 32, pos := "law.go:158", after := #[{ on := 16, ground := Ground.data }, { on := 13, ground := Ground.chain }, { on := 9, ground := Ground.guard }], guard := some (9, true) } : Oper)) rfl (fun K' hK => ?_) AllReadyH.nil)
      go_simp
      go_wp2_with (go_at_call 11; refine (hEB2.out (fun _ => False) _ nb (fun f => f) (fun f => f)).mono ?_; rintro ex w105 ⟨rfl, nw105⟩)
      have nb := Nw.tr nb nw105
      refine hK.out _ _ (hk21.out _ nb) (fun hS0 => ?_)
      try simp only [Act.put, List.setIfInBounds_toArray, List.set_cons_zero, List.set_cons_succ]
      refine wpAnyH_ready (rs := [18]) (by kernel_rfl) (by simp) ?_
      refine (AllReadyH.cons (o := ({ dst := some 143, op := Op.call { callee := Callee.value (Operand.func 13), args := #[Operand.tmp 138, Operand.tmp 142], argTypes := #[26, 32] }, type := 4, pos := "law.go:158", after := #[{ on := 13, ground := Ground.data }, { on := 17, ground := Ground.data }, { on := 17, ground := Ground.chain }, { on := 9, ground := Ground.guard }], guard := some (9, true) } : Oper)) rfl (fun K' hK => ?_) AllReadyH.nil)
      go_simp
      have hq := same_any (hSH.out.fr (Nw.tr grH.out nb) (nofalse _)) (hev2.fr nw105) x2 y2
      rw [hsm2] at hq
      go_wp2_with (go_at_call 13; refine hq.mono ?_; rintro ex w106 ⟨rfl, nw106⟩)
      have nb := Nw.tr nb nw106
      refine hK.out _ _ (hk21.out _ nb) (fun hS0 => ?_)
      try simp only [Act.put, List.setIfInBounds_toArray, List.set_cons_zero, List.set_cons_succ]
      refine wpAnyH_take (i := 19) (oi := ({ dst := some 144, op := Op.pick (Operand.tmp 134) (Operand.tmp 143) (Operand.const (Value.bool false)), type := 4, pos := "law.go:158", after := #[{ on := 9, ground := Ground.data }, { on := 18, ground := Ground.data }], guard := none } : Oper)) (v := .bool true) rfl (by kernel_rfl) (by kernel_rfl) (by kernel_rfl) (fun _ _ _ h => h) (Or.inl ⟨by rfl, by intro w hw; go_simp⟩) hS0 ?_
      try simp only [Act.put, List.setIfInBounds_toArray, List.set_cons_zero, List.set_cons_succ]
      refine wpAnyH_take (i := 20) (oi := ({ dst := some 145, op := Op.move (Operand.tmp 144), type := 4, pos := "law.go:158", after := #[{ on := 19, ground := Ground.data }, { on := 18, ground := Ground.chain }], guard := none } : Oper)) (v := .bool true) rfl (by kernel_rfl) (by kernel_rfl) (by kernel_rfl) (fun _ _ _ h => h) (Or.inl ⟨by rfl, by intro w hw; go_simp⟩) hS0 ?_
      try simp only [Act.put, List.setIfInBounds_toArray, List.set_cons_zero, List.set_cons_succ]
      refine wpAnyH_take (i := 21) (oi := ({ dst := some 146, op := Op.move (Operand.tmp 8), type := 29, pos := "law.go:158", after := #[{ on := 20, ground := Ground.guard }], guard := some (20, true) } : Oper)) (v := .slice (some ⟨pr, 0, none⟩) 4 4) rfl (by kernel_rfl) (by kernel_rfl) (by kernel_rfl) (fun _ _ _ h => h) (Or.inl ⟨by rfl, by intro w hw; go_simp⟩) hS0 ?_
      try simp only [Act.put, List.setIfInBounds_toArray, List.set_cons_zero, List.set_cons_succ]
      refine wpAnyH_take (i := 22) (oi := ({ dst := some 147, op := Op.indexAddr 29 (Operand.tmp 146) (Operand.const (Value.int IntKind.i64 1)), type := 0, pos := "law.go:158", after := #[{ on := 21, ground := Ground.data }, { on := 20, ground := Ground.guard }], guard := some (20, true) } : Oper)) (v := .pointer (some ⟨pr, 1, none⟩)) rfl (by kernel_rfl) (by kernel_rfl) (by kernel_rfl) (fun _ _ _ h => h) (Or.inl ⟨by rfl, by intro w hw; go_simp⟩) hS0 ?_
      try simp only [Act.put, List.setIfInBounds_toArray, List.set_cons_zero, List.set_cons_succ]
      refine wpAnyH_take (i := 23) (oi := ({ dst := some 148, op := Op.load 23 (Operand.tmp 147), type := 23, pos := "law.go:158", after := #[{ on := 22, ground := Ground.data }, { on := 20, ground := Ground.guard }], guard := some (20, true) } : Oper)) (v := .pointer (some ⟨r1, 0, none⟩)) rfl (by kernel_rfl) (by kernel_rfl) (by kernel_rfl) (fun _ _ _ h => h) (Or.inl ⟨by rfl, by intro w hw; have hc := hw.2.1; clear hw; go_simp⟩) hS0 ?_
      try simp only [Act.put, List.setIfInBounds_toArray, List.set_cons_zero, List.set_cons_succ]
      refine wpAnyH_take (i := 25) (oi := ({ dst := some 150, op := Op.move (Operand.tmp 9), type := 35, pos := "law.go:158", after := #[{ on := 20, ground := Ground.guard }], guard := some (20, true) } : Oper)) (v := .slice (some ⟨pm, 0, none⟩) 2 2) rfl (by kernel_rfl) (by kernel_rfl) (by kernel_rfl) (fun _ _ _ h => h) (Or.inl ⟨by rfl, by intro w hw; go_simp⟩) hS0 ?_
      try simp only [Act.put, List.setIfInBounds_toArray, List.set_cons_zero, List.set_cons_succ]
      refine wpAnyH_take (i := 26) (oi := ({ dst := some 151, op := Op.indexAddr 35 (Operand.tmp 150) (Operand.const (Value.int IntKind.i64 1)), type := 0, pos := "law.go:158", after := #[{ on := 25, ground := Ground.data }, { on := 20, ground := Ground.guard }], guard := some (20, true) } : Oper)) (v := .pointer (some ⟨pm, 1, none⟩)) rfl (by kernel_rfl) (by kernel_rfl) (by kernel_rfl) (fun _ _ _ h => h) (Or.inl ⟨by rfl, by intro w hw; go_simp⟩) hS0 ?_
      try simp only [Act.put, List.setIfInBounds_toArray, List.set_cons_zero, List.set_cons_succ]
      refine wpAnyH_take (i := 27) (oi := ({ dst := some 152, op := Op.load 30 (Operand.tmp 151), type := 30, pos := "law.go:158", after := #[{ on := 26, ground := Ground.data }, { on := 20, ground := Ground.guard }], guard := some (20, true) } : Oper)) (v := .pointer (some ⟨m1, 0, none⟩)) rfl (by kernel_rfl) (by kernel_rfl) (by kernel_rfl) (fun _ _ _ h => h) (Or.inl ⟨by rfl, by intro w hw; have hc := hw.2.2.2; clear hw; go_simp⟩) hS0 ?_
      try simp only [Act.put, List.setIfInBounds_toArray, List.set_cons_zero, List.set_cons_succ]
      refine wpAnyH_ready (rs := [24]) (by kernel_rfl) (by simp) ?_
      refine (AllReadyH.cons (o := ({ dst := some 149, op := Op.call { callee := Callee.value (Operand.func 12), args := #[Operand.tmp 148], argTypes := #[23] }, type := 3, pos := "law.go:158", after := #[{ on := 23, ground := Ground.data }, { on := 20, ground := Ground.chain }, { on := 20, ground := Ground.guard }], guard := some (20, true) } : Oper)) rfl (fun K' hK => ?_) AllReadyH.nil)
      go_simp
      go_wp2_with (go_at_call 12; refine (hLA.out (fun _ => False) _ nb (fun f => f) (fun f => f)).mono ?_; rintro ex w107 ⟨rfl, nw107⟩)
      have nb := Nw.tr nb nw107
      refine hK.out _ _ (hk21.out _ nb) (fun hS0 => ?_)
      try simp only [Act.put, List.setIfInBounds_toArray, List.set_cons_zero, List.set_cons_succ]
      refine wpAnyH_ready (rs := [28]) (by kernel_rfl) (by simp) ?_
      refine (AllReadyH.cons (o := ({ dst := some 153, op := Op.call { callee := Callee.value (Operand.func 10), args := #[Operand.tmp 152], argTypes := #[30] }, type := 3, pos := "law.go:158", after := #[{ on := 27, ground := Ground.data }, { on := 24, ground := Ground.chain }, { on := 20, ground := Ground.guard }], guard := some (20, true) } : Oper)) rfl (fun K' hK => ?_) AllReadyH.nil)
      go_simp
      go_wp2_with (go_at_call 10; refine (hLB.out (fun _ => False) _ nb (fun f => f) (fun f => f)).mono ?_; rintro ex w108 ⟨rfl, nw108⟩)
      have nb := Nw.tr nb nw108
      refine hK.out _ _ (hk21.out _ nb) (fun hS0 => ?_)
      try simp only [Act.put, List.setIfInBounds_toArray, List.set_cons_zero, List.set_cons_succ]
      refine wpAnyH_take (i := 29) (oi := ({ dst := some 154, op := Op.binOp BinOp.eql 3 (Operand.tmp 149) (Operand.tmp 153) 3, type := 4, pos := "law.go:158", after := #[{ on := 24, ground := Ground.data }, { on := 28, ground := Ground.data }, { on := 20, ground := Ground.guard }], guard := some (20, true) } : Oper)) (v := .bool true) rfl (by kernel_rfl) (by kernel_rfl) (by kernel_rfl) (fun _ _ _ h => h) (Or.inl ⟨by rfl, by intro w hw; go_simp⟩) hS0 ?_
      try simp only [Act.put, List.setIfInBounds_toArray, List.set_cons_zero, List.set_cons_succ]
      refine wpAnyH_take (i := 30) (oi := ({ dst := some 155, op := Op.pick (Operand.tmp 145) (Operand.tmp 154) (Operand.const (Value.bool false)), type := 4, pos := "law.go:158", after := #[{ on := 20, ground := Ground.data }, { on := 29, ground := Ground.data }], guard := none } : Oper)) (v := .bool true) rfl (by kernel_rfl) (by kernel_rfl) (by kernel_rfl) (fun _ _ _ h => h) (Or.inl ⟨by rfl, by intro w hw; go_simp⟩) hS0 ?_
      try simp only [Act.put, List.setIfInBounds_toArray, List.set_cons_zero, List.set_cons_succ]
      refine wpAnyH_take (i := 31) (oi := ({ dst := some 156, op := Op.move (Operand.tmp 155), type := 4, pos := "law.go:158", after := #[{ on := 30, ground := Ground.data }, { on := 28, ground := Ground.chain }], guard := none } : Oper)) (v := .bool true) rfl (by kernel_rfl) (by kernel_rfl) (by kernel_rfl) (fun _ _ _ h => h) (Or.inl ⟨by rfl, by intro w hw; go_simp⟩) hS0 ?_
      try simp only [Act.put, List.setIfInBounds_toArray, List.set_cons_zero, List.set_cons_succ]
      refine wpAnyH_ready (rs := [32]) (by kernel_rfl) (by simp) ?_
      refine (AllReadyH.cons (o := ({ dst := some 157, op := Op.call { callee := Callee.value (Operand.func 15), args := #[], argTypes := #[] }, type := 4, pos := "law.go:158", after := #[{ on := 31, ground := Ground.chain }, { on := 31, ground := Ground.guard }], guard := some (31, true) } : Oper)) rfl (fun K' hK => ?_) AllReadyH.nil)
      go_simp
      go_wp2_with (go_at_call 15; refine (lives_any _ _ a (hSH.out.fr (Nw.tr grH.out nb) (nofalse _))).mono ?_; rintro ex w109 ⟨rfl, nw109⟩)
      have nb := Nw.tr nb nw109
      refine hK.out _ _ (hk21.out _ nb) (fun hS0 => ?_)
      try simp only [Act.put, List.setIfInBounds_toArray, List.set_cons_zero, List.set_cons_succ]
      refine wpAnyH_take (i := 33) (oi := ({ dst := some 158, op := Op.pick (Operand.tmp 156) (Operand.tmp 157) (Operand.const (Value.bool false)), type := 4, pos := "law.go:158", after := #[{ on := 31, ground := Ground.data }, { on := 32, ground := Ground.data }], guard := none } : Oper)) (v := .bool true) rfl (by kernel_rfl) (by kernel_rfl) (by kernel_rfl) (fun _ _ _ h => h) (Or.inl ⟨by rfl, by intro w hw; go_simp⟩) hS0 ?_
      try simp only [Act.put, List.setIfInBounds_toArray, List.set_cons_zero, List.set_cons_succ]
      refine wpAnyH_ready (rs := [34]) (by kernel_rfl) (by simp) ?_
      refine (AllReadyH.cons (o := ({ dst := some 6, op := Op.assign (Operand.tmp 158), type := 4, pos := "law.go:158", after := #[{ on := 33, ground := Ground.data }, { on := 32, ground := Ground.chain }, { on := 0, ground := Ground.phase }, { on := 1, ground := Ground.phase }, { on := 2, ground := Ground.phase }, { on := 3, ground := Ground.phase }, { on := 4, ground := Ground.phase }, { on := 5, ground := Ground.phase }, { on := 6, ground := Ground.phase }, { on := 7, ground := Ground.phase }, { on := 8, ground := Ground.phase }, { on := 9, ground := Ground.phase }, { on := 10, ground := Ground.phase }, { on := 11, ground := Ground.phase }, { on := 12, ground := Ground.phase }, { on := 13, ground := Ground.phase }, { on := 14, ground := Ground.phase }, { on := 15, ground := Ground.phase }, { on := 16, ground := Ground.phase }, { on := 17, ground := Ground.phase }, { on := 18, ground := Ground.phase }, { on := 19, ground := Ground.phase }, { on := 20, ground := Ground.phase }, { on := 21, ground := Ground.phase }, { on := 22, ground := Ground.phase }, { on := 23, ground := Ground.phase }, { on := 24, ground := Ground.phase }, { on := 25, ground := Ground.phase }, { on := 26, ground := Ground.phase }, { on := 27, ground := Ground.phase }, { on := 28, ground := Ground.phase }, { on := 29, ground := Ground.phase }, { on := 30, ground := Ground.phase }, { on := 31, ground := Ground.phase }, { on := 32, ground := Ground.phase }, { on := 33, ground := Ground.phase }], guard := none } : Oper)) rfl (fun K' hK => ?_) AllReadyH.nil)
      go_simp
      refine hK.out _ _ (hk21.out _ nb) (fun hS0 => ?_)
      try simp only [Act.put, List.setIfInBounds_toArray, List.set_cons_zero, List.set_cons_succ]
      refine wpAnyH_done (by kernel_rfl) ?_ _
      have N9 : Nw w w109 := Nw.tr grH.out nb
      go_wp2
      go_ret
      exact ⟨rfl, N9⟩
end Go.Proofs.YtebbgpnhkpbefaaDoor
