/- taken: those of the things that may be put, and their forms, one behind the other. -/
import Derived.Test.YtlkkadkdanjfoaaDoorY2
import Derived.Test.YtlkkadkdanjfoaaDoorL1
import Derived.Test.YtlkkadkdanjfoaaDoorY0
namespace Go.Proofs.YtlkkadkdanjfoaaDoor
open Go.RowKit
set_option linter.unusedVariables false
set_option linter.unusedSimpArgs false

/-- A thing that was taken: its cells, its fields, its form. -/
structure Kt where
  A : Array Value
  kd : Int
  n : Int
  wd : Int
  t : ByteArray
  lh : List UInt8
  F : List UInt8
def Kt.ok (x : Kt) : Prop := Tf x.A x.kd x.n x.wd x.t x.lh ∧ fmT x.kd x.n x.wd x.t x.lh = some x.F ∧ (x.kd % 4 = 2 → x.wd = x.t.size) ∧ x.t.size ≤ 1048576
def flatA (ks : List Kt) : List Value := ks.flatMap fun x => x.A.toList
def flatF (ks : List Kt) : List UInt8 := ks.flatMap fun x => x.F
theorem flatA_snoc (ks : List Kt) (x : Kt) : flatA (ks ++ [x]) = flatA ks ++ x.A.toList := by simp [flatA]
theorem flatF_snoc (ks : List Kt) (x : Kt) : flatF (ks ++ [x]) = flatF ks ++ x.F := by simp [flatF]

theorem Tf.setW {A : Array Value} {kd n wd : Int} {t : ByteArray} {lh : List UInt8} (h : Tf A kd n wd t lh) {x : Nat} (hx : x ≤ 9223372036854775807) : Tf (A.setIfInBounds 3 (.int .i64 (x : Int))) kd n x t lh := by
  have hz := h.g.size
  refine ⟨⟨by simp [hz], ?_, ?_, h.g.k1, h.g.k2, by omega, by omega⟩, ?_, ?_, h.hl, fun j hj => ?_, h.n1, h.n2, ?_⟩
  · rw [Array.getElem?_setIfInBounds_ne (by omega)]; exact h.g.k
  · rw [Array.getElem?_setIfInBounds_self_of_lt (by omega)]
  · rw [Array.getElem?_setIfInBounds_ne (by omega)]; exact h.cn
  · rw [Array.getElem?_setIfInBounds_ne (by omega)]; exact h.ct
  · rw [Array.getElem?_setIfInBounds_ne (by omega)]; exact h.ch j hj
  · intro u hu
    rw [Array.toList_setIfInBounds] at hu
    rcases List.mem_or_eq_of_mem_set hu with hu | rfl
    · exact h.one u hu
    · rfl
theorem rows_apart {w : World} {b1 b2 s1 s2 : Nat} {v1 v2 : Value} {n1 n2 : Nat} {x1 x2 : List Value} (h1 : w.ownsRow b1 5 s1 v1 n1 x1) (h2 : w.ownsRow b2 34 s2 v2 n2 x2) : ∀ g, v1.ownBlock = some g → v2.ownBlock = some g → False := by
  intro g e1 e2
  rcases h1.2 with ⟨rfl, _⟩ | ⟨g1, _, _, rfl, _, hh1, _⟩
  · cases e1
  · rcases h2.2 with ⟨rfl, _⟩ | ⟨g2, _, _, rfl, _, hh2, _⟩
    · cases e2
    · simp [Value.ownBlock] at e1 e2
      subst e1 e2
      rw [hh1] at hh2
      cases hh2
theorem agg_new (w : World) (A : Array Value) (t : TypeId) : ∀ j u, A.toList[j]? = some u → (w.alloc (.cells A t)).cell? ((⟨w.heap.size, 0, none⟩ : Addr).add j) = some u := by
  intro j u hj
  rw [addZ, cell_of (heap_alloc_new w _)]
  simpa using hj
/-- Things that came in, all their fields told; no text is longer than so much. -/
def Thf (w : World) (v : Value) (n : Nat) (A : Nat → Array Value) : Prop :=
  (∀ i, i < n → ∃ kd m wd t lh, Tf (A i) kd m wd t lh ∧ t.size ≤ 1048576) ∧ Ths w v n A

theorem info34 : (Tryd.prog.info? 34).map (fun i => (i.zero, i.size, i.bytes)) = some (some (.agg (tZ 0 0 0 ⟨#[]⟩)), 37, 80) := by kernel_rfl
theorem info_parts34 : ∃ i, Tryd.prog.info? 34 = some i ∧ i.zero = some (.agg (tZ 0 0 0 ⟨#[]⟩)) ∧ i.size = 37 ∧ i.bytes = 80 := by
  obtain ⟨i, hi, he⟩ := Option.map_eq_some_iff.1 info34
  simp only [Prod.mk.injEq] at he
  exact ⟨i, hi, he.1, he.2.1, he.2.2⟩
theorem fm_len {kd n wd : Int} {t : ByteArray} {lh F : List UInt8} (h : fmT kd n wd t lh = some F) (h1 : 0 ≤ n) (h2 : n ≤ 18446744073709551615) (hl : lh.length = 32) (ht : t.size ≤ 1048576) : F.length ≤ t.size + 32 := by
  unfold fmT at h
  split at h
  · split at h
    · cases h; rw [fixB_len]; omega
    · cases h
  · split at h
    · cases h; have := varB_ten n.toNat (by omega); omega
    · split at h
      · cases h
        have := varB_ten t.size (by omega)
        have e : t.data.toList.length = t.size := by rw [Array.length_toList]; rfl
        rw [List.length_append]; omega
      · cases h; omega
set_option maxRecDepth 100000 in
set_option maxHeartbeats 8000000 in
theorem taken_any (w : World) (a : Nat → Addr) (v0 : Value) (n0 : Nat) (A0 : Nat → Array Value) (hS : Sent w.heap.size w a) (hT : Thf w v0 n0 A0) (hn0 : n0 ≤ 150000) :
    Calls Tryd.prog 24 #[v0] w fun e w' => ∃ (ks : List Kt) (lv : Value), e = .returned (.tuple #[lv, .string ⟨(flatF ks).toArray⟩]) ∧ (∀ x ∈ ks, x.ok) ∧ w'.ownsRow (w.heap.size + 1) 34 37 lv ks.length (flatA ks) ∧ Fr (fun _ => False) w w' ∧ (flatF ks).length ≤ ks.length * 1048608 ∧ ks.length ≤ n0 := by
  have hTs := hT.2
  obtain ⟨_, g0, c0, rfl, hm0, _⟩ := hTs
  obtain ⟨i0, hi, hz0, hz1, hz2⟩ := info_parts34
  go_enter Tryd.func24, Tryd.ntmps24
  go_wp2_with fail
  refine (newW w).mono ?_
  rintro e w1 ⟨rfl, h1, f1, z1⟩
  go_wp2_with fail
  go_loopw [5, 6] (fun lv i wr => ∃ (k : Nat) (ks : List Kt) (v : Value), k ≤ n0 ∧ i = .int .i64 k ∧ ks.length ≤ k ∧ (∀ x ∈ ks, x.ok) ∧ Wr wr w.heap.size v (flatF ks) ∧ wr.ownsRow (w.heap.size + 1) 34 37 lv ks.length (flatA ks) ∧ Fr (fun _ => False) w wr ∧ (flatF ks).length ≤ ks.length * 1048608) (fun _ i _ => n0 - (intOf i).toNat)
  case atStart => exact ⟨0, [], _, by omega, rfl, by simp, (by simp), h1, World.ownsRow_nil _ _ _ _, f1, by simp [flatF]⟩
  case round =>
    obtain ⟨k, ks, v, hk, rfl, hkk, hok, hW, hown, gr, hfl⟩ := hrel
    have hsr := hS.fr gr (nofalse _)
    by_cases hlt : k < n0
    · obtain ⟨kd, m, wd, t, lh, hTf, htb⟩ := hT.1 k hlt
      have t0r := hT.2.fr gr (fun _ _ f => f)
      obtain ⟨_, _, he, hn1, hx⟩ := t0r.2
      obtain ⟨g, off, rfl, hgl, hcl⟩ := hx (by omega)
      have hck := hcl k hlt
      injection he with e1 e2 e3
      subst e1 e3
      clear t0r hcl hx e2
      have hkn : (k : Int) < n0 := by omega
      have hs37 := hTf.g.size
      have ka : (wr.alloc (.cells (tZ 0 0 0 ⟨#[]⟩) 34)).heap[wr.heap.size]? = some (.cells (tZ 0 0 0 ⟨#[]⟩) 34 (0, 0)) := heap_alloc_new wr _
      have fa : Fr (fun _ => False) wr (wr.alloc (.cells (tZ 0 0 0 ⟨#[]⟩) 34)) := (Fr.refl _ _).alloc _
      have hbl := heap_lt hW.blk
      go_wp2_with (first
        | (refine wp_load_cells rfl (.tmp 17) 34 37 rfl Tryd.isAgg34 Tryd.sizeOf34 g (off + k * 37) rfl (A0 k) hs37 hck ?_)
        | (refine wp_store_agg rfl (.tmp 7) (.tmp 18) 34 37 rfl Tryd.sizeOf34 wr.heap.size 0 rfl (tZ 0 0 0 ⟨#[]⟩) 34 ka (A0 k) rfl hs37 hTf.one (by decide) (A0 k) (by have : (tZ 0 0 0 ⟨#[]⟩).toList.drop (0 + 37) = [] := rfl; rw [this]; simp) ?_; intro w2 j2 f2 z2; have g2 : Fr (fun _ => False) wr w2 := fa.trans f2 (fun k hk q => by omega))
        | (refine wp_load_agg rfl (.tmp 7) 34 37 rfl Tryd.isAgg34 Tryd.sizeOf34 wr.heap.size 0 rfl (A0 k) 34 (0, 0) j2 (A0 k) hs37 (fun j _ => by rw [Nat.zero_add]) ?_))
      have gr2 := gr.trans g2 (fun _ _ q => q)
      have hlb : (flatF ks).length ≤ 1000000000000 := by
        have : ks.length * 1048608 ≤ 150000 * 1048608 := Nat.mul_le_mul_right _ (by omega)
        omega
      refine (put_t (hS.fr gr2 (nofalse _)) (hW.fr g2 (fun f => f) (fun _ _ f => f)) hlb hTf (by omega)).mono ?_
      rintro e w3 ⟨ev, rfl, hev, f3⟩
      have z2' : w2.heap.size = wr.heap.size + 1 := by simpa using z2
      have j3 : w3.heap[wr.heap.size]? = some (.cells (A0 k) 34 (0, 0)) := (f3.block _ (by omega) (by
        rintro (q | q)
        · omega
        · have := hW.gt _ q; omega)).trans j2
      have hown2 := ownsRow_keep hown (fun gl e => g2.block gl (hown.lt gl e).2 (fun f => f))
      have hW2 := hW.fr g2 (fun f => f) (fun _ _ f => f)
      have hdis := rows_apart hW2.own hown2
      have hown3 := ownsRow_keep hown2 (fun gl e => f3.block gl (hown2.lt gl e).2 (by
        rintro (q | q)
        · have := hown2.lt gl e; omega
        · exact hdis gl q e))
      have gr3 : Fr (fun _ => False) w w3 := gr2.trans f3 (fun k hk q => by
        rcases q with q | q
        · omega
        · have := hW.gt k q; omega)
      rcases hfm : fmT kd m wd t lh with _ | F
      · rw [hfm] at hev
        obtain ⟨⟨tt, tu, rfl⟩, hW3⟩ := hev
        go_wp2_with fail
        go_roundw
        case rel => exact ⟨k + 1, ks, v, by omega, by go_num, by omega, hok, hW3, hown3, gr3, hfl⟩
        case measure => simp [intOf]; omega
      · rw [hfm] at hev
        obtain ⟨rfl, v', hW3, hwn⟩ := hev
        have d1 := (cell_of j3 1).trans hTf.g.k
        go_wp2_with fail
        refine (round_any kd _ hTf.g.k1 hTf.g.k2).mono ?_
        rintro e w4 ⟨rfl, rfl⟩
        by_cases hk2 : kd % 4 = 2
        · have heq2 : (kd % 4 == 2) = true := by rw [beq_iff_eq]; exact hk2
          have d4 := (cell_of j3 4).trans hTf.ct
          have d3 := (cell_of j3 3).trans hTf.g.w
          have d5 := frozen_of j3 3
          obtain ⟨A', hA'⟩ : ∃ A', A' = (A0 k).setIfInBounds 3 (.int .i64 (t.size : Int)) := ⟨_, rfl⟩
          obtain ⟨wd', hwd'⟩ : ∃ wd' : Int, wd' = t.size := ⟨_, rfl⟩
          have hTf' : Tf A' kd m wd' t lh := by rw [hA', hwd']; exact hTf.setW (by omega)
          have hfm' : fmT kd m wd' t lh = some F := by rw [← hfm]; unfold fmT; rw [if_neg (by omega), if_neg (by omega), if_pos hk2, if_neg (by omega)]
          have hw2' : kd % 4 = 2 → wd' = t.size := fun _ => hwd'
          obtain ⟨W4, hW4e⟩ : ∃ W4, W4 = w4.setCell ⟨wr.heap.size, 3, none⟩ (.int .i64 (t.size : Int)) := ⟨_, rfl⟩
          have fc : Fr (fun k => k = wr.heap.size) w4 W4 := by rw [hW4e]; exact (Fr.refl (fun k => k = wr.heap.size) w4).setCell ⟨wr.heap.size, 3, none⟩ _ (fun _ => rfl)
          have j4 : W4.heap[wr.heap.size]? = some (.cells A' 34 (0, 0)) := by rw [hW4e, hA']; exact heap_set j3 _
          have hnl : v'.ownBlock ≠ some wr.heap.size := fun e => by
            rcases hW3.own.2 with ⟨rfl, _⟩ | ⟨gg, cap, cur, rfl, _, hh, _⟩
            · cases e
            · simp [Value.ownBlock] at e
              subst e
              rw [hh] at j3
              cases j3
          have hW4 : Wr W4 w.heap.size v' (flatF ks ++ F) := hW3.fr fc (by omega) (fun g e q => hnl (by rw [e, q]))
          have hown4 := ownsRow_keep (w' := W4) hown3 (fun gl e => fc.block gl (hown3.lt gl e).2 (by have := hown.lt gl e; omega))
          have gr4 : Fr (fun _ => False) w W4 := gr3.trans fc (fun k hk q => by omega)
          have HW4 : Hid (w4.setCell ⟨wr.heap.size, 3, none⟩ (.int .i64 (t.size : Int)) = W4) := hW4e.symm
          clear hW4e hA'
          have hw4 := HW4.out
          have hs37' := hTf'.g.size
          have hbld := fold_all hs37' (show (tZ 0 0 0 ⟨#[]⟩).size = 37 from rfl)
          have hlt4 := heap_lt hW4.blk
          go_wp2_with (first
            | (refine wp_load_agg rfl (.tmp 7) 34 37 rfl Tryd.isAgg34 Tryd.sizeOf34 wr.heap.size 0 rfl A' 34 (0, 0) j4 A' hs37' (fun j _ => by rw [Nat.zero_add]) ?_)
            | (at_builtin; refine wpList_append_own _ rfl (.tmp 31) (.tmp 33) 22 rfl (w.heap.size + 1) 34 i0 (.agg (tZ 0 0 0 ⟨#[]⟩)) 37 80 Tryd.underlying22 hi hz0 hz1 hz2 rfl (by decide) _ ks.length (flatA ks) rfl (hown4.alloc _) ⟨W4.heap.size, 0, none⟩ 1 1 A'.toList rfl (by simp [hs37']) (agg_new _ _ _) hTf'.one (by unfold maxLen; omega) (by omega) (by simp; omega) ?_; intro lv' w5 hown' hgrow _; obtain ⟨ga, gk, gc, rfl⟩ := ownsRow_form hown'))
          have hW5 : Wr w5 w.heap.size v' (flatF ks ++ F) := by
            have hWa := hW4.fr ((Fr.refl (fun _ => False) W4).alloc (.cells A' 34)) (fun f => f) (fun _ _ f => f)
            have hdis4 := rows_apart hWa.own (hown4.alloc (.cells A' 34))
            refine hWa.keep (hgrow.block _ (by simp; omega) (fun e => ?_)) (fun gw e => hgrow.block _ (hWa.gt gw e).2 (fun e2 => hdis4 gw e e2.symm))
            have := hown4.lt _ e.symm
            omega
          have gr5 : Fr (fun _ => False) w w5 := (gr4.alloc (.cells A' 34)).grown hgrow (fun k e hk => by have := hown4.lt k e; omega)
          have hFl := fm_len hfm hTf.n1 hTf.n2 hTf.hl (by omega)
          go_roundw
          case rel =>
            refine ⟨k + 1, ks ++ [⟨A', kd, m, wd', t, lh, F⟩], v', by omega, by go_num, by simp; omega, ?_, by rw [flatF_snoc]; exact hW5, by rw [flatA_snoc, List.length_append]; exact hown', gr5, by rw [flatF_snoc, List.length_append, List.length_append]; simp only [List.length_cons, List.length_nil]; omega⟩
            intro x hx
            rcases List.mem_append.1 hx with hx | hx
            · exact hok x hx
            · obtain rfl := List.mem_singleton.1 hx
              exact ⟨hTf', hfm', hw2', htb⟩
          case measure => simp [intOf]; omega
        · have hne : (kd % 4 == 2) = false := by rw [beq_eq_false_iff_ne]; exact hk2
          obtain ⟨A', hA'⟩ : ∃ A', A' = A0 k := ⟨_, rfl⟩
          rw [← hA'] at j3 hTf
          have hTf' := hTf
          have wd' := wd
          have hfm' := hfm
          have hw2' : kd % 4 = 2 → wd = t.size := fun h => absurd h hk2
          have j4 := j3
          have hW4 := hW3
          have hown4 := hown3
          have gr4 := gr3
          clear hA'
          have hs37' := hTf'.g.size
          have hbld := fold_all hs37' (show (tZ 0 0 0 ⟨#[]⟩).size = 37 from rfl)
          have hlt4 := heap_lt hW4.blk
          go_wp2_with (first
            | (refine wp_load_agg rfl (.tmp 7) 34 37 rfl Tryd.isAgg34 Tryd.sizeOf34 wr.heap.size 0 rfl A' 34 (0, 0) j4 A' hs37' (fun j _ => by rw [Nat.zero_add]) ?_)
            | (at_builtin; refine wpList_append_own _ rfl (.tmp 31) (.tmp 33) 22 rfl (w.heap.size + 1) 34 i0 (.agg (tZ 0 0 0 ⟨#[]⟩)) 37 80 Tryd.underlying22 hi hz0 hz1 hz2 rfl (by decide) _ ks.length (flatA ks) rfl (hown4.alloc _) ⟨w4.heap.size, 0, none⟩ 1 1 A'.toList rfl (by simp [hs37']) (agg_new _ _ _) hTf'.one (by unfold maxLen; omega) (by omega) (by simp; omega) ?_; intro lv' w5 hown' hgrow _; obtain ⟨ga, gk, gc, rfl⟩ := ownsRow_form hown'))
          have hW5 : Wr w5 w.heap.size v' (flatF ks ++ F) := by
            have hWa := hW4.fr ((Fr.refl (fun _ => False) w4).alloc (.cells A' 34)) (fun f => f) (fun _ _ f => f)
            have hdis4 := rows_apart hWa.own (hown4.alloc (.cells A' 34))
            refine hWa.keep (hgrow.block _ (by simp; omega) (fun e => ?_)) (fun gw e => hgrow.block _ (hWa.gt gw e).2 (fun e2 => hdis4 gw e e2.symm))
            have := hown4.lt _ e.symm
            omega
          have gr5 : Fr (fun _ => False) w w5 := (gr4.alloc (.cells A' 34)).grown hgrow (fun k e hk => by have := hown4.lt k e; omega)
          have hFl := fm_len hfm hTf.n1 hTf.n2 hTf.hl (by omega)
          go_roundw
          case rel =>
            refine ⟨k + 1, ks ++ [⟨A', kd, m, wd, t, lh, F⟩], v', by omega, by go_num, by simp; omega, ?_, by rw [flatF_snoc]; exact hW5, by rw [flatA_snoc, List.length_append]; exact hown', gr5, by rw [flatF_snoc, List.length_append, List.length_append]; simp only [List.length_cons, List.length_nil]; omega⟩
            intro x hx
            rcases List.mem_append.1 hx with hx | hx
            · exact hok x hx
            · obtain rfl := List.mem_singleton.1 hx
              exact ⟨hTf', hfm', hw2', htb⟩
          case measure => simp [intOf]; omega
    · have hge : ¬ ((k : Int) < n0) := by omega
      go_wp2_with (go_at_call 15; refine (wdone _ v _ _ hW).mono ?_; rintro e w5 ⟨rfl, rfl⟩)
      go_ret2
      exact ⟨ks, _, rfl, hok, hown, gr, hfl, by omega⟩
end Go.Proofs.YtlkkadkdanjfoaaDoor
