/- compact: Join. -/
import Derived.Test.YthbimomhbeoieaaDoorX9
namespace Go.Proofs.YthbimomhbeoieaaDoor
open Go.RowKit
set_option linter.unusedVariables false
set_option linter.unusedSimpArgs false
theorem pshR_len : ∀ (T : List Tre) (t : Tre), (pshR T t).length ≤ T.length + 1
  | [], t => by simp [pshR]
  | x :: r, t => by
    unfold pshR
    split
    · have := pshR_len r (both x t); simp only [List.length_cons]; omega
    · simp
theorem psh_len (T : List Tre) (t : Tre) : (psh T t).length ≤ T.length + 1 := by
  unfold psh
  have := pshR_len T.reverse t
  simpa using this
theorem pshAll_len : ∀ (U T : List Tre), (pshAll T U).length ≤ T.length + U.length
  | [], T => by simp [pshAll]
  | u :: r, T => by
    have h1 := pshAll_len r (psh T u)
    have h2 := psh_len T u
    simp only [pshAll, List.foldl_cons, List.length_cons] at h1 ⊢
    omega
theorem pshAll_take (T U : List Tre) (k : Nat) (t : Tre) (h : U[k]? = some t) : pshAll T (U.take (k + 1)) = psh (pshAll T (U.take k)) t := by
  rw [List.take_add_one, h]
  simp [pshAll, List.foldl_append]
/-- Two ranges that share no memory. -/
structure Apt (b b2 : Nat) (v v2 : Value) : Prop where
  n1 : b ≠ b2
  n2 : ∀ g, v2.ownBlock = some g → g ≠ b
  n3 : ∀ g, v.ownBlock = some g → g ≠ b2
  n4 : ∀ g, v.ownBlock = some g → ∀ g2, v2.ownBlock = some g2 → g2 ≠ g
theorem Apt.stays {b b2 : Nat} {v v' v2 : Value} {w : World} (h : Apt b b2 v v2) (hs : Stays w v v') (h2 : b2 < w.heap.size) (h3 : ∀ g, v2.ownBlock = some g → g < w.heap.size) : Apt b b2 v' v2 := by
  rcases hs with e | ⟨g0, e, hg⟩
  · exact ⟨h.n1, h.n2, fun g q => h.n3 g (by rw [← e]; exact q), fun g q => h.n4 g (by rw [← e]; exact q)⟩
  · refine ⟨h.n1, h.n2, fun g q => ?_, fun g q g2 q2 => ?_⟩
    · rw [e] at q; cases q; omega
    · rw [e] at q; cases q; have := h3 g2 q2; omega
theorem Rg.apt {w w' : World} {b b2 base2 : Nat} {v v2 : Value} {B E : Nat} {U : List Tre} (h : Rg w b2 base2 v2 B E U) (ha : Apt b b2 v v2) (f : Fr (fun k => k = b ∨ v.ownBlock = some k) w w') : Rg w' b2 base2 v2 B E U :=
  h.fr f (fun q => by rcases q with q | q; exact ha.n1 q.symm; exact ha.n3 _ q rfl) (fun g hg q => by rcases q with q | q; exact ha.n2 g hg q; exact ha.n4 g q g hg rfl)
theorem Laid.frr {S : Nat → Prop} {w w' : World} (h : Laid w) (k : Fr S w w') (hS : ∀ j, j < 20 → ¬ S j) : Laid w' := by
  refine ⟨fun i hi => (k.cell (World.block_lt_of_cell? w _ (h.k i hi)) (hS _ (by show 19 < _; omega))).trans (h.k i hi), fun i hi => ?_⟩
  obtain ⟨u, hu⟩ : ∃ u, (vals H0)[i]? = some u := ⟨_, vals_at H0 i hi⟩
  have h1 := (h.b i hi).trans hu
  rw [(k.cell (World.block_lt_of_cell? w _ h1) (hS _ (by show 17 < _; omega))), h.b i hi]
set_option maxRecDepth 100000 in
set_option maxHeartbeats 2000000 in
theorem rjoin_yes {w : World} {b base b2 base2 : Nat} {v v2 : Value} {B E F : Nat} {T U : List Tre} (h : Rg w b base v B E T) (h2 : Rg w b2 base2 v2 E F U) (ha : Apt b b2 v v2) (hl : T.length + U.length ≤ 1000000) (hL : Laid w) :
    Calls Tryd.prog 10 #[.pointer (some ⟨b, 0, none⟩), .pointer (some ⟨b2, 0, none⟩)] w fun e w' => e = .returned .nilIface ∧ ∃ v', Rg w' b base v' B F (pshAll T U) ∧ Rg w' b2 base2 v2 E F U ∧ Stays w v v' ∧ Fr (fun k => k = b ∨ v.ownBlock = some k) w w' := by
  obtain ⟨va2, vc2, rfl⟩ := ownsRow_form h2.own
  have HR : Hid (Rg w b base v B E T) := h
  have HR2 : Hid (Rg w b2 base2 (.slice va2 U.length vc2) E F U) := h2
  have HA : Hid (Apt b b2 v (.slice va2 U.length vc2)) := ha
  have HL : Hid (Laid w) := hL
  have q := rthere_any b true _ _ v w h.blk
  have q2 := rthere_any b2 true _ _ _ w h2.blk
  have c2 := h.cs.2.2.1
  have d1 := h2.cs.2.1
  have d3 := h2.cs.2.2.2
  have lb := heap_lt h.blk
  have lb2 := heap_lt h2.blk
  obtain ⟨n, hn⟩ : ∃ n, n = U.length := ⟨_, rfl⟩
  have HN : Hid (n = U.length) := hn
  rw [← hn] at hl d3 ⊢
  have HLl : Hid (T.length + n ≤ 1000000) := hl
  have hn6 : n ≤ 1000000 := by omega
  clear h h2 ha hL hn hl
  go_enter Tryd.func10, Tryd.ntmps10
  go_wp2_with fail
  refine q.mono ?_
  rintro e w1 ⟨rfl, rfl⟩
  go_wp2_with fail
  refine q2.mono ?_
  rintro e w2 ⟨rfl, rfl⟩
  go_wp2_with fail
  go_quiet (fail)
  go_wp2_with fail
  have nd : Nw w2 (w2.drewN nq) := (nwr w2).drewN nq
  have ND : Hid (Nw w2 (w2.drewN nq)) := nd
  clear nd
  go_loopw [33] (fun i wr => ∃ (k : Nat) (v' : Value), k ≤ n ∧ i = .int .i64 k ∧ Rg wr b base v' B E (pshAll T (U.take k)) ∧ Rg wr b2 base2 (.slice va2 n vc2) E F U ∧ Stays w2 v v' ∧ Fr (fun j => j = b ∨ v.ownBlock = some j) w2 wr) (fun i _ => n - (intOf i).toNat)
  case atStart => exact ⟨0, v, by omega, rfl, by simpa [pshAll] using HR.out.nw ND.out, by rw [HN.out]; exact HR2.out.nw ND.out, Stays.refl _ _, ND.out.mono (fun _ _ f => f.elim)⟩
  case round =>
    obtain ⟨k, v', hk, rfl, r1, r2, s1, f1⟩ := hrel
    have P1 : Hid (Rg wr b base v' B E (pshAll T (U.take k))) := r1
    have P2 : Hid (Rg wr b2 base2 (.slice va2 n vc2) E F U) := r2
    have PS : Hid (Stays w2 v v') := s1
    have PF : Hid (Fr (fun j => j = b ∨ v.ownBlock = some j) w2 wr) := f1
    have LW : Hid (Laid wr) := HL.out.frr f1 (fun j hj q => by
      have h1 := HR.out.nb
      have h2 := HR.out.lt
      rcases q with q | q
      · omega
      · have := (HR.out.own.lt j q).1; omega)
    have PA : Hid (Apt b b2 v' (.slice va2 n vc2)) := by
      have h1 := HA.out
      rw [← HN.out] at h1
      have h2 := HR2.out
      rw [← HN.out] at h2
      exact h1.stays s1 (heap_lt h2.blk) (fun g hg => (h2.own.lt g hg).2)
    clear r1 r2 s1 f1
    by_cases hlt : k < n
    · obtain ⟨t, ht⟩ : ∃ t, U[k]? = some t := ⟨_, List.getElem?_eq_getElem (by rw [← HN.out]; exact hlt)⟩
      have hto : t.ok := HR2.out.ok t (List.mem_of_getElem? ht)
      obtain ⟨g, hva, hgb, htc⟩ := Rg.at (g := 0) P2.out ht
      subst hva
      have HC : Hid (∀ j, j < 34 → wr.cell? ⟨g, k * 34 + j, none⟩ = t.c[j]?) := htc
      have HS : Hid (pshAll T (U.take (k + 1)) = psh (pshAll T (U.take k)) t) := pshAll_take T U k t ht
      have ht34 : t.c.size = 34 := Tre.size hto.h32
      have hki : (k : Int) < (n : Int) := by omega
      have QP : Hid (∀ V, Nw wr V → Calls Tryd.prog 26 #[.pointer (some ⟨b, 0, none⟩), .agg t.c] V fun e w' => e = .returned (.tuple #[]) ∧ ∃ x, Rg w' b base x B E (psh (pshAll T (U.take k)) t) ∧ Stays V v' x ∧ Fr (fun j => j = b ∨ v'.ownBlock = some j) V w') := fun V nV => push_any (P1.out.nw nV) t hto (by
        have h1 := pshAll_len (U.take k) T
        have h2 := HLl.out
        rw [List.length_take] at h1
        omega) (LW.out.nw nV)
      clear htc hto ht hgb c2 d1 d3 lb lb2
      go_wp2_with first
        | refine wpl_load_at rfl (.tmp 35) 68 34 rfl Tryd.isAgg68 Tryd.sizeOf68 g (k * 34) rfl t.c ht34 HC.out ?_
        | (refine wp_store_agg rfl (.tmp 6) (.tmp 36) 68 34 rfl Tryd.sizeOf68 wr.heap.size 0 rfl zt.c 68 (by rw [← zt_h]; exact heap_new _ _) t.c rfl ht34 (Tre.one _) (Nat.le_of_eq zt34.symm) t.c (by rw [dropAll zt34]; simp) ?_; intro w4 j4 f4 _; have N4 : Hid (Nw wr w4) := (nwa wr _).trans f4 (fun q hq e => by omega); have J4 : Hid (w4.heap[wr.heap.size]? = some (.cells t.c 68)) := j4; clear f4 j4)
        | refine wp_load_agg rfl (.tmp 6) 68 34 rfl Tryd.isAgg68 Tryd.sizeOf68 wr.heap.size 0 rfl t.c 68 (0, 0) J4.out t.c ht34 (fun j _ => by rw [Nat.zero_add]) ?_
      refine (QP.out _ N4.out).mono ?_
      rintro e6 w6 ⟨rfl, x, r6, s6, f6⟩
      have R6 : Hid (Rg w6 b base x B E (pshAll T (U.take (k + 1)))) := by rw [HS.out]; exact r6
      have R62 : Hid (Rg w6 b2 base2 (.slice (some ⟨g, 0, none⟩) n vc2) E F U) := (P2.out.nw N4.out).apt PA.out f6
      have S6 : Hid (Stays w2 v x) := PS.out.tr s6 (Nat.le_trans PF.out.size N4.out.size)
      have F6 : Hid (Fr (fun j => j = b ∨ v.ownBlock = some j) w2 w6) := Fr.stays (PF.out.trans N4.out (fun _ _ f => f.elim)) f6 PS.out
      clear r6 s6 f6
      go_wp2_with fail
      exact ⟨⟨k + 1, x, by omega, by go_num, R6.out, R62.out, S6.out, F6.out⟩, by simp [intOf]; omega⟩
    · obtain rfl : k = n := by omega
      have hkn : ¬ (k : Int) < (k : Int) := by omega
      have e2 := P2.out.cs.2.2.1
      have e1 := P1.out.cs.2.2.1
      have l1 := heap_lt P1.out.blk
      have l2 := heap_lt P2.out.blk
      have fz := frozen_of P1.out.blk 2
      have hne := PA.out.n1
      go_wp2
      go_ret
      have O1 := P1.out
      rw [HN.out, List.take_length] at O1
      have hlt := O1.lt
      refine ⟨rfl, v', ⟨hp_set O1.blk rfl, ownsRow_setCell_other O1.own (fun q => O1.ne _ q rfl) _, by simp only [World.setCell, Array.size_modify]; omega, O1.ok, O1.nb, O1.ne⟩, ?_, PS.out, Fr.setCell PF.out _ _ (fun _ => .inl rfl)⟩
      exact (P2.out).apt PA.out (Fr.setCell (Fr.refl _ _) _ _ (fun _ => .inl rfl))
end Go.Proofs.YthbimomhbeoieaaDoor
