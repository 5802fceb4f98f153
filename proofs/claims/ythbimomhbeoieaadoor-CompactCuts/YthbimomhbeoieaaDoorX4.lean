/- compact: push. -/
import Derived.Test.YthbimomhbeoieaaDoorX3
import Derived.Test.YthbimomhbeoieaaDoorLg1
import Derived.WalkMore
namespace Go.Proofs.YthbimomhbeoieaaDoor
open Go.RowKit
set_option linter.unusedVariables false
set_option linter.unusedSimpArgs false
theorem Rg.put {w w2 w5 : World} {b base : Nat} {v v' : Value} {B E : Nat} {T : List Tre} {t : Tre} (h : Rg w b base v B E T) (ht : t.ok) (n2 : Nw w w2)
    (o5 : w5.ownsRow base 68 34 v' (T.length + 1) (tsc T ++ t.c.toList)) (t5 : Two w2 w5 68 34 v v' T.length 1 (tsc T ++ t.c.toList)) :
    w5.heap[b]? = some (.cells #[.bool true, .int .u64 (B : Int), .int .u64 (E : Int), v] 30) ∧ Rg (w5.setCell ⟨b, 3, none⟩ v') b base v' B E (T ++ [t]) ∧ Stays w v v' ∧ Fr (fun k => k = b ∨ v.ownBlock = some k) w (w5.setCell ⟨b, 3, none⟩ v') := by
  have hlt := h.lt
  have hb2 := (n2.block b (heap_lt h.blk) (fun q => q)).trans h.blk
  have hb5 := (t5.fr.block b (heap_lt hb2) (fun q => h.ne b q rfl)).trans hb2
  have s2 := n2.size
  have s5 := t5.fr.size
  have hne : ∀ g, v'.ownBlock = some g → g ≠ b := by
    rcases t5.stays (by omega) with e | ⟨g0, e, hg⟩
    · exact fun g q => h.ne g (by rw [← e]; exact q)
    · intro g q
      rw [e] at q
      cases q
      omega
  refine ⟨hb5, ⟨hp_set hb5 rfl, ?_, ?_, ?_, h.nb, hne⟩, ?_, ?_⟩
  · rw [List.length_append, tsc_app, tsc_one]
    exact ownsRow_setCell_other o5 (fun q => hne _ q rfl) _
  · simp only [World.setCell, Array.size_modify]; omega
  · intro x hx
    rcases List.mem_append.1 hx with hx | hx
    · exact h.ok x hx
    · rw [List.mem_singleton.1 hx]; exact ht
  · exact (t5.stays (by omega)).mono s2
  · refine Fr.setCell ?_ _ _ (fun _ => .inl rfl)
    exact (n2.mono (fun _ _ f => f.elim)).trans t5.fr (fun j _ q => .inr q)
/-- The row shortened. -/
theorem Rg.cut {w : World} {b base g cap n : Nat} {B E : Nat} {T : List Tre} (h : Rg w b base (.slice (some ⟨g, 0, none⟩) n cap) B E T) (hn : T.length = n) (k : Nat) (hk : k ≤ n) : Rg (w.setCell ⟨b, 3, none⟩ (.slice (some ⟨g, 0, none⟩) k cap)) b base (.slice (some ⟨g, 0, none⟩) k cap) B E (T.take k) := by
  have hlt := h.lt
  have ho := h.own
  rw [hn] at ho
  have h1 := own_shrink ho k hk
  rw [tsc_take T h.ok k] at h1
  have hl : (T.take k).length = k := by rw [List.length_take]; omega
  refine ⟨hp_set h.blk rfl, ?_, ?_, fun t ht => h.ok t (List.mem_of_mem_take ht), h.nb, fun q hq => h.ne q hq⟩
  · rw [hl]
    exact ownsRow_setCell_other h1 (fun q => h.ne _ q rfl) _
  · simp only [World.setCell, Array.size_modify]; omega
theorem Rg.cap {w : World} {b base g cap n : Nat} {B E : Nat} {T : List Tre} (h : Rg w b base (.slice (some ⟨g, 0, none⟩) n cap) B E T) (hn : T.length = n) : n ≤ cap := by
  rcases h.own.2 with ⟨hv, _⟩ | ⟨g', cap', cur, hv, hb, hh, h3, h4, h5, h6⟩
  · cases hv
  · cases hv; omega
theorem tre_new (w : World) (t : Tre) (ty : TypeId) : ∀ j u, t.c.toList[j]? = some u → (w.alloc (.cells t.c ty)).cell? ((⟨w.heap.size, 0, none⟩ : Addr).add j) = some u := by
  intro j u h
  rw [addZ, cell_of (heap_new _ _)]
  simpa using h
set_option maxRecDepth 100000 in
set_option maxHeartbeats 8000000 in
theorem push_any {w : World} {b base : Nat} {v : Value} {B E : Nat} {T : List Tre} (h : Rg w b base v B E T) (t : Tre) (ht : t.ok) (hl : T.length ≤ 1000000) (hL : Laid w) :
    Calls Tryd.prog 26 #[.pointer (some ⟨b, 0, none⟩), .agg t.c] w fun e w' => e = .returned (.tuple #[]) ∧ ∃ v', Rg w' b base v' B E (psh T t) ∧ Stays w v v' ∧ Fr (fun k => k = b ∨ v.ownBlock = some k) w w' := by
  obtain ⟨i0, hi, hz0, hz1, hz2⟩ := info_parts infoTr
  obtain ⟨va, vc, rfl⟩ := ownsRow_form h.own
  have HR : Hid (Rg w b base (.slice va T.length vc) B E T) := h
  have HL : Hid (Laid w) := hL
  have HT : Hid t.ok := ht
  obtain ⟨n, hn⟩ : ∃ n, n = T.length := ⟨_, rfl⟩
  have HN : Hid (T.length = n) := hn.symm
  rw [← hn] at hl ⊢
  clear h hL ht hn
  go_enter Tryd.func26, Tryd.ntmps26
  go_upto_region 1 with fail
  obtain ⟨w0, hw0⟩ : ∃ x, w.alloc (.cells t.c 68) = x := ⟨_, rfl⟩
  have n0 : Nw w w0 := by rw [← hw0]; exact nwa w _
  have b0 : w0.heap[w.heap.size]? = some (.cells t.c 68) := by rw [← hw0]; exact heap_new _ _
  rw [hw0]
  clear hw0
  have hwb := HR.out.lt
  obtain ⟨tb, htb⟩ : ∃ x, x = w.heap.size := ⟨_, rfl⟩
  rw [← htb] at b0 ⊢
  have HTB : Hid (tb = w.heap.size) := htb
  have hbt : b < tb := by omega
  have R0 := HR.out.nw n0
  rw [HN.out] at R0
  have c3 := R0.cs.2.2.2
  have lb := heap_lt R0.blk
  have hB : Hid (base ≤ tb) := by show base ≤ tb; omega
  have HR0 : Hid (Rg w0 b base (.slice va n vc) B E T) := R0
  have B0 : Hid (w0.heap[tb]? = some (.cells t.c 68)) := b0
  have N0 : Hid (Nw w w0) := n0
  clear htb hwb n0 b0 R0
  go_wp2_with fail
  go_step3
  go_wp2_with fail
  go_step3
  go_wp2_with fail
  go_loopw [4] (fun i wr => ∃ (k : Nat) (u : Tre), k ≤ n ∧ i = .int .i64 ((k : Int) - 1) ∧ u.ok ∧ psh (T.take k) u = psh T t ∧ Rg wr b base (.slice va k vc) B E (T.take k) ∧ wr.heap[tb]? = some (.cells u.c 68) ∧ Fr (fun j => j = b) w wr) (fun i _ => (intOf i + 1).toNat)
  case atStart =>
    refine ⟨n, t, Nat.le_refl _, by go_num, HT.out, ?_, ?_, B0.out, N0.out.mono (fun _ _ f => f.elim)⟩
    · rw [← HN.out, List.take_length]
    · have := HR0.out
      rw [List.take_of_length_le (Nat.le_of_eq HN.out)]
      exact this
  case round =>
    obtain ⟨k, u, hk, rfl, hu, hp, hR, hT, hF⟩ := hrel
    have HU : Hid u.ok := hu
    have HP : Hid (psh (T.take k) u = psh T t) := hp
    have PR : Hid (Rg wr b base (.slice va k vc) B E (T.take k)) := hR
    have PT : Hid (wr.heap[tb]? = some (.cells u.c 68)) := hT
    have PF : Hid (Fr (fun j => j = b) w wr) := hF
    have NL : Hid (∀ V, Nw wr V → Laid V) := fun V nV => (HL.out.fr hF HR.out.nb.1).nw nV
    clear hu hp hR hT hF c3 lb
    have OB : Hid (∀ m k : Nat, (Value.slice va m vc).ownBlock = (Value.slice va k vc).ownBlock) := fun m k => by cases va <;> rfl
    have TB : Hid (∀ m g, (Value.slice va m vc).ownBlock = some g → g ≠ tb) := fun m g hg => by
      have q := (HR.out.own.lt g (by rw [← hg]; exact OB.out _ _)).2
      have := HTB.out
      omega
    have F1 : Hid (∀ m (V : World) v', Stays wr (.slice va m vc) v' → Stays w (.slice va n vc) v') := fun m V v' q => by
      rcases q with q | ⟨g, q1, q2⟩
      · exact .inl (q.trans (OB.out _ _))
      · exact .inr ⟨g, q1, Nat.le_trans PF.out.size q2⟩
    have F2 : Hid (∀ m V, Fr (fun j => j = b ∨ (Value.slice va m vc).ownBlock = some j) wr V → Fr (fun j => j = b ∨ (Value.slice va n vc).ownBlock = some j) w V) := fun m V q => (PF.out.mono (fun j _ e => .inl e)).trans q (fun j _ e => by
      rcases e with e | e
      · exact .inl e
      · exact .inr ((OB.out _ _).trans e))
    by_cases hk0 : 0 < k
    · obtain ⟨m, rfl⟩ : ∃ m, k = m + 1 := ⟨k - 1, by omega⟩
      have hmi : ((m + 1 : Nat) : Int) - 1 = (m : Int) := by omega
      rw [hmi]
      obtain ⟨x, hx⟩ : ∃ x, T[m]? = some x := ⟨_, List.getElem?_eq_getElem (by have := HN.out; omega)⟩
      have hx2 : (T.take (m + 1))[m]? = some x := by rw [List.getElem?_take, if_pos (by omega)]; exact hx
      have hxo : x.ok := HR.out.ok x (List.mem_of_getElem? hx)
      obtain ⟨g, rfl, hgb, hxc⟩ := Rg.at (cap := vc) (g := 0) PR.out hx2
      have htk : T.take (m + 1) = T.take m ++ [x] := by rw [List.take_add_one, hx]; rfl
      have HTK : Hid (T.take (m + 1) = T.take m ++ [x]) := htk
      have HX : Hid x.ok := hxo
      have hx34 : x.c.size = 34 := Tre.size hxo.h32
      have hu34 : u.c.size = 34 := Tre.size HU.out.h32
      have hj34 : (jz x u).c.size = 34 := Tre.size (jz32 x u)
      obtain ⟨z, hz⟩ : ∃ z, z = jz x u := ⟨_, rfl⟩
      have HZ : Hid (z = jz x u) := hz
      rw [← hz] at hj34
      obtain ⟨d, hd⟩ : ∃ d, d = decide (Sib x u) := ⟨_, rfl⟩
      have HD : Hid (d = decide (Sib x u)) := hd
      have QJ : Hid (∀ V, Nw wr V → Calls Tryd.prog 36 #[.agg x.c, .agg u.c] V fun e w' => e = .returned (.tuple #[.agg z.c, .bool d]) ∧ Nw V w') := fun V nV => by rw [HZ.out, HD.out]; exact join_any x u HX.out HU.out V (NL.out V nV)
      have KP : Hid (∀ V, Nw wr V → V.cell? ⟨b, 3, none⟩ = some (.slice (some ⟨g, 0, none⟩) (m + 1) vc) ∧ (∀ j, j < 34 → V.cell? ⟨g, m * 34 + j, none⟩ = x.c[j]?) ∧ V.heap[tb]? = some (.cells u.c 68)) := fun V nV => ⟨(PR.out.nw nV).cs.2.2.2, fun j hj => by
        have h5 : x.c[j]? = some x.c[j] := Array.getElem?_eq_getElem (by omega)
        rw [h5]
        exact nV.cellOf ((hxc j hj).trans h5), (nV.block _ (heap_lt PT.out) (fun f => f)).trans PT.out⟩
      clear hx hx2 hxo hxc htk hz hd
      have hm1 : (0 : Int) ≤ (m : Int) := by omega
      have HM3 : Hid (¬ ((m : Int) + 1 ≤ (m : Int))) := by show ¬ ((m : Int) + 1 ≤ (m : Int)); omega
      go_upto_region 4 with fail
      go_cut [5, 6] (fun p o wx => ∃ jb : Nat, p = .pointer (some ⟨jb, 0, none⟩) ∧ o = .bool d ∧ wx.heap[jb]? = some (.cells z.c 68) ∧ wr.heap.size ≤ jb ∧ Nw wr wx)
      case first =>
        have nb : Nw wr wr.drew := (Fr.refl _ _).drew
        have lbw := heap_lt PR.out.blk
        refine wp_region_held_drew (S := fun V => V.cell? ⟨b, 3, none⟩ = some (.slice (some ⟨g, 0, none⟩) (m + 1) vc) ∧ (∀ j, j < 34 → V.cell? ⟨g, m * 34 + j, none⟩ = x.c[j]?) ∧ V.heap[tb]? = some (.cells u.c 68)) (by kernel_rfl) (KP.out _ nb) ?_
        intro hS0
        refine wpAnyH_take (i := 0) (v := .pointer (some ⟨b, 0, none⟩)) rfl (by kernel_rfl) (by kernel_rfl) (by kernel_rfl) (fun _ _ _ h => h) (Or.inl ⟨by rfl, by intro w hw; go_simp⟩) hS0 ?_
        try simp only [Act.put, List.setIfInBounds_toArray, List.set_cons_zero, List.set_cons_succ]
        refine wpAnyH_take (i := 1) (v := .pointer (some ⟨b, 0, none⟩)) rfl (by kernel_rfl) (by kernel_rfl) (by kernel_rfl) (fun _ _ _ h => h) (Or.inl ⟨by rfl, by intro w hw; go_simp⟩) hS0 ?_
        try simp only [Act.put, List.setIfInBounds_toArray, List.set_cons_zero, List.set_cons_succ]
        refine wpAnyH_take (i := 2) (v := .pointer (some ⟨b, 3, none⟩)) rfl (by kernel_rfl) (by kernel_rfl) (by kernel_rfl) (fun _ _ _ h => h) (Or.inl ⟨by rfl, by intro w hw; go_simp⟩) hS0 ?_
        try simp only [Act.put, List.setIfInBounds_toArray, List.set_cons_zero, List.set_cons_succ]
        refine wpAnyH_take (i := 3) (v := .slice (some ⟨g, 0, none⟩) (m + 1) vc) rfl (by kernel_rfl) (by kernel_rfl) (by kernel_rfl) (fun _ _ _ h => h) (Or.inl ⟨by rfl, by intro w hw; have hc := hw.1; go_simp⟩) hS0 ?_
        try simp only [Act.put, List.setIfInBounds_toArray, List.set_cons_zero, List.set_cons_succ]
        refine wpAnyH_take (i := 4) (v := .int .i64 (m : Int)) rfl (by kernel_rfl) (by kernel_rfl) (by kernel_rfl) (fun _ _ _ h => h) (Or.inl ⟨by rfl, by intro w hw; go_simp⟩) hS0 ?_
        try simp only [Act.put, List.setIfInBounds_toArray, List.set_cons_zero, List.set_cons_succ]
        refine wpAnyH_take (i := 5) (v := .pointer (some ⟨g, m * 34, none⟩)) rfl (by kernel_rfl) (by kernel_rfl) (by kernel_rfl) (fun _ _ _ h => h) (Or.inl ⟨by rfl, by intro w hw; have hm3 := HM3.out; go_simp⟩) hS0 ?_
        try simp only [Act.put, List.setIfInBounds_toArray, List.set_cons_zero, List.set_cons_succ]
        refine wpAnyH_take (i := 6) (v := .agg x.c) rfl (by kernel_rfl) (by kernel_rfl) (by kernel_rfl) (fun _ _ _ h => h) (yields_load_at rfl (.tmp 23) 68 34 rfl Tryd.isAgg68 Tryd.sizeOf68 g (m * 34) (by kernel_rfl) x.c hx34 (fun V hV => hV.2.1)) hS0 ?_
        try simp only [Act.put, List.setIfInBounds_toArray, List.set_cons_zero, List.set_cons_succ]
        refine wpAnyH_take (i := 7) (v := .agg u.c) rfl (by kernel_rfl) (by kernel_rfl) (by kernel_rfl) (fun _ _ _ h => h) (yields_load_agg rfl (.tmp 3) 68 34 rfl Tryd.isAgg68 Tryd.sizeOf68 tb (by kernel_rfl) 68 u.c hu34 (fun V hV => hV.2.2)) hS0 ?_
        try simp only [Act.put, List.setIfInBounds_toArray, List.set_cons_zero, List.set_cons_succ]
        refine wpAnyH_ready (rs := [8, 12]) (by kernel_rfl) (by simp) ?_
        refine AllReadyH.cons rfl (fun K' hK => ?_) (AllReadyH.cons rfl (fun K' hK => ?_) AllReadyH.nil)
        · go_simp
          go_wp2_with (go_at_call 36; refine (QJ.out _ nb).mono ?_; rintro e8 w8 ⟨rfl, m8⟩)
          have n8 : Nw wr w8 := (nb).tr m8
          refine hK.out _ _ (KP.out _ (n8)) (fun hS0 => ?_)
          try simp only [Act.put, List.setIfInBounds_toArray, List.set_cons_zero, List.set_cons_succ]
          refine wpAnyH_take (i := 9) (v := .tuple #[.agg z.c, .bool d]) rfl (by kernel_rfl) (by kernel_rfl) (by kernel_rfl) (fun _ _ _ h => h) (Or.inl ⟨by rfl, by intro w hw; go_simp⟩) hS0 ?_
          try simp only [Act.put, List.setIfInBounds_toArray, List.set_cons_zero, List.set_cons_succ]
          refine wpAnyH_take (i := 10) (v := .agg z.c) rfl (by kernel_rfl) (by kernel_rfl) (by kernel_rfl) (fun _ _ _ h => h) (Or.inl ⟨by rfl, by intro w hw; go_simp⟩) hS0 ?_
          try simp only [Act.put, List.setIfInBounds_toArray, List.set_cons_zero, List.set_cons_succ]
          refine wpAnyH_take (i := 11) (v := .bool d) rfl (by kernel_rfl) (by kernel_rfl) (by kernel_rfl) (fun _ _ _ h => h) (Or.inl ⟨by rfl, by intro w hw; go_simp⟩) hS0 ?_
          try simp only [Act.put, List.setIfInBounds_toArray, List.set_cons_zero, List.set_cons_succ]
          refine wpAnyH_ready (rs := [12]) (by kernel_rfl) (by simp) ?_
          refine AllReadyH.cons rfl (fun K' hK => ?_) AllReadyH.nil
          go_simp
          rw [zt_h]
          obtain ⟨w9, hw9⟩ : ∃ x, w8.alloc (.cells zt.c 68) = x := ⟨_, rfl⟩
          have mw9 : Nw w8 w9 := by rw [← hw9]; exact nwa w8 _
          have Gw9 : w9.heap[w8.heap.size]? = some (.cells zt.c 68) := by rw [← hw9]; exact heap_new _ _
          rw [hw9]
          have nw9 : Nw wr w9 := (n8).tr mw9
          refine hK.out _ _ (KP.out _ (nw9)) (fun hS0 => ?_)
          try simp only [Act.put, List.setIfInBounds_toArray, List.set_cons_zero, List.set_cons_succ]
          refine wpAnyH_ready (rs := [13]) (by kernel_rfl) (by simp) ?_
          refine AllReadyH.cons rfl (fun K' hK => ?_) AllReadyH.nil
          show if Region.wanted (Oper.mk _ _ _ _ _ _) _ = true then _ else _
          refine step_store_agg rfl (.tmp 5) (.tmp 27) 68 34 rfl Tryd.sizeOf68 w8.heap.size 0 (by kernel_rfl) zt.c 68 Gw9 z.c (by kernel_rfl) hj34 (Tre.one _) (Nat.le_of_eq zt34.symm) z.c (by rw [dropAll zt34]; simp) ?_
          intro wx jx fx zx
          have nx : Nw wr wx := (nw9).trans fx (fun i hi e => by have := n8.size; omega)
          refine hK.out _ _ (KP.out _ (nx)) (fun hS0 => ?_)
          try simp only [Act.put, List.setIfInBounds_toArray, List.set_cons_zero, List.set_cons_succ]
          refine wpAnyH_ready (rs := [14]) (by kernel_rfl) (by simp) ?_
          refine AllReadyH.cons rfl (fun K' hK => ?_) AllReadyH.nil
          go_simp
          refine hK.out _ _ (KP.out _ (nx)) (fun hS0 => ?_)
          try simp only [Act.put, List.setIfInBounds_toArray, List.set_cons_zero, List.set_cons_succ]
          refine wpAnyH_done (by kernel_rfl) ?_ _
          try go_wp2_with fail
          go_meet
          exact ⟨_, rfl, rfl, jx, n8.size, nx⟩
        · go_simp
          rw [zt_h]
          obtain ⟨w7, hw7⟩ : ∃ x, (wr.alloc (.cells zt.c 68)).drew = x := ⟨_, rfl⟩
          have mw7 : Nw wr w7 := by rw [← hw7]; exact (nwa wr _).drew
          have Gw7 : w7.heap[wr.heap.size]? = some (.cells zt.c 68) := by rw [← hw7]; exact heap_new _ _
          rw [hw7]
          have nw7 : Nw wr w7 := mw7
          refine hK.out _ _ (KP.out _ (nw7)) (fun hS0 => ?_)
          try simp only [Act.put, List.setIfInBounds_toArray, List.set_cons_zero, List.set_cons_succ]
          refine wpAnyH_ready (rs := [8]) (by kernel_rfl) (by simp) ?_
          refine AllReadyH.cons rfl (fun K' hK => ?_) AllReadyH.nil
          go_simp
          go_wp2_with (go_at_call 36; refine (QJ.out _ nw7).mono ?_; rintro e8 w8 ⟨rfl, m8⟩)
          have n8 : Nw wr w8 := (nw7).tr m8
          have G8 := (m8.block wr.heap.size (heap_lt Gw7) (fun f => f)).trans Gw7
          refine hK.out _ _ (KP.out _ (n8)) (fun hS0 => ?_)
          try simp only [Act.put, List.setIfInBounds_toArray, List.set_cons_zero, List.set_cons_succ]
          refine wpAnyH_take (i := 9) (v := .tuple #[.agg z.c, .bool d]) rfl (by kernel_rfl) (by kernel_rfl) (by kernel_rfl) (fun _ _ _ h => h) (Or.inl ⟨by rfl, by intro w hw; go_simp⟩) hS0 ?_
          try simp only [Act.put, List.setIfInBounds_toArray, List.set_cons_zero, List.set_cons_succ]
          refine wpAnyH_take (i := 10) (v := .agg z.c) rfl (by kernel_rfl) (by kernel_rfl) (by kernel_rfl) (fun _ _ _ h => h) (Or.inl ⟨by rfl, by intro w hw; go_simp⟩) hS0 ?_
          try simp only [Act.put, List.setIfInBounds_toArray, List.set_cons_zero, List.set_cons_succ]
          refine wpAnyH_take (i := 11) (v := .bool d) rfl (by kernel_rfl) (by kernel_rfl) (by kernel_rfl) (fun _ _ _ h => h) (Or.inl ⟨by rfl, by intro w hw; go_simp⟩) hS0 ?_
          try simp only [Act.put, List.setIfInBounds_toArray, List.set_cons_zero, List.set_cons_succ]
          refine wpAnyH_ready (rs := [13]) (by kernel_rfl) (by simp) ?_
          refine AllReadyH.cons rfl (fun K' hK => ?_) AllReadyH.nil
          show if Region.wanted (Oper.mk _ _ _ _ _ _) _ = true then _ else _
          refine step_store_agg rfl (.tmp 5) (.tmp 27) 68 34 rfl Tryd.sizeOf68 wr.heap.size 0 (by kernel_rfl) zt.c 68 G8 z.c (by kernel_rfl) hj34 (Tre.one _) (Nat.le_of_eq zt34.symm) z.c (by rw [dropAll zt34]; simp) ?_
          intro wx jx fx zx
          have nx : Nw wr wx := (n8).trans fx (fun i hi e => by omega)
          refine hK.out _ _ (KP.out _ (nx)) (fun hS0 => ?_)
          try simp only [Act.put, List.setIfInBounds_toArray, List.set_cons_zero, List.set_cons_succ]
          refine wpAnyH_ready (rs := [14]) (by kernel_rfl) (by simp) ?_
          refine AllReadyH.cons rfl (fun K' hK => ?_) AllReadyH.nil
          go_simp
          refine hK.out _ _ (KP.out _ (nx)) (fun hS0 => ?_)
          try simp only [Act.put, List.setIfInBounds_toArray, List.set_cons_zero, List.set_cons_succ]
          refine wpAnyH_done (by kernel_rfl) ?_ _
          try go_wp2_with fail
          go_meet
          exact ⟨_, rfl, rfl, jx, Nat.le_refl _, nx⟩
      case rest =>
        obtain ⟨jb, rfl, rfl, hjb, hle, nx⟩ := hcut
        obtain ⟨wq, hwq⟩ : ∃ q, q = wc := ⟨_, rfl⟩
        subst hwq
        have PRx : Hid (Rg wq b base (.slice (some ⟨g, 0, none⟩) (m + 1) vc) B E (T.take (m + 1))) := PR.out.nw nx
        have PTq : Hid (wq.heap[tb]? = some (.cells u.c 68)) := (nx.block _ (heap_lt PT.out) (fun f => f)).trans PT.out
        have HJ : Hid (wq.heap[jb]? = some (.cells z.c 68)) := hjb
        have NX : Hid (Nw wr wq) := nx
        have HJB : Hid (tb < jb) := by have := heap_lt PT.out; show tb < jb; omega
        clear hjb nx hle QJ KP
        by_cases hs : Sib x u
        · have hd1 : d = true := by rw [HD.out]; exact decide_eq_true hs
          subst hd1
          have hzb : z = both x u := by rw [HZ.out]; unfold jz; rw [if_pos hs]
          have HZB : Hid (z = both x u) := hzb
          have HS : Hid (Sib x u) := hs
          have hcap : m + 1 ≤ vc := Rg.cap PRx.out (by rw [List.length_take]; have := HN.out; omega)
          have HCI : Hid ((m : Int) ≤ (vc : Int)) := by show (m : Int) ≤ (vc : Int); omega
          have HCP : Hid (m + 1 ≤ vc) := hcap
          clear hcap
          obtain ⟨Z, hZc⟩ : ∃ Z, Z = z.c := ⟨_, rfl⟩
          obtain ⟨U, hUc⟩ : ∃ U, U = u.c := ⟨_, rfl⟩
          have HZc : Hid (Z = z.c) := hZc
          have HJ2 : Hid (wq.heap[jb]? = some (.cells Z 68)) := by show _ = _; rw [hZc]; exact HJ.out
          have PT2 : Hid (wq.heap[tb]? = some (.cells U 68)) := by show _ = _; rw [hUc]; exact PTq.out
          have hZ34 : Z.size = 34 := by rw [hZc]; exact hj34
          have hU34 : U.size = 34 := by rw [hUc]; exact hu34
          have hZ1 : Hid (∀ q ∈ Z.toList, q.oneCell' = true) := by rw [hZc]; exact Tre.one z
          clear hZc hUc hj34 hu34 hx34 HJ PTq
          have KP : Hid (∀ V, Nw wq V → V.heap[jb]? = some (.cells Z 68)) := fun V nV => (nV.block _ (heap_lt HJ2.out) (fun f => f)).trans HJ2.out
          have nb : Nw wq wq.drew := (Fr.refl _ _).drew
          clear hs hzb
          go_upto_region 6 with fail
          refine wp_region_held_drew (S := fun V => V.heap[jb]? = some (.cells Z 68)) (by kernel_rfl) (KP.out _ nb) ?_
          intro hS0
          refine wpAnyH_take (i := 0) (v := .pointer (some ⟨b, 0, none⟩)) rfl (by kernel_rfl) (by kernel_rfl) (by kernel_rfl) (fun _ _ _ h => h) (Or.inl ⟨by rfl, by intro w hw; go_simp⟩) hS0 ?_
          try simp only [Act.put, List.setIfInBounds_toArray, List.set_cons_zero, List.set_cons_succ]
          refine wpAnyH_take (i := 1) (v := .agg Z) rfl (by kernel_rfl) (by kernel_rfl) (by kernel_rfl) (fun _ _ _ h => h) (yields_load_agg rfl (.tmp 5) 68 34 rfl Tryd.isAgg68 Tryd.sizeOf68 jb (by kernel_rfl) 68 Z hZ34 (fun V hV => hV)) hS0 ?_
          try simp only [Act.put, List.setIfInBounds_toArray, List.set_cons_zero, List.set_cons_succ]
          refine wpAnyH_take (i := 2) (v := .pointer (some ⟨b, 0, none⟩)) rfl (by kernel_rfl) (by kernel_rfl) (by kernel_rfl) (fun _ _ _ h => h) (Or.inl ⟨by rfl, by intro w hw; go_simp⟩) hS0 ?_
          try simp only [Act.put, List.setIfInBounds_toArray, List.set_cons_zero, List.set_cons_succ]
          refine wpAnyH_take (i := 3) (v := .pointer (some ⟨b, 0, none⟩)) rfl (by kernel_rfl) (by kernel_rfl) (by kernel_rfl) (fun _ _ _ h => h) (Or.inl ⟨by rfl, by intro w hw; go_simp⟩) hS0 ?_
          try simp only [Act.put, List.setIfInBounds_toArray, List.set_cons_zero, List.set_cons_succ]
          refine wpAnyH_take (i := 4) (v := .pointer (some ⟨b, 3, none⟩)) rfl (by kernel_rfl) (by kernel_rfl) (by kernel_rfl) (fun _ _ _ h => h) (Or.inl ⟨by rfl, by intro w hw; go_simp⟩) hS0 ?_
          try simp only [Act.put, List.setIfInBounds_toArray, List.set_cons_zero, List.set_cons_succ]
          refine wpAnyH_take (i := 6) (v := .int .i64 (m : Int)) rfl (by kernel_rfl) (by kernel_rfl) (by kernel_rfl) (fun _ _ _ h => h) (Or.inl ⟨by rfl, by intro w hw; go_simp⟩) hS0 ?_
          try simp only [Act.put, List.setIfInBounds_toArray, List.set_cons_zero, List.set_cons_succ]
          refine wpAnyH_ready (rs := [5, 8]) (by kernel_rfl) (by simp) ?_
          refine AllReadyH.cons rfl (fun K' hK => ?_) (ready_store rfl rfl (.tmp 3) (.tmp 32) 68 34 rfl Tryd.sizeOf68 tb (by kernel_rfl) U 68 (hp_dr PT2.out) Z (by kernel_rfl) hZ34 hZ1.out hU34 ?_ AllReadyH.nil)
          · have cq : wq.cell? ⟨b, 3, none⟩ = some (.slice (some ⟨g, 0, none⟩) (m + 1) vc) := PRx.out.cs.2.2.2
            have lq := heap_lt PRx.out.blk
            go_simp
            refine hK.out _ _ (KP.out _ (nb)) (fun hS0 => ?_)
            try simp only [Act.put, List.setIfInBounds_toArray, List.set_cons_zero, List.set_cons_succ]
            refine wpAnyH_take (i := 7) (v := .slice (some ⟨g, 0, none⟩) m vc) rfl (by kernel_rfl) (by kernel_rfl) (by kernel_rfl) (fun _ _ _ h => h) (Or.inl ⟨by rfl, by intro w hw; have hcj := HCI.out; go_simp⟩) hS0 ?_
            try simp only [Act.put, List.setIfInBounds_toArray, List.set_cons_zero, List.set_cons_succ]
            refine wpAnyH_ready (rs := [8]) (by kernel_rfl) (by simp) ?_
            refine ready_store rfl rfl (.tmp 3) (.tmp 32) 68 34 rfl Tryd.sizeOf68 tb (by kernel_rfl) U 68 (hp_dr PT2.out) Z (by kernel_rfl) hZ34 hZ1.out hU34 ?_ AllReadyH.nil
            intro wy jy fy
            have hjb := HJB.out
            have RY := show Hid _ from PRx.out.fr (f := (show Fr (fun k => k = tb) wq wy from (nb.mono (fun _ _ f => f.elim)).trans fy (fun _ _ e => e))) (by omega) (TB.out (m + 1))
            have hjy : wy.heap[jb]? = some (.cells Z 68) := (fy.block jb (heap_lt (KP.out _ nb)) (fun q => by omega)).trans (KP.out _ nb)
            have JY := show Hid _ from jy
            have FY := show Hid _ from fy
            clear jy fy
            refine ⟨hjy, fun hS0 => ?_⟩
            try simp only [Act.put, List.setIfInBounds_toArray, List.set_cons_zero, List.set_cons_succ]
            refine wpAnyH_take (i := 9) (v := .pointer (some ⟨b, 0, none⟩)) rfl (by kernel_rfl) (by kernel_rfl) (by kernel_rfl) (fun _ _ _ h => h) (Or.inl ⟨by rfl, by intro w hw; go_simp⟩) hS0 ?_
            try simp only [Act.put, List.setIfInBounds_toArray, List.set_cons_zero, List.set_cons_succ]
            refine wpAnyH_take (i := 10) (v := .pointer (some ⟨b, 3, none⟩)) rfl (by kernel_rfl) (by kernel_rfl) (by kernel_rfl) (fun _ _ _ h => h) (Or.inl ⟨by rfl, by intro w hw; go_simp⟩) hS0 ?_
            try simp only [Act.put, List.setIfInBounds_toArray, List.set_cons_zero, List.set_cons_succ]
            refine wpAnyH_ready (rs := [11]) (by kernel_rfl) (by simp) ?_
            refine AllReadyH.cons rfl (fun K' hK => ?_) AllReadyH.nil
            have Ry := RY.out
            have cy := Ry.cs.2.2.2
            have fy3 := frozen_of Ry.blk 3
            have ly := heap_lt Ry.blk
            go_simp
            refine hK.out _ _ (hp_ne (by omega) hjy) (fun hS0 => ?_)
            try simp only [Act.put, List.setIfInBounds_toArray, List.set_cons_zero, List.set_cons_succ]
            refine wpAnyH_done (by kernel_rfl) ?_ _
            go_wp2_with fail
            have Rc := Ry.cut (by rw [List.length_take]; have := HN.out; omega) m (by omega)
            rw [List.take_take, Nat.min_eq_left (by omega)] at Rc
            have hpz : psh (T.take m) z = psh T t := by rw [← HP.out, HTK.out, psh_yes HS.out, HZB.out]
            have hzo : z.ok := by rw [HZB.out]; exact both_ok HX.out HS.out
            have htbw := HTB.out
            exact ⟨⟨m, z, by omega, by go_num, hzo, hpz, Rc, hp_ne (by omega) (by rw [← HZc.out]; exact JY.out), Fr.setCell (((PF.out.trans NX.out (fun _ _ f => f.elim)).trans nb (fun _ _ f => f.elim)).trans FY.out (fun j hj e => by omega)) _ _ (fun _ => rfl)⟩, by simp [intOf]; try omega⟩
          · intro wy jy fy
            have hjb := HJB.out
            have RY := show Hid _ from PRx.out.fr (f := (show Fr (fun k => k = tb) wq wy from (nb.mono (fun _ _ f => f.elim)).trans fy (fun _ _ e => e))) (by omega) (TB.out (m + 1))
            have hjy : wy.heap[jb]? = some (.cells Z 68) := (fy.block jb (heap_lt (KP.out _ nb)) (fun q => by omega)).trans (KP.out _ nb)
            have JY := show Hid _ from jy
            have FY := show Hid _ from fy
            clear jy fy
            refine ⟨hjy, fun hS0 => ?_⟩
            try simp only [Act.put, List.setIfInBounds_toArray, List.set_cons_zero, List.set_cons_succ]
            refine wpAnyH_ready (rs := [5]) (by kernel_rfl) (by simp) ?_
            refine AllReadyH.cons rfl (fun K' hK => ?_) AllReadyH.nil
            have cq : wy.cell? ⟨b, 3, none⟩ = some (.slice (some ⟨g, 0, none⟩) (m + 1) vc) := RY.out.cs.2.2.2
            have lq := heap_lt RY.out.blk
            go_simp
            refine hK.out _ _ ((hjy)) (fun hS0 => ?_)
            try simp only [Act.put, List.setIfInBounds_toArray, List.set_cons_zero, List.set_cons_succ]
            refine wpAnyH_take (i := 7) (v := .slice (some ⟨g, 0, none⟩) m vc) rfl (by kernel_rfl) (by kernel_rfl) (by kernel_rfl) (fun _ _ _ h => h) (Or.inl ⟨by rfl, by intro w hw; have hcj := HCI.out; go_simp⟩) hS0 ?_
            try simp only [Act.put, List.setIfInBounds_toArray, List.set_cons_zero, List.set_cons_succ]
            refine wpAnyH_take (i := 9) (v := .pointer (some ⟨b, 0, none⟩)) rfl (by kernel_rfl) (by kernel_rfl) (by kernel_rfl) (fun _ _ _ h => h) (Or.inl ⟨by rfl, by intro w hw; go_simp⟩) hS0 ?_
            try simp only [Act.put, List.setIfInBounds_toArray, List.set_cons_zero, List.set_cons_succ]
            refine wpAnyH_take (i := 10) (v := .pointer (some ⟨b, 3, none⟩)) rfl (by kernel_rfl) (by kernel_rfl) (by kernel_rfl) (fun _ _ _ h => h) (Or.inl ⟨by rfl, by intro w hw; go_simp⟩) hS0 ?_
            try simp only [Act.put, List.setIfInBounds_toArray, List.set_cons_zero, List.set_cons_succ]
            refine wpAnyH_ready (rs := [11]) (by kernel_rfl) (by simp) ?_
            refine AllReadyH.cons rfl (fun K' hK => ?_) AllReadyH.nil
            have Ry := RY.out
            have cy := Ry.cs.2.2.2
            have fy3 := frozen_of Ry.blk 3
            have ly := heap_lt Ry.blk
            go_simp
            refine hK.out _ _ (hp_ne (by omega) hjy) (fun hS0 => ?_)
            try simp only [Act.put, List.setIfInBounds_toArray, List.set_cons_zero, List.set_cons_succ]
            refine wpAnyH_done (by kernel_rfl) ?_ _
            go_wp2_with fail
            have Rc := Ry.cut (by rw [List.length_take]; have := HN.out; omega) m (by omega)
            rw [List.take_take, Nat.min_eq_left (by omega)] at Rc
            have hpz : psh (T.take m) z = psh T t := by rw [← HP.out, HTK.out, psh_yes HS.out, HZB.out]
            have hzo : z.ok := by rw [HZB.out]; exact both_ok HX.out HS.out
            have htbw := HTB.out
            exact ⟨⟨m, z, by omega, by go_num, hzo, hpz, Rc, hp_ne (by omega) (by rw [← HZc.out]; exact JY.out), Fr.setCell (((PF.out.trans NX.out (fun _ _ f => f.elim)).trans nb (fun _ _ f => f.elim)).trans FY.out (fun j hj e => by omega)) _ _ (fun _ => rfl)⟩, by simp [intOf]; try omega⟩
        · have hd0 : d = false := by rw [HD.out]; exact decide_eq_false hs
          subst hd0
          have PRq : Hid (Rg wq b base (.slice (some ⟨g, 0, none⟩) (m + 1) vc) B E (T.take (m + 1))) := PRx.out
          have PRq_len : (T.take (m + 1)).length = m + 1 := by rw [List.length_take]; have := HN.out; omega
          have TBne : Hid (∀ q, (Value.slice (some ⟨g, 0, none⟩) (m + 1) vc).ownBlock = some q → q ≠ tb) := TB.out (m + 1)
          have FIN1 : Hid (∀ V v', Stays wq (.slice (some ⟨g, 0, none⟩) (m + 1) vc) v' → Stays w (.slice (some ⟨g, 0, none⟩) n vc) v') := fun V v' q => F1.out (m + 1) V v' (q.mono NX.out.size)
          have FIN2 : Hid (∀ V, Fr (fun j => j = b ∨ (Value.slice (some ⟨g, 0, none⟩) (m + 1) vc).ownBlock = some j) wq V → Fr (fun j => j = b ∨ (Value.slice (some ⟨g, 0, none⟩) n vc).ownBlock = some j) w V) := fun V q => F2.out (m + 1) V ((NX.out.mono (fun _ _ f => f.elim)).trans q (fun j _ e => e))
          have hp1 : Hid (T.take (m + 1) ++ [u] = psh T t) := by
            show _ = _
            rw [← HP.out, HTK.out, psh_no hs]
          clear PRx PR PT
          go_upto_region 7 with fail
          have KP : Hid (∀ V, Nw wq V → V.heap[tb]? = some (.cells u.c 68)) := fun V nV => (nV.block _ (heap_lt PTq.out) (fun f => f)).trans PTq.out
          have hu34 : u.c.size = 34 := Tre.size HU.out.h32
          have nb : Nw wq wq.drew := (Fr.refl _ _).drew
          refine wp_region_held_drew (S := fun V => V.heap[tb]? = some (.cells u.c 68)) (by kernel_rfl) (KP.out _ nb) ?_
          intro hS0
          refine wpAnyH_take (i := 0) (v := .pointer (some ⟨b, 0, none⟩)) rfl (by kernel_rfl) (by kernel_rfl) (by kernel_rfl) (fun _ _ _ h => h) (Or.inl ⟨by rfl, by intro w hw; go_simp⟩) hS0 ?_
          try simp only [Act.put, List.setIfInBounds_toArray, List.set_cons_zero, List.set_cons_succ]
          refine wpAnyH_take (i := 1) (v := .pointer (some ⟨b, 0, none⟩)) rfl (by kernel_rfl) (by kernel_rfl) (by kernel_rfl) (fun _ _ _ h => h) (Or.inl ⟨by rfl, by intro w hw; go_simp⟩) hS0 ?_
          try simp only [Act.put, List.setIfInBounds_toArray, List.set_cons_zero, List.set_cons_succ]
          refine wpAnyH_take (i := 2) (v := .pointer (some ⟨b, 0, none⟩)) rfl (by kernel_rfl) (by kernel_rfl) (by kernel_rfl) (fun _ _ _ h => h) (Or.inl ⟨by rfl, by intro w hw; go_simp⟩) hS0 ?_
          try simp only [Act.put, List.setIfInBounds_toArray, List.set_cons_zero, List.set_cons_succ]
          refine wpAnyH_take (i := 3) (v := .pointer (some ⟨b, 3, none⟩)) rfl (by kernel_rfl) (by kernel_rfl) (by kernel_rfl) (fun _ _ _ h => h) (Or.inl ⟨by rfl, by intro w hw; go_simp⟩) hS0 ?_
          try simp only [Act.put, List.setIfInBounds_toArray, List.set_cons_zero, List.set_cons_succ]
          refine wpAnyH_take (i := 5) (v := .agg u.c) rfl (by kernel_rfl) (by kernel_rfl) (by kernel_rfl) (fun _ _ _ h => h) (yields_load_agg rfl (.tmp 3) 68 34 rfl Tryd.isAgg68 Tryd.sizeOf68 tb (by kernel_rfl) 68 u.c hu34 (fun V hV => hV)) hS0 ?_
          try simp only [Act.put, List.setIfInBounds_toArray, List.set_cons_zero, List.set_cons_succ]
          refine wpAnyH_ready (rs := [4, 6]) (by kernel_rfl) (by simp) ?_
          refine AllReadyH.cons rfl (fun K' hK => ?_) (AllReadyH.cons rfl (fun K' hK => ?_) AllReadyH.nil)
          · have cq : (wq.drew).cell? ⟨b, 3, none⟩ = some (.slice (some ⟨g, 0, none⟩) (m + 1) vc) := (PRq.out.nw nb).cs.2.2.2
            have lq := heap_lt (PRq.out.nw nb).blk
            have cq0 : wq.cell? ⟨b, 3, none⟩ = some (.slice (some ⟨g, 0, none⟩) (m + 1) vc) := PRq.out.cs.2.2.2
            have lq0 := heap_lt PRq.out.blk
            go_simp
            refine hK.out _ _ (KP.out _ (nb)) (fun hS0 => ?_)
            try simp only [Act.put, List.setIfInBounds_toArray, List.set_cons_zero, List.set_cons_succ]
            refine wpAnyH_ready (rs := [6]) (by kernel_rfl) (by simp) ?_
            refine AllReadyH.cons rfl (fun K' hK => ?_) AllReadyH.nil
            show if Region.wanted (Oper.mk _ _ _ _ _ _) _ = true then _ else _
            refine step_build1 rfl (.tmp 46) 28 68 rfl u.c (by kernel_rfl) (build1t u.c hu34) ?_
            have n1 : Nw wq (wq.drew.alloc (.cells u.c 68)) := nb.tr (nwa _ _)
            have TN := tre_new wq.drew u 68
            refine hK.out _ _ (KP.out _ (n1)) (fun hS0 => ?_)
            try simp only [Act.put, List.setIfInBounds_toArray, List.set_cons_zero, List.set_cons_succ]
            refine wpAnyH_ready (rs := [7]) (by kernel_rfl) (by simp) ?_
            refine AllReadyH.cons rfl (fun K' hK => ?_) AllReadyH.nil
            have R1 := PRq.out.nw n1
            have hTl : (T.take (m + 1)).length = (m + 1) := PRq_len
            have o1 := R1.own
            rw [hTl] at o1
            show if Region.wanted (Oper.mk _ _ _ _ _ _) _ = true then _ else _
            refine step_two rfl (.tmp 45) (.tmp 47) 28 rfl base 68 i0 (.agg zt.c) 34 48 Tryd.underlying28 hi hz0 hz1 hz2 zt34 (by decide) (.slice (some ⟨g, 0, none⟩) (m + 1) vc) (m + 1) (tsc (T.take (m + 1))) (by kernel_rfl) o1 ⟨wq.drew.heap.size, 0, none⟩ 1 1 u.c.toList (by kernel_rfl) (by rw [Array.length_toList, hu34]) TN (Tre.one _) (by unfold maxLen; omega) (by omega) R1.lt.2 ?_
            intro v' w5 o5 t5
            have QP := Rg.put PRq.out HU.out n1 (by rw [hTl]; exact o5) (by rw [hTl]; exact t5)
            obtain ⟨xa, xc, rfl⟩ := ownsRow_form o5
            obtain ⟨hb5, R5, S5, F5⟩ := QP
            have htb5 : w5.heap[tb]? = some (.cells u.c 68) := (t5.fr.block tb (heap_lt (KP.out _ n1)) (fun q => TBne.out _ q rfl)).trans (KP.out _ n1)
            have cb5 : w5.cell? ⟨b, 3, none⟩ = some (.slice (some ⟨g, 0, none⟩) (m + 1) vc) := (cell_of hb5 3).trans rfl
            have fb5 := frozen_of hb5 3
            have lb5 := heap_lt hb5
            refine hK.out _ _ ((htb5)) (fun hS0 => ?_)
            try simp only [Act.put, List.setIfInBounds_toArray, List.set_cons_zero, List.set_cons_succ]
            refine wpAnyH_take (i := 8) (v := .pointer (some ⟨b, 0, none⟩)) rfl (by kernel_rfl) (by kernel_rfl) (by kernel_rfl) (fun _ _ _ h => h) (Or.inl ⟨by rfl, by intro w hw; go_simp⟩) hS0 ?_
            try simp only [Act.put, List.setIfInBounds_toArray, List.set_cons_zero, List.set_cons_succ]
            refine wpAnyH_take (i := 9) (v := .pointer (some ⟨b, 3, none⟩)) rfl (by kernel_rfl) (by kernel_rfl) (by kernel_rfl) (fun _ _ _ h => h) (Or.inl ⟨by rfl, by intro w hw; go_simp⟩) hS0 ?_
            try simp only [Act.put, List.setIfInBounds_toArray, List.set_cons_zero, List.set_cons_succ]
            refine wpAnyH_ready (rs := [10]) (by kernel_rfl) (by simp) ?_
            refine AllReadyH.cons rfl (fun K' hK => ?_) AllReadyH.nil
            go_simp
            refine hK.out _ _ ?_ (fun hS0 => ?_)
            · exact hp_ne (by omega) htb5
            try simp only [Act.put, List.setIfInBounds_toArray, List.set_cons_zero, List.set_cons_succ]
            refine wpAnyH_done (by kernel_rfl) ?_ _
            go_wp2_with fail
            try rw [Exit.noGoto_normal]
            go_end0
            rw [hp1.out] at R5
            exact ⟨rfl, .slice xa ((m + 1) + 1) xc, R5, FIN1.out w5 _ S5, FIN2.out _ F5⟩
          · show if Region.wanted (Oper.mk _ _ _ _ _ _) _ = true then _ else _
            refine step_build1 rfl (.tmp 46) 28 68 rfl u.c (by kernel_rfl) (build1t u.c hu34) ?_
            have n1 : Nw wq (wq.drew.alloc (.cells u.c 68)) := nb.tr (nwa _ _)
            have TN := tre_new wq.drew u 68
            refine hK.out _ _ (KP.out _ (n1)) (fun hS0 => ?_)
            try simp only [Act.put, List.setIfInBounds_toArray, List.set_cons_zero, List.set_cons_succ]
            refine wpAnyH_ready (rs := [4]) (by kernel_rfl) (by simp) ?_
            refine AllReadyH.cons rfl (fun K' hK => ?_) AllReadyH.nil
            have cq : (wq.drew.alloc (.cells u.c 68)).cell? ⟨b, 3, none⟩ = some (.slice (some ⟨g, 0, none⟩) (m + 1) vc) := (PRq.out.nw n1).cs.2.2.2
            have lq := heap_lt (PRq.out.nw n1).blk
            have cq0 : wq.cell? ⟨b, 3, none⟩ = some (.slice (some ⟨g, 0, none⟩) (m + 1) vc) := PRq.out.cs.2.2.2
            have lq0 := heap_lt PRq.out.blk
            go_simp
            refine hK.out _ _ (KP.out _ (n1)) (fun hS0 => ?_)
            try simp only [Act.put, List.setIfInBounds_toArray, List.set_cons_zero, List.set_cons_succ]
            refine wpAnyH_ready (rs := [7]) (by kernel_rfl) (by simp) ?_
            refine AllReadyH.cons rfl (fun K' hK => ?_) AllReadyH.nil
            have R1 := PRq.out.nw n1
            have hTl : (T.take (m + 1)).length = (m + 1) := PRq_len
            have o1 := R1.own
            rw [hTl] at o1
            show if Region.wanted (Oper.mk _ _ _ _ _ _) _ = true then _ else _
            refine step_two rfl (.tmp 45) (.tmp 47) 28 rfl base 68 i0 (.agg zt.c) 34 48 Tryd.underlying28 hi hz0 hz1 hz2 zt34 (by decide) (.slice (some ⟨g, 0, none⟩) (m + 1) vc) (m + 1) (tsc (T.take (m + 1))) (by kernel_rfl) o1 ⟨wq.drew.heap.size, 0, none⟩ 1 1 u.c.toList (by kernel_rfl) (by rw [Array.length_toList, hu34]) TN (Tre.one _) (by unfold maxLen; omega) (by omega) R1.lt.2 ?_
            intro v' w5 o5 t5
            have QP := Rg.put PRq.out HU.out n1 (by rw [hTl]; exact o5) (by rw [hTl]; exact t5)
            obtain ⟨xa, xc, rfl⟩ := ownsRow_form o5
            obtain ⟨hb5, R5, S5, F5⟩ := QP
            have htb5 : w5.heap[tb]? = some (.cells u.c 68) := (t5.fr.block tb (heap_lt (KP.out _ n1)) (fun q => TBne.out _ q rfl)).trans (KP.out _ n1)
            have cb5 : w5.cell? ⟨b, 3, none⟩ = some (.slice (some ⟨g, 0, none⟩) (m + 1) vc) := (cell_of hb5 3).trans rfl
            have fb5 := frozen_of hb5 3
            have lb5 := heap_lt hb5
            refine hK.out _ _ ((htb5)) (fun hS0 => ?_)
            try simp only [Act.put, List.setIfInBounds_toArray, List.set_cons_zero, List.set_cons_succ]
            refine wpAnyH_take (i := 8) (v := .pointer (some ⟨b, 0, none⟩)) rfl (by kernel_rfl) (by kernel_rfl) (by kernel_rfl) (fun _ _ _ h => h) (Or.inl ⟨by rfl, by intro w hw; go_simp⟩) hS0 ?_
            try simp only [Act.put, List.setIfInBounds_toArray, List.set_cons_zero, List.set_cons_succ]
            refine wpAnyH_take (i := 9) (v := .pointer (some ⟨b, 3, none⟩)) rfl (by kernel_rfl) (by kernel_rfl) (by kernel_rfl) (fun _ _ _ h => h) (Or.inl ⟨by rfl, by intro w hw; go_simp⟩) hS0 ?_
            try simp only [Act.put, List.setIfInBounds_toArray, List.set_cons_zero, List.set_cons_succ]
            refine wpAnyH_ready (rs := [10]) (by kernel_rfl) (by simp) ?_
            refine AllReadyH.cons rfl (fun K' hK => ?_) AllReadyH.nil
            go_simp
            refine hK.out _ _ ?_ (fun hS0 => ?_)
            · exact hp_ne (by omega) htb5
            try simp only [Act.put, List.setIfInBounds_toArray, List.set_cons_zero, List.set_cons_succ]
            refine wpAnyH_done (by kernel_rfl) ?_ _
            go_wp2_with fail
            try rw [Exit.noGoto_normal]
            go_end0
            rw [hp1.out] at R5
            exact ⟨rfl, .slice xa ((m + 1) + 1) xc, R5, FIN1.out w5 _ S5, FIN2.out _ F5⟩
    · obtain rfl : k = 0 := by omega
      have hp0 := HP.out
      rw [List.take_zero, psh_nil] at hp0
      obtain ⟨wq, hwq⟩ : ∃ x, x = wr := ⟨_, rfl⟩
      subst hwq
      have PRq : Hid (Rg wq b base (.slice va 0 vc) B E ([] : List Tre)) := PR.out
      have PTq : Hid (wq.heap[tb]? = some (.cells u.c 68)) := PT.out
      have PRq_len : ([] : List Tre).length = 0 := rfl
      have TBne : Hid (∀ g, (Value.slice va 0 vc).ownBlock = some g → g ≠ tb) := TB.out 0
      have FIN1 : Hid (∀ V v', Stays wq (.slice va 0 vc) v' → Stays w (.slice va n vc) v') := F1.out 0
      have FIN2 : Hid (∀ V, Fr (fun j => j = b ∨ (Value.slice va 0 vc).ownBlock = some j) wq V → Fr (fun j => j = b ∨ (Value.slice va n vc).ownBlock = some j) w V) := F2.out 0
      have hp1 : Hid ([] ++ [u] = psh T t) := hp0
      clear hp0 PR PT
      go_upto_region 7 with fail
      have KP : Hid (∀ V, Nw wq V → V.heap[tb]? = some (.cells u.c 68)) := fun V nV => (nV.block _ (heap_lt PTq.out) (fun f => f)).trans PTq.out
      have hu34 : u.c.size = 34 := Tre.size HU.out.h32
      have nb : Nw wq wq.drew := (Fr.refl _ _).drew
      refine wp_region_held_drew (S := fun V => V.heap[tb]? = some (.cells u.c 68)) (by kernel_rfl) (KP.out _ nb) ?_
      intro hS0
      refine wpAnyH_take (i := 0) (v := .pointer (some ⟨b, 0, none⟩)) rfl (by kernel_rfl) (by kernel_rfl) (by kernel_rfl) (fun _ _ _ h => h) (Or.inl ⟨by rfl, by intro w hw; go_simp⟩) hS0 ?_
      try simp only [Act.put, List.setIfInBounds_toArray, List.set_cons_zero, List.set_cons_succ]
      refine wpAnyH_take (i := 1) (v := .pointer (some ⟨b, 0, none⟩)) rfl (by kernel_rfl) (by kernel_rfl) (by kernel_rfl) (fun _ _ _ h => h) (Or.inl ⟨by rfl, by intro w hw; go_simp⟩) hS0 ?_
      try simp only [Act.put, List.setIfInBounds_toArray, List.set_cons_zero, List.set_cons_succ]
      refine wpAnyH_take (i := 2) (v := .pointer (some ⟨b, 0, none⟩)) rfl (by kernel_rfl) (by kernel_rfl) (by kernel_rfl) (fun _ _ _ h => h) (Or.inl ⟨by rfl, by intro w hw; go_simp⟩) hS0 ?_
      try simp only [Act.put, List.setIfInBounds_toArray, List.set_cons_zero, List.set_cons_succ]
      refine wpAnyH_take (i := 3) (v := .pointer (some ⟨b, 3, none⟩)) rfl (by kernel_rfl) (by kernel_rfl) (by kernel_rfl) (fun _ _ _ h => h) (Or.inl ⟨by rfl, by intro w hw; go_simp⟩) hS0 ?_
      try simp only [Act.put, List.setIfInBounds_toArray, List.set_cons_zero, List.set_cons_succ]
      refine wpAnyH_take (i := 5) (v := .agg u.c) rfl (by kernel_rfl) (by kernel_rfl) (by kernel_rfl) (fun _ _ _ h => h) (yields_load_agg rfl (.tmp 3) 68 34 rfl Tryd.isAgg68 Tryd.sizeOf68 tb (by kernel_rfl) 68 u.c hu34 (fun V hV => hV)) hS0 ?_
      try simp only [Act.put, List.setIfInBounds_toArray, List.set_cons_zero, List.set_cons_succ]
      refine wpAnyH_ready (rs := [4, 6]) (by kernel_rfl) (by simp) ?_
      refine AllReadyH.cons rfl (fun K' hK => ?_) (AllReadyH.cons rfl (fun K' hK => ?_) AllReadyH.nil)
      · have cq : (wq.drew).cell? ⟨b, 3, none⟩ = some (.slice va 0 vc) := (PRq.out.nw nb).cs.2.2.2
        have lq := heap_lt (PRq.out.nw nb).blk
        have cq0 : wq.cell? ⟨b, 3, none⟩ = some (.slice va 0 vc) := PRq.out.cs.2.2.2
        have lq0 := heap_lt PRq.out.blk
        go_simp
        refine hK.out _ _ (KP.out _ (nb)) (fun hS0 => ?_)
        try simp only [Act.put, List.setIfInBounds_toArray, List.set_cons_zero, List.set_cons_succ]
        refine wpAnyH_ready (rs := [6]) (by kernel_rfl) (by simp) ?_
        refine AllReadyH.cons rfl (fun K' hK => ?_) AllReadyH.nil
        show if Region.wanted (Oper.mk _ _ _ _ _ _) _ = true then _ else _
        refine step_build1 rfl (.tmp 46) 28 68 rfl u.c (by kernel_rfl) (build1t u.c hu34) ?_
        have n1 : Nw wq (wq.drew.alloc (.cells u.c 68)) := nb.tr (nwa _ _)
        have TN := tre_new wq.drew u 68
        refine hK.out _ _ (KP.out _ (n1)) (fun hS0 => ?_)
        try simp only [Act.put, List.setIfInBounds_toArray, List.set_cons_zero, List.set_cons_succ]
        refine wpAnyH_ready (rs := [7]) (by kernel_rfl) (by simp) ?_
        refine AllReadyH.cons rfl (fun K' hK => ?_) AllReadyH.nil
        have R1 := PRq.out.nw n1
        have hTl : ([]).length = 0 := PRq_len
        have o1 := R1.own
        rw [hTl] at o1
        show if Region.wanted (Oper.mk _ _ _ _ _ _) _ = true then _ else _
        refine step_two rfl (.tmp 45) (.tmp 47) 28 rfl base 68 i0 (.agg zt.c) 34 48 Tryd.underlying28 hi hz0 hz1 hz2 zt34 (by decide) (.slice va 0 vc) 0 (tsc ([])) (by kernel_rfl) o1 ⟨wq.drew.heap.size, 0, none⟩ 1 1 u.c.toList (by kernel_rfl) (by rw [Array.length_toList, hu34]) TN (Tre.one _) (by unfold maxLen; omega) (by omega) R1.lt.2 ?_
        intro v' w5 o5 t5
        have QP := Rg.put PRq.out HU.out n1 (by rw [hTl]; exact o5) (by rw [hTl]; exact t5)
        obtain ⟨xa, xc, rfl⟩ := ownsRow_form o5
        obtain ⟨hb5, R5, S5, F5⟩ := QP
        have htb5 : w5.heap[tb]? = some (.cells u.c 68) := (t5.fr.block tb (heap_lt (KP.out _ n1)) (fun q => TBne.out _ q rfl)).trans (KP.out _ n1)
        have cb5 : w5.cell? ⟨b, 3, none⟩ = some (.slice va 0 vc) := (cell_of hb5 3).trans rfl
        have fb5 := frozen_of hb5 3
        have lb5 := heap_lt hb5
        refine hK.out _ _ ((htb5)) (fun hS0 => ?_)
        try simp only [Act.put, List.setIfInBounds_toArray, List.set_cons_zero, List.set_cons_succ]
        refine wpAnyH_take (i := 8) (v := .pointer (some ⟨b, 0, none⟩)) rfl (by kernel_rfl) (by kernel_rfl) (by kernel_rfl) (fun _ _ _ h => h) (Or.inl ⟨by rfl, by intro w hw; go_simp⟩) hS0 ?_
        try simp only [Act.put, List.setIfInBounds_toArray, List.set_cons_zero, List.set_cons_succ]
        refine wpAnyH_take (i := 9) (v := .pointer (some ⟨b, 3, none⟩)) rfl (by kernel_rfl) (by kernel_rfl) (by kernel_rfl) (fun _ _ _ h => h) (Or.inl ⟨by rfl, by intro w hw; go_simp⟩) hS0 ?_
        try simp only [Act.put, List.setIfInBounds_toArray, List.set_cons_zero, List.set_cons_succ]
        refine wpAnyH_ready (rs := [10]) (by kernel_rfl) (by simp) ?_
        refine AllReadyH.cons rfl (fun K' hK => ?_) AllReadyH.nil
        go_simp
        refine hK.out _ _ ?_ (fun hS0 => ?_)
        · exact hp_ne (by omega) htb5
        try simp only [Act.put, List.setIfInBounds_toArray, List.set_cons_zero, List.set_cons_succ]
        refine wpAnyH_done (by kernel_rfl) ?_ _
        go_wp2_with fail
        try rw [Exit.noGoto_normal]
        go_end0
        rw [hp1.out] at R5
        exact ⟨rfl, .slice xa (0 + 1) xc, R5, FIN1.out w5 _ S5, FIN2.out _ F5⟩
      · show if Region.wanted (Oper.mk _ _ _ _ _ _) _ = true then _ else _
        refine step_build1 rfl (.tmp 46) 28 68 rfl u.c (by kernel_rfl) (build1t u.c hu34) ?_
        have n1 : Nw wq (wq.drew.alloc (.cells u.c 68)) := nb.tr (nwa _ _)
        have TN := tre_new wq.drew u 68
        refine hK.out _ _ (KP.out _ (n1)) (fun hS0 => ?_)
        try simp only [Act.put, List.setIfInBounds_toArray, List.set_cons_zero, List.set_cons_succ]
        refine wpAnyH_ready (rs := [4]) (by kernel_rfl) (by simp) ?_
        refine AllReadyH.cons rfl (fun K' hK => ?_) AllReadyH.nil
        have cq : (wq.drew.alloc (.cells u.c 68)).cell? ⟨b, 3, none⟩ = some (.slice va 0 vc) := (PRq.out.nw n1).cs.2.2.2
        have lq := heap_lt (PRq.out.nw n1).blk
        have cq0 : wq.cell? ⟨b, 3, none⟩ = some (.slice va 0 vc) := PRq.out.cs.2.2.2
        have lq0 := heap_lt PRq.out.blk
        go_simp
        refine hK.out _ _ (KP.out _ (n1)) (fun hS0 => ?_)
        try simp only [Act.put, List.setIfInBounds_toArray, List.set_cons_zero, List.set_cons_succ]
        refine wpAnyH_ready (rs := [7]) (by kernel_rfl) (by simp) ?_
        refine AllReadyH.cons rfl (fun K' hK => ?_) AllReadyH.nil
        have R1 := PRq.out.nw n1
        have hTl : ([]).length = 0 := PRq_len
        have o1 := R1.own
        rw [hTl] at o1
        show if Region.wanted (Oper.mk _ _ _ _ _ _) _ = true then _ else _
        refine step_two rfl (.tmp 45) (.tmp 47) 28 rfl base 68 i0 (.agg zt.c) 34 48 Tryd.underlying28 hi hz0 hz1 hz2 zt34 (by decide) (.slice va 0 vc) 0 (tsc ([])) (by kernel_rfl) o1 ⟨wq.drew.heap.size, 0, none⟩ 1 1 u.c.toList (by kernel_rfl) (by rw [Array.length_toList, hu34]) TN (Tre.one _) (by unfold maxLen; omega) (by omega) R1.lt.2 ?_
        intro v' w5 o5 t5
        have QP := Rg.put PRq.out HU.out n1 (by rw [hTl]; exact o5) (by rw [hTl]; exact t5)
        obtain ⟨xa, xc, rfl⟩ := ownsRow_form o5
        obtain ⟨hb5, R5, S5, F5⟩ := QP
        have htb5 : w5.heap[tb]? = some (.cells u.c 68) := (t5.fr.block tb (heap_lt (KP.out _ n1)) (fun q => TBne.out _ q rfl)).trans (KP.out _ n1)
        have cb5 : w5.cell? ⟨b, 3, none⟩ = some (.slice va 0 vc) := (cell_of hb5 3).trans rfl
        have fb5 := frozen_of hb5 3
        have lb5 := heap_lt hb5
        refine hK.out _ _ ((htb5)) (fun hS0 => ?_)
        try simp only [Act.put, List.setIfInBounds_toArray, List.set_cons_zero, List.set_cons_succ]
        refine wpAnyH_take (i := 8) (v := .pointer (some ⟨b, 0, none⟩)) rfl (by kernel_rfl) (by kernel_rfl) (by kernel_rfl) (fun _ _ _ h => h) (Or.inl ⟨by rfl, by intro w hw; go_simp⟩) hS0 ?_
        try simp only [Act.put, List.setIfInBounds_toArray, List.set_cons_zero, List.set_cons_succ]
        refine wpAnyH_take (i := 9) (v := .pointer (some ⟨b, 3, none⟩)) rfl (by kernel_rfl) (by kernel_rfl) (by kernel_rfl) (fun _ _ _ h => h) (Or.inl ⟨by rfl, by intro w hw; go_simp⟩) hS0 ?_
        try simp only [Act.put, List.setIfInBounds_toArray, List.set_cons_zero, List.set_cons_succ]
        refine wpAnyH_ready (rs := [10]) (by kernel_rfl) (by simp) ?_
        refine AllReadyH.cons rfl (fun K' hK => ?_) AllReadyH.nil
        go_simp
        refine hK.out _ _ ?_ (fun hS0 => ?_)
        · exact hp_ne (by omega) htb5
        try simp only [Act.put, List.setIfInBounds_toArray, List.set_cons_zero, List.set_cons_succ]
        refine wpAnyH_done (by kernel_rfl) ?_ _
        go_wp2_with fail
        try rw [Exit.noGoto_normal]
        go_end0
        rw [hp1.out] at R5
        exact ⟨rfl, .slice xa (0 + 1) xc, R5, FIN1.out w5 _ S5, FIN2.out _ F5⟩
end Go.Proofs.YthbimomhbeoieaaDoor
