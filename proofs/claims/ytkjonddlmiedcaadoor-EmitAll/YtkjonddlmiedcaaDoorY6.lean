/- emit: Add. -/
import Derived.Test.YtkjonddlmiedcaaDoorY5
namespace Go.Proofs.YtkjonddlmiedcaaDoor
open Go.RowKit Go.Shelf
set_option linter.unusedVariables false
set_option linter.unusedSimpArgs false
theorem nds_get (n : Nat) (L : List (List UInt8)) (x : List UInt8) (k i : Nat) (h : i < k) : (nds n L x k)[i]? = some ⟨i, n / 2 ^ i, nhs L x i⟩ := by simp [nds, h]
theorem tsc_getn : ∀ (l : List Tre), (∀ t ∈ l, t.H.length = 32) → ∀ (k : Nat) (t : Tre), l[k]? = some t → ∀ j, j < 34 → (tsc l)[k * 34 + j]? = t.c[j]?
  | [], _, k, h, hk, j, hj => by simp at hk
  | x :: r, hl, 0, h, hk, j, hj => by
    simp at hk; subst hk
    have h1 := Tre.size (hl x (by simp))
    simp only [tsc, List.flatMap_cons, Nat.zero_mul, Nat.zero_add]
    rw [List.getElem?_append_left (by rw [Array.length_toList]; omega)]
    simp
  | x :: r, hl, k + 1, h, hk, j, hj => by
    have h1 := Tre.size (hl x (by simp))
    have ih := tsc_getn r (fun y hy => hl y (by simp [hy])) k h (by simpa using hk) j hj
    simp only [tsc, List.flatMap_cons] at ih ⊢
    rw [List.getElem?_append_right (by rw [Array.length_toList]; omega), Array.length_toList, h1]
    have e : (k + 1) * 34 + j - 34 = k * 34 + j := by omega
    rw [e]; exact ih
/-- A told tree's hash in its row. -/
theorem tsc_hash {w : World} {base g c k : Nat} {n : Nat} {L : List (List UInt8)} {x : List UInt8} (hx : x.length = 32) (h : w.ownsRow base 38 34 (.slice (some ⟨g, 0, none⟩) k c) k (tsc (nds n L x k))) (i : Nat) (hi : i < k) : ∀ j, j < 32 → w.cell? ⟨g, i * 34 + 2 + j, none⟩ = (hbs (nhs L x i))[j]? := by
  intro j hj
  have h1 := tsc_getn (nds n L x k) (fun t ht => by
    simp only [nds, List.mem_map] at ht
    obtain ⟨q, _, rfl⟩ := ht
    exact nhs_len L x hx q) i _ (nds_get n L x k i hi) (2 + j) (by omega)
  rw [Tre.ch] at h1
  have hs : j < (hbs (nhs L x i)).size := by rw [hbs_size, nhs_len L x hx i]; exact hj
  have h5 : (hbs (nhs L x i))[j]? = some (hbs (nhs L x i))[j] := Array.getElem?_eq_getElem hs
  rw [h5] at h1 ⊢
  have := h.cells (g := g) rfl _ _ h1
  rw [addZ] at this
  rw [Nat.add_assoc]; exact this
theorem Bd.putn {w w2 w5 : World} {b base : Nat} {v v1 v' : Value} {n : Nat} {L M : List (List UInt8)} {y : List UInt8} (h : Bd w b base v n L) (hy : y.length = 32) (hM : ∀ x ∈ M, x.length = 32) (hv : v1.ownBlock = v.ownBlock) (n2 : Fr (fun k => v.ownBlock = some k) w w2)
    (o5 : w5.ownsRow base 32 32 v' (M.length + 1) (hsc M ++ (hbs y).toList)) (t5 : Two w2 w5 32 32 v1 v' M.length 1 (hsc M ++ (hbs y).toList)) :
    w5.heap[b]? = some (.cells #[.bool true, .int .u64 (n : Int), v] 57) ∧ Bd (w5.setCell ⟨b, 2, none⟩ v') b base v' n (M ++ [y]) ∧ Stays w v v' ∧ Fr (fun k => k = b ∨ v.ownBlock = some k) w (w5.setCell ⟨b, 2, none⟩ v') := by
  have hlt := h.lt
  have hb2 := (n2.block b (heap_lt h.blk) (fun q => h.ne b q rfl)).trans h.blk
  have hb5 := (t5.fr.block b (heap_lt hb2) (fun q => h.ne b (by rw [← hv]; exact q) rfl)).trans hb2
  have s2 := n2.size
  have s5 := t5.fr.size
  have hst : Stays w v v' := by
    rcases t5.stays (by omega) with e | ⟨g0, e, hg⟩
    · exact .inl (e.trans hv)
    · exact .inr ⟨g0, e, by omega⟩
  have hne : ∀ g, v'.ownBlock = some g → g ≠ b := by
    rcases hst with e | ⟨g0, e, hg⟩
    · exact fun g q => h.ne g (by rw [← e]; exact q)
    · intro g q
      rw [e] at q
      cases q
      omega
  refine ⟨hb5, ⟨hp_set hb5 rfl, ?_, ?_, ?_, h.nb, hne⟩, hst, ?_⟩
  · rw [List.length_append, hsc_app, hsc_one]
    exact ownsRow_setCell_other o5 (fun q => hne _ q rfl) _
  · simp only [World.setCell, Array.size_modify]; omega
  · intro x hx
    rcases List.mem_append.1 hx with hx | hx
    · exact hM x hx
    · rw [List.mem_singleton.1 hx]; exact hy
  · refine Fr.setCell ?_ _ _ (fun _ => .inl rfl)
    exact (n2.mono (fun _ _ f => .inr f)).trans t5.fr (fun j _ q => .inr (by rw [← hv]; exact q))
set_option maxRecDepth 100000 in
set_option maxHeartbeats 8000000 in
theorem eadd_any {w : World} {b base : Nat} {v : Value} {n : Nat} {L : List (List UInt8)} (h : Bd w b base v n L) (hn : n < 9223372036854775808) (x : List UInt8) (hx : x.length = 32) (j : Nat) (hjc : j = Lib.ctz 64 (n + 1)) (hj : j ≤ L.length) (hm : ∀ i, i < j → may i (n / 2 ^ i) ∧ i < 63) (hl : L.length ≤ 1000000) (hL : Laid w) (hT : TabAt w) :
    Calls Tryd.prog 6 #[.pointer (some ⟨b, 0, none⟩), .agg (hbs x)] w fun e w' => ∃ tv v', e = .returned (.tuple #[tv, .nilIface]) ∧ w'.ownsRow w.heap.size 38 34 tv (j + 1) (tsc (nds n L x (j + 1))) ∧ Bd w' b base v' (n + 1) (L.take (L.length - j) ++ [nhs L x j]) ∧ Stays w v v' ∧ Fr (fun k => k = b ∨ v.ownBlock = some k) w w' := by
  obtain ⟨i0, hi0, hz0, hz1, hz2⟩ := info_parts infoHs
  obtain ⟨va, vc, rfl⟩ := ownsRow_form h.own
  obtain ⟨m, hmm⟩ : ∃ m, m = L.length := ⟨_, rfl⟩
  have HLm : Hid (L.length = m) := hmm.symm
  have HB : Hid (Bd w b base (.slice va m vc) n L) := by rw [hmm]; exact h
  have HL : Hid (Laid w) := hL
  have HX : Hid (x.length = 32) := hx
  have hxs : (hbs x).size = 32 := by rw [hbs_size, hx]
  have QT : Hid (∀ V, Nw w V → Calls Tryd.prog 21 #[.int .u64 ((n : Int) + 1)] V fun e w' => e = .returned (.int .i64 (j : Int)) ∧ w' = V) := fun V nV => by
    have q := tz_any (n + 1) (by omega) V (hT.nw nV)
    rw [← hjc, show ((n + 1 : Nat) : Int) = (n : Int) + 1 by omega] at q
    exact q
  have QH : Hid (∀ V, Nw w V → Calls Tryd.prog 22 #[.pointer (some ⟨b, 0, none⟩), .agg (hbs x), .int .i64 (j : Int)] V fun e w' => ∃ v', e = .returned v' ∧ w'.ownsRow V.heap.size 38 34 v' (j + 1) (tsc (nds n L x (j + 1))) ∧ Nw V w') := fun V nV => whole_any (HB.out.nw nV) x HX.out j hj hn hm hl (HL.out.nw nV)
  rw [← hmm] at hj hl ⊢
  obtain ⟨lf, hlf⟩ : ∃ lf, lf = m - j := ⟨_, rfl⟩
  have HLF : Hid (lf = m - j) := hlf
  have elf : (m : Int) - (j : Int) = (lf : Int) := by omega
  rw [← hlf]
  have hni : (n : Int) < 9223372036854775808 := by omega
  have hnd : decide ((9223372036854775808 : Int) ≤ (n : Int)) = false := by rw [decide_eq_false_iff_not]; omega
  have hnw : IntKind.u64.wrap ((n : Int) + 1) = (n : Int) + 1 := by rw [w64]; omega
  clear h hL hx hm hT hjc hmm hlf
  go_enter Tryd.func6, Tryd.ntmps6
  go_upto_region 1 with fail
  obtain ⟨w0, hw0⟩ : ∃ q, w.alloc (.cells (hbs x) 32) = q := ⟨_, rfl⟩
  have N0 : Hid (Nw w w0) := by show Nw _ _; rw [← hw0]; exact nwa w _
  have b0 : Hid (w0.heap[w.heap.size]? = some (.cells (hbs x) 32)) := by show _ = _; rw [← hw0]; exact heap_new _ _
  rw [hw0]
  clear hw0
  obtain ⟨xb, hxb⟩ : ∃ q, q = w.heap.size := ⟨_, rfl⟩
  rw [← hxb] at b0 ⊢
  have HXB : Hid (xb = w.heap.size) := hxb
  clear hxb
  have B0 := HB.out.nw N0.out
  have q := ethere_any b true _ _ _ B0.blk
  obtain ⟨_, c1, c2⟩ := B0.cs
  have lb := heap_lt B0.blk
  clear B0
  go_wp2_with fail
  refine q.mono ?_
  rintro e w1 ⟨rfl, rfl⟩
  clear q
  go_wp2_with fail
  refine (QT.out _ N0.out).mono ?_
  rintro e w2 ⟨rfl, rfl⟩
  go_wp2_with (refine wple_load_at rfl (.tmp 3) 32 32 rfl Tryd.isAgg32 Tryd.sizeOf32 xb 0 rfl (hbs x) hxs (hash_cells b0.out) ?_)
  refine (QH.out _ N0.out).mono ?_
  rintro e w3 ⟨tv, rfl, o3, n3⟩
  obtain ⟨tg, tc, rfl⟩ : ∃ tg tc, tv = .slice (some ⟨tg, 0, none⟩) (j + 1) tc := by
    rcases o3.2 with ⟨_, z⟩ | ⟨g', c', _, z, _⟩
    · omega
    · exact ⟨g', c', z⟩
  have O3 : Hid (w3.ownsRow w2.heap.size 38 34 (.slice (some ⟨tg, 0, none⟩) (j + 1) tc) (j + 1) (tsc (nds n L x (j + 1)))) := o3
  have N3 : Hid (Nw w w3) := N0.out.tr n3
  obtain ⟨V, w4, hsl, hcl, o4, f4⟩ := clear_tail (HB.out.nw N3.out) HLm.out lf (by omega)
  have HSL : Hid (∀ W : World, (Instr.sliceAt 22 (.slice va m vc) (some (.int .i64 (lf : Int))) none none).run Tryd.prog W = .ok V W) := hsl
  have HCL : Hid (∀ ty, (Builtin.clear_ #[22] ty #[V]).run Tryd.prog w3 = .ok (.tuple #[]) w4) := hcl
  have O4 : Hid (w4.ownsRow base 32 32 (.slice va lf vc) lf (hsc (L.take lf))) := o4
  have F4 : Hid (Fr (fun k => (Value.slice va m vc).ownBlock = some k) w w4) := (N3.out.mono (fun _ _ f => f.elim)).trans f4 (fun _ _ e => e)
  have OB : Hid ((Value.slice va lf vc).ownBlock = (Value.slice va m vc).ownBlock) := by cases va <;> rfl
  have B3 := HB.out.nw N3.out
  have c23 := B3.cs.2.2
  have lb3 := heap_lt B3.blk
  have TG : Hid (w.heap.size ≤ tg ∧ tg < w3.heap.size) := ⟨Nat.le_trans N0.out.size (O3.out.lt tg rfl).1, (O3.out.lt tg rfl).2⟩
  have HT3 : Hid (∀ z, z < 32 → w3.cell? ⟨tg, j * 34 + 2 + z, none⟩ = (hbs (nhs L x j))[z]?) := tsc_hash HX.out O3.out j (by omega)
  obtain ⟨Y, hY⟩ : ∃ Y, Y = nhs L x j := ⟨_, rfl⟩
  have Y32 : Hid (Y.length = 32) := by rw [hY]; exact nhs_len L x HX.out j
  have hYs : (hbs Y).size = 32 := by rw [hbs_size, Y32.out]
  have HY : Hid (Y = nhs L x j) := hY
  rw [← hY] at HT3
  -- the told row lies apart from what the builder has
  have TA : Hid (∀ V' : World, Fr (fun k => k = b ∨ (Value.slice va m vc).ownBlock = some k ∨ w4.heap.size ≤ k) w3 V' → (∀ z, z < 32 → V'.cell? ⟨tg, j * 34 + 2 + z, none⟩ = (hbs Y)[z]?) ∧ V'.ownsRow w.heap.size 38 34 (.slice (some ⟨tg, 0, none⟩) (j + 1) tc) (j + 1) (tsc (nds n L x (j + 1)))) := fun V' fV => by
    have hd : ¬ (tg = b ∨ (Value.slice va m vc).ownBlock = some tg ∨ w4.heap.size ≤ tg) := by
      have t1 := TG.out
      have l1 := HB.out.lt
      have l2 := f4.size
      rintro (e | e | e)
      · omega
      · have := (HB.out.own.lt tg e).2; omega
      · omega
    refine ⟨fun z hz => (fV.cell (p := ⟨tg, j * 34 + 2 + z, none⟩) TG.out.2 hd).trans (HT3.out z hz), ownsRow_base (ownsRow_keep O3.out (fun g hg => fV.block g (O3.out.lt g hg).2 (fun q => ?_))) N0.out.size⟩
    cases hg
    exact hd q
  have S3 : Hid (w3.heap.size ≤ w4.heap.size) := f4.size
  have FF : Hid (Fr (fun k => (Value.slice va m vc).ownBlock = some k) w3 w4) := f4
  clear o3 n3 hsl hcl o4 f4 hY B3 c1 c2 lb QT QH
  go_wp2_with first
    | refine wple_cut rfl (.tmp 39) (.tmp 40) rfl (.slice va m vc) (.int .i64 (lf : Int)) V rfl rfl (HSL.out _) ?_
    | refine wple_clear rfl (.tmp 41) rfl V rfl w4 HCL.out ?_
  go_upto_region 9 with fail
  have TA4 : Hid (∀ V', Nw w4 V' → ∀ z, z < 32 → V'.cell? ⟨tg, j * 34 + 2 + z, none⟩ = (hbs Y)[z]?) := fun V' nV => (TA.out V' ((FF.out.mono (fun _ _ e => .inr (.inl e))).trans nV (fun _ _ f => f.elim))).1
  have c24 : ∀ V', Nw w4 V' → V'.cell? ⟨b, 2, none⟩ = some (.slice va m vc) := fun V' nV => nV.cellOf ((F4.out.cell (p := ⟨b, 2, none⟩) (heap_lt HB.out.blk) (fun q => HB.out.ne b q rfl)).trans HB.out.cs.2.2)
  have C24 : Hid (∀ V', Nw w4 V' → V'.cell? ⟨b, 2, none⟩ = some (.slice va m vc)) := c24
  have hb4 : b < w4.heap.size := Nat.lt_of_lt_of_le (heap_lt HB.out.blk) F4.out.size
  have HB4 : Hid (b < w4.heap.size) := hb4
  have hcap : lf ≤ vc := by
    rcases HB.out.own.2 with ⟨z, z2⟩ | ⟨g', c', cur, z, _, _, z3, _⟩
    · simp only [Value.slice.injEq] at z; have := HLF.out; have := HLm.out; omega
    · simp only [Value.slice.injEq] at z; have := HLF.out; have := HLm.out; omega
  have HCAP : Hid (lf ≤ vc ∧ lf ≤ m) := ⟨hcap, by have := HLF.out; omega⟩
  have M32 : Hid (∀ z ∈ L.take lf, z.length = 32) := fun z hz => HB.out.ok z (List.mem_of_mem_take hz)
  have MLF : Hid ((L.take lf).length = lf) := by show _ = _; rw [List.length_take, HLm.out]; have := HLF.out; omega
  have nb : Nw w4 w4.drew := (Fr.refl _ _).drew
  clear c23 lb3 c24 hb4 hcap hnd hnw hni elf
  refine wp_region_held_drew (S := fun V' => ∀ z, z < 32 → V'.cell? ⟨tg, j * 34 + 2 + z, none⟩ = (hbs Y)[z]?) (by kernel_rfl) (TA4.out _ nb) ?_
  intro hS0
  refine wpAnyH_take (i := 0) (oi := Oper.mk (some 42) _ _ _ _ _) (v := .pointer (some ⟨b, 0, none⟩)) rfl (by kernel_rfl) (by kernel_rfl) (by kernel_rfl) (fun _ _ _ h => h) (Or.inl ⟨by kernel_rfl, by intro w hw; go_simp⟩) hS0 ?_
  try simp only [Act.put, List.setIfInBounds_toArray, List.set_cons_zero, List.set_cons_succ]
  refine wpAnyH_take (i := 1) (oi := Oper.mk (some 43) _ _ _ _ _) (v := .pointer (some ⟨b, 0, none⟩)) rfl (by kernel_rfl) (by kernel_rfl) (by kernel_rfl) (fun _ _ _ h => h) (Or.inl ⟨by kernel_rfl, by intro w hw; go_simp⟩) hS0 ?_
  try simp only [Act.put, List.setIfInBounds_toArray, List.set_cons_zero, List.set_cons_succ]
  refine wpAnyH_take (i := 2) (oi := Oper.mk (some 44) _ _ _ _ _) (v := .pointer (some ⟨b, 0, none⟩)) rfl (by kernel_rfl) (by kernel_rfl) (by kernel_rfl) (fun _ _ _ h => h) (Or.inl ⟨by kernel_rfl, by intro w hw; go_simp⟩) hS0 ?_
  try simp only [Act.put, List.setIfInBounds_toArray, List.set_cons_zero, List.set_cons_succ]
  refine wpAnyH_take (i := 3) (oi := Oper.mk (some 45) _ _ _ _ _) (v := .pointer (some ⟨b, 2, none⟩)) rfl (by kernel_rfl) (by kernel_rfl) (by kernel_rfl) (fun _ _ _ h => h) (Or.inl ⟨by kernel_rfl, by intro w hw; go_simp⟩) hS0 ?_
  try simp only [Act.put, List.setIfInBounds_toArray, List.set_cons_zero, List.set_cons_succ]
  refine wpAnyH_take (i := 5) (oi := Oper.mk (some 47) _ _ _ _ _) (v := .int .i64 (lf : Int)) rfl (by kernel_rfl) (by kernel_rfl) (by kernel_rfl) (fun _ _ _ h => h) (Or.inl ⟨by kernel_rfl, by intro w hw; go_simp⟩) hS0 ?_
  try simp only [Act.put, List.setIfInBounds_toArray, List.set_cons_zero, List.set_cons_succ]
  refine wpAnyH_take (i := 7) (oi := Oper.mk (some 49) _ _ _ _ _) (v := .slice (some ⟨tg, 0, none⟩) (j + 1) tc) rfl (by kernel_rfl) (by kernel_rfl) (by kernel_rfl) (fun _ _ _ h => h) (Or.inl ⟨by kernel_rfl, by intro w hw; go_simp⟩) hS0 ?_
  try simp only [Act.put, List.setIfInBounds_toArray, List.set_cons_zero, List.set_cons_succ]
  refine wpAnyH_take (i := 8) (oi := Oper.mk (some 50) _ _ _ _ _) (v := .int .i64 (j : Int)) rfl (by kernel_rfl) (by kernel_rfl) (by kernel_rfl) (fun _ _ _ h => h) (Or.inl ⟨by kernel_rfl, by intro w hw; go_simp⟩) hS0 ?_
  try simp only [Act.put, List.setIfInBounds_toArray, List.set_cons_zero, List.set_cons_succ]
  refine wpAnyH_take (i := 9) (oi := Oper.mk (some 51) _ _ _ _ _) (v := .pointer (some ⟨tg, j * 34, none⟩)) rfl (by kernel_rfl) (by kernel_rfl) (by kernel_rfl) (fun _ _ _ h => h) (Or.inl ⟨by kernel_rfl, by intro w hw; go_simp; intro hh; exact absurd hh (by omega)⟩) hS0 ?_
  try simp only [Act.put, List.setIfInBounds_toArray, List.set_cons_zero, List.set_cons_succ]
  refine wpAnyH_take (i := 10) (oi := Oper.mk (some 52) _ _ _ _ _) (v := .pointer (some ⟨tg, j * 34 + 2, none⟩)) rfl (by kernel_rfl) (by kernel_rfl) (by kernel_rfl) (fun _ _ _ h => h) (Or.inl ⟨by kernel_rfl, by intro w hw; go_simp⟩) hS0 ?_
  try simp only [Act.put, List.setIfInBounds_toArray, List.set_cons_zero, List.set_cons_succ]
  refine wpAnyH_take (i := 11) (oi := Oper.mk (some 53) _ _ _ _ _) (v := .agg (hbs Y)) rfl (by kernel_rfl) (by kernel_rfl) (by kernel_rfl) (fun _ _ _ h => h) (yields_load_at rfl (.tmp 52) 32 32 rfl Tryd.isAgg32 Tryd.sizeOf32 tg (j * 34 + 2) (by kernel_rfl) (hbs Y) hYs (fun V hV => hV)) hS0 ?_
  try simp only [Act.put, List.setIfInBounds_toArray, List.set_cons_zero, List.set_cons_succ]
  refine wpAnyH_ready (rs := [4, 12]) (by kernel_rfl) (by simp) ?_
  refine AllReadyH.cons rfl (fun K' hK => ?_) (AllReadyH.cons rfl (fun K' hK => ?_) AllReadyH.nil)
  · have cq := C24.out (w4.drew) nb
    have lq : b < (w4.drew).heap.size := Nat.lt_of_lt_of_le HB4.out (nb).size
    have cq0 := C24.out w4 (nwr w4)
    have lq0 := HB4.out
    go_simp
    refine hK.out _ _ (TA4.out _ (nb)) (fun hS0 => ?_)
    try simp only [Act.put, List.setIfInBounds_toArray, List.set_cons_zero, List.set_cons_succ]
    refine wpAnyH_take (i := 6) (oi := Oper.mk (some 48) _ _ _ _ _) (v := .slice va lf vc) rfl (by kernel_rfl) (by kernel_rfl) (by kernel_rfl) (fun _ _ _ h => h) (Or.inl ⟨by kernel_rfl, by intro w hw; have a1 := HCAP.out.1; have a2 := HCAP.out.2; go_simp⟩) hS0 ?_
    try simp only [Act.put, List.setIfInBounds_toArray, List.set_cons_zero, List.set_cons_succ]
    refine wpAnyH_ready (rs := [12]) (by kernel_rfl) (by simp) ?_
    refine AllReadyH.cons rfl (fun K' hK => ?_) AllReadyH.nil
    show if Region.wanted (Oper.mk _ _ _ _ _ _) _ = true then _ else _
    refine step_build1 rfl (.tmp 53) 22 32 rfl (hbs Y) (by kernel_rfl) (build1 (hbs Y) hYs) ?_
    have n1 : Nw w4 (w4.drew.alloc (.cells (hbs Y) 32)) := nb.tr (nwa _ _)
    have TN := hash_new w4.drew (hbs Y) 32
    refine hK.out _ _ (TA4.out _ (n1)) (fun hS0 => ?_)
    try simp only [Act.put, List.setIfInBounds_toArray, List.set_cons_zero, List.set_cons_succ]
    refine wpAnyH_ready (rs := [13]) (by kernel_rfl) (by simp) ?_
    refine AllReadyH.cons rfl (fun K' hK => ?_) AllReadyH.nil
    have o1 : (w4.drew.alloc (.cells (hbs Y) 32)).ownsRow base 32 32 (.slice va lf vc) lf (hsc (L.take lf)) := ownsRow_keep O4.out (fun g hg => n1.block g (O4.out.lt g hg).2 (fun f => f))
    show if Region.wanted (Oper.mk _ _ _ _ _ _) _ = true then _ else _
    refine step_two rfl (.tmp 48) (.tmp 54) 22 rfl base 32 i0 (.agg z32) 32 32 Tryd.underlying22 hi0 hz0 hz1 hz2 z32_size (by decide) (.slice va lf vc) lf (hsc (L.take lf)) (by kernel_rfl) o1 ⟨w4.drew.heap.size, 0, none⟩ 1 1 (hbs Y).toList (by kernel_rfl) (by rw [Array.length_toList, hYs]) TN (hbs_one _) (by unfold maxLen; have := HCAP.out; omega) (by have := HCAP.out; omega) (Nat.le_trans (Nat.le_trans HB.out.lt.2 F4.out.size) n1.size) ?_
    intro v' w5 o5 t5
    have QP := Bd.putn HB.out Y32.out M32.out OB.out (F4.out.trans n1 (fun _ _ f => f.elim)) (by rw [MLF.out]; exact o5) (by rw [MLF.out]; exact t5)
    obtain ⟨ya, yc, rfl⟩ := ownsRow_form o5
    obtain ⟨hb5, R5, S5, F5⟩ := QP
    have f35 : Fr (fun k => k = b ∨ (Value.slice va m vc).ownBlock = some k ∨ w4.heap.size ≤ k) w3 w5 := ((FF.out.mono (fun _ _ e => .inr (.inl e))).trans n1 (fun _ _ f => f.elim)).trans t5.fr (fun k hk q => .inr (.inl (by rw [← OB.out]; exact q)))
    have KS := (TA.out w5 f35).1
    have cb5 : w5.cell? ⟨b, 2, none⟩ = some (.slice va m vc) := (cell_of hb5 2).trans rfl
    have fb5 := frozen_of hb5 2
    have lb5 := heap_lt hb5
    refine hK.out _ _ ((KS)) (fun hS0 => ?_)
    try simp only [Act.put, List.setIfInBounds_toArray, List.set_cons_zero, List.set_cons_succ]
    refine wpAnyH_take (i := 14) (oi := Oper.mk (some 56) _ _ _ _ _) (v := .pointer (some ⟨b, 0, none⟩)) rfl (by kernel_rfl) (by kernel_rfl) (by kernel_rfl) (fun _ _ _ h => h) (Or.inl ⟨by kernel_rfl, by intro w hw; go_simp⟩) hS0 ?_
    try simp only [Act.put, List.setIfInBounds_toArray, List.set_cons_zero, List.set_cons_succ]
    refine wpAnyH_take (i := 15) (oi := Oper.mk (some 57) _ _ _ _ _) (v := .pointer (some ⟨b, 2, none⟩)) rfl (by kernel_rfl) (by kernel_rfl) (by kernel_rfl) (fun _ _ _ h => h) (Or.inl ⟨by kernel_rfl, by intro w hw; go_simp⟩) hS0 ?_
    try simp only [Act.put, List.setIfInBounds_toArray, List.set_cons_zero, List.set_cons_succ]
    refine wpAnyH_ready (rs := [16]) (by kernel_rfl) (by simp) ?_
    refine AllReadyH.cons rfl (fun K' hK => ?_) AllReadyH.nil
    go_simp
    have f36 : Fr (fun k => k = b ∨ (Value.slice va m vc).ownBlock = some k ∨ w4.heap.size ≤ k) w3 (w5.setCell ⟨b, 2, none⟩ (.slice ya (lf + 1) yc)) := Fr.setCell f35 _ _ (fun _ => .inl rfl)
    refine hK.out _ _ (TA.out _ f36).1 (fun hS0 => ?_)
    try simp only [Act.put, List.setIfInBounds_toArray, List.set_cons_zero, List.set_cons_succ]
    refine wpAnyH_done (by kernel_rfl) ?_ _
    have R5' : Hid (Bd (w5.setCell ⟨b, 2, none⟩ (.slice ya (lf + 1) yc)) b base (.slice ya (lf + 1) yc) n (L.take lf ++ [Y])) := R5
    have F5' : Hid (Fr (fun k => k = b ∨ (Value.slice va m vc).ownBlock = some k) w (w5.setCell ⟨b, 2, none⟩ (.slice ya (lf + 1) yc))) := F5
    have S5' : Hid (Stays w (.slice va m vc) (.slice ya (lf + 1) yc)) := S5
    have T36 : Hid (Fr (fun k => k = b ∨ (Value.slice va m vc).ownBlock = some k ∨ w4.heap.size ≤ k) w3 (w5.setCell ⟨b, 2, none⟩ (.slice ya (lf + 1) yc))) := f36
    obtain ⟨w6, hw6⟩ : ∃ z, w5.setCell ⟨b, 2, none⟩ (.slice ya (lf + 1) yc) = z := ⟨_, rfl⟩
    rw [hw6] at R5' F5' T36 ⊢
    have d1 := R5'.out.cs.2.1
    have lb6 := heap_lt R5'.out.blk
    have fb6 := frozen_of R5'.out.blk 1
    have hnw : IntKind.u64.wrap ((n : Int) + 1) = (n : Int) + 1 := by rw [w64]; omega
    clear R5 F5 S5 f36 f35 KS cb5 fb5 lb5 hb5 o5 t5 o1 hw6 hS0 n1 TN
    go_wp2_with fail
    refine bodyPost_ret (v := .tuple #[.slice (some ⟨tg, 0, none⟩) (j + 1) tc, .nilIface]) (by simp [results, Tryd.results6]) rfl ?_
    have e1 : (n : Int) + 1 = ((n + 1 : Nat) : Int) := by omega
    have R6 := R5'.out
    rw [HY.out] at R6
    refine ⟨_, _, rfl, (TA.out _ (Fr.setCell T36.out _ _ (fun _ => .inl rfl))).2, ⟨by rw [← e1]; exact hp_set R6.blk rfl, ownsRow_setCell_other R6.own (fun q => R6.ne _ q rfl) _, by have := R6.lt; simp only [World.setCell, Array.size_modify]; omega, R6.ok, R6.nb, R6.ne⟩, S5'.out, Fr.setCell F5'.out _ _ (fun _ => .inl rfl)⟩
  · show if Region.wanted (Oper.mk _ _ _ _ _ _) _ = true then _ else _
    refine step_build1 rfl (.tmp 53) 22 32 rfl (hbs Y) (by kernel_rfl) (build1 (hbs Y) hYs) ?_
    have n1 : Nw w4 (w4.drew.alloc (.cells (hbs Y) 32)) := nb.tr (nwa _ _)
    have TN := hash_new w4.drew (hbs Y) 32
    refine hK.out _ _ (TA4.out _ (n1)) (fun hS0 => ?_)
    try simp only [Act.put, List.setIfInBounds_toArray, List.set_cons_zero, List.set_cons_succ]
    refine wpAnyH_ready (rs := [4]) (by kernel_rfl) (by simp) ?_
    refine AllReadyH.cons rfl (fun K' hK => ?_) AllReadyH.nil
    have cq := C24.out (w4.drew.alloc (.cells (hbs Y) 32)) n1
    have lq : b < (w4.drew.alloc (.cells (hbs Y) 32)).heap.size := Nat.lt_of_lt_of_le HB4.out (n1).size
    have cq0 := C24.out w4 (nwr w4)
    have lq0 := HB4.out
    go_simp
    refine hK.out _ _ (TA4.out _ (n1)) (fun hS0 => ?_)
    try simp only [Act.put, List.setIfInBounds_toArray, List.set_cons_zero, List.set_cons_succ]
    refine wpAnyH_take (i := 6) (oi := Oper.mk (some 48) _ _ _ _ _) (v := .slice va lf vc) rfl (by kernel_rfl) (by kernel_rfl) (by kernel_rfl) (fun _ _ _ h => h) (Or.inl ⟨by kernel_rfl, by intro w hw; have a1 := HCAP.out.1; have a2 := HCAP.out.2; go_simp⟩) hS0 ?_
    try simp only [Act.put, List.setIfInBounds_toArray, List.set_cons_zero, List.set_cons_succ]
    refine wpAnyH_ready (rs := [13]) (by kernel_rfl) (by simp) ?_
    refine AllReadyH.cons rfl (fun K' hK => ?_) AllReadyH.nil
    have o1 : (w4.drew.alloc (.cells (hbs Y) 32)).ownsRow base 32 32 (.slice va lf vc) lf (hsc (L.take lf)) := ownsRow_keep O4.out (fun g hg => n1.block g (O4.out.lt g hg).2 (fun f => f))
    show if Region.wanted (Oper.mk _ _ _ _ _ _) _ = true then _ else _
    refine step_two rfl (.tmp 48) (.tmp 54) 22 rfl base 32 i0 (.agg z32) 32 32 Tryd.underlying22 hi0 hz0 hz1 hz2 z32_size (by decide) (.slice va lf vc) lf (hsc (L.take lf)) (by kernel_rfl) o1 ⟨w4.drew.heap.size, 0, none⟩ 1 1 (hbs Y).toList (by kernel_rfl) (by rw [Array.length_toList, hYs]) TN (hbs_one _) (by unfold maxLen; have := HCAP.out; omega) (by have := HCAP.out; omega) (Nat.le_trans (Nat.le_trans HB.out.lt.2 F4.out.size) n1.size) ?_
    intro v' w5 o5 t5
    have QP := Bd.putn HB.out Y32.out M32.out OB.out (F4.out.trans n1 (fun _ _ f => f.elim)) (by rw [MLF.out]; exact o5) (by rw [MLF.out]; exact t5)
    obtain ⟨ya, yc, rfl⟩ := ownsRow_form o5
    obtain ⟨hb5, R5, S5, F5⟩ := QP
    have f35 : Fr (fun k => k = b ∨ (Value.slice va m vc).ownBlock = some k ∨ w4.heap.size ≤ k) w3 w5 := ((FF.out.mono (fun _ _ e => .inr (.inl e))).trans n1 (fun _ _ f => f.elim)).trans t5.fr (fun k hk q => .inr (.inl (by rw [← OB.out]; exact q)))
    have KS := (TA.out w5 f35).1
    have cb5 : w5.cell? ⟨b, 2, none⟩ = some (.slice va m vc) := (cell_of hb5 2).trans rfl
    have fb5 := frozen_of hb5 2
    have lb5 := heap_lt hb5
    refine hK.out _ _ ((KS)) (fun hS0 => ?_)
    try simp only [Act.put, List.setIfInBounds_toArray, List.set_cons_zero, List.set_cons_succ]
    refine wpAnyH_take (i := 14) (oi := Oper.mk (some 56) _ _ _ _ _) (v := .pointer (some ⟨b, 0, none⟩)) rfl (by kernel_rfl) (by kernel_rfl) (by kernel_rfl) (fun _ _ _ h => h) (Or.inl ⟨by kernel_rfl, by intro w hw; go_simp⟩) hS0 ?_
    try simp only [Act.put, List.setIfInBounds_toArray, List.set_cons_zero, List.set_cons_succ]
    refine wpAnyH_take (i := 15) (oi := Oper.mk (some 57) _ _ _ _ _) (v := .pointer (some ⟨b, 2, none⟩)) rfl (by kernel_rfl) (by kernel_rfl) (by kernel_rfl) (fun _ _ _ h => h) (Or.inl ⟨by kernel_rfl, by intro w hw; go_simp⟩) hS0 ?_
    try simp only [Act.put, List.setIfInBounds_toArray, List.set_cons_zero, List.set_cons_succ]
    refine wpAnyH_ready (rs := [16]) (by kernel_rfl) (by simp) ?_
    refine AllReadyH.cons rfl (fun K' hK => ?_) AllReadyH.nil
    go_simp
    have f36 : Fr (fun k => k = b ∨ (Value.slice va m vc).ownBlock = some k ∨ w4.heap.size ≤ k) w3 (w5.setCell ⟨b, 2, none⟩ (.slice ya (lf + 1) yc)) := Fr.setCell f35 _ _ (fun _ => .inl rfl)
    refine hK.out _ _ (TA.out _ f36).1 (fun hS0 => ?_)
    try simp only [Act.put, List.setIfInBounds_toArray, List.set_cons_zero, List.set_cons_succ]
    refine wpAnyH_done (by kernel_rfl) ?_ _
    have R5' : Hid (Bd (w5.setCell ⟨b, 2, none⟩ (.slice ya (lf + 1) yc)) b base (.slice ya (lf + 1) yc) n (L.take lf ++ [Y])) := R5
    have F5' : Hid (Fr (fun k => k = b ∨ (Value.slice va m vc).ownBlock = some k) w (w5.setCell ⟨b, 2, none⟩ (.slice ya (lf + 1) yc))) := F5
    have S5' : Hid (Stays w (.slice va m vc) (.slice ya (lf + 1) yc)) := S5
    have T36 : Hid (Fr (fun k => k = b ∨ (Value.slice va m vc).ownBlock = some k ∨ w4.heap.size ≤ k) w3 (w5.setCell ⟨b, 2, none⟩ (.slice ya (lf + 1) yc))) := f36
    obtain ⟨w6, hw6⟩ : ∃ z, w5.setCell ⟨b, 2, none⟩ (.slice ya (lf + 1) yc) = z := ⟨_, rfl⟩
    rw [hw6] at R5' F5' T36 ⊢
    have d1 := R5'.out.cs.2.1
    have lb6 := heap_lt R5'.out.blk
    have fb6 := frozen_of R5'.out.blk 1
    have hnw : IntKind.u64.wrap ((n : Int) + 1) = (n : Int) + 1 := by rw [w64]; omega
    clear R5 F5 S5 f36 f35 KS cb5 fb5 lb5 hb5 o5 t5 o1 hw6 hS0 n1 TN
    go_wp2_with fail
    refine bodyPost_ret (v := .tuple #[.slice (some ⟨tg, 0, none⟩) (j + 1) tc, .nilIface]) (by simp [results, Tryd.results6]) rfl ?_
    have e1 : (n : Int) + 1 = ((n + 1 : Nat) : Int) := by omega
    have R6 := R5'.out
    rw [HY.out] at R6
    refine ⟨_, _, rfl, (TA.out _ (Fr.setCell T36.out _ _ (fun _ => .inl rfl))).2, ⟨by rw [← e1]; exact hp_set R6.blk rfl, ownsRow_setCell_other R6.own (fun q => R6.ne _ q rfl) _, by have := R6.lt; simp only [World.setCell, Array.size_modify]; omega, R6.ok, R6.nb, R6.ne⟩, S5'.out, Fr.setCell F5'.out _ _ (fun _ => .inl rfl)⟩
end Go.Proofs.YtkjonddlmiedcaaDoor
