/- cache: add; a cache as a list of keys and values, the newest first; what remove does to it. -/
import Derived.Test.YtgdjoaiahigjpaaGreatDoorKd
import Derived.Test.YtgdjoaiahigjpaaGreatDoorTq
namespace Go.Proofs.YtgdjoaiahigjpaaGreatDoor.CI
open Go.RowKit Go.Maps Go.WideMaps Go.Proofs.YtgdjoaiahigjpaaGreatDoor
set_option linter.unusedVariables false
set_option linter.unusedSimpArgs false
theorem infoT : (Tryz.prog.info? 82).map (fun i => (i.zero, i.size, i.bytes)) = some (some (.agg #[kv kz, vv 0, .int .i64 0, .int .i64 0]), 4, 32) := by kernel_rfl
theorem Row.own {w : World} {g c n : Nat} {ks : Nat → KT} {vs : Nat → VT} {nw od : Nat → Nat} (h : Row w g c n ks vs nw od) (k : KT) (v : VT) :
    ∃ xs, w.ownsRow 0 82 4 (.slice (some ⟨g, 0, none⟩) n c) n xs ∧ ∀ w5 v', w5.ownsRow 0 82 4 v' (n + 1) (xs ++ [kv k, vv v, .int .i64 0, .int .i64 0]) →
      ∃ g' c', v' = .slice (some ⟨g', 0, none⟩) (n + 1 : Nat) c' ∧ Row w5 g' c' (n + 1) (up ks n k) (up vs n v) (up nw n 0) (up od n 0) := by
  obtain ⟨cur, h1, h2, h3, h4, h5⟩ := h
  have hle : n * 4 ≤ cur.size := by rw [h4]; exact Nat.mul_le_mul_right _ h2
  have hl : (cur.toList.take (n * 4)).length = n * 4 := by rw [List.length_take]; simp; omega
  refine ⟨cur.toList.take (n * 4), ⟨hl, .inr ⟨g, c, cur, rfl, Nat.zero_le _, h1, h2, h3, h4, rfl⟩⟩, ?_⟩
  rintro w5 v' ⟨g1, g2⟩
  rcases g2 with ⟨_, g2⟩ | ⟨g', c', cur', rfl, _, e1, e2, e3, e4, e5⟩
  · omega
  refine ⟨g', c', rfl, cur', e1, e2, e3, e4, fun i hi => ?_⟩
  have hget : ∀ j, j < (n + 1) * 4 → cur'[j]? = (cur.toList.take (n * 4) ++ [kv k, vv v, .int .i64 0, .int .i64 0])[j]? := fun j hj => by
    rw [← e5, List.getElem?_take, if_pos hj]; simp
  rw [hget _ (by omega), hget _ (by omega), hget _ (by omega), hget _ (by omega)]
  by_cases hin : i = n
  · subst hin
    rw [List.getElem?_append_right (by omega), List.getElem?_append_right (by omega), List.getElem?_append_right (by omega), List.getElem?_append_right (by omega)]
    rw [hl, Nat.sub_self, show i * 4 + 1 - i * 4 = 1 by omega, show i * 4 + 2 - i * 4 = 2 by omega, show i * 4 + 3 - i * 4 = 3 by omega]
    simp [up_same]
  · have hi : i < n := by omega
    rw [List.getElem?_append_left (by omega), List.getElem?_append_left (by omega), List.getElem?_append_left (by omega), List.getElem?_append_left (by omega)]
    rw [List.getElem?_take, List.getElem?_take, List.getElem?_take, List.getElem?_take, if_pos (by omega), if_pos (by omega), if_pos (by omega), if_pos (by omega)]
    rw [up_ne _ _ hin, up_ne _ _ hin, up_ne _ _ hin, up_ne _ _ hin]
    obtain ⟨a0, a1, a2, a3⟩ := h5 i hi
    simp only [Array.getElem?_toList]
    exact ⟨a0, a1, a2, a3⟩
theorem t4_new (w : World) (a b c d : Value) (t : TypeId) : ∀ j u, [a, b, c, d][j]? = some u → (w.alloc (.cells #[a, b, c, d] t)).cell? ((⟨w.heap.size, 0, none⟩ : Addr).add j) = some u := by
  intro j u h
  rw [addO, cell_of (heap_new _ _)]
  match j, h with
  | 0, h => simpa using h
  | 1, h => simpa using h
  | 2, h => simpa using h
  | 3, h => simpa using h
  | j + 4, h => simp at h
set_option maxRecDepth 100000 in
set_option maxHeartbeats 4000000 in
theorem add_any {w : World} {b bm g c nm n : Nat} {cap : Int} {ks : Nat → KT} {vs : Nat → VT} {nw od : Nat → Nat} {M : Pm} (h : Ca w b bm g c nm n cap ks vs nw od M) (hn : n + 1 ≤ 2000) (h0 : 1 ≤ n) {y : Nat} (hy : od 0 = y) (hyn : y < n) (k : KT) (v : VT) (hk : kok k) (hm : nm < 4611686018427387904) :
    Calls Tryz.prog 28 #[.pointer (some ⟨b, 0, none⟩), kv k, vv v] w fun e w' => e = .returned (.tuple #[]) ∧ ∃ g' c', (g' = g ∨ w.heap.size ≤ g') ∧ Ca w' b bm g' c' (nm + 1) (n + 1) cap (up ks n k) (up vs n v) (up (up (up nw n 0) n 0) y n) (up (up (up od n 0) n y) 0 n) (putP M k n) ∧ Fr (fun k => k = b ∨ k = g ∨ k = bm) w w' := by
  have H : Hid (Ca w b bm g c nm n cap ks vs nw od M) := h
  obtain ⟨_, c1, c2⟩ := cac_cs h.blk
  have lb := heap_lt h.blk
  have lg := h.row.lt
  have lm := h.mp.lt
  obtain ⟨i0, hi0, hie⟩ := Option.map_eq_some_iff.1 infoT
  simp only [Prod.mk.injEq] at hie
  obtain ⟨hz0, hz1, hz2⟩ := hie
  have HI0 : Hid (Tryz.prog.info? 82 = some i0 ∧ i0.zero = some (.agg #[kv kz, vv 0, .int .i64 0, .int .i64 0]) ∧ i0.size = 4 ∧ i0.bytes = 32) := ⟨hi0, hz0, hz1, hz2⟩
  obtain ⟨xs, ho, hr⟩ := h.row.own k v
  have OWN : Hid ((w.alloc (.cells #[kv k, vv v, .int .i64 0, .int .i64 0] 82)).ownsRow 0 82 4 (.slice (some ⟨g, 0, none⟩) n c) n xs) := ho.alloc _
  have HNew := show Hid (∀ j u, [kv k, vv v, Value.int .i64 0, .int .i64 0][j]? = some u → (w.alloc (.cells #[kv k, vv v, .int .i64 0, .int .i64 0] 82)).cell? ((⟨w.heap.size, 0, none⟩ : Addr).add j) = some u) from t4_new w _ _ _ _ _
  have HFF : Hid (∀ v' w5, w5.ownsRow 0 82 4 v' (n + 1) (xs ++ [kv k, vv v, .int .i64 0, .int .i64 0]) → Two (w.alloc (.cells #[kv k, vv v, .int .i64 0, .int .i64 0] 82)) w5 82 4 (.slice (some ⟨g, 0, none⟩) n c) v' n 1 (xs ++ [kv k, vv v, .int .i64 0, .int .i64 0]) →
      ∃ g' c', v' = .slice (some ⟨g', 0, none⟩) (n + 1 : Nat) c' ∧ (g' = g ∨ w.heap.size ≤ g') ∧ w5.heap[b]? = some (cac cap (.slice (some ⟨g, 0, none⟩) n c) (.map (some bm))) ∧ Ca (w5.setCell ⟨b, 1, none⟩ (.slice (some ⟨g', 0, none⟩) (n + 1 : Nat) c')) b bm g' c' nm (n + 1) cap (up ks n k) (up vs n v) (up nw n 0) (up od n 0) M ∧ Fr (fun k => k = b ∨ k = g ∨ k = bm) w (w5.setCell ⟨b, 1, none⟩ (.slice (some ⟨g', 0, none⟩) (n + 1 : Nat) c'))) := by
    intro v' w5 o5 t5
    obtain ⟨g', c', rfl, R5⟩ := hr w5 v' o5
    have f5 : Fr (fun k => k = g) w w5 := ((Fr.refl _ w).alloc _).trans t5.fr (fun j hj e => by simpa [Value.ownBlock] using e.symm)
    have st : g' = g ∨ w.heap.size ≤ g' := by
      rcases t5.stays (by omega) with e | ⟨q, e, hl⟩
      · exact .inl (by simpa [Value.ownBlock] using e)
      · refine .inr ?_
        simp [Value.ownBlock] at e hl
        omega
    have hb5 := (f5.block _ (heap_lt h.blk) (fun e => h.n1 e.symm)).trans h.blk
    have hm5 := h.mp.fr f5 (fun e => h.n3 e.symm)
    have n1 : g' ≠ b := by rcases st with e | e; exact e ▸ h.n1; omega
    have n3 : g' ≠ bm := by rcases st with e | e; exact e ▸ h.n3; omega
    have F : Fr (fun k => k = b) w5 (w5.setCell ⟨b, 1, none⟩ (.slice (some ⟨g', 0, none⟩) (n + 1 : Nat) c')) := (Fr.refl _ w5).setCell _ _ (fun _ => rfl)
    exact ⟨g', c', rfl, st, hb5, ⟨(heap_set hb5 _).trans rfl, R5.fr F n1, hm5.fr F h.n2, n1, h.n2, n3⟩, (f5.mono (fun _ _ e => .inr (.inl e))).trans F (fun _ _ e => .inl e)⟩
  clear hi0 hz0 hz1 hz2 ho hr h
  have hy2 : Hid (up od n 0 0 = y) := (up_ne _ _ (by omega)).trans hy
  clear hy
  go_enter Tryz.func28, Tryz.ntmps28
  go_wp2_with (at_builtin; refine wpList_two _ rfl (.tmp 16) (.tmp 20) 43 rfl 0 82 i0 (.agg #[kv kz, vv 0, .int .i64 0, .int .i64 0]) 4 32 Tryz.underlying43 HI0.out.1 HI0.out.2.1 HI0.out.2.2.1 HI0.out.2.2.2 rfl (by decide) (.slice (some ⟨g, 0, none⟩) n c) n xs rfl OWN.out ⟨w.heap.size, 0, none⟩ 1 1 [kv k, vv v, .int .i64 0, .int .i64 0] rfl rfl HNew.out (by simp [Value.oneCell']) (by unfold maxLen; omega) (by omega) (Nat.zero_le _) ?_; intro v' w5 o5 t5; have HX5 := show Hid _ from HFF.out v' w5 o5 t5; clear o5 t5; obtain ⟨g', c', rfl, hst, hb5, hfin⟩ := HX5.out; have l5 := heap_lt hb5; have fz5 := frozen_of hb5 1; obtain ⟨_, k0, _⟩ := cac_cs hb5; obtain ⟨W6, ru, Mu, Fu⟩ := hfin.1.mp.put k n hk (by omega) hm; have HFIN : Hid (Ca W6 b bm g' c' (nm + 1) (n + 1) cap (up ks n k) (up vs n v) (up nw n 0) (up od n 0) (putP M k n) ∧ Fr (fun k => k = b ∨ k = g ∨ k = bm) w W6) := ⟨hfin.1.mapd Fu Mu, hfin.2.trans Fu (fun _ _ e => Or.inr (Or.inr e))⟩; have HST := show Hid _ from hst; clear hfin hst HX5 hb5 Mu Fu)
  have q := lead_any HFIN.out.1 hn (p := n) (y := y) (by omega) (by omega) (by omega) hy2.out (by omega)
  clear c1 c2 lb lg lm l5 fz5 k0 ru
  refine q.mono ?_
  rintro e w7 ⟨rfl, C7, F7⟩
  have HC : Hid (Ca w7 b bm g' c' (nm + 1) (n + 1) cap (up ks n k) (up vs n v) (up (up (up nw n 0) n 0) y n) (up (up (up od n 0) n y) 0 n) (putP M k n)) := C7
  have HF : Hid (Fr (fun k => k = b ∨ k = g ∨ k = bm) w w7) := HFIN.out.2.trans F7 (fun j hj e => by rcases HST.out with q | q; exact .inr (.inl (e.trans q)); omega)
  clear q C7 F7
  go_wp2
  go_end0
  exact ⟨rfl, g', c', HST.out, HC.out, HF.out⟩
/-- The ring of those that are there does not hang on a place that is none of them. -/
theorem ring_off {nw od : Nat → Nat} {O : List Nat} {n : Nat} (h : Ring nw od O) (h0 : n ≠ 0) (hn : n ∉ O) (x y : Nat) : Ring (up nw n x) (up od n y) O := by
  refine ⟨ch_frame _ h.1 (fun a ha => up_ne _ _ ?_) (fun a ha => up_ne _ _ ?_), h.2⟩
  · rintro rfl
    have : a ∈ 0 :: O := by
      have e : 0 :: (O ++ [0]) = (0 :: O) ++ [0] := rfl
      rw [e, List.dropLast_concat] at ha
      exact ha
    rcases List.mem_cons.1 this with e | e
    · exact h0 e
    · exact hn e
  · rintro rfl
    simp only [List.tail_cons, List.mem_append, List.mem_cons, List.not_mem_nil, or_false] at ha
    rcases ha with e | e
    · exact hn e
    · exact h0 e
theorem Lo.add {n : Nat} {ks : Nat → KT} {nw od : Nat → Nat} {M : Pm} {O : List Nat} (h : Lo n ks nw od M O) {k : KT} (hk : kok k) (hM : M k = none) :
    Lo (n + 1) (up ks n k) (up (up (up nw n 0) n 0) (od 0) n) (up (up (up od n 0) n (od 0)) 0 n) (putP M k n) (n :: O) := by
  have h0 : n ≠ 0 := by have := h.len; omega
  have hn : n ∉ O := fun e => by have := (h.mem n).1 e; omega
  have e1 : up od n 0 0 = od 0 := up_ne _ _ (Ne.symm h0)
  have hne : ∀ q, q ∈ O → q ≠ n := fun q hq e => hn (e ▸ hq)
  have R := ring_lead (ring_off h.ring h0 hn 0 0) h0 hn
  rw [e1] at R
  refine ⟨R, fun x => ?_, by rw [List.length_cons, h.len], fun x q => ?_, fun q hq => ?_⟩
  · rw [List.mem_cons, h.mem]
    have := h.len
    omega
  · by_cases hx : x = k
    · subst hx
      rw [putP_same]
      constructor
      · intro e; cases e; exact ⟨by simp, up_same _ _ _⟩
      · rintro ⟨a, e⟩
        rcases List.mem_cons.1 a with a | a
        · rw [a]
        · exfalso
          rw [up_ne _ _ (hne _ a)] at e
          have := (h.map x q).2 ⟨a, e⟩
          rw [hM] at this
          cases this
    · rw [putP_other _ _ hx, h.map]
      constructor
      · rintro ⟨a, e⟩
        exact ⟨by simp [a], by rw [up_ne _ _ (hne _ a)]; exact e⟩
      · rintro ⟨a, e⟩
        rcases List.mem_cons.1 a with a | a
        · rw [a, up_same] at e; exact absurd e.symm hx
        · exact ⟨a, by rw [up_ne _ _ (hne _ a)] at e; exact e⟩
  · rcases List.mem_cons.1 hq with a | a
    · rw [a, up_same]; exact hk
    · rw [up_ne _ _ (hne _ a)]; exact h.key q a
/-- The oldest place, or another one, taken out: the last place of the row. -/
theorem Lo.cut {n : Nat} {ks : Nat → KT} {nw od : Nat → Nat} {M : Pm} {A B : List Nat} (h : Lo (n + 1) ks nw od M (A ++ n :: B)) : Lo n ks (up nw (od n) (nw n)) (up od (nw n) (od n)) (delP M (ks n)) (A ++ B) := by
  have hd := h.ring.2
  have hne : ∀ x, x ∈ A ++ B → x ≠ n := fun x hx e => by
    subst e
    simp only [List.nodup_cons, List.mem_append, List.mem_cons, List.nodup_append] at hd hx
    grind
  have hmm : ∀ x, x ∈ A ++ B ↔ x ∈ A ++ n :: B ∧ x ≠ n := fun x => by
    constructor
    · intro hx; refine ⟨?_, hne x hx⟩; simp at hx ⊢; rcases hx with e | e <;> simp [e]
    · rintro ⟨hx, h2⟩; simp at hx ⊢; rcases hx with e | e | e
      · exact .inl e
      · exact absurd e h2
      · exact .inr e
  refine ⟨ring_unlink h.ring, fun x => ?_, ?_, fun x q => ?_, fun q hq => h.key q ((hmm q).1 hq).1⟩
  · rw [hmm, h.mem]; omega
  · have := h.len; simp at this ⊢; omega
  · by_cases hx : x = ks n
    · subst hx
      rw [delP_same]
      constructor
      · intro e; cases e
      · rintro ⟨a, e⟩
        exfalso
        obtain ⟨b1, b2⟩ := (hmm q).1 a
        have e1 := (h.map (ks n) q).2 ⟨b1, e⟩
        have e2 := (h.map (ks n) n).2 ⟨by simp, rfl⟩
        rw [e1] at e2
        exact b2 (Option.some.inj e2)
    · rw [delP_other _ hx, h.map]
      constructor
      · rintro ⟨a, e⟩
        exact ⟨(hmm q).2 ⟨a, fun c => hx (by rw [← e, c])⟩, e⟩
      · rintro ⟨a, e⟩
        exact ⟨((hmm q).1 a).1, e⟩
/-- A place that is not the last one is taken out: the last one takes it. -/
theorem Lo.move {n p : Nat} {ks : Nat → KT} {nw od nw1 od1 : Nat → Nat} {M : Pm} {A B A' B' : List Nat} (h : Lo (n + 1) ks nw od M (A ++ p :: B)) (hp : p ≠ n) (hAB : A ++ B = A' ++ n :: B') (e1 : nw1 = up nw (od p) (nw p)) (e2 : od1 = up od (nw p) (od p)) :
    Lo n (up ks p (ks n)) (up (up nw1 p (nw1 n)) (od1 n) p) (up (up od1 p (od1 n)) (nw1 n) p) (putP (delP M (ks p)) (ks n) p) (A' ++ p :: B') := by
  have hd := h.ring.2
  have hp0 : p ≠ 0 := by have := (h.mem p).1 (by simp); omega
  have hpn : p ∉ A ++ B := by simp only [List.nodup_cons, List.mem_append, List.mem_cons, List.nodup_append] at hd ⊢; grind
  have R := ring_unlink h.ring
  rw [← e1, ← e2, hAB] at R
  rw [hAB] at hpn
  have R2 := ring_move R hp0 hpn
  have hmm : ∀ x, (x ∈ A' ∨ x ∈ B') ↔ x ∈ A ++ p :: B ∧ x ≠ p ∧ x ≠ n := fun x => by
    have hdn := R.2
    have m1 : x ∈ A ++ B ↔ x ∈ A' ++ n :: B' := by rw [hAB]
    have hq : x = p → x ∉ A' ++ n :: B' := fun e => e ▸ hpn
    simp only [List.nodup_cons, List.mem_append, List.mem_cons, List.nodup_append] at hdn m1 hq ⊢
    grind
  have hin : n ∈ A ++ p :: B := (h.mem n).2 ⟨by have := (h.mem p).1 (by simp); omega, by omega⟩
  have hM : ∀ q, q ∈ A ++ p :: B → ∀ q', q' ∈ A ++ p :: B → ks q = ks q' → q = q' := fun q hq q' hq' e => by
    have a1 := (h.map (ks q) q).2 ⟨hq, rfl⟩
    have a2 := (h.map (ks q) q').2 ⟨hq', e.symm⟩
    rw [a1] at a2
    exact Option.some.inj a2
  refine ⟨R2, fun x => ?_, ?_, fun x q => ?_, fun q hq => ?_⟩
  · have m2 := h.mem x
    have m3 := hmm x
    have m4 := h.mem p
    simp only [List.mem_append, List.mem_cons] at m2 m3 m4 ⊢
    constructor
    · rintro (a | a | a)
      · have := m3.1 (.inl a); have := m2.1 this.1; omega
      · subst a; have := m4.1 (by simp); omega
      · have := m3.1 (.inr a); have := m2.1 this.1; omega
    · intro a
      by_cases hxp : x = p
      · exact .inr (.inl hxp)
      · rcases m3.2 ⟨m2.2 (by omega), hxp, by omega⟩ with c | c
        · exact .inl c
        · exact .inr (.inr c)
  · have l1 := h.len
    have l2 := congrArg List.length hAB
    simp at l1 l2 ⊢
    omega
  · by_cases hx : x = ks n
    · subst hx
      rw [putP_same]
      constructor
      · intro e; cases e; exact ⟨by simp, up_same _ _ _⟩
      · rintro ⟨a, e⟩
        by_cases hqp : q = p
        · rw [hqp]
        · exfalso
          rw [up_ne _ _ hqp] at e
          have hq : q ∈ A' ∨ q ∈ B' := by simp at a; rcases a with c | c | c; exact .inl c; exact absurd c hqp; exact .inr c
          obtain ⟨b1, b2, b3⟩ := (hmm q).1 hq
          exact b3 (hM q b1 n hin e)
    · rw [putP_other _ _ hx]
      by_cases hx2 : x = ks p
      · subst hx2
        rw [delP_same]
        constructor
        · intro e; cases e
        · rintro ⟨a, e⟩
          exfalso
          by_cases hqp : q = p
          · rw [hqp, up_same] at e; exact hx e.symm
          · rw [up_ne _ _ hqp] at e
            have hq : q ∈ A' ∨ q ∈ B' := by simp at a; rcases a with c | c | c; exact .inl c; exact absurd c hqp; exact .inr c
            obtain ⟨b1, b2, b3⟩ := (hmm q).1 hq
            exact b2 (hM q b1 p (by simp) e)
      · rw [delP_other _ hx2, h.map]
        constructor
        · rintro ⟨a, e⟩
          have n1 : q ≠ p := fun c => hx2 (by rw [← e, c])
          have n2 : q ≠ n := fun c => hx (by rw [← e, c])
          have := (hmm q).2 ⟨a, n1, n2⟩
          exact ⟨by simp; rcases this with c | c <;> simp [c], by rw [up_ne _ _ n1]; exact e⟩
        · rintro ⟨a, e⟩
          by_cases hqp : q = p
          · rw [hqp, up_same] at e; exact absurd e.symm hx
          · rw [up_ne _ _ hqp] at e
            have hq : q ∈ A' ∨ q ∈ B' := by simp at a; rcases a with c | c | c; exact .inl c; exact absurd c hqp; exact .inr c
            exact ⟨((hmm q).1 hq).1, e⟩
  · by_cases hqp : q = p
    · rw [hqp, up_same]; exact h.key n hin
    · rw [up_ne _ _ hqp]
      have hq : q ∈ A' ∨ q ∈ B' := by simp at hq; rcases hq with c | c | c; exact .inl c; exact absurd c hqp; exact .inr c
      exact h.key q ((hmm q).1 hq).1
end Go.Proofs.YtgdjoaiahigjpaaGreatDoor.CI
