/- The document's own bytes of letters. -/
import Derived.Test.YtdcnoepgnncjoaaDoorD2
namespace Go.Proofs.YtdcnoepgnncjoaaDoor
open Go.RowKit
set_option linter.unusedVariables false
set_option linter.unusedSimpArgs false

/-- The number of the first j letters, and how many of them are fillers. -/
def nJ (l : List UInt8) : Nat → Nat
  | 0 => 0
  | j + 1 => nJ l j * 64 + ixn (C l j)
def eJ (l : List UInt8) : Nat → Nat
  | 0 => 0
  | j + 1 => eJ l j + if C l j = 61 then 1 else 0
theorem nJ_le (l : List UInt8) (j : Nat) (h : j ≤ 4) : nJ l j < 16777216 := by
  have h0 := ixn_lt (C l 0); have h1 := ixn_lt (C l 1); have h2 := ixn_lt (C l 2); have h3 := ixn_lt (C l 3)
  have hj : j = 0 ∨ j = 1 ∨ j = 2 ∨ j = 3 ∨ j = 4 := by omega
  rcases hj with rfl | rfl | rfl | rfl | rfl <;> simp only [nJ] <;> omega
theorem eJ_le (l : List UInt8) (j : Nat) : eJ l j ≤ j := by
  induction j with
  | zero => exact Nat.le_refl _
  | succ j ih => simp only [eJ]; split <;> omega
theorem rgt4_all (l : List UInt8) (h : rgt (l.take 4) = 4) : (∀ j, j < 4 → C l j ≠ 61 → 0 ≤ ix abc (C l j)) ∧ C l 0 ≠ 61 ∧ C l 1 ≠ 61 ∧ (C l 2 = 61 → C l 3 = 61) := by
  have hl := (un64_more l 0 h).1
  have e61 : ∀ c : UInt8, c = 61 → ix abc c = -1 := fun c h => by rw [h]; exact ix_61
  rcases l with _ | ⟨c0, _ | ⟨c1, _ | ⟨c2, _ | ⟨c3, r⟩⟩⟩⟩
  · simp at hl
  · simp at hl
  · simp at hl
  · simp at hl
  · rw [show List.take 4 (c0 :: c1 :: c2 :: c3 :: r) = [c0, c1, c2, c3] from rfl] at h
    have h0 := e61 c0
    have h1 := e61 c1
    have h2 := e61 c2
    have h3 := e61 c3
    clear e61
    simp only [rgt] at h
    have key : (0 ≤ ix abc c0 ∧ 0 ≤ ix abc c1 ∧ (c2 ≠ 61 → 0 ≤ ix abc c2) ∧ (c3 ≠ 61 → 0 ≤ ix abc c3)) ∧ (c2 = 61 → c3 = 61) := by
      generalize ix abc c0 = x0 at *
      generalize ix abc c1 = x1 at *
      generalize ix abc c2 = x2 at *
      generalize ix abc c3 = x3 at *
      grind
    obtain ⟨⟨k0, k1, k2, k3⟩, k4⟩ := key
    refine ⟨fun j hj hc => ?_, fun e => ?_, fun e => ?_, k4⟩
    · have hj' : j = 0 ∨ j = 1 ∨ j = 2 ∨ j = 3 := by omega
      rcases hj' with rfl | rfl | rfl | rfl
      · exact k0
      · exact k1
      · exact k2 hc
      · exact k3 hc
    · have := h0 e; omega
    · have := h1 e; omega
theorem dec_take (l : List UInt8) (h : rgt (l.take 4) = 4) : dec (C l 0) (C l 1) (C l 2) (C l 3) = ([UInt8.ofNat (nJ l 4 / 65536), UInt8.ofNat (nJ l 4 / 256 % 256), UInt8.ofNat (nJ l 4 % 256)]).take (3 - eJ l 4) ∧ eJ l 4 ≤ 2 := by
  obtain ⟨_, h0, h1, h2⟩ := rgt4_all l h
  have hn : nJ l 4 = n4 (C l 0) (C l 1) (C l 2) (C l 3) := by simp only [nJ, n4]; omega
  rw [hn]
  unfold dec
  simp only [eJ, if_neg h0, if_neg h1]
  by_cases a2 : C l 2 = 61
  · have a3 := h2 a2
    simp [a2, a3]
  · by_cases a3 : C l 3 = 61
    · simp [a2, a3]
    · simp [a2, a3]
theorem C_drop_add (l : List UInt8) (p j : Nat) : C (l.drop p) j = C l (p + j) := by unfold C; rw [List.getD_eq_getElem?_getD, List.getD_eq_getElem?_getD, List.getElem?_drop]
theorem un64_ok (l : List UInt8) (p : Nat) (e : Bool) (R : List UInt8) (hne : l ≠ []) (h : un64 p e l = .ok R) : e = false ∧ rgt (l.take 4) = 4 := by
  cases e with
  | true => rw [un64_true p l hne] at h; cases h
  | false =>
    refine ⟨rfl, ?_⟩
    rcases Nat.lt_or_ge (rgt (l.take 4)) 4 with h4 | h4
    · rw [un64_wrong_at l p hne h4] at h; cases h
    · have := rgt_le (l.take 4) (by simp; omega)
      have h5 : (l.take 4).length ≤ 4 := by simp; omega
      omega
theorem three_new (w : World) (x y z : Value) (t : TypeId) (m : Nat) : ∀ j u, (([x, y, z] : List Value).take m)[j]? = some u → (w.alloc (.cells #[x, y, z] t)).cell? ((⟨w.heap.size, 0, none⟩ : Addr).add j) = some u := by
  intro j u hj
  rw [addZ, cell_of (heap_alloc_new w _)]
  rw [List.getElem?_take] at hj
  split at hj
  · simpa using hj
  · cases hj
theorem u8n (x : Int) (n : Nat) (h : x = ((n % 256 : Nat) : Int)) : (Value.int .u8 x) = .int .u8 ((UInt8.ofNat n).toNat : Int) := by
  rw [UInt8.toNat_ofNat', h]
set_option maxRecDepth 100000 in
set_option maxHeartbeats 3000000 in
theorem reffrom64_any (s : ByteArray) (w : World) (hs : s.size ≤ 9223372036854775807) :
    Calls Tryd.prog 9 #[.string s] w fun e w' => e = .returned (.tuple #[.string ⟨(rd [] s (un64 0 false s.data.toList)).1.toArray⟩, fv (rd [] s (un64 0 false s.data.toList)).2.1 (fp (rd [] s (un64 0 false s.data.toList)).2.1 (rd [] s (un64 0 false s.data.toList)).2.2)]) ∧ Nw w w' := by
  by_cases hbig : 1048576 < s.size
  · rw [rd_long _ _ _ hbig]
    have hbz : (1048576 : Int) < (s.size : Int) := by omega
    go_enter Tryd.func9, Tryd.ntmps9
    go_wp2_with fail
    refine (plain_any 4 (wF w) (by decide)).mono ?_
    rintro e w1 ⟨rfl, n1⟩
    have k1 := kF1 n1
    go_wp2_with (refine wp_store_agg rfl (.tmp 3) (.tmp 14) 27 2 rfl Tryd.sizeOf27 w.heap.size 0 rfl #[.int .i64 0, .int .i64 0] 27 k1 #[.int .i64 4, .int .i64 (-1)] rfl rfl (by simp [Value.oneCell']) (Nat.le_refl 2) #[.int .i64 4, .int .i64 (-1)] rfl ?_; intro w5 j5 f5 z5)
    exact bodyPost_ret (results_two Tryd.results9 Tryd.isAgg27 Tryd.sizeOf27 rfl j5 rfl) rfl ⟨rfl, nF1 ((nF w).tr n1) f5⟩
  · have hbz : ¬ (1048576 : Int) < (s.size : Int) := by omega
    have hq := refwrong_any s (wF w) (by omega)
    obtain ⟨L, hL⟩ : ∃ L, L = s.data.toList := ⟨_, rfl⟩
    have hlen : L.length = s.size := by rw [hL, Array.length_toList]; rfl
    have hC : Hid (∀ k (h : k < s.size), s[k]'h = C L k) := fun k h => by rw [hL]; exact C_get s k h
    rw [← hL] at hq ⊢
    clear hL
    have kw := kF w
    rcases hR : un64 0 false L with k | R
    · rw [rd_err _ _ _ hbig k rfl]
      rw [hR] at hq
      clear hR
      change Calls Tryd.prog 29 #[.string s] (wF w) fun e w' => e = .returned (.int .i64 (k : Int)) ∧ w' = wF w at hq
      have hkz : (0 : Int) ≤ (k : Int) := by omega
      go_enter Tryd.func9, Tryd.ntmps9
      go_wp2_with (go_at_call 29; refine hq.mono ?_; rintro e w2 ⟨rfl, rfl⟩)
      refine (placed_any 3 (k : Int) (wF w)).mono ?_
      rintro e w1 ⟨rfl, n1⟩
      have k1 := kF1 n1
      go_wp2_with (refine wp_store_agg rfl (.tmp 3) (.tmp 20) 27 2 rfl Tryd.sizeOf27 w.heap.size 0 rfl #[.int .i64 0, .int .i64 0] 27 k1 #[.int .i64 3, .int .i64 (k : Int)] rfl rfl (by simp [Value.oneCell']) (Nat.le_refl 2) #[.int .i64 3, .int .i64 (k : Int)] rfl ?_; intro w5 j5 f5 z5)
      exact bodyPost_ret (results_two Tryd.results9 Tryd.isAgg27 Tryd.sizeOf27 rfl j5 rfl) rfl ⟨rfl, nF1 ((nF w).tr n1) f5⟩
    · rw [rd_ok _ _ _ hbig R rfl]
      rw [hR] at hq
      have HR : Hid (un64 0 false L = .ok R) := hR
      clear hR
      change Calls Tryd.prog 29 #[.string s] (wF w) fun e w' => e = .returned (.int .i64 (-1)) ∧ w' = wF w at hq
      obtain ⟨i0, hi, hz0, hz1, hz2⟩ := info_parts8
      have hz2i := hz2
      clear hz2
      have hwf : (wF w).heap.size = w.heap.size + 1 := by simp
      go_enter Tryd.func9, Tryd.ntmps9
      go_wp2_with (go_at_call 29; refine hq.mono ?_; rintro e w2 ⟨rfl, rfl⟩)
      go_loopw [5, 6] (fun b i wr => ∃ (p : Nat) (acc : List UInt8) (e : Bool), p ≤ s.size ∧ i = .int .i64 p ∧ Own (w.heap.size + 1) wr b acc ∧ Below (w.heap.size + 1) (wF w) wr ∧ acc.length ≤ p ∧ un64 0 false L = jn acc (un64 p e (L.drop p))) (fun _ i _ => s.size - (intOf i).toNat)
      case atStart => exact ⟨0, [], false, by omega, rfl, World.ownsRow_nil _ _ _ _, Below.refl _ _, by simp, (jn_nil _).symm⟩
      case round =>
        obtain ⟨p, acc, e, hp, rfl, ho, hb, hap, hsp⟩ := hrel
        obtain ⟨wo, hwo⟩ : ∃ x, x = wr := ⟨_, rfl⟩
        subst hwo
        have HSP : Hid (un64 0 false L = jn acc (un64 p e (L.drop p))) := hsp
        clear hsp
        have hsz : w.heap.size + 1 ≤ wo.heap.size := by have := hb.size; omega
        by_cases hlt : p < s.size
        · have hne : L.drop p ≠ [] := by rw [Ne, List.drop_eq_nil_iff]; omega
          obtain ⟨R', hR'⟩ : ∃ R', un64 p e (L.drop p) = .ok R' := by
            have h := HSP.out
            rw [HR.out] at h
            rcases hu : un64 p e (L.drop p) with k | b
            · rw [hu] at h; cases h
            · exact ⟨b, rfl⟩
          obtain ⟨he, hr4⟩ := un64_ok _ p e R' hne hR'
          have hmore := un64_more (L.drop p) p hr4
          obtain ⟨hdec, he2⟩ := dec_take (L.drop p) hr4
          obtain ⟨hlet, _, _, _⟩ := rgt4_all (L.drop p) hr4
          have hp4 : p + 4 ≤ s.size := by have := hmore.1; rw [List.length_drop] at this; omega
          have HSP2 : Hid (un64 0 false L = jn (acc ++ ([UInt8.ofNat (nJ (L.drop p) 4 / 65536), UInt8.ofNat (nJ (L.drop p) 4 / 256 % 256), UInt8.ofNat (nJ (L.drop p) 4 % 256)]).take (3 - eJ (L.drop p) 4)) (un64 (p + 4) (C (L.drop p) 3 == 61) (L.drop (p + 4)))) := by
            unfold Hid
            rw [HSP.out, he, hmore.2, jn_jn, List.drop_drop, hdec]
          have HLET : Hid (∀ j, j < 4 → C (L.drop p) j ≠ 61 → 0 ≤ ix abc (C (L.drop p) j)) := hlet
          have HCC : Hid (∀ q j (_ : q = p + j) (hq : q < s.size), s[q]'hq = C (L.drop p) j) := fun q j h hq => by rw [hC.out q hq, C_drop_add, h]
          have HNB : Hid (∀ j, j ≤ 4 → nJ (L.drop p) j < 16777216) := nJ_le _
          have HEB : Hid (∀ j, eJ (L.drop p) j ≤ j) := eJ_le _
          have HE2 : Hid (eJ (L.drop p) 4 ≤ 2) := he2
          clear hR' he hr4 hmore hdec he2 hlet hne HSP
          generalize L.drop p = l at HSP2 HLET HCC HNB HEB HE2
          obtain ⟨ca, cc, rfl⟩ := ownsRow_form ho
          go_wp2
          go_loopw [7, 8, 9] (fun n z k wq => ∃ q j N E : Nat, q = p + j ∧ j ≤ 4 ∧ k = .int .i64 (q : Int) ∧ n = .int .i64 (N : Int) ∧ N = nJ l j ∧ z = .int .i64 (3 - (E : Int)) ∧ E = eJ l j ∧ wq = wo) (fun _ _ k _ => p + 4 - (intOf k).toNat)
          case atStart => exact ⟨p, 0, 0, 0, rfl, by omega, rfl, rfl, rfl, rfl, rfl, rfl⟩
          case round =>
            obtain ⟨q, j, N, E, hqj, hj, rfl, rfl, hN, rfl, hE, rfl⟩ := hrel
            have HQ : Hid (q = p + j) := hqj
            have HN : Hid (N = nJ l j) := hN
            have HE : Hid (E = eJ l j) := hE
            have hNb : N < 16777216 := by rw [hN]; exact HNB.out j hj
            have hEb : E ≤ 4 := by rw [hE]; have := HEB.out j; omega
            have hqb : q ≤ s.size := by omega
            clear hN hE hqj
            by_cases hjl : j < 4
            · have hqs : q < s.size := by have := HQ.out; omega
              have hcj := HCC.out q j HQ.out hqs
              have hjz : (q : Int) < (p : Int) + 4 := by have := HQ.out; omega
              have hjs : (q : Int) < (s.size : Int) := by omega
              by_cases c61 : C l j = 61
              · have hz := is61e _ c61
                have HN2 : Hid (N * 64 = nJ l (j + 1)) := by
                  unfold Hid
                  rw [HN.out]; simp only [nJ, c61]; rfl
                have HE3 : Hid (E + 1 = eJ l (j + 1)) := by unfold Hid; simp only [eJ, if_pos c61, HE.out]
                clear c61
                generalize C l j = c at hcj hz
                go_wp2
                exact ⟨⟨q + 1, j + 1, N * 64, E + 1, by have := HQ.out; omega, by omega, by go_num, by go_num, HN2.out, by congr 1; omega, HE3.out, trivial⟩, by simp [intOf]; omega⟩
              · have hz := no61e _ c61
                have hx0 := HLET.out j hjl c61
                have hx1 := ix_lt abc (C l j)
                rw [show (abc.length : Int) = 64 from rfl] at hx1
                have HN2 : Hid (N * 64 + ixn (C l j) = nJ l (j + 1)) := by
                  unfold Hid
                  rw [HN.out]; rfl
                have HXN : Hid ((N : Int) * 64 + ix abc (C l j) = ((N * 64 + ixn (C l j) : Nat) : Int)) := by unfold Hid ixn; omega
                have HE3 : Hid (E = eJ l (j + 1)) := by unfold Hid; simp only [eJ, if_neg c61, HE.out]; rfl
                clear c61
                generalize C l j = c at hcj hz hx0 hx1 HN2 HXN
                go_wp2_with (go_at_call 31; refine (num_abc _ _).mono ?_; rintro e w2 ⟨rfl, rfl⟩)
                exact ⟨⟨q + 1, j + 1, N * 64 + ixn c, E, by have := HQ.out; omega, by omega, by go_num, by rw [HXN.out], HN2.out, rfl, HE3.out, trivial⟩, by simp [intOf]; omega⟩
            · have hj4 : j = 4 := by omega
              have HN4 : Hid (nJ l 4 = N) := by unfold Hid; rw [HN.out, hj4]
              have HE4 : Hid (E = eJ l 4) := by unfold Hid; rw [HE.out, hj4]
              have hjz : ¬ (q : Int) < (p : Int) + 4 := by have := HQ.out; omega
              have hE3 : E = 0 ∨ E = 1 ∨ E = 2 := by have := HE2.out; rw [← HE4.out] at this; omega
              clear HN HE
              rcases hE3 with rfl | rfl | rfl
              · have HSP3 : Hid (un64 0 false L = jn (acc ++ ([UInt8.ofNat (N / 65536), UInt8.ofNat (N / 256 % 256), UInt8.ofNat (N % 256)]).take 3) (un64 (p + 4) (C l 3 == 61) (L.drop (p + 4)))) := by unfold Hid; rw [HSP2.out, ← HE4.out, HN4.out]
                clear HSP2 HE4
                go_wp2_with (at_builtin; refine wpList_append_own _ rfl _ _ 43 rfl (w.heap.size + 1) 5 i0 (.int .u8 0) 1 1 Tryd.underlying43 hi hz0 hz1 hz2i rfl (by decide) _ _ _ rfl (ho.alloc _) ⟨wr.heap.size, 0, none⟩ 3 3 (([.int .u8 _, .int .u8 _, .int .u8 _] : List Value).take 3) rfl rfl (three_new _ _ _ _ _ _) (by simp [Value.oneCell']) (by unfold maxLen; omega) (by omega) (by simp; omega) ?_; intro v' w3 hown' hgrow _; obtain ⟨ga, gc, rfl⟩ := ownsRow_form hown')
                refine ⟨⟨p + 4, _, _, by omega, by go_num, own_more (l' := ([UInt8.ofNat (N / 65536), UInt8.ofNat (N / 256 % 256), UInt8.ofNat (N % 256)]).take 3) ?_ hown' rfl, own_grown (hb.alloc hsz _) (ho.alloc _) hgrow (by simp), by rw [List.length_append]; simp; omega, HSP3.out⟩, by simp [intOf]; omega⟩
                rw [u8n ((N : Int) / 65536) (N / 65536) (by omega), u8n ((N : Int) / 256 % 256) (N / 256 % 256) (by omega), u8n ((N : Int) % 256) (N % 256) (by omega)]
                rfl
              · have HSP3 : Hid (un64 0 false L = jn (acc ++ ([UInt8.ofNat (N / 65536), UInt8.ofNat (N / 256 % 256), UInt8.ofNat (N % 256)]).take 2) (un64 (p + 4) (C l 3 == 61) (L.drop (p + 4)))) := by unfold Hid; rw [HSP2.out, ← HE4.out, HN4.out]
                clear HSP2 HE4
                go_wp2_with (at_builtin; refine wpList_append_own _ rfl _ _ 43 rfl (w.heap.size + 1) 5 i0 (.int .u8 0) 1 1 Tryd.underlying43 hi hz0 hz1 hz2i rfl (by decide) _ _ _ rfl (ho.alloc _) ⟨wr.heap.size, 0, none⟩ 2 3 (([.int .u8 _, .int .u8 _, .int .u8 _] : List Value).take 2) rfl rfl (three_new _ _ _ _ _ _) (by simp [Value.oneCell']) (by unfold maxLen; omega) (by omega) (by simp; omega) ?_; intro v' w3 hown' hgrow _; obtain ⟨ga, gc, rfl⟩ := ownsRow_form hown')
                refine ⟨⟨p + 4, _, _, by omega, by go_num, own_more (l' := ([UInt8.ofNat (N / 65536), UInt8.ofNat (N / 256 % 256), UInt8.ofNat (N % 256)]).take 2) ?_ hown' rfl, own_grown (hb.alloc hsz _) (ho.alloc _) hgrow (by simp), by rw [List.length_append]; simp; omega, HSP3.out⟩, by simp [intOf]; omega⟩
                rw [u8n ((N : Int) / 65536) (N / 65536) (by omega), u8n ((N : Int) / 256 % 256) (N / 256 % 256) (by omega), u8n ((N : Int) % 256) (N % 256) (by omega)]
                rfl
              · have HSP3 : Hid (un64 0 false L = jn (acc ++ ([UInt8.ofNat (N / 65536), UInt8.ofNat (N / 256 % 256), UInt8.ofNat (N % 256)]).take 1) (un64 (p + 4) (C l 3 == 61) (L.drop (p + 4)))) := by unfold Hid; rw [HSP2.out, ← HE4.out, HN4.out]
                clear HSP2 HE4
                go_wp2_with (at_builtin; refine wpList_append_own _ rfl _ _ 43 rfl (w.heap.size + 1) 5 i0 (.int .u8 0) 1 1 Tryd.underlying43 hi hz0 hz1 hz2i rfl (by decide) _ _ _ rfl (ho.alloc _) ⟨wr.heap.size, 0, none⟩ 1 3 (([.int .u8 _, .int .u8 _, .int .u8 _] : List Value).take 1) rfl rfl (three_new _ _ _ _ _ _) (by simp [Value.oneCell']) (by unfold maxLen; omega) (by omega) (by simp; omega) ?_; intro v' w3 hown' hgrow _; obtain ⟨ga, gc, rfl⟩ := ownsRow_form hown')
                refine ⟨⟨p + 4, _, _, by omega, by go_num, own_more (l' := ([UInt8.ofNat (N / 65536), UInt8.ofNat (N / 256 % 256), UInt8.ofNat (N % 256)]).take 1) ?_ hown' rfl, own_grown (hb.alloc hsz _) (ho.alloc _) hgrow (by simp), by rw [List.length_append]; simp; omega, HSP3.out⟩, by simp [intOf]; omega⟩
                rw [u8n ((N : Int) / 65536) (N / 65536) (by omega), u8n ((N : Int) / 256 % 256) (N / 256 % 256) (by omega), u8n ((N : Int) % 256) (N % 256) (by omega)]
                rfl
        · obtain rfl : p = s.size := by omega
          have HA : Hid (R = acc) := by
            have h := HSP.out
            rw [HR.out, List.drop_of_length_le (by omega), un64_nil] at h
            simp [jn] at h
            exact h
          clear HSP
          have hcv := conv_own ho
          obtain ⟨ca, cc, rfl⟩ := ownsRow_form ho
          have k1 := (hb.block w.heap.size (by omega)).trans kw
          have n1 : Nw (wF w) wo := ⟨hb.os, hb.tape, hb.output, hb.size, fun k hk _ => hb.block k (by rw [hwf] at hk; exact hk)⟩
          go_wp2_with (refine wp_store_agg rfl (.tmp 3) (.tmp 66) 27 2 rfl Tryd.sizeOf27 w.heap.size 0 rfl #[.int .i64 0, .int .i64 0] 27 k1 #[.int .i64 0, .int .i64 0] rfl rfl (by simp [Value.oneCell']) (Nat.le_refl 2) #[.int .i64 0, .int .i64 0] rfl ?_; intro w5 j5 f5 z5)
          rw [HA.out]
          exact bodyPost_ret (results_two Tryd.results9 Tryd.isAgg27 Tryd.sizeOf27 rfl j5 rfl) rfl ⟨rfl, nF1 ((nF w).tr n1) f5⟩
end Go.Proofs.YtdcnoepgnncjoaaDoor
