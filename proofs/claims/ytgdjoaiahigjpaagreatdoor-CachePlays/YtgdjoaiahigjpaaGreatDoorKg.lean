/- cache: Put. -/
import Derived.Test.YtgdjoaiahigjpaaGreatDoorKf
namespace Go.Proofs.YtgdjoaiahigjpaaGreatDoor.CI
open Go.RowKit Go.Maps Go.WideMaps Go.Proofs.YtgdjoaiahigjpaaGreatDoor
set_option linter.unusedVariables false
set_option linter.unusedSimpArgs false
theorem len_drew {w : World} {b bm g c n : Nat} {cap : Int} (h : w.heap[b]? = some (cac cap (.slice (some ⟨g, 0, none⟩) (n + 1 : Nat) c) (.map (some bm)))) (hn : n ≤ 2000) (m : Nat) :
    Calls Tryz.prog 18 #[.pointer (some ⟨b, 0, none⟩)] (w.drewN m) fun e w' => e = .returned (.int .i64 (n : Int)) ∧ w' = w.drewN m :=
  len_blk ((((Fr.refl (fun _ => False) w).drewN m).block _ (heap_lt h) (fun e => e)).trans h) hn
/-- One more thing. -/
theorem Cx.added {w w' : World} {S : Nat → Prop} {b bm g nm n cap N : Nat} {ks : Nat → KT} {vs : Nat → VT} {nw od : Nat → Nat} {M : Pm} {O : List Nat} (hL : Lo n ks nw od M O) {k : KT} {v : VT} (hk : kok k) (hM : M k = none) {g' c' : Nat}
    (C : Ca w' b bm g' c' (nm + 1) (n + 1) (cap : Int) (up ks n k) (up vs n v) (up (up (up nw n 0) n 0) (od 0) n) (up (up (up od n 0) n (od 0)) 0 n) (putP M k n)) (hg : g' = g ∨ w.heap.size ≤ g') (h4 : S b) (h5 : S bm) (h6 : S g) (hN : nm + 1 ≤ N) (hc : O.length + 1 ≤ cap) (hc2 : cap ≤ 1024) :
    Cx w' (fun j => S j ∨ w.heap.size ≤ j) b N cap ((k, v) :: O.map (fun q => (ks q, vs q))) := by
  have hn : n ∉ O := fun e => by have := (hL.mem n).1 e; omega
  have hne : ∀ q, q ∈ O → q ≠ n := fun q hq e => hn (e ▸ hq)
  refine ⟨bm, g', c', nm + 1, n + 1, _, _, _, _, _, n :: O, C, hL.add hk hM, ?_, .inl h4, .inl h5, ?_, hN, by simpa using hc, hc2⟩
  · simp only [List.map_cons, up_same]
    congr 1
    exact List.map_congr_left (fun q hq => by rw [up_ne _ _ (hne q hq), up_ne _ _ (hne q hq)])
  · rcases hg with e | e
    · exact .inl (e ▸ h6)
    · exact .inr e
set_option maxRecDepth 100000 in
set_option maxHeartbeats 2000000 in
theorem put_there {W : World} {S : Nat → Prop} {b bm g c nm n cap N : Nat} {ks : Nat → KT} {vs : Nat → VT} {nw od : Nat → Nat} {M : Pm} {A B : List Nat} {p : Nat} (h1 : Ca W b bm g c nm n (cap : Int) ks vs nw od M) (h2 : Lo n ks nw od M (A ++ p :: B)) (h4 : S b) (h5 : S bm) (h6 : S g) (hN : nm ≤ N) (hc : (A ++ p :: B).length ≤ cap) (hc2 : cap ≤ 1024) {k : KT} (v : VT) (hk : kok k) (hM : M k = some p) (hkp : ks p = k) :
    Calls Tryz.prog 11 #[.pointer (some ⟨b, 0, none⟩), kv k, vv v] W fun e w' => e = .returned (.tuple #[kv kz, .bool false]) ∧ Cx w' S b N cap ((k, v) :: (A ++ B).map (fun q => (ks q, vs q))) ∧ Fr S W w' := by
  have q0 := there_any h1.blk
  have q1 := find_any h1.blk h1.mp k hk
  rw [hM] at q1
  simp only [Option.getD_some, Option.isSome_some] at q1
  have hlt : ∀ x ∈ A ++ p :: B, x < n := fun x hx => ((h2.mem x).1 hx).2
  have hn : n ≤ 2000 := by have := h2.len; omega
  have hpn : p < n := hlt p (by simp)
  obtain ⟨_, c1, _⟩ := cac_cs h1.blk
  have lb := heap_lt h1.blk
  have lg := h1.row.lt
  obtain ⟨_, r1, _, _⟩ := h1.row.cell hpn
  have fz : ∀ o, W.frozen? ⟨g, o, none⟩ = false := fun o => h1.row.frozen o
  obtain ⟨wx, hwx⟩ : ∃ wx, wx = W.setCell ⟨g, p * 4 + 1, none⟩ (vv v) := ⟨_, rfl⟩
  have Cx1 : Ca wx b bm g c nm n (cap : Int) ks (up vs p v) nw od M := by rw [hwx]; exact h1.turn (frS _) (h1.row.setV hpn v)
  have Fx : Hid (Fr (fun k => k = g) W wx) := by show Fr _ _ _; rw [hwx]; exact frS _
  have q2 := renew_any Cx1 hn h2.ring hlt
  have HL : Hid (Lo n ks nw od M (A ++ p :: B)) := h2
  have HC : Hid ((A ++ p :: B).length ≤ cap ∧ cap ≤ 1024 ∧ nm ≤ N ∧ S b ∧ S bm ∧ S g ∧ ks p = k) := ⟨hc, hc2, hN, h4, h5, h6, hkp⟩
  clear h1 h2 hM hk hkp hlt hc hc2 hN Cx1
  go_enter Tryz.func11, Tryz.ntmps11
  go_wp2_with fail
  refine q0.mono ?_
  rintro e w0 ⟨rfl, rfl⟩
  go_wp2_with fail
  refine q1.mono ?_
  rintro e w1 ⟨rfl, rfl⟩
  go_wp2_with fail
  rw [← hwx]
  refine q2.mono ?_
  rintro e w2 ⟨rfl, nw', od', C2, R2, F2⟩
  have HF : Hid (Cx w2 S b N cap ((k, v) :: (A ++ B).map (fun q => (ks q, vs q))) ∧ Fr S w1 w2) := by
    obtain ⟨d1, d2, d3, d4, d5, d6, d7⟩ := HC.out
    have hpAB : p ∉ A ++ B := by have hd := HL.out.ring.2; simp only [List.nodup_cons, List.mem_append, List.mem_cons, List.nodup_append] at hd ⊢; grind
    have hne : ∀ q, q ∈ A ++ B → q ≠ p := fun q hq e => hpAB (e ▸ hq)
    refine ⟨⟨bm, g, c, nm, n, ks, up vs p v, nw', od', M, p :: (A ++ B), C2, HL.out.renew R2, ?_, d4, d5, d6, d3, ?_, d2⟩, (Fx.out.trans F2 (fun _ _ e => e)).mono (fun j hj e => e ▸ d6)⟩
    · rw [List.map_cons, d7, up_same]
      congr 1
      exact List.map_congr_left (fun q hq => by rw [up_ne _ _ (hne q hq)])
    · simp at d1 ⊢
      omega
  clear q0 q1 q2 C2 R2 F2 hwx Fx c1 lb lg r1 fz
  go_wp2
  go_ret2
  exact ⟨rfl, HF.out⟩
set_option maxRecDepth 100000 in
set_option maxHeartbeats 2000000 in
theorem put_zero {W : World} {b bm g c nm n : Nat} {ks : Nat → KT} {vs : Nat → VT} {nw od : Nat → Nat} {M : Pm} (h1 : Ca W b bm g c nm n 0 ks vs nw od M) {k : KT} (v : VT) (hk : kok k) (hM : M k = none) :
    Calls Tryz.prog 11 #[.pointer (some ⟨b, 0, none⟩), kv k, vv v] W fun e w' => e = .returned (.tuple #[kv k, .bool true]) ∧ w' = W := by
  have q0 := there_any h1.blk
  have q1 := find_any h1.blk h1.mp k hk
  rw [hM] at q1
  simp only [Option.getD_none, Option.isSome_none] at q1
  obtain ⟨c0, c1, _⟩ := cac_cs h1.blk
  have lb := heap_lt h1.blk
  clear h1 hM hk
  go_enter Tryz.func11, Tryz.ntmps11
  go_wp2_with fail
  refine q0.mono ?_
  rintro e w0 ⟨rfl, rfl⟩
  go_wp2_with fail
  refine q1.mono ?_
  rintro e w1 ⟨rfl, rfl⟩
  go_wp2
  go_ret2
  exact ⟨rfl, rfl⟩
set_option maxRecDepth 100000 in
set_option maxHeartbeats 2000000 in
theorem put_room {W : World} {S : Nat → Prop} {b bm g c nm n cap N : Nat} {ks : Nat → KT} {vs : Nat → VT} {nw od : Nat → Nat} {M : Pm} {O : List Nat} (h1 : Ca W b bm g c nm n (cap : Int) ks vs nw od M) (h2 : Lo n ks nw od M O) (h4 : S b) (h5 : S bm) (h6 : S g) (hN : nm ≤ N) (hN2 : N < 4611686018427387904) (hc : O.length < cap) (hc2 : cap ≤ 1024) {k : KT} (v : VT) (hk : kok k) (hM : M k = none) :
    Calls Tryz.prog 11 #[.pointer (some ⟨b, 0, none⟩), kv k, vv v] W fun e w' => e = .returned (.tuple #[kv kz, .bool false]) ∧ Cx w' (fun j => S j ∨ W.heap.size ≤ j) b (N + 2) cap ((k, v) :: O.map (fun q => (ks q, vs q))) ∧ Fr S W w' := by
  have q0 := there_any h1.blk
  have q1 := find_any h1.blk h1.mp k hk
  rw [hM] at q1
  simp only [Option.getD_none, Option.isSome_none] at q1
  have hlen := h2.len
  obtain ⟨m, rfl⟩ : ∃ m, n = m + 1 := ⟨n - 1, by omega⟩
  have hmO : m = O.length := by omega
  have ql := len_drew h1.blk (n := m) (by omega)
  obtain ⟨_, j2⟩ := ring_nb h2.ring (p := 0) (.inl rfl)
  have hy : od 0 < m + 1 := j2.elim (fun e => by omega) (fun e => ((h2.mem _).1 e).2)
  have q3 := fun j => add_any (h1.nw ((Fr.refl (fun _ => False) W).drewN j)) (by omega) (by omega) rfl hy k v hk (by omega)
  obtain ⟨c0, c1, _⟩ := cac_cs h1.blk
  have lb := heap_lt h1.blk
  have HC : Hid (∀ w' g' c', Ca w' b bm g' c' (nm + 1) (m + 1 + 1) (cap : Int) (up ks (m + 1) k) (up vs (m + 1) v) (up (up (up nw (m + 1) 0) (m + 1) 0) (od 0) (m + 1)) (up (up (up od (m + 1) 0) (m + 1) (od 0)) 0 (m + 1)) (putP M k (m + 1)) → (g' = g ∨ W.heap.size ≤ g') → Cx w' (fun j => S j ∨ W.heap.size ≤ j) b (N + 2) cap ((k, v) :: O.map (fun q => (ks q, vs q)))) := fun w' g' c' C hg => Cx.added h2 hk hM C hg h4 h5 h6 (by omega) (by omega) hc2
  have HS : Hid (∀ j, (j = b ∨ j = g ∨ j = bm) → S j) := fun j e => by rcases e with e | e | e; exact e ▸ h4; exact e ▸ h6; exact e ▸ h5
  have hz : ((cap : Int) == 0) = false := by simp; omega
  have hz2 : ((m : Int) == (cap : Int)) = false := by simp; omega
  have hz3 : ¬ (m : Int) = (cap : Int) := by omega
  have hz4 : ¬ (cap : Int) = 0 := by omega
  clear h1 h2 hM hk hlen hmO j2 hc
  go_enter Tryz.func11, Tryz.ntmps11
  go_wp2_with fail
  refine q0.mono ?_
  rintro e w0 ⟨rfl, rfl⟩
  go_wp2_with fail
  refine q1.mono ?_
  rintro e w1 ⟨rfl, rfl⟩
  go_wp2_with fail
  go_quiet (first | (go_at_call 18; exact Calls.quiet_of_same (ql _)))
  go_wp2_with fail
  refine (q3 _).mono ?_
  rintro e w2 ⟨rfl, g', c', hg, C2, F2⟩
  have HF : Hid (Cx w2 (fun j => S j ∨ w1.heap.size ≤ j) b (N + 2) cap ((k, v) :: O.map (fun q => (ks q, vs q))) ∧ Fr S w1 w2) := ⟨HC.out w2 g' c' C2 hg, ((Fr.refl (fun _ => False) w1).drewN _).mono (fun _ _ e => e.elim) |>.trans F2 (fun j _ e => HS.out j e)⟩
  clear q0 q1 q3 ql C2 F2 HC hg
  go_wp2
  go_ret2
  exact ⟨rfl, HF.out⟩
set_option maxRecDepth 100000 in
set_option maxHeartbeats 2000000 in
theorem put_full {W : World} {S : Nat → Prop} {b bm g c nm n cap N : Nat} {ks : Nat → KT} {vs : Nat → VT} {nw od : Nat → Nat} {M : Pm} {A : List Nat} {p : Nat} (h1 : Ca W b bm g c nm n (cap : Int) ks vs nw od M) (h2 : Lo n ks nw od M (A ++ [p])) (h4 : S b) (h5 : S bm) (h6 : S g) (hN : nm ≤ N) (hN2 : N < 4611686018427387900) (hc : (A ++ [p]).length = cap) (hc2 : cap ≤ 1024) {k : KT} (v : VT) (hk : kok k) (hM : M k = none) :
    Calls Tryz.prog 11 #[.pointer (some ⟨b, 0, none⟩), kv k, vv v] W fun e w' => e = .returned (.tuple #[kv (ks p), .bool true]) ∧ Cx w' (fun j => S j ∨ W.heap.size ≤ j) b (N + 2) cap ((k, v) :: A.map (fun q => (ks q, vs q))) ∧ Fr S W w' := by
  have q0 := there_any h1.blk
  have q1 := find_any h1.blk h1.mp k hk
  rw [hM] at q1
  simp only [Option.getD_none, Option.isSome_none] at q1
  have hlen := h2.len
  obtain ⟨m, rfl⟩ : ∃ m, n = m + 1 := ⟨n - 1, by omega⟩
  have hmO : m = cap := by omega
  have hc0 : 1 ≤ cap := by rw [← hc]; simp
  have ql := len_drew h1.blk (n := m) (by omega)
  have hnp : nw 0 = p := ring_last h2.ring
  have hpm := (h2.mem p).1 (by simp)
  have q2 := fun j => remove_any (h1.nw ((Fr.refl (fun _ => False) W).drewN j)) h2 (by omega) (by omega)
  obtain ⟨c0, c1, _⟩ := cac_cs h1.blk
  have lb := heap_lt h1.blk
  have lg := h1.row.lt
  obtain ⟨_, _, r2, _⟩ := h1.row.cell (i := 0) (by omega)
  simp only [Nat.zero_mul, Nat.zero_add] at r2
  rw [hnp] at r2
  obtain ⟨r0, _, _, _⟩ := h1.row.cell (i := p) hpm.2
  have HM2 : Hid (∀ M' : Pm, ∀ ks' : Nat → KT, ∀ vs' : Nat → VT, ∀ O' nw' od', Lo m ks' nw' od' M' O' → O'.map (fun q => (ks' q, vs' q)) = (A ++ []).map (fun q => (ks q, vs q)) → M' k = none) := fun M' ks' vs' O' nw' od' hL' he => by
    cases hq : M' k with
    | none => rfl
    | some q =>
      exfalso
      obtain ⟨a1, a2⟩ := (hL'.map k q).1 hq
      have : (ks' q, vs' q) ∈ (A ++ []).map (fun q => (ks q, vs q)) := by rw [← he]; exact List.mem_map.2 ⟨q, a1, rfl⟩
      obtain ⟨x, hx, hxe⟩ := List.mem_map.1 this
      have e3 : ks x = k := by have := congrArg Prod.fst hxe; simp only at this; rw [this, a2]
      have := (h2.map k x).2 ⟨by simp at hx ⊢; exact .inl hx, e3⟩
      rw [hM] at this
      cases this
  have HS : Hid (S b ∧ S bm ∧ S g ∧ nm ≤ N ∧ kok k ∧ (A ++ [p]).length = cap) := ⟨h4, h5, h6, hN, hk, hc⟩
  have hz : ((cap : Int) == 0) = false := by simp; omega
  have hz2 : ((m : Int) == (cap : Int)) = true := by simp; omega
  have hz3 : (m : Int) = (cap : Int) := by omega
  have hz4 : ¬ (cap : Int) = 0 := by omega
  have HmO : Hid (m = cap) := hmO
  clear h1 h2 hM hk hlen hc hnp
  subst hmO
  clear hz2 hz3
  have hpi : (p : Int) < (m : Int) + 1 := by omega
  go_enter Tryz.func11, Tryz.ntmps11
  go_wp2_with fail
  refine q0.mono ?_
  rintro e w0 ⟨rfl, rfl⟩
  go_wp2_with fail
  refine q1.mono ?_
  rintro e w1 ⟨rfl, rfl⟩
  go_wp2_with fail
  go_quiet (first | (go_at_call 18; exact Calls.quiet_of_same (ql _)))
  go_wp2_with fail
  refine (q2 _).mono ?_
  rintro e w2 ⟨rfl, ks', vs', nw', od', M', O', C2, L2, e2, _, F2⟩
  have hl2 := congrArg List.length e2
  have hOl : O'.length + 1 = m := by have := HS.out.2.2.2.2.2; simp at hl2 this ⊢; omega
  have hm1 := L2.len
  obtain ⟨_, j2⟩ := ring_nb L2.ring (p := 0) (.inl rfl)
  have hy : od' 0 < m := j2.elim (fun e => by omega) (fun e => ((L2.mem _).1 e).2)
  have q3 := add_any C2 (by omega) (by omega) rfl hy k v HS.out.2.2.2.2.1 (by have := HS.out.2.2.2.1; omega)
  have HC : Hid (∀ w' g' c', Ca w' b bm g' c' (nm + 1 + 1) (m + 1) (m : Int) (up ks' m k) (up vs' m v) (up (up (up nw' m 0) m 0) (od' 0) m) (up (up (up od' m 0) m (od' 0)) 0 m) (putP M' k m) → (g' = g ∨ w2.heap.size ≤ g') → Cx w' (fun j => S j ∨ w1.heap.size ≤ j) b (N + 2) m ((k, v) :: A.map (fun q => (ks q, vs q)))) := fun w' g' c' C hg => by
    obtain ⟨d1, d2, d3, d4, d5, d6⟩ := HS.out
    have := Cx.added (S := S) (N := N + 2) (w := w2) L2 d5 (HM2.out M' ks' vs' O' nw' od' L2 e2) C hg d1 d2 d3 (by omega) (by omega) hc2
    rw [e2, List.append_nil] at this
    exact this.mono (fun j hj e => e.imp id (fun q => Nat.le_trans (by have := F2.size; simpa using this) q)) (Nat.le_refl _)
  have HF2 : Hid (Fr (fun k => k = b ∨ k = g ∨ k = bm) w1 w2) := ((Fr.refl (fun _ => False) w1).drewN _).mono (fun _ _ e => e.elim) |>.trans F2 (fun j _ e => e)
  clear q0 q1 q2 ql C2 F2 L2 e2 hl2 hOl hm1 j2 HM2 c0 c1 lb lg r2 r0
  go_wp2_with fail
  refine q3.mono ?_
  rintro e w3 ⟨rfl, g', c', hg, C3, F3⟩
  have HF : Hid (Cx w3 (fun j => S j ∨ w1.heap.size ≤ j) b (N + 2) m ((k, v) :: A.map (fun q => (ks q, vs q))) ∧ Fr S w1 w3) := by
    obtain ⟨d1, d2, d3, _⟩ := HS.out
    exact ⟨HC.out w3 g' c' C3 hg, (HF2.out.trans F3 (fun j _ e => e)).mono (fun j _ e => by rcases e with e | e | e; exact e ▸ d1; exact e ▸ d3; exact e ▸ d2)⟩
  clear q3 C3 F3 HC hg
  go_wp2
  go_ret2
  exact ⟨rfl, HF.out⟩
theorem put_any {W : World} {S : Nat → Prop} {b N cap : Nat} {L : LT} (h : Cx W S b N cap L) (k : KT) (v : VT) (hk : kok k) (hN : N < 4611686018427387900) :
    Calls Tryz.prog 11 #[.pointer (some ⟨b, 0, none⟩), kv k, vv v] W fun e w' => e = .returned (.tuple #[kv (putA cap L k v).1, .bool (putA cap L k v).2.1]) ∧ Cx w' (fun j => S j ∨ W.heap.size ≤ j) b (N + 2) cap (putA cap L k v).2.2 ∧ Fr S W w' := by
  have HX := h
  obtain ⟨bm, g, c, nm, n, ks, vs, nw, od, M, O, h1, h2, h3, h4, h5, h6, h7, h8, h9⟩ := h
  cases hM : M k with
  | some p =>
    obtain ⟨A, B, hO, ht, hkp⟩ := lo_some h2 vs hM
    rw [← h3] at ht
    simp only [putA, ht]
    subst hO
    refine (put_there h1 h2 h4 h5 h6 h7 h8 h9 v hk hM hkp).mono ?_
    rintro e w' ⟨rfl, C, F⟩
    exact ⟨rfl, C.mono (fun _ _ e => .inl e) (by omega), F⟩
  | none =>
    have ht := lo_none h2 vs hM
    rw [← h3] at ht
    simp only [putA, ht]
    by_cases hc0 : cap = 0
    · rw [if_pos hc0]
      rw [hc0] at h1
      refine (put_zero h1 v hk hM).mono ?_
      rintro e w' ⟨rfl, rfl⟩
      exact ⟨rfl, HX.mono (fun _ _ e => .inl e) (by omega), Fr.refl _ _⟩
    · rw [if_neg hc0]
      have hlO : L.length = O.length := by rw [h3]; simp
      by_cases hf : L.length = cap
      · rw [if_pos hf]
        have hne : O ≠ [] := fun e => by rw [e] at hlO; simp at hlO; rw [hlO] at hf; simp at hf; omega
        have hO := List.dropLast_concat_getLast hne
        generalize O.dropLast = A at hO
        generalize O.getLast hne = p at hO
        subst hO
        refine (put_full h1 h2 h4 h5 h6 h7 hN (by omega) h9 v hk hM).mono ?_
        rintro e w' ⟨rfl, C, F⟩
        rw [h3, List.map_append, List.map_cons, List.map_nil, List.getLast?_concat, List.dropLast_concat]
        exact ⟨rfl, C, F⟩
      · rw [if_neg hf]
        refine (put_room h1 h2 h4 h5 h6 h7 (by omega) (by omega) h9 v hk hM).mono ?_
        rintro e w' ⟨rfl, C, F⟩
        rw [h3]
        exact ⟨rfl, C, F⟩
end Go.Proofs.YtgdjoaiahigjpaaGreatDoor.CI
