/- CacheKeeps. -/
import Derived.Test.YtgdjoaiahigjpaaDoorNc
import Derived.Test.YtgdjoaiahigjpaaDoorEg
import Derived.Deep.DeepCutAuto
import Derived.Deep.RegionHeld3
namespace Go.Proofs.YtgdjoaiahigjpaaDoor
open Go.RowKit Go.Maps
open CS hiding tA tB tC
set_option linter.unusedVariables false
set_option linter.unusedSimpArgs false
theorem evsK {w : World} {a : Nat → Addr} (i : Nat) (hi : i < 16) : EV w a (sen (a i)) (i + 1) none := .inr (.inl ⟨i, hi, rfl, rfl, rfl⟩)
theorem is_senK {B : Nat} {w : World} {a : Nat → Addr} (hS : Sent B w a) (i : Nat) (hi : i < 16) {c : Int} (hc : c = (i + 1 : Nat)) :
    Calls Tryd.prog 8 #[sen (a i), .int .i64 c] w fun e w' => e = .returned (.bool true) ∧ Nw w w' := by
  have := isE_any hS (evsK (w := w) (a := a) i hi) c
  have e : sameB (i + 1) none c (-1) = true := by simp [sameB, hc]
  rw [e] at this
  exact this
theorem k1n (w : World) (v : Value) (t : TypeId) : ∀ j u, [v][j]? = some u → (w.alloc (.cells #[v] t)).cell? ((⟨w.heap.size, 0, none⟩ : Addr).add j) = some u := by
  intro j u hj
  match j, hj with
  | 0, h => simp at h; rw [← h, addO, cell_of (heap_new _ _)]; rfl
  | j + 1, h => simp at h
theorem neqJ (a b : Nat) : ((a : Int) != (b : Int)) = decide (a ≠ b) := by
  by_cases h : a = b
  · simp [h]
  · rw [decide_eq_true h]; simp; omega
theorem neqM (a b : Nat) (h : a < b) : ((a : Int) != -1) = decide (a ≠ b) := by
  rw [decide_eq_true (by omega)]
  have : ¬ (a : Int) = -1 := by omega
  simp [this]
theorem mem_mid {α : Type} {x z : α} {A B : List α} (h : z ∈ x :: (A ++ B)) : z ∈ A ++ x :: B := by simp at h ⊢; grind
theorem tk_mem : ∀ {L : LT} {k : KT}, k ∈ L.map Prod.fst → ∃ v r, tk L k = some (v, r) ∧ (k, v) ∈ L
  | [], _, h => by simp at h
  | z :: L, k, h => by
    by_cases e : z.1 = k
    · exact ⟨z.2, L, by rw [tk, if_pos e], by rw [← e]; simp⟩
    · obtain ⟨v, r, h1, h2⟩ := tk_mem (L := L) (k := k) (by simpa [Ne.symm e] using h)
      exact ⟨v, z :: r, by rw [tk, if_neg e, h1]; rfl, by simp [h2]⟩
theorem Kx.keysK {w W : World} {b N cap : Nat} {L : LT} {p : Option Addr} (h : Kx w W b N cap L p) {n : Nat} {K : List ByteArray} (hn : n = L.length) (hK : K = L.map Prod.fst) :
    Calls Tryd.prog 13 #[.pointer (some ⟨b, 0, none⟩)] W fun e W' => ∃ p5 c, e = .returned (.slice p5 n c) ∧ Strs W' p5 K ∧ Kx w W' b N cap L p := by
  subst hn hK
  obtain ⟨S, h2, h3, h4⟩ := h.ex
  refine (keys_any h3).mono ?_
  rintro e W' ⟨v, rfl, ho, n⟩
  obtain ⟨p5, c, rfl, hs, _⟩ := strs_row (ss := L.map Prod.fst) ho
  exact ⟨p5, c, rfl, hs, h.go n⟩
theorem samesK (p q : Option Addr) (c c' : Nat) (K : List ByteArray) (n : Nat) (w : World) (hp : Strs w p K) (hq : Strs w q K) (hn : K.length = n) (hl : n ≤ 140737488355328) :
    Calls Tryd.prog 12 #[.slice p n c, .slice q n c'] w fun e w' => e = .returned (.bool true) ∧ Nw w w' := by
  subst hn
  exact sames_any p q c c' K w hp hq hl
theorem own1 (w : World) (x : ByteArray) : (w.alloc (.cells #[.string x] 9)).ownsRow w.heap.size 9 1 (.slice (some ⟨w.heap.size, 0, none⟩) 1 1) 1 [.string x] := by
  refine ⟨rfl, .inr ⟨w.heap.size, 1, #[.string x], rfl, Nat.le_refl _, heap_new _ _, ?_⟩⟩
  refine ⟨by decide, by decide, rfl, rfl⟩
set_option maxRecDepth 100000 in
theorem keeps_bad {B : Nat} {w : World} {a : Nat → Addr} (hS : Sent B w a) (cap : Int) (hc : cap < 0 ∨ 1024 < cap) (v : Value) :
    Calls Tryd.prog 3 #[.int .i64 cap, v] w fun e w' => e = .returned (.bool true) ∧ Nw w w' := by
  have q := new_no (w := w) cap hc hS
  have HQ : Hid (∀ W, Nw w W → Calls Tryd.prog 8 #[sen (a 1), .int .i64 2] W fun e w' => e = .returned (.bool true) ∧ Nw W w') := fun W nW => is_senK (hS.fr nW (fun _ _ f => f)) 1 (by decide) (by decide)
  clear hS
  go_enter Tryd.func3, Tryd.ntmps3
  go_wp2_with fail
  refine q.mono ?_
  rintro e w1 ⟨rfl, n1⟩
  go_wp2_with fail
  refine (alive_any w1).mono ?_
  rintro e w2 ⟨rfl, n2⟩
  have N2 : Hid (Nw w w2) := n1.tr n2
  clear n1 n2 q
  have q3 := HQ.out w2 N2.out
  by_cases h0 : cap < 0
  · clear hc
    go_wp2_with fail
    refine q3.mono ?_
    rintro e w3 ⟨rfl, n3⟩
    go_wp2
    go_ret
    exact ⟨rfl, N2.out.tr n3⟩
  · have h1 : 1024 < cap := by omega
    clear hc
    go_wp2_with fail
    refine q3.mono ?_
    rintro e w3 ⟨rfl, n3⟩
    go_wp2
    go_ret
    exact ⟨rfl, N2.out.tr n3⟩
set_option maxRecDepth 100000 in
set_option maxHeartbeats 8000000 in
theorem keeps_good {w : World} (cp : Nat) (hc : cp ≤ 1024) {q : Option Addr} {U : List UT} (hU : Uses w q U) (hl : (∀ x ∈ U, x.1.size ≤ 140737488355328) ∧ U.length ≤ 140737488355328) (c : Nat) :
    Calls Tryd.prog 3 #[.int .i64 (cp : Int), .slice q U.length c] w fun e w' => e = .returned (.bool true) ∧ Nw w w' := by
  have q0 := al_new (Fr.refl _ w) cp hc
  have HU : Hid (Uses w q U) := hU
  have HL : Hid (∀ x ∈ U, x.1.size ≤ 140737488355328) := hl.1
  obtain ⟨n, hn⟩ : ∃ n, n = U.length := ⟨_, rfl⟩
  have Hn : Hid (n = U.length) := hn
  have hnb := hl.2
  rw [← hn] at hnb ⊢
  have hc0 : ¬ (cp : Int) < 0 := by omega
  have hc1 : ¬ (1024 : Int) < (cp : Int) := by omega
  obtain ⟨i0, hi0, hie⟩ := Option.map_eq_some_iff.1 CS.infoK
  simp only [Prod.mk.injEq] at hie
  have HI0 : Hid (Tryd.prog.info? 9 = some i0 ∧ i0.zero = some (.string ⟨#[]⟩) ∧ i0.size = 1 ∧ i0.bytes = 16) := ⟨hi0, hie.1, hie.2.1, hie.2.2⟩
  clear hU hl hn hi0 hie
  go_enter Tryd.func3, Tryd.ntmps3
  go_wp2_with fail
  refine q0.mono ?_
  rintro e w1 ⟨b, rfl, al⟩
  go_wp2_with fail
  refine (alive_any w1).mono ?_
  rintro e w2 ⟨rfl, n2⟩
  have A2 : Hid (Al w w2 b 0 cp []) := al.go n2
  clear al n2 q0
  go_wp2
  go_loopw [7, 8, 9] (fun v7 v8 v9 wr => ∃ (i lst : Nat) (L : LT) (p : Option Addr) (kc : Nat), i ≤ n ∧ v9 = .int .i64 i ∧ v8 = .int .i64 lst ∧ v7 = .slice p L.length kc ∧ Kx w wr b (2 * i) cp L p ∧ LastOk U i lst L) (fun _ _ v9 _ => n - (intOf v9).toNat)
  case atStart => exact ⟨0, 0, [], none, 0, by omega, rfl, rfl, rfl, Kx.of0 A2.out, LastOk.start U⟩
  case round =>
    obtain ⟨i, lst, L, p, kc, hi, rfl, rfl, rfl, kx, lo⟩ := hrel
    clear A2
    obtain ⟨wa, hwa⟩ : ∃ z, z = wr := ⟨_, rfl⟩
    subst hwa
    have HK : Hid (Kx w wa b (2 * i) cp L p) := kx
    have HLO : Hid (LastOk U i lst L) := lo
    have hlc := kx.len.1
    have HKN : Hid ((L.map Prod.fst).Nodup) := kx.key.2
    obtain ⟨ln, hln⟩ : ∃ z, z = L.length := ⟨_, rfl⟩
    have Hln : Hid (ln = L.length) := hln
    rw [← hln] at hlc ⊢
    obtain ⟨K, hKK⟩ : ∃ z, z = L.map Prod.fst := ⟨_, rfl⟩
    have HKK : Hid (K = L.map Prod.fst) := hKK
    have HST0 : Hid (Strs wa p K) := by show Strs _ _ _; rw [hKK]; exact kx.st
    have HKl : Hid (K.length = ln) := by show _ = _; rw [hKK, hln]; simp
    clear kx lo hln hKK
    by_cases hlt : i < n
    · obtain ⟨g, o, rfl, x0, x1, x2⟩ := HU.out i (by rw [← Hn.out]; exact hlt)
      obtain ⟨X, hX⟩ : ∃ z, z = (U.getD i u0t).1 := ⟨_, rfl⟩
      obtain ⟨Y, hY⟩ : ∃ z, z = (U.getD i u0t).2.1 := ⟨_, rfl⟩
      obtain ⟨Z, hZ⟩ : ∃ z, z = (U.getD i u0t).2.2 := ⟨_, rfl⟩
      rw [← hX] at x0
      rw [← hY] at x1
      rw [← hZ] at x2
      have HXY : Hid (X = (U.getD i u0t).1 ∧ Y = (U.getD i u0t).2.1 ∧ Z = (U.getD i u0t).2.2) := ⟨hX, hY, hZ⟩
      have hkX : Hid (kok X) := by
        have h1 := HL.out (U.getD i u0t) (by rw [List.getD_eq_getElem?_getD, List.getElem?_eq_getElem (by rw [← Hn.out]; exact hlt)]; simp)
        rw [← hX] at h1
        show _ ≤ _
        omega
      have HC : Hid (∀ V, Nw w V → V.cell? ⟨g, o + i * 3, none⟩ = some (.string X) ∧ V.cell? ⟨g, o + i * 3 + 1, none⟩ = some (.int .i64 Y) ∧ V.cell? ⟨g, o + i * 3 + 2, none⟩ = some (.bool Z)) := fun V nV => ⟨nV.cellOf x0, nV.cellOf x1, nV.cellOf x2⟩
      clear hX hY hZ x0 x1 x2
      have hii : (i : Int) < (n : Int) := by omega
      go_wp2
      go_loopw [10, 11] (fun v10 v11 wx => ∃ (k : Nat) (z : Int), k ≤ ln ∧ v11 = .int .i64 k ∧ v10 = .int .i64 z ∧ AtK K X k z ∧ Nw wa wx) (fun _ v11 _ => ln - (intOf v11).toNat)
      case atStart => exact ⟨0, -1, by omega, rfl, rfl, .inl ⟨rfl, fun j hj => by omega⟩, Fr.refl _ _⟩
      case round =>
        obtain ⟨k, z, hk, rfl, rfl, hat, nwx⟩ := hrel
        have NX : Hid (Nw wa wr) := nwx
        by_cases hkl : k < ln
        · obtain ⟨g2, o2, rfl, hc2⟩ := HST0.out.at k (by rw [HKl.out]; exact hkl)
          have d2 := nwx.cellOf hc2
          have d1 := (HC.out wr (HK.out.nw.tr nwx)).1
          obtain ⟨y, hy⟩ : ∃ y, y = K.getD k e0t := ⟨_, rfl⟩
          rw [← hy] at d2
          have Hy : Hid (y = K.getD k e0t) := hy
          have HAT : Hid (AtK K X k z) := hat
          have hki : (k : Int) < (ln : Int) := by omega
          clear hc2 nwx hat hy
          by_cases hyx : y = X
          · subst hyx
            have e1 := tl_sameK y
            go_wp2
            go_quiet (fail)
            go_wp2
            exact ⟨⟨k + 1, (k : Int), by omega, by go_num, rfl, AtK.yes k Hy.out.symm, NX.out.drewN _⟩, by simp [intOf]; omega⟩
          · have e1 := tl_neK hyx
            have HNE : Hid (K.getD k e0t ≠ X) := by show _ ≠ _; rw [← Hy.out]; exact hyx
            clear hyx
            go_wp2
            go_quiet (fail)
            go_wp2
            exact ⟨⟨k + 1, z, by omega, by go_num, rfl, HAT.out.no HNE.out, NX.out.drewN _⟩, by simp [intOf]; omega⟩
        · obtain rfl : k = ln := by omega
          have hki : ¬ (k : Int) < (k : Int) := by omega
          have HKW : Hid (Kx w wr b (2 * i) cp L p) := HK.out.go nwx
          have HEA : Hid ((z = -1 ∧ tk L X = none) ∨ ∃ A v B, L = A ++ (X, v) :: B ∧ z = (A.length : Int) ∧ tk L X = some (v, A ++ B)) := at_end (by rw [← Hln.out, ← HKK.out]; exact hat) HKN.out
          have HCW := HC.out wr (HK.out.nw.tr nwx)
          clear hat nwx
          obtain ⟨wb, hwb⟩ : ∃ z, z = wr := ⟨_, rfl⟩
          subst hwb
          obtain ⟨d0, d1, d2⟩ := HCW
          clear NX HK
          rcases HEA.out with ⟨rfl, htk⟩ | ⟨A, v, B, hL, rfl, htk⟩
          · clear HEA
            cases Z with
            | false =>
              as_aux_lemma =>
                have HTK : Hid (tk L X = none) := htk
                have qg := HKW.out.get_no X hkX.out htk
                clear htk
                go_wp2_with fail
                refine qg.mono ?_
                rintro e w3 ⟨rfl, kx3⟩
                have K3 : Hid (Kx w w3 b (2 * i) cp L p) := kx3
                obtain ⟨e0, e1, e2⟩ := HC.out w3 kx3.nw
                clear kx3 qg d0 d1 d2
                go_wp2
                exact ⟨⟨i + 1, lst, L, p, kc, by omega, by go_num, rfl, by rw [Hln.out], K3.out.more (by omega), HLO.out.get HXY.out.2.2.symm (fun z h => h)⟩, by simp [intOf]; omega⟩
            | true =>
              by_cases hz : cp = 0
              · as_aux_lemma =>
                  have hL0 : L = [] := List.length_eq_zero_iff.1 (by have := Hln.out; omega)
                  have HPA : Hid (putA cp L X Y = (X, true, L)) := by show _ = _; rw [putA, htk]; simp [hz]
                  have z1 : ((cp : Int) == 0) = true := by simp [hz]
                  have z2 : ¬ (0 : Int) < (cp : Int) := by omega
                  have z2b : decide ((0 : Int) < (cp : Int)) = false := decide_eq_false z2
                  have z3 : ((k : Int) == (cp : Int)) = true := by simp; omega
                  have hxx := tl_sameK X
                  have HL0 : Hid (L = []) := hL0
                  have HZ : Hid (cp = 0) := hz
                  clear htk hL0 hz
                  have qP : Hid (∀ V, Nw wb V → Calls Tryd.prog 10 #[.pointer (some ⟨b, 0, none⟩), .string X, .int .i64 Y] V fun e W' => e = .returned (.tuple #[.string X, .bool true]) ∧ Al w W' b (2 * i + 2) cp (L) ∧ Strs W' p (L.map Prod.fst)) := fun V nV => (HKW.out.go nV).put X Y hkX.out (by omega) HPA.out
                  go_wp2_with fail
                  go_region_held3 (fun w' => w'.cell? ⟨g, o + i * 3, none⟩ = some (.string X) ∧ w'.cell? ⟨g, o + i * 3 + 1, none⟩ = some (.int .i64 Y)) (first | exact ⟨d0, d1⟩ | exact KEEP.out) ((go_at_call 10; refine (qP.out _ (by first | exact (Fr.refl _ _).drew | exact Fr.refl _ _)).mono ?_; rintro e w3 ⟨rfl, al3, st3⟩; have A3 : Hid (Al w w3 b (2 * i + 2) cp (L)) := al3; have S3 : Hid (Strs w3 p (L.map Prod.fst)) := st3; have KEEP : Hid (w3.cell? ⟨g, o + i * 3, none⟩ = some (.string X) ∧ w3.cell? ⟨g, o + i * 3 + 1, none⟩ = some (.int .i64 Y)) := ⟨(HC.out w3 al3.nw).1, (HC.out w3 al3.nw).2.1⟩; clear al3 st3))
                  obtain ⟨d0, d1, d2⟩ := HC.out w3 A3.out.nw
                  clear KEEP
                  go_wp2
                  exact ⟨⟨i + 1, i, L, p, kc, by omega, by go_num, rfl, by rw [Hln.out], (by have := A3.out; rw [HL0.out] at this ⊢; exact (Kx.of0 this).more (by omega)), LastOk.put (by rw [HL0.out]; simp) (.inl HL0.out)⟩, by simp [intOf]; omega⟩
              · by_cases hf : k = cp
                · as_aux_lemma =>
                    have hfl : L.length = cp := by rw [← Hln.out]; exact hf
                    obtain ⟨y, hy⟩ : ∃ y, y = K.getD (k - 1) e0t := ⟨_, rfl⟩
                    have hlast : (L.getLast?.map Prod.fst).getD kz = y := by
                      rw [hy, HKK.out, Hln.out, List.getLast?_eq_getElem?, List.getD_eq_getElem?_getD, List.getElem?_map]
                      rfl
                    have HPA : Hid (putA cp L X Y = (y, true, (X, Y) :: L.dropLast)) := by show _ = _; rw [putA, htk]; simp only [if_neg hz, if_pos hfl, hlast]
                    have z1 : ((cp : Int) == 0) = false := by simp; omega
                    have z2 : (0 : Int) < (cp : Int) := by omega
                    have z2b : decide ((0 : Int) < (cp : Int)) = true := decide_eq_true z2
                    have z3 : ((k : Int) == (cp : Int)) = true := by simp; omega
                    have hyy := tl_sameK y
                    have HY : Hid (y = K.getD (k - 1) e0t) := hy
                    have HFL : Hid (L.length = cp) := hfl
                    obtain ⟨km, hkm⟩ : ∃ z, z = k - 1 := ⟨_, rfl⟩
                    have hk1 : wrap64 ((k : Int) - 1) = (km : Int) := by unfold wrap64; omega
                    have hk1b : (k : Int) - 1 = (km : Int) := by omega
                    have hkmk : km < k := by omega
                    have HKM : Hid (km = k - 1) := hkm
                    have HF : Hid (k = cp) := hf
                    have hcp1 : 1 ≤ cp := by omega
                    clear htk hfl hlast hy hkm hf
                    have qP : Hid (∀ V, Nw wb V → Calls Tryd.prog 10 #[.pointer (some ⟨b, 0, none⟩), .string X, .int .i64 Y] V fun e W' => e = .returned (.tuple #[.string y, .bool true]) ∧ Al w W' b (2 * i + 2) cp ((X, Y) :: L.dropLast) ∧ Strs W' p (L.map Prod.fst)) := fun V nV => (HKW.out.go nV).put X Y hkX.out (by omega) HPA.out
                    go_wp2_with fail
                    go_region_held3 (fun w' => w'.cell? ⟨g, o + i * 3, none⟩ = some (.string X) ∧ w'.cell? ⟨g, o + i * 3 + 1, none⟩ = some (.int .i64 Y)) (first | exact ⟨d0, d1⟩ | exact KEEP.out) ((go_at_call 10; refine (qP.out _ (by first | exact (Fr.refl _ _).drew | exact Fr.refl _ _)).mono ?_; rintro e w3 ⟨rfl, al3, st3⟩; have A3 : Hid (Al w w3 b (2 * i + 2) cp ((X, Y) :: L.dropLast)) := al3; have S3 : Hid (Strs w3 p (L.map Prod.fst)) := st3; have KEEP : Hid (w3.cell? ⟨g, o + i * 3, none⟩ = some (.string X) ∧ w3.cell? ⟨g, o + i * 3 + 1, none⟩ = some (.int .i64 Y)) := ⟨(HC.out w3 al3.nw).1, (HC.out w3 al3.nw).2.1⟩; clear al3 st3))
                    obtain ⟨d0, d1, d2⟩ := HC.out w3 A3.out.nw
                    clear KEEP
                    have HJ : Hid (∀ k2, k2 < k → ((k2 : Int) != -1) = decide (k2 ≠ k)) := fun k2 h2 => neqM k2 k h2
                    have HEND : Hid (∀ k2, k2 ≤ k → 1 + (nx K k k2).length ≤ cp → (k2 = k ∨ ¬ (1 + (nx K k k2).length < cp)) → X :: nx K k k2 = ((X, Y) :: L.dropLast).map Prod.fst) := fun k2 h2 h3 h4 => by
                      have hk0 := Hln.out
                      have hlc2 : L.length ≤ cp := by omega
                      rw [HKK.out] at h3 h4 ⊢
                      rw [hk0] at h2 h3 h4 ⊢
                      rw [nx_absent (cap := cp) hlc2 h2 h3 h4, if_pos HFL.out]; rfl
                    have HLO1 : Hid (LastOk U (i + 1) i ((X, Y) :: L.dropLast)) := LastOk.put A3.out.cx.key.2 (.inr ⟨_, by rw [← HXY.out.1, ← HXY.out.2.1]⟩)
                    obtain ⟨g5, o5, rfl, hc5⟩ := S3.out.at km (by rw [← HKK.out, HKl.out]; exact hkmk)
                    rw [← HKK.out, HKM.out, ← HY.out, ← HKM.out] at hc5
                    go_wp2
                    go_loopw [16, 17] (fun v16 v17 wx => ∃ (k2 m : Nat) (va : Option Addr) (vc : Nat), k2 ≤ k ∧ m = 1 + (nx K k k2).length ∧ m ≤ cp ∧ v17 = .int .i64 k2 ∧ v16 = .slice va m vc ∧ wx.ownsRow w3.heap.size 9 1 (.slice va m vc) m ((X :: nx K k k2).map Value.string) ∧ Nw w3 wx) (fun _ v17 _ => k - (intOf v17).toNat)
                    case atStart => exact ⟨0, 1, some ⟨w3.heap.size, 0, none⟩, 1, by omega, by rw [nx_zero]; rfl, by omega, rfl, rfl, by rw [nx_zero]; exact own1 _ _, (Fr.refl _ _).alloc _⟩
                    case round =>
                      obtain ⟨k2, m, va, vc, hk2, hm, hmc, rfl, rfl, hown, nwx⟩ := hrel
                      have NX : Hid (Nw w3 wr) := nwx
                      have OWN0 : Hid (wr.ownsRow w3.heap.size 9 1 (.slice va m vc) m ((X :: nx K k k2).map Value.string)) := hown
                      have Hm : Hid (m = 1 + (nx K k k2).length) := hm
                      clear hown nwx hm d0 d1 d2
                      by_cases hgo : k2 < k ∧ m < cp
                      · obtain ⟨f1, f2⟩ := hgo
                        have f1i : (k2 : Int) < (k : Int) := by omega
                        have f1b : decide ((k2 : Int) < (k : Int)) = true := decide_eq_true f1i
                        have f2i : (m : Int) < (cp : Int) := by omega
                        have f2b : decide ((m : Int) < (cp : Int)) = true := decide_eq_true f2i
                        have hkK : k2 < K.length := by rw [HKl.out]; exact f1
                        by_cases hJ : k2 = k
                        · have e1 : ((k2 : Int) != -1) = false := by have := HJ.out k2 f1; rw [this]; simpa using hJ
                          have HN : Hid (nx K k (k2 + 1) = nx K k k2) := by show _ = _; rw [← hJ]; exact nx_same hkK
                          clear hJ
                          go_wp2
                          exact ⟨⟨k2 + 1, m, va, vc, by omega, by rw [HN.out]; exact Hm.out, hmc, by go_num, rfl, by rw [HN.out]; exact OWN0.out, NX.out⟩, by simp [intOf]; omega⟩
                        · have e1 : ((k2 : Int) != -1) = true := by have := HJ.out k2 f1; rw [this]; simpa using hJ
                          have HN : Hid (nx K k (k2 + 1) = nx K k k2 ++ [K.getD k2 e0t]) := nx_more hkK hJ
                          obtain ⟨g4, o4, hp4, hc4⟩ := (S3.out.nw NX.out).at k2 (by rw [← HKK.out]; exact hkK)
                          cases hp4
                          rw [← HKK.out] at hc4
                          obtain ⟨y, hy⟩ : ∃ y, y = K.getD k2 e0t := ⟨_, rfl⟩
                          rw [← hy] at hc4
                          have Hy : Hid (y = K.getD k2 e0t) := hy
                          have OWN : Hid ((wr.alloc (.cells #[.string y] 9)).ownsRow w3.heap.size 9 1 (.slice va m vc) m ((X :: nx K k k2).map Value.string)) := OWN0.out.alloc _
                          have HSZ : Hid (w3.heap.size ≤ (wr.alloc (.cells #[.string y] 9)).heap.size) := by show _ ≤ _; have := NX.out.size; simp; omega
                          have HNew : Hid (∀ j u, [Value.string y][j]? = some u → (wr.alloc (.cells #[.string y] 9)).cell? ((⟨wr.heap.size, 0, none⟩ : Addr).add j) = some u) := k1n wr _ _
                          have HFF : Hid (∀ v' w5, w5.ownsRow w3.heap.size 9 1 v' (m + 1) ((X :: nx K k k2).map Value.string ++ [Value.string y]) → Two (wr.alloc (.cells #[.string y] 9)) w5 9 1 (.slice va m vc) v' m 1 ((X :: nx K k k2).map Value.string ++ [Value.string y]) → ∃ xa xc, v' = .slice xa (m + 1 : Nat) xc ∧ w5.ownsRow w3.heap.size 9 1 (.slice xa (m + 1 : Nat) xc) (m + 1) ((X :: nx K k (k2 + 1)).map Value.string) ∧ Nw w3 w5) := by
                            intro v' w5 o5 t5
                            have hh : (X :: nx K k k2).map Value.string ++ [Value.string y] = (X :: nx K k (k2 + 1)).map Value.string := by rw [HN.out, ← Hy.out]; simp
                            rw [hh] at o5
                            obtain ⟨xa, xc, rfl⟩ : ∃ xa xc, v' = .slice xa (m + 1 : Nat) xc := by
                              rcases o5.2 with ⟨_, h0⟩ | ⟨g, cap, cur, hv, _⟩
                              · omega
                              · exact ⟨_, _, hv⟩
                            exact ⟨xa, xc, rfl, o5, (NX.out.alloc _).trans t5.fr (fun j hj e => by have := (OWN0.out.lt j e).1; omega)⟩
                          clear hy hJ
                          go_wp2_with (at_builtin; refine wpList_two _ rfl (.tmp 197) (.tmp 202) 30 rfl w3.heap.size 9 i0 (.string ⟨#[]⟩) 1 16 Tryd.underlying30 HI0.out.1 HI0.out.2.1 HI0.out.2.2.1 HI0.out.2.2.2 rfl (by decide) (.slice va m vc) m ((X :: nx K k k2).map Value.string) rfl OWN.out ⟨wr.heap.size, 0, none⟩ 1 1 [Value.string y] rfl rfl HNew.out (by simp [Value.oneCell']) (by unfold maxLen; omega) (by omega) HSZ.out ?_; intro v' w5 o5 t5; have HX5 : Hid _ := HFF.out v' w5 o5 t5; clear o5 t5; obtain ⟨xa, xc, rfl, ho5, n5⟩ := HX5.out; have HO5 : Hid (w5.ownsRow w3.heap.size 9 1 (.slice xa (m + 1 : Nat) xc) (m + 1) ((X :: nx K k (k2 + 1)).map Value.string)) := ho5; have HN5 : Hid (Nw w3 w5) := n5; clear ho5 n5 HX5 hc4)
                          exact ⟨⟨k2 + 1, m + 1, xa, xc, by omega, by rw [HN.out, List.length_append, Hm.out]; rfl, by omega, by go_num, rfl, HO5.out, HN5.out⟩, by simp [intOf]; omega⟩
                      · have HR : Hid (X :: nx K k k2 = ((X, Y) :: L.dropLast).map Prod.fst) := HEND.out k2 hk2 (by rw [← Hm.out]; exact hmc) (by rw [← Hm.out]; omega)
                        have hml : m = ((X, Y) :: L.dropLast).length := by have := congrArg List.length HR.out; rw [List.length_cons, List.length_map] at this; rw [← this, Hm.out]; omega
                        have ql := fun V (nV : Nw w3 V) => len_any (A3.out.go nV).cx
                        rw [← hml] at ql
                        obtain ⟨va2, vc2, hve, hstr, _⟩ := strs_row (ss := X :: nx K k k2) OWN0.out
                        have HKF : Hid (Kx w wr b (2 * i + 2) cp ((X, Y) :: L.dropLast) va) := by
                          cases hve
                          exact Kx.of A3.out NX.out (by rw [← HR.out]; exact hstr) (fun g1 o1 e1 => (OWN0.out.lt g1 (by rw [e1]; rfl)).1)
                        clear hve hstr
                        have Hml : Hid (m = ((X, Y) :: L.dropLast).length) := hml
                        clear hml
                        have f3 : ¬ (cp : Int) < (m : Int) := by omega
                        have HQL : Hid (∀ V, Nw w3 V → Calls Tryd.prog 11 #[.pointer (some ⟨b, 0, none⟩)] V fun e w' => e = .returned (.int .i64 (m : Int)) ∧ w' = V) := ql
                        clear ql
                        by_cases f1 : k2 < k
                        · have f1i : (k2 : Int) < (k : Int) := by omega
                          have f1b : decide ((k2 : Int) < (k : Int)) = true := decide_eq_true f1i
                          have f2i : ¬ (m : Int) < (cp : Int) := by omega
                          have f2b : decide ((m : Int) < (cp : Int)) = false := decide_eq_false f2i
                          go_wp2_with fail
                          refine (HQL.out _ NX.out).mono ?_
                          rintro e w5 ⟨rfl, rfl⟩
                          go_wp2_with fail
                          refine (HQL.out _ NX.out).mono ?_
                          rintro e w6 ⟨rfl, rfl⟩
                          go_wp2
                          exact ⟨⟨i + 1, i, (X, Y) :: L.dropLast, va, vc, by omega, by go_num, rfl, by rw [Hml.out], HKF.out.more (by omega), HLO1.out⟩, by simp [intOf]; omega⟩
                        · have f1i : ¬ (k2 : Int) < (k : Int) := by omega
                          have f1b : decide ((k2 : Int) < (k : Int)) = false := decide_eq_false f1i
                          go_wp2_with fail
                          refine (HQL.out _ NX.out).mono ?_
                          rintro e w5 ⟨rfl, rfl⟩
                          go_wp2_with fail
                          refine (HQL.out _ NX.out).mono ?_
                          rintro e w6 ⟨rfl, rfl⟩
                          go_wp2
                          exact ⟨⟨i + 1, i, (X, Y) :: L.dropLast, va, vc, by omega, by go_num, rfl, by rw [Hml.out], HKF.out.more (by omega), HLO1.out⟩, by simp [intOf]; omega⟩
                · as_aux_lemma =>
                    have hfl : ¬ L.length = cp := by rw [← Hln.out]; exact hf
                    have HPA : Hid (putA cp L X Y = (kz, false, (X, Y) :: L)) := by show _ = _; rw [putA, htk]; simp only [if_neg hz, if_neg hfl]
                    have z1 : ((cp : Int) == 0) = false := by simp; omega
                    have z2 : (0 : Int) < (cp : Int) := by omega
                    have z2b : decide ((0 : Int) < (cp : Int)) = true := decide_eq_true z2
                    have z3 : ((k : Int) == (cp : Int)) = false := by simp; omega
                    have HFL : Hid (¬ L.length = cp) := hfl
                    have hcp1 : 1 ≤ cp := by omega
                    clear htk hfl hf
                    have qP : Hid (∀ V, Nw wb V → Calls Tryd.prog 10 #[.pointer (some ⟨b, 0, none⟩), .string X, .int .i64 Y] V fun e W' => e = .returned (.tuple #[.string ⟨#[]⟩, .bool false]) ∧ Al w W' b (2 * i + 2) cp ((X, Y) :: L) ∧ Strs W' p (L.map Prod.fst)) := fun V nV => (HKW.out.go nV).put X Y hkX.out (by omega) HPA.out
                    go_wp2_with fail
                    go_region_held3 (fun w' => w'.cell? ⟨g, o + i * 3, none⟩ = some (.string X) ∧ w'.cell? ⟨g, o + i * 3 + 1, none⟩ = some (.int .i64 Y)) (first | exact ⟨d0, d1⟩ | exact KEEP.out) ((go_at_call 10; refine (qP.out _ (by first | exact (Fr.refl _ _).drew | exact Fr.refl _ _)).mono ?_; rintro e w3 ⟨rfl, al3, st3⟩; have A3 : Hid (Al w w3 b (2 * i + 2) cp ((X, Y) :: L)) := al3; have S3 : Hid (Strs w3 p (L.map Prod.fst)) := st3; have KEEP : Hid (w3.cell? ⟨g, o + i * 3, none⟩ = some (.string X) ∧ w3.cell? ⟨g, o + i * 3 + 1, none⟩ = some (.int .i64 Y)) := ⟨(HC.out w3 al3.nw).1, (HC.out w3 al3.nw).2.1⟩; clear al3 st3))
                    obtain ⟨d0, d1, d2⟩ := HC.out w3 A3.out.nw
                    clear KEEP
                    have HJ : Hid (∀ k2, k2 < k → ((k2 : Int) != -1) = decide (k2 ≠ k)) := fun k2 h2 => neqM k2 k h2
                    have HEND : Hid (∀ k2, k2 ≤ k → 1 + (nx K k k2).length ≤ cp → (k2 = k ∨ ¬ (1 + (nx K k k2).length < cp)) → X :: nx K k k2 = ((X, Y) :: L).map Prod.fst) := fun k2 h2 h3 h4 => by
                      have hk0 := Hln.out
                      have hlc2 : L.length ≤ cp := by omega
                      rw [HKK.out] at h3 h4 ⊢
                      rw [hk0] at h2 h3 h4 ⊢
                      rw [nx_absent (cap := cp) hlc2 h2 h3 h4, if_neg HFL.out]; rfl
                    have HLO1 : Hid (LastOk U (i + 1) i ((X, Y) :: L)) := LastOk.put A3.out.cx.key.2 (.inr ⟨_, by rw [← HXY.out.1, ← HXY.out.2.1]⟩)
                    go_wp2
                    go_loopw [16, 17] (fun v16 v17 wx => ∃ (k2 m : Nat) (va : Option Addr) (vc : Nat), k2 ≤ k ∧ m = 1 + (nx K k k2).length ∧ m ≤ cp ∧ v17 = .int .i64 k2 ∧ v16 = .slice va m vc ∧ wx.ownsRow w3.heap.size 9 1 (.slice va m vc) m ((X :: nx K k k2).map Value.string) ∧ Nw w3 wx) (fun _ v17 _ => k - (intOf v17).toNat)
                    case atStart => exact ⟨0, 1, some ⟨w3.heap.size, 0, none⟩, 1, by omega, by rw [nx_zero]; rfl, by omega, rfl, rfl, by rw [nx_zero]; exact own1 _ _, (Fr.refl _ _).alloc _⟩
                    case round =>
                      obtain ⟨k2, m, va, vc, hk2, hm, hmc, rfl, rfl, hown, nwx⟩ := hrel
                      have NX : Hid (Nw w3 wr) := nwx
                      have OWN0 : Hid (wr.ownsRow w3.heap.size 9 1 (.slice va m vc) m ((X :: nx K k k2).map Value.string)) := hown
                      have Hm : Hid (m = 1 + (nx K k k2).length) := hm
                      clear hown nwx hm d0 d1 d2
                      by_cases hgo : k2 < k ∧ m < cp
                      · obtain ⟨f1, f2⟩ := hgo
                        have f1i : (k2 : Int) < (k : Int) := by omega
                        have f1b : decide ((k2 : Int) < (k : Int)) = true := decide_eq_true f1i
                        have f2i : (m : Int) < (cp : Int) := by omega
                        have f2b : decide ((m : Int) < (cp : Int)) = true := decide_eq_true f2i
                        have hkK : k2 < K.length := by rw [HKl.out]; exact f1
                        by_cases hJ : k2 = k
                        · have e1 : ((k2 : Int) != -1) = false := by have := HJ.out k2 f1; rw [this]; simpa using hJ
                          have HN : Hid (nx K k (k2 + 1) = nx K k k2) := by show _ = _; rw [← hJ]; exact nx_same hkK
                          clear hJ
                          go_wp2
                          exact ⟨⟨k2 + 1, m, va, vc, by omega, by rw [HN.out]; exact Hm.out, hmc, by go_num, rfl, by rw [HN.out]; exact OWN0.out, NX.out⟩, by simp [intOf]; omega⟩
                        · have e1 : ((k2 : Int) != -1) = true := by have := HJ.out k2 f1; rw [this]; simpa using hJ
                          have HN : Hid (nx K k (k2 + 1) = nx K k k2 ++ [K.getD k2 e0t]) := nx_more hkK hJ
                          obtain ⟨g4, o4, hp4, hc4⟩ := (S3.out.nw NX.out).at k2 (by rw [← HKK.out]; exact hkK)
                          cases hp4
                          rw [← HKK.out] at hc4
                          obtain ⟨y, hy⟩ : ∃ y, y = K.getD k2 e0t := ⟨_, rfl⟩
                          rw [← hy] at hc4
                          have Hy : Hid (y = K.getD k2 e0t) := hy
                          have OWN : Hid ((wr.alloc (.cells #[.string y] 9)).ownsRow w3.heap.size 9 1 (.slice va m vc) m ((X :: nx K k k2).map Value.string)) := OWN0.out.alloc _
                          have HSZ : Hid (w3.heap.size ≤ (wr.alloc (.cells #[.string y] 9)).heap.size) := by show _ ≤ _; have := NX.out.size; simp; omega
                          have HNew : Hid (∀ j u, [Value.string y][j]? = some u → (wr.alloc (.cells #[.string y] 9)).cell? ((⟨wr.heap.size, 0, none⟩ : Addr).add j) = some u) := k1n wr _ _
                          have HFF : Hid (∀ v' w5, w5.ownsRow w3.heap.size 9 1 v' (m + 1) ((X :: nx K k k2).map Value.string ++ [Value.string y]) → Two (wr.alloc (.cells #[.string y] 9)) w5 9 1 (.slice va m vc) v' m 1 ((X :: nx K k k2).map Value.string ++ [Value.string y]) → ∃ xa xc, v' = .slice xa (m + 1 : Nat) xc ∧ w5.ownsRow w3.heap.size 9 1 (.slice xa (m + 1 : Nat) xc) (m + 1) ((X :: nx K k (k2 + 1)).map Value.string) ∧ Nw w3 w5) := by
                            intro v' w5 o5 t5
                            have hh : (X :: nx K k k2).map Value.string ++ [Value.string y] = (X :: nx K k (k2 + 1)).map Value.string := by rw [HN.out, ← Hy.out]; simp
                            rw [hh] at o5
                            obtain ⟨xa, xc, rfl⟩ : ∃ xa xc, v' = .slice xa (m + 1 : Nat) xc := by
                              rcases o5.2 with ⟨_, h0⟩ | ⟨g, cap, cur, hv, _⟩
                              · omega
                              · exact ⟨_, _, hv⟩
                            exact ⟨xa, xc, rfl, o5, (NX.out.alloc _).trans t5.fr (fun j hj e => by have := (OWN0.out.lt j e).1; omega)⟩
                          clear hy hJ
                          go_wp2_with (at_builtin; refine wpList_two _ rfl (.tmp 197) (.tmp 202) 30 rfl w3.heap.size 9 i0 (.string ⟨#[]⟩) 1 16 Tryd.underlying30 HI0.out.1 HI0.out.2.1 HI0.out.2.2.1 HI0.out.2.2.2 rfl (by decide) (.slice va m vc) m ((X :: nx K k k2).map Value.string) rfl OWN.out ⟨wr.heap.size, 0, none⟩ 1 1 [Value.string y] rfl rfl HNew.out (by simp [Value.oneCell']) (by unfold maxLen; omega) (by omega) HSZ.out ?_; intro v' w5 o5 t5; have HX5 : Hid _ := HFF.out v' w5 o5 t5; clear o5 t5; obtain ⟨xa, xc, rfl, ho5, n5⟩ := HX5.out; have HO5 : Hid (w5.ownsRow w3.heap.size 9 1 (.slice xa (m + 1 : Nat) xc) (m + 1) ((X :: nx K k (k2 + 1)).map Value.string)) := ho5; have HN5 : Hid (Nw w3 w5) := n5; clear ho5 n5 HX5 hc4)
                          exact ⟨⟨k2 + 1, m + 1, xa, xc, by omega, by rw [HN.out, List.length_append, Hm.out]; rfl, by omega, by go_num, rfl, HO5.out, HN5.out⟩, by simp [intOf]; omega⟩
                      · have HR : Hid (X :: nx K k k2 = ((X, Y) :: L).map Prod.fst) := HEND.out k2 hk2 (by rw [← Hm.out]; exact hmc) (by rw [← Hm.out]; omega)
                        have hml : m = ((X, Y) :: L).length := by have := congrArg List.length HR.out; rw [List.length_cons, List.length_map] at this; rw [← this, Hm.out]; omega
                        have ql := fun V (nV : Nw w3 V) => len_any (A3.out.go nV).cx
                        rw [← hml] at ql
                        obtain ⟨va2, vc2, hve, hstr, _⟩ := strs_row (ss := X :: nx K k k2) OWN0.out
                        have HKF : Hid (Kx w wr b (2 * i + 2) cp ((X, Y) :: L) va) := by
                          cases hve
                          exact Kx.of A3.out NX.out (by rw [← HR.out]; exact hstr) (fun g1 o1 e1 => (OWN0.out.lt g1 (by rw [e1]; rfl)).1)
                        clear hve hstr
                        have Hml : Hid (m = ((X, Y) :: L).length) := hml
                        clear hml
                        have f3 : ¬ (cp : Int) < (m : Int) := by omega
                        have HQL : Hid (∀ V, Nw w3 V → Calls Tryd.prog 11 #[.pointer (some ⟨b, 0, none⟩)] V fun e w' => e = .returned (.int .i64 (m : Int)) ∧ w' = V) := ql
                        clear ql
                        by_cases f1 : k2 < k
                        · have f1i : (k2 : Int) < (k : Int) := by omega
                          have f1b : decide ((k2 : Int) < (k : Int)) = true := decide_eq_true f1i
                          have f2i : ¬ (m : Int) < (cp : Int) := by omega
                          have f2b : decide ((m : Int) < (cp : Int)) = false := decide_eq_false f2i
                          go_wp2_with fail
                          refine (HQL.out _ NX.out).mono ?_
                          rintro e w5 ⟨rfl, rfl⟩
                          go_wp2_with fail
                          refine (HQL.out _ NX.out).mono ?_
                          rintro e w6 ⟨rfl, rfl⟩
                          go_wp2
                          exact ⟨⟨i + 1, i, (X, Y) :: L, va, vc, by omega, by go_num, rfl, by rw [Hml.out], HKF.out.more (by omega), HLO1.out⟩, by simp [intOf]; omega⟩
                        · have f1i : ¬ (k2 : Int) < (k : Int) := by omega
                          have f1b : decide ((k2 : Int) < (k : Int)) = false := decide_eq_false f1i
                          go_wp2_with fail
                          refine (HQL.out _ NX.out).mono ?_
                          rintro e w5 ⟨rfl, rfl⟩
                          go_wp2_with fail
                          refine (HQL.out _ NX.out).mono ?_
                          rintro e w6 ⟨rfl, rfl⟩
                          go_wp2
                          exact ⟨⟨i + 1, i, (X, Y) :: L, va, vc, by omega, by go_num, rfl, by rw [Hml.out], HKF.out.more (by omega), HLO1.out⟩, by simp [intOf]; omega⟩
          · clear HEA
            cases Z with
            | false =>
              as_aux_lemma =>
                have hAk : A.length < k := by rw [Hln.out, hL]; simp
                obtain ⟨J, hJJ⟩ : ∃ z, z = A.length := ⟨_, rfl⟩
                rw [← hJJ] at hAk
                have HJ0 : Hid (J = A.length) := hJJ
                rw [← hJJ]
                have HLL : Hid (L = A ++ (X, v) :: B) := hL
                have HJ : Hid (∀ k2, k2 < k → ((k2 : Int) != (J : Int)) = decide (k2 ≠ J)) := fun k2 h2 => neqJ k2 J
                have hJ1 : ¬ (J : Int) < 0 := by omega
                have hJ2 : (0 : Int) ≤ (J : Int) := by omega
                have hJ3 : decide ((J : Int) < 0) = false := decide_eq_false hJ1
                have hJ4 : decide ((0 : Int) ≤ (J : Int)) = true := decide_eq_true hJ2
                have hcp1 : 1 ≤ cp := by omega
                have HT0 : Hid (∀ V : VT, ∀ k2, k2 ≤ k → 1 + (nx K J k2).length ≤ cp → (k2 = k ∨ ¬ (1 + (nx K J k2).length < cp)) → X :: nx K J k2 = ((X, V) :: (A ++ B)).map Prod.fst) := fun V k2 h2 h3 h4 => by
                  have hk0 := Hln.out
                  have hlc2 : L.length ≤ cp := by omega
                  rw [HKK.out, HJ0.out] at h4 ⊢
                  rw [hk0] at h2 h4
                  rw [HLL.out] at h2 h4 hlc2 ⊢
                  rw [nx_there (cap := cp) hlc2 h2 h4]; rfl
                clear hJJ hL
                have qg := HKW.out.get_yes X hkX.out htk
                clear htk
                go_wp2_with fail
                refine qg.mono ?_
                rintro e w3 ⟨rfl, al3, st3⟩
                have A3 : Hid (Al w w3 b (2 * i) cp ((X, v) :: (A ++ B))) := al3
                have S3 : Hid (Strs w3 p (L.map Prod.fst)) := st3
                clear d0 d1 d2
                obtain ⟨d0, d1, d2⟩ := HC.out w3 al3.nw
                clear al3 st3 qg
                have HEND := HT0.out v
                have HEND : Hid _ := HEND
                have HLO1 : Hid (LastOk U (i + 1) lst ((X, v) :: (A ++ B))) := HLO.out.get HXY.out.2.2.symm (fun z hz => by rw [HLL.out]; exact mem_mid hz)
                go_wp2
                go_loopw [16, 17] (fun v16 v17 wx => ∃ (k2 m : Nat) (va : Option Addr) (vc : Nat), k2 ≤ k ∧ m = 1 + (nx K J k2).length ∧ m ≤ cp ∧ v17 = .int .i64 k2 ∧ v16 = .slice va m vc ∧ wx.ownsRow w3.heap.size 9 1 (.slice va m vc) m ((X :: nx K J k2).map Value.string) ∧ Nw w3 wx) (fun _ v17 _ => k - (intOf v17).toNat)
                case atStart => exact ⟨0, 1, some ⟨w3.heap.size, 0, none⟩, 1, by omega, by rw [nx_zero]; rfl, by omega, rfl, rfl, by rw [nx_zero]; exact own1 _ _, (Fr.refl _ _).alloc _⟩
                case round =>
                  obtain ⟨k2, m, va, vc, hk2, hm, hmc, rfl, rfl, hown, nwx⟩ := hrel
                  have NX : Hid (Nw w3 wr) := nwx
                  have OWN0 : Hid (wr.ownsRow w3.heap.size 9 1 (.slice va m vc) m ((X :: nx K J k2).map Value.string)) := hown
                  have Hm : Hid (m = 1 + (nx K J k2).length) := hm
                  clear hown nwx hm d0 d1 d2
                  by_cases hgo : k2 < k ∧ m < cp
                  · obtain ⟨f1, f2⟩ := hgo
                    have f1i : (k2 : Int) < (k : Int) := by omega
                    have f1b : decide ((k2 : Int) < (k : Int)) = true := decide_eq_true f1i
                    have f2i : (m : Int) < (cp : Int) := by omega
                    have f2b : decide ((m : Int) < (cp : Int)) = true := decide_eq_true f2i
                    have hkK : k2 < K.length := by rw [HKl.out]; exact f1
                    by_cases hJ : k2 = J
                    · have e1 : ((k2 : Int) != (J : Int)) = false := by have := HJ.out k2 f1; rw [this]; simpa using hJ
                      have HN : Hid (nx K J (k2 + 1) = nx K J k2) := by show _ = _; rw [← hJ]; exact nx_same hkK
                      clear hJ
                      go_wp2
                      exact ⟨⟨k2 + 1, m, va, vc, by omega, by rw [HN.out]; exact Hm.out, hmc, by go_num, rfl, by rw [HN.out]; exact OWN0.out, NX.out⟩, by simp [intOf]; omega⟩
                    · have e1 : ((k2 : Int) != (J : Int)) = true := by have := HJ.out k2 f1; rw [this]; simpa using hJ
                      have HN : Hid (nx K J (k2 + 1) = nx K J k2 ++ [K.getD k2 e0t]) := nx_more hkK hJ
                      obtain ⟨g4, o4, hp4, hc4⟩ := (S3.out.nw NX.out).at k2 (by rw [← HKK.out]; exact hkK)
                      cases hp4
                      rw [← HKK.out] at hc4
                      obtain ⟨y, hy⟩ : ∃ y, y = K.getD k2 e0t := ⟨_, rfl⟩
                      rw [← hy] at hc4
                      have Hy : Hid (y = K.getD k2 e0t) := hy
                      have OWN : Hid ((wr.alloc (.cells #[.string y] 9)).ownsRow w3.heap.size 9 1 (.slice va m vc) m ((X :: nx K J k2).map Value.string)) := OWN0.out.alloc _
                      have HSZ : Hid (w3.heap.size ≤ (wr.alloc (.cells #[.string y] 9)).heap.size) := by show _ ≤ _; have := NX.out.size; simp; omega
                      have HNew : Hid (∀ j u, [Value.string y][j]? = some u → (wr.alloc (.cells #[.string y] 9)).cell? ((⟨wr.heap.size, 0, none⟩ : Addr).add j) = some u) := k1n wr _ _
                      have HFF : Hid (∀ v' w5, w5.ownsRow w3.heap.size 9 1 v' (m + 1) ((X :: nx K J k2).map Value.string ++ [Value.string y]) → Two (wr.alloc (.cells #[.string y] 9)) w5 9 1 (.slice va m vc) v' m 1 ((X :: nx K J k2).map Value.string ++ [Value.string y]) → ∃ xa xc, v' = .slice xa (m + 1 : Nat) xc ∧ w5.ownsRow w3.heap.size 9 1 (.slice xa (m + 1 : Nat) xc) (m + 1) ((X :: nx K J (k2 + 1)).map Value.string) ∧ Nw w3 w5) := by
                        intro v' w5 o5 t5
                        have hh : (X :: nx K J k2).map Value.string ++ [Value.string y] = (X :: nx K J (k2 + 1)).map Value.string := by rw [HN.out, ← Hy.out]; simp
                        rw [hh] at o5
                        obtain ⟨xa, xc, rfl⟩ : ∃ xa xc, v' = .slice xa (m + 1 : Nat) xc := by
                          rcases o5.2 with ⟨_, h0⟩ | ⟨g, cap, cur, hv, _⟩
                          · omega
                          · exact ⟨_, _, hv⟩
                        exact ⟨xa, xc, rfl, o5, (NX.out.alloc _).trans t5.fr (fun j hj e => by have := (OWN0.out.lt j e).1; omega)⟩
                      clear hy hJ
                      go_wp2_with (at_builtin; refine wpList_two _ rfl (.tmp 197) (.tmp 202) 30 rfl w3.heap.size 9 i0 (.string ⟨#[]⟩) 1 16 Tryd.underlying30 HI0.out.1 HI0.out.2.1 HI0.out.2.2.1 HI0.out.2.2.2 rfl (by decide) (.slice va m vc) m ((X :: nx K J k2).map Value.string) rfl OWN.out ⟨wr.heap.size, 0, none⟩ 1 1 [Value.string y] rfl rfl HNew.out (by simp [Value.oneCell']) (by unfold maxLen; omega) (by omega) HSZ.out ?_; intro v' w5 o5 t5; have HX5 : Hid _ := HFF.out v' w5 o5 t5; clear o5 t5; obtain ⟨xa, xc, rfl, ho5, n5⟩ := HX5.out; have HO5 : Hid (w5.ownsRow w3.heap.size 9 1 (.slice xa (m + 1 : Nat) xc) (m + 1) ((X :: nx K J (k2 + 1)).map Value.string)) := ho5; have HN5 : Hid (Nw w3 w5) := n5; clear ho5 n5 HX5 hc4)
                      exact ⟨⟨k2 + 1, m + 1, xa, xc, by omega, by rw [HN.out, List.length_append, Hm.out]; rfl, by omega, by go_num, rfl, HO5.out, HN5.out⟩, by simp [intOf]; omega⟩
                  · have HR : Hid (X :: nx K J k2 = ((X, v) :: (A ++ B)).map Prod.fst) := HEND.out k2 hk2 (by rw [← Hm.out]; exact hmc) (by rw [← Hm.out]; omega)
                    have hml : m = ((X, v) :: (A ++ B)).length := by have := congrArg List.length HR.out; rw [List.length_cons, List.length_map] at this; rw [← this, Hm.out]; omega
                    have ql := fun V (nV : Nw w3 V) => len_any (A3.out.go nV).cx
                    rw [← hml] at ql
                    obtain ⟨va2, vc2, hve, hstr, _⟩ := strs_row (ss := X :: nx K J k2) OWN0.out
                    have HKF : Hid (Kx w wr b (2 * i) cp ((X, v) :: (A ++ B)) va) := by
                      cases hve
                      exact Kx.of A3.out NX.out (by rw [← HR.out]; exact hstr) (fun g1 o1 e1 => (OWN0.out.lt g1 (by rw [e1]; rfl)).1)
                    clear hve hstr
                    have Hml : Hid (m = ((X, v) :: (A ++ B)).length) := hml
                    clear hml
                    have f3 : ¬ (cp : Int) < (m : Int) := by omega
                    have HQL : Hid (∀ V, Nw w3 V → Calls Tryd.prog 11 #[.pointer (some ⟨b, 0, none⟩)] V fun e w' => e = .returned (.int .i64 (m : Int)) ∧ w' = V) := ql
                    clear ql
                    by_cases f1 : k2 < k
                    · have f1i : (k2 : Int) < (k : Int) := by omega
                      have f1b : decide ((k2 : Int) < (k : Int)) = true := decide_eq_true f1i
                      have f2i : ¬ (m : Int) < (cp : Int) := by omega
                      have f2b : decide ((m : Int) < (cp : Int)) = false := decide_eq_false f2i
                      go_wp2_with fail
                      refine (HQL.out _ NX.out).mono ?_
                      rintro e w5 ⟨rfl, rfl⟩
                      go_wp2_with fail
                      refine (HQL.out _ NX.out).mono ?_
                      rintro e w6 ⟨rfl, rfl⟩
                      go_wp2
                      exact ⟨⟨i + 1, lst, (X, v) :: (A ++ B), va, vc, by omega, by go_num, rfl, by rw [Hml.out], HKF.out.more (by omega), HLO1.out⟩, by simp [intOf]; omega⟩
                    · have f1i : ¬ (k2 : Int) < (k : Int) := by omega
                      have f1b : decide ((k2 : Int) < (k : Int)) = false := decide_eq_false f1i
                      go_wp2_with fail
                      refine (HQL.out _ NX.out).mono ?_
                      rintro e w5 ⟨rfl, rfl⟩
                      go_wp2_with fail
                      refine (HQL.out _ NX.out).mono ?_
                      rintro e w6 ⟨rfl, rfl⟩
                      go_wp2
                      exact ⟨⟨i + 1, lst, (X, v) :: (A ++ B), va, vc, by omega, by go_num, rfl, by rw [Hml.out], HKF.out.more (by omega), HLO1.out⟩, by simp [intOf]; omega⟩
            | true =>
              as_aux_lemma =>
                have hAk : A.length < k := by rw [Hln.out, hL]; simp
                obtain ⟨J, hJJ⟩ : ∃ z, z = A.length := ⟨_, rfl⟩
                rw [← hJJ] at hAk
                have HJ0 : Hid (J = A.length) := hJJ
                rw [← hJJ]
                have HLL : Hid (L = A ++ (X, v) :: B) := hL
                have HJ : Hid (∀ k2, k2 < k → ((k2 : Int) != (J : Int)) = decide (k2 ≠ J)) := fun k2 h2 => neqJ k2 J
                have hJ1 : ¬ (J : Int) < 0 := by omega
                have hJ2 : (0 : Int) ≤ (J : Int) := by omega
                have hJ3 : decide ((J : Int) < 0) = false := decide_eq_false hJ1
                have hJ4 : decide ((0 : Int) ≤ (J : Int)) = true := decide_eq_true hJ2
                have hcp1 : 1 ≤ cp := by omega
                have HT0 : Hid (∀ V : VT, ∀ k2, k2 ≤ k → 1 + (nx K J k2).length ≤ cp → (k2 = k ∨ ¬ (1 + (nx K J k2).length < cp)) → X :: nx K J k2 = ((X, V) :: (A ++ B)).map Prod.fst) := fun V k2 h2 h3 h4 => by
                  have hk0 := Hln.out
                  have hlc2 : L.length ≤ cp := by omega
                  rw [HKK.out, HJ0.out] at h4 ⊢
                  rw [hk0] at h2 h4
                  rw [HLL.out] at h2 h4 hlc2 ⊢
                  rw [nx_there (cap := cp) hlc2 h2 h4]; rfl
                clear hJJ hL
                have HPA : Hid (putA cp L X Y = (kz, false, (X, Y) :: (A ++ B))) := by show _ = _; rw [putA, htk]
                clear htk
                have qP : Hid (∀ V, Nw wb V → Calls Tryd.prog 10 #[.pointer (some ⟨b, 0, none⟩), .string X, .int .i64 Y] V fun e W' => e = .returned (.tuple #[.string ⟨#[]⟩, .bool false]) ∧ Al w W' b (2 * i + 2) cp ((X, Y) :: (A ++ B)) ∧ Strs W' p (L.map Prod.fst)) := fun V nV => (HKW.out.go nV).put X Y hkX.out (by omega) HPA.out
                go_wp2_with fail
                go_region_held3 (fun w' => w'.cell? ⟨g, o + i * 3, none⟩ = some (.string X) ∧ w'.cell? ⟨g, o + i * 3 + 1, none⟩ = some (.int .i64 Y)) (first | exact ⟨d0, d1⟩ | exact KEEP.out) ((go_at_call 10; refine (qP.out _ (by first | exact (Fr.refl _ _).drew | exact Fr.refl _ _)).mono ?_; rintro e w3 ⟨rfl, al3, st3⟩; have A3 : Hid (Al w w3 b (2 * i + 2) cp ((X, Y) :: (A ++ B))) := al3; have S3 : Hid (Strs w3 p (L.map Prod.fst)) := st3; have KEEP : Hid (w3.cell? ⟨g, o + i * 3, none⟩ = some (.string X) ∧ w3.cell? ⟨g, o + i * 3 + 1, none⟩ = some (.int .i64 Y)) := ⟨(HC.out w3 al3.nw).1, (HC.out w3 al3.nw).2.1⟩; clear al3 st3))
                obtain ⟨d0, d1, d2⟩ := HC.out w3 A3.out.nw
                clear KEEP
                have HEND := HT0.out Y
                have HEND : Hid _ := HEND
                have HLO1 : Hid (LastOk U (i + 1) i ((X, Y) :: (A ++ B))) := LastOk.put A3.out.cx.key.2 (.inr ⟨_, by rw [← HXY.out.1, ← HXY.out.2.1]⟩)
                go_wp2
                go_loopw [16, 17] (fun v16 v17 wx => ∃ (k2 m : Nat) (va : Option Addr) (vc : Nat), k2 ≤ k ∧ m = 1 + (nx K J k2).length ∧ m ≤ cp ∧ v17 = .int .i64 k2 ∧ v16 = .slice va m vc ∧ wx.ownsRow w3.heap.size 9 1 (.slice va m vc) m ((X :: nx K J k2).map Value.string) ∧ Nw w3 wx) (fun _ v17 _ => k - (intOf v17).toNat)
                case atStart => exact ⟨0, 1, some ⟨w3.heap.size, 0, none⟩, 1, by omega, by rw [nx_zero]; rfl, by omega, rfl, rfl, by rw [nx_zero]; exact own1 _ _, (Fr.refl _ _).alloc _⟩
                case round =>
                  obtain ⟨k2, m, va, vc, hk2, hm, hmc, rfl, rfl, hown, nwx⟩ := hrel
                  have NX : Hid (Nw w3 wr) := nwx
                  have OWN0 : Hid (wr.ownsRow w3.heap.size 9 1 (.slice va m vc) m ((X :: nx K J k2).map Value.string)) := hown
                  have Hm : Hid (m = 1 + (nx K J k2).length) := hm
                  clear hown nwx hm d0 d1 d2
                  by_cases hgo : k2 < k ∧ m < cp
                  · obtain ⟨f1, f2⟩ := hgo
                    have f1i : (k2 : Int) < (k : Int) := by omega
                    have f1b : decide ((k2 : Int) < (k : Int)) = true := decide_eq_true f1i
                    have f2i : (m : Int) < (cp : Int) := by omega
                    have f2b : decide ((m : Int) < (cp : Int)) = true := decide_eq_true f2i
                    have hkK : k2 < K.length := by rw [HKl.out]; exact f1
                    by_cases hJ : k2 = J
                    · have e1 : ((k2 : Int) != (J : Int)) = false := by have := HJ.out k2 f1; rw [this]; simpa using hJ
                      have HN : Hid (nx K J (k2 + 1) = nx K J k2) := by show _ = _; rw [← hJ]; exact nx_same hkK
                      clear hJ
                      go_wp2
                      exact ⟨⟨k2 + 1, m, va, vc, by omega, by rw [HN.out]; exact Hm.out, hmc, by go_num, rfl, by rw [HN.out]; exact OWN0.out, NX.out⟩, by simp [intOf]; omega⟩
                    · have e1 : ((k2 : Int) != (J : Int)) = true := by have := HJ.out k2 f1; rw [this]; simpa using hJ
                      have HN : Hid (nx K J (k2 + 1) = nx K J k2 ++ [K.getD k2 e0t]) := nx_more hkK hJ
                      obtain ⟨g4, o4, hp4, hc4⟩ := (S3.out.nw NX.out).at k2 (by rw [← HKK.out]; exact hkK)
                      cases hp4
                      rw [← HKK.out] at hc4
                      obtain ⟨y, hy⟩ : ∃ y, y = K.getD k2 e0t := ⟨_, rfl⟩
                      rw [← hy] at hc4
                      have Hy : Hid (y = K.getD k2 e0t) := hy
                      have OWN : Hid ((wr.alloc (.cells #[.string y] 9)).ownsRow w3.heap.size 9 1 (.slice va m vc) m ((X :: nx K J k2).map Value.string)) := OWN0.out.alloc _
                      have HSZ : Hid (w3.heap.size ≤ (wr.alloc (.cells #[.string y] 9)).heap.size) := by show _ ≤ _; have := NX.out.size; simp; omega
                      have HNew : Hid (∀ j u, [Value.string y][j]? = some u → (wr.alloc (.cells #[.string y] 9)).cell? ((⟨wr.heap.size, 0, none⟩ : Addr).add j) = some u) := k1n wr _ _
                      have HFF : Hid (∀ v' w5, w5.ownsRow w3.heap.size 9 1 v' (m + 1) ((X :: nx K J k2).map Value.string ++ [Value.string y]) → Two (wr.alloc (.cells #[.string y] 9)) w5 9 1 (.slice va m vc) v' m 1 ((X :: nx K J k2).map Value.string ++ [Value.string y]) → ∃ xa xc, v' = .slice xa (m + 1 : Nat) xc ∧ w5.ownsRow w3.heap.size 9 1 (.slice xa (m + 1 : Nat) xc) (m + 1) ((X :: nx K J (k2 + 1)).map Value.string) ∧ Nw w3 w5) := by
                        intro v' w5 o5 t5
                        have hh : (X :: nx K J k2).map Value.string ++ [Value.string y] = (X :: nx K J (k2 + 1)).map Value.string := by rw [HN.out, ← Hy.out]; simp
                        rw [hh] at o5
                        obtain ⟨xa, xc, rfl⟩ : ∃ xa xc, v' = .slice xa (m + 1 : Nat) xc := by
                          rcases o5.2 with ⟨_, h0⟩ | ⟨g, cap, cur, hv, _⟩
                          · omega
                          · exact ⟨_, _, hv⟩
                        exact ⟨xa, xc, rfl, o5, (NX.out.alloc _).trans t5.fr (fun j hj e => by have := (OWN0.out.lt j e).1; omega)⟩
                      clear hy hJ
                      go_wp2_with (at_builtin; refine wpList_two _ rfl (.tmp 197) (.tmp 202) 30 rfl w3.heap.size 9 i0 (.string ⟨#[]⟩) 1 16 Tryd.underlying30 HI0.out.1 HI0.out.2.1 HI0.out.2.2.1 HI0.out.2.2.2 rfl (by decide) (.slice va m vc) m ((X :: nx K J k2).map Value.string) rfl OWN.out ⟨wr.heap.size, 0, none⟩ 1 1 [Value.string y] rfl rfl HNew.out (by simp [Value.oneCell']) (by unfold maxLen; omega) (by omega) HSZ.out ?_; intro v' w5 o5 t5; have HX5 : Hid _ := HFF.out v' w5 o5 t5; clear o5 t5; obtain ⟨xa, xc, rfl, ho5, n5⟩ := HX5.out; have HO5 : Hid (w5.ownsRow w3.heap.size 9 1 (.slice xa (m + 1 : Nat) xc) (m + 1) ((X :: nx K J (k2 + 1)).map Value.string)) := ho5; have HN5 : Hid (Nw w3 w5) := n5; clear ho5 n5 HX5 hc4)
                      exact ⟨⟨k2 + 1, m + 1, xa, xc, by omega, by rw [HN.out, List.length_append, Hm.out]; rfl, by omega, by go_num, rfl, HO5.out, HN5.out⟩, by simp [intOf]; omega⟩
                  · have HR : Hid (X :: nx K J k2 = ((X, Y) :: (A ++ B)).map Prod.fst) := HEND.out k2 hk2 (by rw [← Hm.out]; exact hmc) (by rw [← Hm.out]; omega)
                    have hml : m = ((X, Y) :: (A ++ B)).length := by have := congrArg List.length HR.out; rw [List.length_cons, List.length_map] at this; rw [← this, Hm.out]; omega
                    have ql := fun V (nV : Nw w3 V) => len_any (A3.out.go nV).cx
                    rw [← hml] at ql
                    obtain ⟨va2, vc2, hve, hstr, _⟩ := strs_row (ss := X :: nx K J k2) OWN0.out
                    have HKF : Hid (Kx w wr b (2 * i + 2) cp ((X, Y) :: (A ++ B)) va) := by
                      cases hve
                      exact Kx.of A3.out NX.out (by rw [← HR.out]; exact hstr) (fun g1 o1 e1 => (OWN0.out.lt g1 (by rw [e1]; rfl)).1)
                    clear hve hstr
                    have Hml : Hid (m = ((X, Y) :: (A ++ B)).length) := hml
                    clear hml
                    have f3 : ¬ (cp : Int) < (m : Int) := by omega
                    have HQL : Hid (∀ V, Nw w3 V → Calls Tryd.prog 11 #[.pointer (some ⟨b, 0, none⟩)] V fun e w' => e = .returned (.int .i64 (m : Int)) ∧ w' = V) := ql
                    clear ql
                    by_cases f1 : k2 < k
                    · have f1i : (k2 : Int) < (k : Int) := by omega
                      have f1b : decide ((k2 : Int) < (k : Int)) = true := decide_eq_true f1i
                      have f2i : ¬ (m : Int) < (cp : Int) := by omega
                      have f2b : decide ((m : Int) < (cp : Int)) = false := decide_eq_false f2i
                      go_wp2_with fail
                      refine (HQL.out _ NX.out).mono ?_
                      rintro e w5 ⟨rfl, rfl⟩
                      go_wp2_with fail
                      refine (HQL.out _ NX.out).mono ?_
                      rintro e w6 ⟨rfl, rfl⟩
                      go_wp2
                      exact ⟨⟨i + 1, i, (X, Y) :: (A ++ B), va, vc, by omega, by go_num, rfl, by rw [Hml.out], HKF.out.more (by omega), HLO1.out⟩, by simp [intOf]; omega⟩
                    · have f1i : ¬ (k2 : Int) < (k : Int) := by omega
                      have f1b : decide ((k2 : Int) < (k : Int)) = false := decide_eq_false f1i
                      go_wp2_with fail
                      refine (HQL.out _ NX.out).mono ?_
                      rintro e w5 ⟨rfl, rfl⟩
                      go_wp2_with fail
                      refine (HQL.out _ NX.out).mono ?_
                      rintro e w6 ⟨rfl, rfl⟩
                      go_wp2
                      exact ⟨⟨i + 1, i, (X, Y) :: (A ++ B), va, vc, by omega, by go_num, rfl, by rw [Hml.out], HKF.out.more (by omega), HLO1.out⟩, by simp [intOf]; omega⟩
    · as_aux_lemma =>
        obtain rfl : i = n := by omega
        have hii : ¬ (i : Int) < (i : Int) := by omega
        by_cases hn0 : i = 0
        · have HKE : Hid (Kx w wa b (2 * i) cp L p) := HK.out
          have g1 : ¬ (0 : Int) < (i : Int) := by omega
          have g1b : decide ((0 : Int) < (i : Int)) = false := decide_eq_false g1
          clear hn0
          go_wp2_with fail
          refine (HKE.out.keysK Hln.out HKK.out).mono ?_
          rintro e w5 ⟨p5, c5, rfl, s5, kx5⟩
          have S5 : Hid (Strs w5 p5 K) := s5
          have K5 : Hid (Kx w w5 b (2 * i) cp L p) := kx5
          clear s5 kx5
          go_wp2_with fail
          refine (samesK p5 p c5 kc K ln w5 S5.out (by have := K5.out.st; rw [← HKK.out] at this; exact this) HKl.out (by omega)).mono ?_
          rintro e w6 ⟨rfl, n6⟩
          have N6 : Hid (Nw w w6) := K5.out.nw.tr n6
          clear n6
          go_wp2
          go_ret
          exact ⟨rfl, N6.out⟩
        · have g1 : (0 : Int) < (i : Int) := by omega
          have g1b : decide ((0 : Int) < (i : Int)) = true := decide_eq_true g1
          by_cases hz : cp = 0
          · have HKE : Hid (Kx w wa b (2 * i) cp L p) := HK.out
            have z2 : ¬ (0 : Int) < (cp : Int) := by omega
            have z2b : decide ((0 : Int) < (cp : Int)) = false := decide_eq_false z2
            clear hz
            go_wp2_with fail
            refine (HKE.out.keysK Hln.out HKK.out).mono ?_
            rintro e w5 ⟨p5, c5, rfl, s5, kx5⟩
            have S5 : Hid (Strs w5 p5 K) := s5
            have K5 : Hid (Kx w w5 b (2 * i) cp L p) := kx5
            clear s5 kx5
            go_wp2_with fail
            refine (samesK p5 p c5 kc K ln w5 S5.out (by have := K5.out.st; rw [← HKK.out] at this; exact this) HKl.out (by omega)).mono ?_
            rintro e w6 ⟨rfl, n6⟩
            have N6 : Hid (Nw w w6) := K5.out.nw.tr n6
            clear n6
            go_wp2
            go_ret
            exact ⟨rfl, N6.out⟩
          · have z2 : (0 : Int) < (cp : Int) := by omega
            have z2b : decide ((0 : Int) < (cp : Int)) = true := decide_eq_true z2
            have hls : lst < i := by have h1 := HLO.out.1; have h2 := HLO.out.2.1; omega
            obtain ⟨g, o, rfl, x0, x1, x2⟩ := HU.out lst (by rw [← Hn.out]; exact hls)
            obtain ⟨X, hX⟩ : ∃ z, z = (U.getD lst u0t).1 := ⟨_, rfl⟩
            obtain ⟨Y, hY⟩ : ∃ z, z = (U.getD lst u0t).2.1 := ⟨_, rfl⟩
            obtain ⟨Z, hZ⟩ : ∃ z, z = (U.getD lst u0t).2.2 := ⟨_, rfl⟩
            rw [← hX] at x0
            rw [← hY] at x1
            rw [← hZ] at x2
            have HC : Hid (∀ V, Nw w V → V.cell? ⟨g, o + lst * 3, none⟩ = some (.string X) ∧ V.cell? ⟨g, o + lst * 3 + 1, none⟩ = some (.int .i64 Y) ∧ V.cell? ⟨g, o + lst * 3 + 2, none⟩ = some (.bool Z)) := fun V nV => ⟨nV.cellOf x0, nV.cellOf x1, nV.cellOf x2⟩
            have HV : Hid (Z = true → ∀ z ∈ L, z.1 = X → z.2 = Y) := by rw [hZ, hX, hY]; exact HLO.out.2.2 (by omega)
            have hli : (lst : Int) < (i : Int) := by omega
            clear hX hY hZ x0 x1 x2
            obtain ⟨d0, d1, d2⟩ := HC.out wa HK.out.nw
            cases Z with
            | false =>
              have HKE : Hid (Kx w wa b (2 * i) cp L p) := HK.out
              clear d0 d1
              go_wp2_with fail
              refine (HKE.out.keysK Hln.out HKK.out).mono ?_
              rintro e w5 ⟨p5, c5, rfl, s5, kx5⟩
              have S5 : Hid (Strs w5 p5 K) := s5
              have K5 : Hid (Kx w w5 b (2 * i) cp L p) := kx5
              clear s5 kx5
              go_wp2_with fail
              refine (samesK p5 p c5 kc K ln w5 S5.out (by have := K5.out.st; rw [← HKK.out] at this; exact this) HKl.out (by omega)).mono ?_
              rintro e w6 ⟨rfl, n6⟩
              have N6 : Hid (Nw w w6) := K5.out.nw.tr n6
              clear n6
              go_wp2
              go_ret
              exact ⟨rfl, N6.out⟩
            | true =>
              go_wp2
              go_loopw [18] (fun v18 wx => ∃ k : Nat, k ≤ ln ∧ v18 = .int .i64 k ∧ Nw wa wx) (fun v18 _ => ln - (intOf v18).toNat)
              case atStart => exact ⟨0, by omega, rfl, Fr.refl _ _⟩
              case round =>
                obtain ⟨k, hk, rfl, nwx⟩ := hrel
                have NX : Hid (Nw wa wr) := nwx
                clear d0 d1 d2
                by_cases hkl : k < ln
                · obtain ⟨g2, o2, rfl, hc2⟩ := HST0.out.at k (by rw [HKl.out]; exact hkl)
                  have c2 := nwx.cellOf hc2
                  obtain ⟨d0, d1, d2⟩ := HC.out wr (HK.out.nw.tr nwx)
                  obtain ⟨y, hy⟩ : ∃ y, y = K.getD k e0t := ⟨_, rfl⟩
                  rw [← hy] at c2
                  have Hy : Hid (y = K.getD k e0t) := hy
                  have hki : (k : Int) < (ln : Int) := by omega
                  clear hc2 nwx hy
                  by_cases hyx : y = X
                  · subst hyx
                    have e1 := tl_sameK y
                    obtain ⟨v, r, htk, hmem⟩ := tk_mem (L := L) (k := y) (by rw [← HKK.out, Hy.out, List.getD_eq_getElem?_getD, List.getElem?_eq_getElem (by rw [HKl.out]; exact hkl)]; simp)
                    have hvY : v = Y := HV.out (by trivial) (y, v) hmem rfl
                    subst hvY
                    have HG : Hid (∀ V, Nw wr V → Calls Tryd.prog 9 #[.pointer (some ⟨b, 0, none⟩), .string y] V fun e W' => e = .returned (.tuple #[.int .i64 v, .bool true]) ∧ Al w W' b (2 * i) cp ((y, v) :: r) ∧ Strs W' (some ⟨g2, o2, none⟩) (L.map Prod.fst)) := fun V nV => ((HK.out.go NX.out).go nV).get_yes y (HK.out.key.1 (y, v) hmem) htk
                    have HCV : Hid (∀ V, Nw wr V → V.cell? ⟨g2, o2 + k, none⟩ = some (.string y)) := fun V nV => nV.cellOf c2
                    clear htk hmem
                    go_wp2
                    go_quiet (fail)
                    obtain ⟨wq, hwq⟩ : ∃ z, z = wr.drewN nq := ⟨_, rfl⟩
                    rw [← hwq]
                    have nq2 : Hid (Nw wr wq) := by show Nw _ _; rw [hwq]; exact (Fr.refl _ _).drewN _
                    clear hwq c2 d0 d1 d2
                    have c2 := HCV.out wq nq2.out
                    go_wp2_with fail
                    refine (HG.out wq nq2.out).mono ?_
                    rintro e w5 ⟨rfl, al5, _⟩
                    have A5 : Hid (Nw w w5) := al5.nw
                    obtain ⟨d0, d1, d2⟩ := HC.out w5 al5.nw
                    clear al5
                    go_wp2
                    go_ret
                    exact ⟨rfl, A5.out⟩
                  · have e1 := tl_neK hyx
                    clear hyx
                    go_wp2
                    go_quiet (fail)
                    go_wp2
                    exact ⟨⟨k + 1, by omega, by go_num, NX.out.drewN _⟩, by simp [intOf]; omega⟩
                · have hki : ¬ (k : Int) < (ln : Int) := by omega
                  have HKE : Hid (Kx w wr b (2 * i) cp L p) := HK.out.go nwx
                  clear nwx
                  go_wp2_with fail
                  refine (HKE.out.keysK Hln.out HKK.out).mono ?_
                  rintro e w5 ⟨p5, c5, rfl, s5, kx5⟩
                  have S5 : Hid (Strs w5 p5 K) := s5
                  have K5 : Hid (Kx w w5 b (2 * i) cp L p) := kx5
                  clear s5 kx5
                  go_wp2_with fail
                  refine (samesK p5 p c5 kc K ln w5 S5.out (by have := K5.out.st; rw [← HKK.out] at this; exact this) HKl.out (by omega)).mono ?_
                  rintro e w6 ⟨rfl, n6⟩
                  have N6 : Hid (Nw w w6) := K5.out.nw.tr n6
                  clear n6
                  go_wp2
                  go_ret
                  exact ⟨rfl, N6.out⟩
end Go.Proofs.YtgdjoaiahigjpaaDoor
