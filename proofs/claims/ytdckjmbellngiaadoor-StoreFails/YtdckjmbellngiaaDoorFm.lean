/- StoreCrashes. -/
import Derived.Test.YtdckjmbellngiaaDoorFl
import Derived.Deep.RegionHeld3
namespace Go.Proofs.YtdckjmbellngiaaDoor
open Go.RowKit Go.Maps Go.Sort Go.Proofs
set_option linter.unusedVariables false
set_option linter.unusedSimpArgs false
/-- The write at which the store crashes; below 1: none. -/
def atC (cr : Int) : Int := if cr < 0 then IntKind.i64.wrap (0 - cr) else cr
/-- How many writes are kept, how many are counted, and whether the store is dead behind i of them. -/
def kc (cr : Int) (i : Nat) : Nat := if 1 ≤ atC cr ∧ atC cr ≤ i then (atC cr).toNat - 1 + (if cr < 0 then 1 else 0) else i
def wc (cr : Int) (i : Nat) : Int := if 1 ≤ atC cr ∧ atC cr ≤ i then atC cr else i
def dc (cr : Int) (i : Nat) : Bool := decide (1 ≤ atC cr ∧ atC cr ≤ i)
theorem atC_pos {cr : Int} (h : 0 ≤ cr) : atC cr = cr := by rw [atC, if_neg (by omega)]
theorem atC_neg {cr : Int} (h : cr < 0) (h1 : -9223372036854775808 < cr) : atC cr = -cr := by rw [atC, if_pos h, IntKind.wrap_i64]; omega
theorem atC_min {cr : Int} (h : cr = -9223372036854775808) : atC cr = -9223372036854775808 := by subst h; decide
/-- Behind a write that is the one. -/
theorem hit_is {cr : Int} (h0 : -9223372036854775808 ≤ cr) {i : Nat} (h1 : 1 ≤ atC cr) (h2 : atC cr = (i : Int) + 1) : (0 ≤ cr ∧ cr = (i : Int) + 1) ∨ (cr < 0 ∧ cr = -((i : Int) + 1)) := by
  rcases Int.lt_or_le cr 0 with h | h
  · rcases Int.lt_or_eq_of_le h0 with q | q
    · rw [atC_neg h q] at h2
      exact .inr ⟨h, by omega⟩
    · rw [atC_min q.symm] at h1; omega
  · rw [atC_pos h] at h2
    exact .inl ⟨h, h2⟩
theorem hit_not {cr : Int} (h0 : -9223372036854775808 ≤ cr) {i : Nat} (hi : (i : Int) ≤ 200) (h : ¬ (1 ≤ atC cr ∧ atC cr ≤ (i : Int))) (h' : ¬ (1 ≤ atC cr ∧ atC cr ≤ ((i + 1 : Nat) : Int))) : dies cr ((i : Int) + 1) = false ∧ cr ≠ (i : Int) + 1 := by
  have e1 : cr ≠ (i : Int) + 1 := fun e => h' (by rw [atC_pos (by omega)]; omega)
  have e2 : cr ≠ -((i : Int) + 1) := fun e => h' (by rw [atC_neg (by omega) (by omega)]; omega)
  exact ⟨by simp [dies, e1, e2], e1⟩
theorem crash_step (ls : WL) (cr : Int) (h0 : -9223372036854775808 ≤ cr) (i : Nat) (hi : (i : Int) ≤ 200) (h : ¬ (1 ≤ atC cr ∧ atC cr ≤ (i : Int))) (a : Nat → Addr) :
    wc cr i + 1 = wc cr (i + 1) ∧ dies cr (wc cr (i + 1)) = dc cr (i + 1) ∧ wrT (liesT ls (kc cr i)) (atW ls i).1 (atW ls i).2 cr (wc cr (i + 1)) = liesT ls (kc cr (i + 1)) ∧
    putV a cr (wc cr (i + 1)) = (if dc cr (i + 1) then sen (a 7) else .nilIface) ∧ kc cr (i + 1) = (if dc cr (i + 1) then (if cr < 0 then i + 1 else i) else i + 1) ∧ kc cr i = i ∧ wc cr i = i := by
  have hk : kc cr i = i := by rw [kc, if_neg h]
  have hw : wc cr i = i := by rw [wc, if_neg h]
  by_cases h' : 1 ≤ atC cr ∧ atC cr ≤ ((i + 1 : Nat) : Int)
  · have hA : atC cr = (i : Int) + 1 := by omega
    have hw' : wc cr (i + 1) = (i : Int) + 1 := by rw [wc, if_pos h', hA]
    have hd : dc cr (i + 1) = true := decide_eq_true h'
    have hkk : kc cr (i + 1) = if cr < 0 then i + 1 else i := by rw [kc, if_pos h', hA]; split <;> omega
    rcases hit_is h0 h'.1 hA with ⟨q1, q2⟩ | ⟨q1, q2⟩
    · have hdd : dies cr ((i : Int) + 1) = true := by simp [dies, q2]
      rw [hw', hw, hd, hdd, hkk, hk, if_neg (by omega), putV, hdd, wrT, if_pos q2]
      simp
    · have hdd : dies cr ((i : Int) + 1) = true := by simp [dies, q2]
      rw [hw', hw, hd, hdd, hkk, hk, if_pos q1, putV, hdd, wrT, if_neg (by omega), liesT_put]
      simp
  · obtain ⟨hdd, hne⟩ := hit_not h0 hi h h'
    have hw' : wc cr (i + 1) = (i : Int) + 1 := by rw [wc, if_neg h']; omega
    have hd : dc cr (i + 1) = false := decide_eq_false h'
    have hkk : kc cr (i + 1) = i + 1 := by rw [kc, if_neg h']
    rw [hw', hw, hd, hdd, hkk, hk, putV, hdd, wrT, if_neg hne, liesT_put]
    simp
theorem crash_stay (cr : Int) (i : Nat) (h : 1 ≤ atC cr ∧ atC cr ≤ (i : Int)) : kc cr (i + 1) = kc cr i ∧ wc cr (i + 1) = wc cr i ∧ dc cr (i + 1) = true ∧ dc cr i = true := by
  have h' : 1 ≤ atC cr ∧ atC cr ≤ ((i + 1 : Nat) : Int) := by omega
  rw [kc, kc, wc, wc, if_pos h, if_pos h', if_pos h, if_pos h', dc, dc]
  exact ⟨rfl, rfl, decide_eq_true h', decide_eq_true h⟩
theorem kc_le (cr : Int) (i : Nat) : kc cr i ≤ i := by
  unfold kc
  split
  · split <;> omega
  · exact Nat.le_refl _
theorem kc_zero (cr : Int) : kc cr 0 = 0 := Nat.le_zero.1 (kc_le cr 0)
theorem iz_nil (w : World) (p : Option Addr) : Iz w p [] := fun j hj => by simp at hj
theorem Al.mono {w W : World} {b bm n : Nat} {M : Tx} {p : Option Addr} {c : Nat} {zs : List Int} {cr rn wn : Int} {dd : Bool} (h : Al w W b bm n M p c zs cr rn wn dd) {n' : Nat} (hn : n ≤ n') : Al w W b bm n' M p c zs cr rn wn dd := by
  refine ⟨h.nw, ⟨h.sr.blk, ?_, h.sr.rd, h.sr.ne, h.sr.nb⟩, h.hb, h.hm⟩
  obtain ⟨D, h1, h2⟩ := h.sr.mp
  exact ⟨D, h1.mono hn, h2⟩
def pv (a : Nat → Addr) (d : Bool) : Value := if d then sen (a 7) else .nilIface
theorem put_round {w W : World} {b bm n g : Nat} {ls : WL} {cr : Int} {i : Nat} (h : Al w W b bm n (liesT ls (kc cr i)) (some ⟨g, 0, none⟩) 0 [] cr 0 (wc cr i) (dc cr i)) {B : Nat} {a : Nat → Addr} (hS : Sent B w a) (hc0 : -9223372036854775808 ≤ cr) (hi : (i : Int) ≤ 200) (hn : n ≤ i) {X Y : ByteArray} (hX : X = (atW ls i).1) (hY : Y = (atW ls i).2) (hok : okN X) (hYs : Y.size ≤ 281474976710656) :
    Calls Tryd.prog 7 #[.pointer (some ⟨b, 0, none⟩), .string X, .string Y] W fun e W' => e = .returned (pv a (dc cr (i + 1))) ∧ Al w W' b bm (n + 1) (liesT ls (kc cr (i + 1))) (some ⟨g, 0, none⟩) 0 [] cr 0 (wc cr (i + 1)) (dc cr (i + 1)) := by
  by_cases hh : 1 ≤ atC cr ∧ atC cr ≤ (i : Int)
  · obtain ⟨e1, e2, e3, e4⟩ := crash_stay cr i hh
    have := sput_ref h.sr.blk X Y (hS.fr h.nw (fun _ _ f => f)) (x := a 7) (by rw [e4]; exact rfs_dead hok)
    refine this.mono ?_
    rintro e W' ⟨rfl, rfl⟩
    rw [e1, e2, e3]
    refine ⟨rfl, ?_⟩
    have h2 := h.mono (n' := n + 1) (by omega)
    rwa [e4] at h2
  · obtain ⟨e1, e2, e3, e4, e5, e6, e7⟩ := crash_step ls cr hc0 i hi hh a
    have hd : dc cr i = false := decide_eq_false hh
    rw [hd] at h
    rw [← hX, ← hY] at e3
    exact h.put hS X Y hok hYs (by omega) (by rw [e7]; omega) (by rw [e7]; omega) e1 e4 e3 e2
set_option maxRecDepth 100000 in
set_option maxHeartbeats 8000000 in
theorem crashes12_any {w : World} {B : Nat} {a : Nat → Addr} (hS : Sent B w a) {p : Option Addr} {ls : WL} (hW : Wrs w p ls) (hlt : ∀ x ∈ ls, x.2.size ≤ 140737488355328) (c : Nat) (cr : Int) (hc0 : -9223372036854775808 ≤ cr) (hc1 : cr ≤ 9223372036854775807) :
    Calls Tryd.prog 4 #[.slice p ls.length c, .int .i64 cr] w fun e w' => e = .returned (.bool true) ∧ Nw w w' := by
  have HS : Hid (Sent B w a) := hS
  have HW : Hid (Wrs w p ls) := hW
  have HT : Hid (∀ x ∈ ls, x.2.size ≤ 140737488355328) := hlt
  obtain ⟨m, hm⟩ : ∃ m, m = ls.length := ⟨_, rfl⟩
  have Hm : Hid (ls.length = m) := hm.symm
  rw [← hm]
  clear hS hW hlt hm
  by_cases hbig : (200 : Int) < (m : Int)
  · go_enter Tryd.func4, Tryd.ntmps4
    go_wp2_with fail
    refine (alive_any HS.out).mono ?_
    rintro e w1 ⟨rfl, n1⟩
    have N1 : Hid (Nw w w1) := n1
    clear n1
    go_wp2
    go_ret
    exact ⟨rfl, N1.out⟩
  have hm2 : (m : Int) ≤ 200 := by omega
  have q1 := al_new (w := w) (crash := cr) (c := 0) (Fr.refl _ w) (iz_nil w none) (by decide) (by decide) (l := 0) rfl
  obtain ⟨A, hA⟩ : ∃ A, A = atC cr := ⟨_, rfl⟩
  have HA : Hid (A = atC cr) := hA
  have HC : Hid (-9223372036854775808 ≤ cr) := hc0
  have hcA : Hid ((cr < 0 → IntKind.i64.wrap (0 - cr) = A) ∧ (0 ≤ cr → cr = A)) := by
    constructor
    · intro h; rw [hA, atC, if_pos h]
    · intro h; rw [hA, atC, if_neg (by omega)]
  clear hA
  -- both ways come to one
  go_enter Tryd.func4, Tryd.ntmps4
  go_wp2_with fail
  refine q1.mono ?_
  rintro e w1 ⟨b, bm, g, rfl, al⟩
  have AL : Hid (Al w w1 b bm 0 (fun _ => none) (some ⟨g, 0, none⟩) 0 [] cr 0 0 false) := al
  clear al q1
  go_upto_if 34 with fail
  go_cut [7] (fun v wx => v = .int .i64 A ∧ w1 = wx)
  case first =>
    by_cases hneg : cr < 0
    · have hwr := hcA.out.1 hneg
      rw [Int.zero_sub, IntKind.wrap_i64] at hwr
      have hwr2 : wrap64 (-cr) = A := by rw [← hwr]; unfold wrap64; omega
      clear hwr
      go_wp2
      go_meet
      exact ⟨by rw [hwr2], rfl⟩
    · have hwr := hcA.out.2 (by omega)
      have HX : Hid (cr = A) := hwr
      clear hwr
      go_wp2
      go_meet
      exact ⟨by rw [HX.out], rfl⟩
  case rest =>
  obtain ⟨rfl, rfl⟩ := hcut
  go_wp2_with fail
  clear hcA hbig
  have hS1 : Hid (∀ W, Nw w W → Sent B W a) := fun W nW => HS.out.fr nW (fun _ _ f => f)
  go_loopw [8, 9] (fun u v wr => ∃ (i n : Nat), i ≤ m ∧ v = .int .i64 i ∧ u = .int .i64 (kc cr i) ∧ (∀ j, j < i → okN (atW ls j).1) ∧ n ≤ i ∧ Al w wr b bm n (liesT ls (kc cr i)) (some ⟨g, 0, none⟩) 0 [] cr 0 (wc cr i) (dc cr i)) (fun _ v _ => m - (intOf v).toNat)
  case atStart =>
    refine ⟨0, 0, by omega, rfl, by rw [kc_zero]; rfl, fun j hj => by omega, Nat.le_refl _, ?_⟩
    have e1 : wc cr 0 = 0 := by unfold wc; split <;> omega
    have e2 : dc cr 0 = false := by unfold dc; rw [decide_eq_false_iff_not]; omega
    rw [kc_zero, e1, e2]
    exact AL.out
  case round =>
    obtain ⟨i, n, hi, rfl, rfl, hok, hni, al⟩ := hrel
    have AI : Hid (Al w wr b bm n (liesT ls (kc cr i)) (some ⟨g, 0, none⟩) 0 [] cr 0 (wc cr i) (dc cr i)) := al
    have HOK : Hid (∀ j, j < i → okN (atW ls j).1) := hok
    clear al hok AL
    have hS2 : Hid (Sent B wr a) := hS1.out wr AI.out.nw
    by_cases hlt : i < m
    · have hii : (i : Int) < (m : Int) := by omega
      obtain ⟨g1, o1, e1, hcx, hcy⟩ := HW.out i (by rw [Hm.out]; exact hlt)
      subst e1
      obtain ⟨X, hX⟩ : ∃ X, X = (atW ls i).1 := ⟨_, rfl⟩
      obtain ⟨Y, hY⟩ : ∃ Y, Y = (atW ls i).2 := ⟨_, rfl⟩
      have cX : Hid (w.cell? ⟨g1, o1 + i * 2, none⟩ = some (.string X)) := by show _ = _; rw [hX]; exact hcx
      have cY : Hid (w.cell? ⟨g1, o1 + i * 2 + 1, none⟩ = some (.string Y)) := by show _ = _; rw [hY]; exact hcy
      have hYs : Y.size ≤ 281474976710656 := by
        have := HT.out (atW ls i) (by simp [atW, List.getD_eq_getElem?_getD, Hm.out, hlt])
        rw [hY]; omega
      have HX : Hid (X = (atW ls i).1) := hX
      have HY : Hid (Y = (atW ls i).2) := hY
      have dX := AI.out.nw.cellOf cX.out
      have dY := AI.out.nw.cellOf cY.out
      have qm := fun W => may12_any X W
      clear hcx hcy hX hY
      by_cases hokX : okN X
      · rw [decide_eq_true hokX] at qm
        have HOX : Hid (okN X) := hokX
        have HOK2 : Hid (∀ j, j < i + 1 → okN (atW ls j).1) := fun j hj => by
          rcases Nat.lt_or_ge j i with q | q
          · exact HOK.out j q
          · rw [show j = i by omega, ← HX.out]; exact HOX.out
        clear hokX
        go_wp2_with fail
        refine (qm _).mono ?_
        rintro e w2 ⟨rfl, rfl⟩
        clear qm
        have qP : Hid (∀ W, Nw w2 W → Calls Tryd.prog 7 #[.pointer (some ⟨b, 0, none⟩), .string X, .string Y] W fun e W' => e = .returned (pv a (dc cr (i + 1))) ∧ Al w W' b bm (n + 1) (liesT ls (kc cr (i + 1))) (some ⟨g, 0, none⟩) 0 [] cr 0 (wc cr (i + 1)) (dc cr (i + 1))) := fun W nW => put_round (AI.out.go nW) HS.out HC.out (by omega) hni HX.out HY.out HOX.out hYs
        go_wp2_with fail
        go_region_held3 (fun w' => w'.cell? ⟨g1, o1 + i * 2, none⟩ = some (.string X) ∧ w'.cell? ⟨g1, o1 + i * 2 + 1, none⟩ = some (.string Y)) (first | exact ⟨dX, dY⟩ | exact KEEP.out) ((go_at_call 7; refine (qP.out _ (by first | exact (Fr.refl _ _).drew | exact Fr.refl _ _)).mono ?_; rintro e w5 ⟨rfl, al⟩; have A5 : Hid (Al w w5 b bm (n + 1) (liesT ls (kc cr (i + 1))) (some ⟨g, 0, none⟩) 0 [] cr 0 (wc cr (i + 1)) (dc cr (i + 1))) := al; have KEEP : Hid (w5.cell? ⟨g1, o1 + i * 2, none⟩ = some (.string X) ∧ w5.cell? ⟨g1, o1 + i * 2 + 1, none⟩ = some (.string Y)) := ⟨al.nw.cellOf cX.out, al.nw.cellOf cY.out⟩; clear al))
        clear KEEP qP dX dY
        have hkl := kc_le cr i
        rcases (Bool.eq_false_or_eq_true (dc cr (i + 1))).symm with hd | hd
        · have HD : Hid (dc cr (i + 1) = false) := hd
          have hnh : ¬ (1 ≤ A ∧ A ≤ (i : Int) + 1) := by rw [HA.out]; have := of_decide_eq_false hd; omega
          have hki : Hid (kc cr i = i ∧ kc cr (i + 1) = i + 1) := by
            have h1 : ¬ (1 ≤ atC cr ∧ atC cr ≤ (i : Int)) := by rw [HA.out] at hnh; omega
            have h2 : ¬ (1 ≤ atC cr ∧ atC cr ≤ ((i + 1 : Nat) : Int)) := by rw [HA.out] at hnh; omega
            exact ⟨by rw [kc, if_neg h1], by rw [kc, if_neg h2]⟩
          have hdd : Hid (w5.heap[b]? = some (stc (.map (some bm)) (.slice (some ⟨g, 0, none⟩) 0 0) cr 0 (wc cr (i + 1)) false)) := by show _ = _; have := A5.out.sr.blk; rw [hd] at this; exact this
          have e1 : pv a (dc cr (i + 1)) = .nilIface := by rw [hd]; rfl
          rw [e1]
          clear e1 hd
          by_cases hA1 : 1 ≤ A
          · have hA2 : ¬ A ≤ (i : Int) + 1 := fun h => hnh ⟨hA1, h⟩
            clear hnh
            go_wp2_with fail
            refine (sdead_any hdd.out).mono ?_
            rintro e w6 ⟨rfl, rfl⟩
            go_wp2
            obtain ⟨k1, k2⟩ := hki.out
            exact ⟨⟨i + 1, n + 1, by omega, by go_num, by rw [k1, k2]; go_num, HOK2.out, by omega, A5.out⟩, by simp [intOf]; omega⟩
          · clear hnh
            go_wp2_with fail
            refine (sdead_any hdd.out).mono ?_
            rintro e w6 ⟨rfl, rfl⟩
            go_wp2
            obtain ⟨k1, k2⟩ := hki.out
            exact ⟨⟨i + 1, n + 1, by omega, by go_num, by rw [k1, k2]; go_num, HOK2.out, by omega, A5.out⟩, by simp [intOf]; omega⟩
        · have HD : Hid (dc cr (i + 1) = true) := hd
          have hh : 1 ≤ A ∧ A ≤ (i : Int) + 1 := by rw [HA.out]; have := of_decide_eq_true hd; omega
          have hA1 := hh.1
          have hA2 := hh.2
          have hdd : Hid (w5.heap[b]? = some (stc (.map (some bm)) (.slice (some ⟨g, 0, none⟩) 0 0) cr 0 (wc cr (i + 1)) true)) := by show _ = _; have := A5.out.sr.blk; rw [hd] at this; exact this
          have e1 : pv a (dc cr (i + 1)) = sen (a 7) := by rw [hd]; rfl
          rw [e1]
          clear e1 hd hh
          go_wp2_with fail
          refine (is_sen (hS1.out w5 A5.out.nw) 7 (by decide) (by decide)).mono ?_
          rintro e w6 ⟨rfl, n6⟩
          have A6 : Hid (Al w w6 b bm (n + 1) (liesT ls (kc cr (i + 1))) (some ⟨g, 0, none⟩) 0 [] cr 0 (wc cr (i + 1)) (dc cr (i + 1))) := A5.out.go n6
          have hd6 : Hid (w6.heap[b]? = some (stc (.map (some bm)) (.slice (some ⟨g, 0, none⟩) 0 0) cr 0 (wc cr (i + 1)) true)) := (n6.block _ (heap_lt hdd.out) (fun f => f)).trans hdd.out
          clear n6 A5 hdd
          go_wp2_with fail
          refine (sdead_any hd6.out).mono ?_
          rintro e w7 ⟨rfl, rfl⟩
          by_cases hAe : (i : Int) + 1 = A
          · have bA : ((i : Int) + 1 == A) = true := by simpa using hAe
            have hk0 : Hid (kc cr i = i) := by
              show _ = _
              have h1 : ¬ (1 ≤ atC cr ∧ atC cr ≤ (i : Int)) := by rw [← HA.out]; omega
              rw [kc, if_neg h1]
            have hk1 : Hid (kc cr (i + 1) = (if cr < 0 then i + 1 else i)) := by
              show _ = _
              have h2 : 1 ≤ atC cr ∧ atC cr ≤ ((i + 1 : Nat) : Int) := by rw [← HA.out]; omega
              rw [kc, if_pos h2, ← HA.out, ← hAe]
              split <;> omega
            have HAe : Hid ((i : Int) + 1 = A) := hAe
            clear hAe
            by_cases hneg : cr < 0
            · have hk2 := hk1.out
              rw [if_pos hneg] at hk2
              have HK2 : Hid (kc cr (i + 1) = i + 1) := hk2
              clear hk2
              go_wp2
              exact ⟨⟨i + 1, n + 1, by omega, by go_num, by rw [hk0.out, HK2.out]; go_num, HOK2.out, by omega, A6.out⟩, by simp [intOf]; omega⟩
            · have hk2 := hk1.out
              rw [if_neg hneg] at hk2
              have HK2 : Hid (kc cr (i + 1) = i) := hk2
              clear hk2
              go_wp2
              exact ⟨⟨i + 1, n + 1, by omega, by go_num, by rw [hk0.out, HK2.out], HOK2.out, by omega, A6.out⟩, by simp [intOf]; omega⟩
          · have bA : ((i : Int) + 1 == A) = false := by simpa using hAe
            have hk0 : Hid (kc cr (i + 1) = kc cr i) := by
              show _ = _
              have h1 : 1 ≤ atC cr ∧ atC cr ≤ (i : Int) := by rw [← HA.out]; omega
              exact (crash_stay cr i h1).1
            go_wp2
            exact ⟨⟨i + 1, n + 1, by omega, by go_num, by rw [hk0.out], HOK2.out, by omega, A6.out⟩, by simp [intOf]; omega⟩
      · rw [decide_eq_false hokX] at qm
        clear hokX
        go_wp2_with fail
        refine (qm _).mono ?_
        rintro e w2 ⟨rfl, rfl⟩
        clear qm
        go_wp2_with fail
        refine (alive_any hS2.out).mono ?_
        rintro e w3 ⟨rfl, n3⟩
        have N3 : Hid (Nw w w3) := AI.out.nw.tr n3
        clear n3
        go_wp2
        go_ret
        exact ⟨rfl, N3.out⟩
    · have e : i = m := by omega
      have hge : ¬ (i : Int) < (m : Int) := by omega
      obtain ⟨K, hK⟩ : ∃ K, K = kc cr i := ⟨_, rfl⟩
      have hKm : K ≤ m := by rw [hK, ← e]; exact kc_le cr i
      have hn200 : n ≤ 200 := by omega
      rw [← hK] at AI ⊢
      have HOK2 : Hid (∀ j, j < m → okN (atW ls j).1) := by rw [← e]; exact HOK.out
      clear hK e HOK hlt hi
      have q3 := AI.out.restart none 0 [] 0 (iz_nil wr none) (by decide) (by decide) (l := 0) rfl
      go_wp2_with fail
      refine q3.mono ?_
      rintro e w3 ⟨rfl, g3, al⟩
      have A3 : Hid (Al w w3 b bm n (liesT ls K) (some ⟨g3, 0, none⟩) 0 [] 0 0 0 false) := al
      clear al q3
      go_wp2_with fail
      refine (sdead_any A3.out.sr.blk).mono ?_
      rintro e w4 ⟨rfl, rfl⟩
      go_wp2
      clear AI hS2 hge
      go_loopw [11] (fun v wr => ∃ j : Nat, j ≤ m ∧ v = .int .i64 j ∧ Al w wr b bm n (liesT ls K) (some ⟨g3, 0, none⟩) 0 [] 0 j 0 false) (fun v _ => m - (intOf v).toNat)
      case atStart => exact ⟨0, by omega, rfl, A3.out⟩
      case round =>
        obtain ⟨j, hj, rfl, al⟩ := hrel
        have AJ : Hid (Al w wr b bm n (liesT ls K) (some ⟨g3, 0, none⟩) 0 [] 0 j 0 false) := al
        clear al A3
        by_cases hlt : j < m
        · have hjj : (j : Int) < (m : Int) := by omega
          obtain ⟨g1, o1, e1, hcx, _⟩ := HW.out j (by rw [Hm.out]; exact hlt)
          have hokX := HOK2.out j hlt
          have q5 := lies12_any (HW.out.nw AJ.out.nw) c m K (by rw [Hm.out]; exact hKm) Hm.out.symm (by rw [Hm.out]; omega) (atW ls j).1
          obtain ⟨X, hX⟩ : ∃ X, X = (atW ls j).1 := ⟨_, rfl⟩
          have cX : Hid (w.cell? ⟨g1, o1 + j * 2, none⟩ = some (.string X)) := by show _ = _; rw [hX]; exact hcx
          rw [← hX] at hokX q5
          subst e1
          have HOX : Hid (okN X) := hokX
          have dX := AJ.out.nw.cellOf cX.out
          clear hcx hX hokX
          have q6 := AJ.out.get HS.out X HOX.out (by decide) (by decide) (by omega) (by omega) (k := (j : Int) + 1) rfl (v := _) rfl
          cases hM : liesT ls K X with
          | none =>
            rw [hM] at q5 q6
            simp only [Option.getD_none, Option.isSome_none, e0t] at q5
            have q7 : Calls Tryd.prog 9 #[.pointer (some ⟨b, 0, none⟩), .string X] wr fun e W' => e = .returned (.tuple #[.string ⟨#[]⟩, sen (a 5)]) ∧ Al w W' b bm n (liesT ls K) (some ⟨g3, 0, none⟩) 0 [] 0 ((j : Int) + 1) 0 false := q6
            clear q6
            go_wp2_with fail
            refine q5.mono ?_
            rintro e w5 ⟨rfl, rfl⟩
            clear q5
            go_wp2_with fail
            refine q7.mono ?_
            rintro e w6 ⟨rfl, al⟩
            have A6 : Hid (Al w w6 b bm n (liesT ls K) (some ⟨g3, 0, none⟩) 0 [] 0 ((j : Int) + 1) 0 false) := al
            clear al q7
            go_wp2_with fail
            refine (is_sen (hS1.out w6 A6.out.nw) 5 (by decide) (by decide)).mono ?_
            rintro e w7 ⟨rfl, n7⟩
            have A7 : Hid (Al w w7 b bm n (liesT ls K) (some ⟨g3, 0, none⟩) 0 [] 0 ((j : Int) + 1) 0 false) := A6.out.go n7
            clear n7 A6
            go_wp2
            exact ⟨⟨j + 1, by omega, by go_num, A7.out⟩, by simp [intOf]; omega⟩
          | some t =>
            rw [hM] at q5 q6
            simp only [Option.getD_some, Option.isSome_some] at q5
            have q7 : Calls Tryd.prog 9 #[.pointer (some ⟨b, 0, none⟩), .string X] wr fun e W' => e = .returned (.tuple #[.string t, .nilIface]) ∧ Al w W' b bm n (liesT ls K) (some ⟨g3, 0, none⟩) 0 [] 0 ((j : Int) + 1) 0 false := q6
            have tt := tl_same t
            clear q6
            go_wp2_with fail
            refine q5.mono ?_
            rintro e w5 ⟨rfl, rfl⟩
            clear q5
            go_wp2_with fail
            refine q7.mono ?_
            rintro e w6 ⟨rfl, al⟩
            have A6 : Hid (Al w w6 b bm n (liesT ls K) (some ⟨g3, 0, none⟩) 0 [] 0 ((j : Int) + 1) 0 false) := al
            clear al q7
            go_wp2
            exact ⟨⟨j + 1, by omega, by go_num, A6.out⟩, by simp [intOf]; omega⟩
        · have hge : ¬ (j : Int) < (m : Int) := by omega
          have q8 := named12_any AJ.out.sr.blk AJ.out.sr.mp (by omega) (HW.out.nw AJ.out.nw) c (by rw [Hm.out]; exact hKm) (by rw [Hm.out]; omega) (fun j' hj' => HOK2.out j' (by omega)) Hm.out
          go_wp2_with fail
          refine q8.mono ?_
          rintro e w5 ⟨rfl, n5⟩
          have N5 : Hid (Nw w w5) := AJ.out.nw.tr n5
          clear n5 q8
          go_wp2_with fail
          refine (alive_any (hS1.out w5 N5.out)).mono ?_
          rintro e w6 ⟨rfl, n6⟩
          have N6 : Hid (Nw w w6) := N5.out.tr n6
          clear n6
          go_wp2
          go_ret
          exact ⟨rfl, N6.out⟩
end Go.Proofs.YtdckjmbellngiaaDoor
