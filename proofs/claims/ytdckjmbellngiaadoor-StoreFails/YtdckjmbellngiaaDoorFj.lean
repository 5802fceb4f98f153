/- store: alive. -/
import Derived.Test.YtdckjmbellngiaaDoorFi
namespace Go.Proofs.YtdckjmbellngiaaDoor
open Go.RowKit Go.Maps Go.Sort Go.Proofs
set_option linter.unusedVariables false
set_option linter.unusedSimpArgs false
abbrev tA : ByteArray := ⟨#[97]⟩
abbrev tB : ByteArray := ⟨#[98]⟩
abbrev tX : ByteArray := ⟨#[120]⟩
abbrev tY : ByteArray := ⟨#[121]⟩
theorem names_one {M : Tx} {ss : List (List UInt8)} (h : NamesOf M ss) (t : ByteArray) (hM : ∀ x, (M x).isSome = true ↔ x = t) : ss = [t.data.toList] := by
  obtain ⟨h1, h2⟩ := h
  have hmem : ∀ y, y ∈ ss ↔ y = t.data.toList := fun y => by
    have := h2 ⟨y.toArray⟩
    simp only [List.toList_toArray] at this
    rw [this, hM]
    constructor
    · rintro rfl; simp
    · rintro rfl; rfl
  cases ss with
  | nil => exact absurd ((hmem _).2 rfl) (by simp)
  | cons y r =>
    have hy := (hmem y).1 (by simp)
    cases r with
    | nil => rw [hy]
    | cons z r =>
      have hz := (hmem z).1 (by simp)
      have := (List.pairwise_cons.1 h1).1 z (by simp)
      rw [hy, hz] at this
      exact absurd this (List.lt_irrefl _)
theorem evs {w : World} {a : Nat → Addr} (i : Nat) (hi : i < 16) : EV w a (sen (a i)) (i + 1) none := .inr (.inl ⟨i, hi, rfl, rfl, rfl⟩)
theorem is_sen {B : Nat} {w : World} {a : Nat → Addr} (hS : Sent B w a) (i : Nat) (hi : i < 16) {c : Int} (hc : c = (i + 1 : Nat)) :
    Calls Tryd.prog 6 #[sen (a i), .int .i64 c] w fun e w' => e = .returned (.bool true) ∧ Nw w w' := by
  have := isE_any hS (evs (w := w) (a := a) i hi) c
  have e : sameB (i + 1) none c (-1) = true := by simp [sameB, hc]
  rw [e] at this
  exact this
/-- The texts that alive puts. -/
noncomputable def Mxy : Tx := putT (putT (fun _ => none) tA tX) tA tY
theorem Mxy_A : Mxy tA = some tY := putT_same _ _ _
theorem tBA : tB ≠ tA := by intro h; have := congrArg (fun x : ByteArray => x.data.toList) h; simp at this
theorem Mxy_B : Mxy tB = none := by rw [Mxy, putT_other _ _ _ tBA, putT_other _ _ _ tBA]
theorem Mxy_some (x : ByteArray) : (Mxy x).isSome = true ↔ x = tA := by
  by_cases h : x = tA
  · subst h; simp [Mxy_A]
  · rw [Mxy, putT_other _ _ _ h, putT_other _ _ _ h]; simp [h]
set_option maxRecDepth 100000 in
set_option maxHeartbeats 4000000 in
theorem alive_any {w : World} {B : Nat} {a : Nat → Addr} (hS : Sent B w a) :
    Calls Tryd.prog 13 #[] w fun e w' => e = .returned (.bool true) ∧ Nw w w' := by
  have HS : Hid (Sent B w a) := hS
  clear hS
  have q1 := al_new (crash := -2) (c := 1) (nwA w (.cells #[.int .i64 2] 3)) (iz_one w 2) (by decide) (by decide) rfl
  go_enter Tryd.func13, Tryd.ntmps13
  go_wp2_with fail
  refine q1.mono ?_
  rintro e w1 ⟨b, bm, g, rfl, al⟩
  have HA : Hid (Al w w1 b bm 0 (fun _ => none) (some ⟨g, 0, none⟩) 1 [2] (-2) 0 0 false) := al
  clear al q1
  go_wp2_with fail
  have q2 := HA.out.put HS.out tA tX (by decide) (by decide) (by decide) (by decide) (by decide) (k := 1) (by decide) (v := .nilIface) rfl (M' := putT (fun _ => none) tA tX) (by rw [wrT, if_neg (by decide)]) (dd := false) (by decide)
  refine q2.mono ?_
  rintro e w2 ⟨rfl, al⟩
  have HA2 : Hid (Al w w2 b bm 1 (putT (fun _ => none) tA tX) (some ⟨g, 0, none⟩) 1 [2] (-2) 0 1 false) := al
  clear al q2 HA
  go_wp2_with fail
  have q3 := HA2.out.put HS.out tA tY (by decide) (by decide) (by decide) (by decide) (by decide) (k := 2) (by decide) (v := sen (a 7)) rfl (M' := Mxy) (by rw [wrT, if_neg (by decide), Mxy]) (dd := true) (by decide)
  refine q3.mono ?_
  rintro e w3 ⟨rfl, al⟩
  have HA3 : Hid (Al w w3 b bm 2 Mxy (some ⟨g, 0, none⟩) 1 [2] (-2) 0 2 true) := al
  clear al q3 HA2
  go_wp2_with fail
  refine (is_sen (HS.out.fr HA3.out.nw (fun _ _ f => f)) 7 (by decide) (by decide)).mono ?_
  rintro e w4 ⟨rfl, n4⟩
  have HA4 : Hid (Al w w4 b bm 2 Mxy (some ⟨g, 0, none⟩) 1 [2] (-2) 0 2 true) := HA3.out.go n4
  clear n4 HA3
  go_wp2_with fail
  refine (sdead_any HA4.out.sr.blk).mono ?_
  rintro e w5 ⟨rfl, rfl⟩
  go_wp2_with fail
  have q6 := (HA4.out.go (nwA _ (.cells #[.int .i64 2] 3))).restart (some ⟨w5.heap.size, 0, none⟩) 1 [2] 0 (iz_one _ 2) (by decide) (by decide) (l := 1) rfl
  refine q6.mono ?_
  rintro e w6 ⟨rfl, g6, al⟩
  have HA6 : Hid (Al w w6 b bm 2 Mxy (some ⟨g6, 0, none⟩) 1 [2] 0 0 0 false) := al
  clear al q6 HA4
  go_wp2_with fail
  have q7 := HA6.out.get HS.out tA (by decide) (by decide) (by decide) (by decide) (by decide) (k := 1) (by decide) (v := .tuple #[.string tY, .nilIface]) (by rw [Mxy_A]; rfl)
  refine q7.mono ?_
  rintro e w7 ⟨rfl, al⟩
  have HA7 : Hid (Al w w7 b bm 2 Mxy (some ⟨g6, 0, none⟩) 1 [2] 0 1 0 false) := al
  clear al q7 HA6
  go_wp2_with fail
  have q8 := HA7.out.get HS.out tA (by decide) (by decide) (by decide) (by decide) (by decide) (k := 2) (by decide) (v := .tuple #[.string ⟨#[]⟩, sen (a 6)]) (by rfl)
  refine q8.mono ?_
  rintro e w8 ⟨rfl, al⟩
  have HA8 : Hid (Al w w8 b bm 2 Mxy (some ⟨g6, 0, none⟩) 1 [2] 0 2 0 false) := al
  clear al q8 HA7
  go_wp2_with fail
  have q9 := HA8.out.get HS.out tB (by decide) (by decide) (by decide) (by decide) (by decide) (k := 3) (by decide) (v := .tuple #[.string ⟨#[]⟩, sen (a 5)]) (by rw [Mxy_B]; rfl)
  refine q9.mono ?_
  rintro e w9 ⟨rfl, al⟩
  have HA9 : Hid (Al w w9 b bm 2 Mxy (some ⟨g6, 0, none⟩) 1 [2] 0 3 0 false) := al
  clear al q9 HA8
  go_wp2_with fail
  refine (scounts_any HA9.out.sr.blk).mono ?_
  rintro e w10 ⟨rfl, n10⟩
  have HA10 : Hid (Al w w10 b bm 2 Mxy (some ⟨g6, 0, none⟩) 1 [2] 0 3 0 false) := HA9.out.go n10
  clear n10 HA9
  go_wp2_with fail
  have q11 := snew_bad (some ⟨w10.heap.size, 0, none⟩) 1 [0] 0 (iz_one w10 0) (by decide) (by decide) ((HS.out.fr HA10.out.nw (fun _ _ f => f)).fr (nwA w10 _) (fun _ _ f => f))
  refine q11.mono ?_
  rintro e w11 ⟨rfl, n11⟩
  have HA11 : Hid (Al w w11 b bm 2 Mxy (some ⟨g6, 0, none⟩) 1 [2] 0 3 0 false) := (HA10.out.go (nwA _ _)).go n11
  clear n11 q11 HA10
  go_wp2_with fail
  refine (is_sen (HS.out.fr HA11.out.nw (fun _ _ f => f)) 6 (by decide) (by decide)).mono ?_
  rintro e w12 ⟨rfl, n12⟩
  have HA12 : Hid (Al w w12 b bm 2 Mxy (some ⟨g6, 0, none⟩) 1 [2] 0 3 0 false) := HA11.out.go n12
  clear n12 HA11
  go_wp2_with fail
  refine (is_sen (HS.out.fr HA12.out.nw (fun _ _ f => f)) 5 (by decide) (by decide)).mono ?_
  rintro e w13 ⟨rfl, n13⟩
  have HA13 : Hid (Al w w13 b bm 2 Mxy (some ⟨g6, 0, none⟩) 1 [2] 0 3 0 false) := HA12.out.go n13
  clear n13 HA12
  go_wp2_with fail
  refine (is_sen (HS.out.fr HA13.out.nw (fun _ _ f => f)) 1 (by decide) (by decide)).mono ?_
  rintro e w14 ⟨rfl, n14⟩
  have HA14 : Hid (Al w w14 b bm 2 Mxy (some ⟨g6, 0, none⟩) 1 [2] 0 3 0 false) := HA13.out.go n14
  clear n14 HA13
  go_wp2_with fail
  have q15 := snames_any HA14.out.sr.blk HA14.out.sr.mp (by decide) (fun k hk => by rw [(Mxy_some k).1 hk]; decide)
  refine q15.mono ?_
  rintro e w15 ⟨g15, cap, ss, rfl, hn, hle15, ho, n15⟩
  have hss := names_one hn tA Mxy_some
  have hst := strs_own ho
  subst hss
  have HN : Hid (Nw w w15) := HA14.out.nw.tr n15
  have HT : Hid (Strs w15 (some ⟨g15, 0, none⟩) [tA]) := hst
  clear hn hle15 ho n15 q15 HA14 hst
  go_wp2_with fail
  have q16 := sames_any (some ⟨g15, 0, none⟩) (some ⟨w15.heap.size, 0, none⟩) cap 1 [tA] (w15.alloc (.cells #[.string tA] 9)) (HT.out.nw (nwA _ _)) (fun j x hj => ⟨w15.heap.size, 0, rfl, by
    rw [Nat.zero_add, cell_of (heap_new _ _)]
    cases j with
    | zero => simp at hj; rw [← hj]; rfl
    | succ j => simp at hj⟩) (by decide)
  refine q16.mono ?_
  rintro e w16 ⟨rfl, n16⟩
  have HN2 : Hid (Nw w w16) := (HN.out.alloc _).trans n16 (fun _ _ q => q)
  clear n16 q16 HN
  go_wp2
  go_ret
  exact ⟨rfl, HN2.out⟩
end Go.Proofs.YtdckjmbellngiaaDoor
