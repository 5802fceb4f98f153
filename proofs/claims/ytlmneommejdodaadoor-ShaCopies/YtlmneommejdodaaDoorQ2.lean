/- ShaCopies: a copy and the one it was made of go on by themselves. -/
import Derived.Test.YtlmneommejdodaaDoorP11
import Derived.Deep.MidRow
import Derived.Deep.DeepCutAuto
namespace Go.Proofs.YtlmneommejdodaaDoor
open Go.RowKit
set_option linter.unusedVariables false
set_option linter.unusedSimpArgs false

theorem three_ints (w : World) (n m l : Nat) : Ints (w.alloc (.cells #[.int .i64 (n : Int), .int .i64 (m : Int), .int .i64 (l : Int)] 3)) (some ⟨w.heap.size, 0, none⟩) [n, m, l] := fun j hj => by
  refine ⟨_, _, rfl, (cell_of (heap_new w _) _).trans ?_⟩
  match j, hj with
  | 0, _ => rfl
  | 1, _ => rfl
  | 2, _ => rfl
theorem getD_three (n m l : Nat) (h : n < 4611686018427387904) (h1 : m < 4611686018427387904) (h2 : l < 4611686018427387904) : ∀ j, [n, m, l].getD j 0 < 4611686018427387904 := fun j => by
  match j with
  | 0 => exact h
  | 1 => exact h1
  | 2 => exact h2
  | j + 3 => simp
theorem strs2 (w : World) (x y : ByteArray) : Strs (w.alloc (.cells #[.string x, .string y] 9)) (some ⟨w.heap.size, 0, none⟩) [x, y] := fun j z hz => by
  match j, hz with
  | 0, hz => cases hz; exact ⟨_, _, rfl, cell_of (heap_new w _) 0⟩
  | 1, hz => cases hz; exact ⟨_, _, rfl, cell_of (heap_new w _) 1⟩
theorem strs2n {w w' : World} {x y : ByteArray} (n : Nw (w.alloc (.cells #[.string x, .string y] 9)) w') : Strs w' (some ⟨w.heap.size, 0, none⟩) [x, y] := (strs2 w x y).nw n
theorem strs2d {w w' : World} {x y : ByteArray} (n : Nw (w.alloc (.cells #[.string x, .string y] 9)).drew w') : Strs w' (some ⟨w.heap.size, 0, none⟩) [x, y] := (strs2 w x y).nw (Nw.tr (Fr.refl _ _).drew n)
theorem strs3 (w : World) (x y z : ByteArray) : Strs (w.alloc (.cells #[.string x, .string y, .string z] 9)) (some ⟨w.heap.size, 0, none⟩) [x, y, z] := fun j u hu => by
  match j, hu with
  | 0, hu => cases hu; exact ⟨_, _, rfl, cell_of (heap_new w _) 0⟩
  | 1, hu => cases hu; exact ⟨_, _, rfl, cell_of (heap_new w _) 1⟩
  | 2, hu => cases hu; exact ⟨_, _, rfl, cell_of (heap_new w _) 2⟩
theorem strs3n {w w' : World} {x y z : ByteArray} (n : Nw (w.alloc (.cells #[.string x, .string y, .string z] 9)) w') : Strs w' (some ⟨w.heap.size, 0, none⟩) [x, y, z] := (strs3 w x y z).nw n
theorem strs3d {w w' : World} {x y z : ByteArray} (n : Nw (w.alloc (.cells #[.string x, .string y, .string z] 9)).drew w') : Strs w' (some ⟨w.heap.size, 0, none⟩) [x, y, z] := (strs3 w x y z).nw (Nw.tr (Fr.refl _ _).drew n)
/-- Twice handed: a twin, and written. -/
theorem write_twin (d : Nat) (L M : List UInt8) (w w0 : World) (hD : Dig w0 d L) (hL : Laid w0) (hd : 2 ≤ d) (n0 : Nw w0 w) (hj : w.heap[w0.heap.size]? = some (.cells (rcs (M ++ [128]) (M.length + 1)) 5 (0, 0))) (hlen : L.length + M.length < 4611686018427387904) :
    Calls Tryd.prog 19 #[.pointer (some ⟨d, 0, none⟩), .slice (some ⟨w0.heap.size, 0, none⟩) M.length (M.length + 1)] w fun e w' => e = .returned (.tuple #[]) ∧ Dig w' d (L ++ M) ∧ Fr (fun k => k = d) w0 w' := by
  have q := write_dig d L _ ⟨M.toArray⟩ w (hD.keep n0 (fun f => f)) (hL.nw n0) hd (conv_bys (twin_bys hj) (M.length + 1)) (by show L.length + M.toArray.size < _; simpa using hlen)
  exact q.mono fun e w' ⟨h1, h2, h3⟩ => ⟨h1, h2, (n0.mono (fun _ _ f => f.elim)).trans h3 (fun _ _ q => q)⟩

set_option maxRecDepth 100000 in
set_option maxHeartbeats 4000000 in
theorem copies_any (pa pb pc : Option Addr) (ca cb cc : Nat) (A B C : List UInt8) (w : World) (hA : Bys w pa A) (hB : Bys w pb B) (hC : Bys w pc C) (hla : A.length ≤ 140737488355328) (hlb : B.length ≤ 140737488355328) (hlc : C.length ≤ 140737488355328) (hL : Laid w) :
    Calls Tryd.prog 7 #[.slice pa A.length ca, .slice pb B.length cb, .slice pc C.length cc] w fun e w' => e = .returned (.bool true) ∧ Nw w w' := by
  have HL : Hid (Laid w) := hL
  have hs2 := hL.lt
  have HA : Hid (Bys w pa A) := hA
  have HB : Hid (Bys w pb B) := hB
  have HC : Hid (Bys w pc C) := hC
  clear hL hA hB hC
  obtain ⟨n, hn⟩ : ∃ n, n = A.length := ⟨_, rfl⟩
  obtain ⟨m, hm⟩ : ∃ m, m = B.length := ⟨_, rfl⟩
  obtain ⟨l, hl⟩ : ∃ l, l = C.length := ⟨_, rfl⟩
  rw [← hn] at hla ⊢
  rw [← hm] at hlb ⊢
  rw [← hl] at hlc ⊢
  have Hn : Hid (n = A.length) := hn
  have Hm : Hid (m = B.length) := hm
  have Hl : Hid (l = C.length) := hl
  clear hn hm hl
  go_enter Tryd.func7, Tryd.ntmps7
  go_wp2_with fail
  refine (alive_any w HL.out).mono ?_
  rintro e1 w1 ⟨rfl, n1⟩
  go_wp2_with fail
  have q2 := beyond_any (some ⟨w1.heap.size, 0, none⟩) 3 [n, m, l] _ (three_ints w1 n m l) (getD_three n m l (by omega) (by omega) (by omega)) (by simp)
  refine q2.mono ?_
  rintro e2 w2 ⟨rfl, rfl⟩
  have n2 : Nw w (w1.alloc (.cells #[.int .i64 (n : Int), .int .i64 (m : Int), .int .i64 (l : Int)] 3)) := n1.alloc _
  generalize (w1.alloc (.cells #[.int .i64 (n : Int), .int .i64 (m : Int), .int .i64 (l : Int)] 3)) = w2 at n2 ⊢
  clear q2
  by_cases hbig : 1048576 < [n, m, l].sum
  · have hd := decide_eq_true hbig
    rw [hd]
    go_wp2_with fail
    refine (alive_any w2 (HL.out.nw n2)).mono ?_
    rintro e3 w3 ⟨rfl, n3⟩
    go_wp2
    go_ret
    exact ⟨rfl, n2.tr n3⟩
  · have hd := decide_eq_false hbig
    rw [hd]
    have hsum : n + (m + l) ≤ 1048576 := by simpa using hbig
    clear hbig hd hla hlb hlc n1
    have n2s := n2.size
    go_wp2_with fail
    refine (new_any w2 (HL.out.nw n2)).mono ?_
    rintro e3 w3 ⟨rfl, D3, n3⟩
    obtain ⟨d, hd⟩ : ∃ d, d = w2.heap.size := ⟨_, rfl⟩
    rw [← hd] at D3 ⊢
    have hdw : w.heap.size ≤ d := by omega
    have n3w : Nw w w3 := n2.tr n3
    have HD3 : Hid (Dig w3 d []) := D3
    clear hd D3 n3 n2 n2s
    go_wp2_with fail
    have q4 := twin_any pa ca A w3 (HA.out.nw n3w) (by have := Hn.out; omega)
    rw [← Hn.out] at q4
    refine q4.mono ?_
    rintro e4 w4 ⟨rfl, j4, n4⟩
    clear q4
    go_wp2_with fail
    have q5 := write_twin d [] A w4 w3 HD3.out (HL.out.nw n3w) (by omega) n4 (by rw [← Hn.out]; exact j4) (by have := Hn.out; simp; omega)
    rw [← Hn.out] at q5
    refine q5.mono ?_
    rintro e5 w5 ⟨rfl, D5, f5⟩
    have n5w : Nw w w5 := n3w.trans f5 (fun k hk q => by omega)
    have HD5 : Hid (Dig w5 d A) := D5
    clear q5 D5 f5 j4 n4 HD3 n3w
    go_wp2_with fail
    refine (copy_dig d A w5 HD5.out).mono ?_
    rintro e6 w6 ⟨rfl, D6, n6⟩
    obtain ⟨g, hg⟩ : ∃ g, g = w5.heap.size := ⟨_, rfl⟩
    have hgd : d < g := by have := HD5.out.lt; omega
    rw [← hg] at D6 ⊢
    have n6w : Nw w w6 := n5w.tr n6
    have HD6 : Hid (Dig w6 d A) := HD5.out.keep n6 (fun f => f)
    have HE6 : Hid (Dig w6 g A) := D6
    clear hg D6 n6 HD5 n5w
    go_wp2_with fail
    have q7 := twin_any pb cb B w6 (HB.out.nw n6w) (by have := Hm.out; omega)
    rw [← Hm.out] at q7
    refine q7.mono ?_
    rintro e7 w7 ⟨rfl, j7, n7⟩
    clear q7
    go_wp2_with fail
    have q8 := write_twin d A B w7 w6 HD6.out (HL.out.nw n6w) (by omega) n7 (by rw [← Hm.out]; exact j7) (by have := Hn.out; have := Hm.out; omega)
    rw [← Hm.out] at q8
    refine q8.mono ?_
    rintro e8 w8 ⟨rfl, D8, f8⟩
    have n8w : Nw w w8 := n6w.trans f8 (fun k hk q => by omega)
    have HD8 : Hid (Dig w8 d (A ++ B)) := D8
    have HE8 : Hid (Dig w8 g A) := HE6.out.keep f8 (by omega)
    clear q8 D8 f8 j7 n7 HD6 HE6 n6w
    go_wp2_with fail
    have q9 := twin_any pc cc C w8 (HC.out.nw n8w) (by have := Hl.out; omega)
    rw [← Hl.out] at q9
    refine q9.mono ?_
    rintro e9 w9 ⟨rfl, j9, n9⟩
    clear q9
    go_wp2_with fail
    have q10 := write_twin g A C w9 w8 HE8.out (HL.out.nw n8w) (by omega) n9 (by rw [← Hl.out]; exact j9) (by have := Hn.out; have := Hl.out; omega)
    rw [← Hl.out] at q10
    refine q10.mono ?_
    rintro e10 w10 ⟨rfl, D10, f10⟩
    have n10w : Nw w w10 := n8w.trans f10 (fun k hk q => by omega)
    have HE10 : Hid (Dig w10 g (A ++ C)) := D10
    have HD10 : Hid (Dig w10 d (A ++ B)) := HD8.out.keep f10 (by omega)
    clear q10 D10 f10 j9 n9 HD8 HE8 n8w
    go_wp2_with fail
    refine (copy_dig d (A ++ B) w10 HD10.out).mono ?_
    rintro e11 w11 ⟨rfl, D11, n11⟩
    obtain ⟨f, hf⟩ : ∃ f, f = w10.heap.size := ⟨_, rfl⟩
    have hfg : g < f := by have := HE10.out.lt; omega
    rw [← hf] at D11 ⊢
    have n11w : Nw w w11 := n10w.tr n11
    have HD11 : Hid (Dig w11 d (A ++ B)) := HD10.out.keep n11 (fun f => f)
    have HE11 : Hid (Dig w11 g (A ++ C)) := HE10.out.keep n11 (fun f => f)
    have HF11 : Hid (Dig w11 f (A ++ B)) := D11
    clear hf D11 n11 HD10 HE10 n10w
    obtain ⟨xa, hxa⟩ : ∃ x : ByteArray, x = ⟨A.toArray⟩ := ⟨_, rfl⟩
    obtain ⟨xb, hxb⟩ : ∃ x : ByteArray, x = ⟨B.toArray⟩ := ⟨_, rfl⟩
    obtain ⟨xc, hxc⟩ : ∃ x : ByteArray, x = ⟨C.toArray⟩ := ⟨_, rfl⟩
    have hkp : Hid (∀ W, Nw w11 W → (convert 39 9 (.slice pa n ca)).run Tryd.prog W = .ok (.string xa) W ∧ (convert 39 9 (.slice pb m cb)).run Tryd.prog W = .ok (.string xb) W ∧ (convert 39 9 (.slice pc l cc)).run Tryd.prog W = .ok (.string xc) W) := fun W hW => by
      rw [Hn.out, Hm.out, Hl.out, hxa, hxb, hxc]
      exact ⟨conv_bys (HA.out.nw (n11w.tr hW)) ca, conv_bys (HB.out.nw (n11w.tr hW)) cb, conv_bys (HC.out.nw (n11w.tr hW)) cc⟩
    obtain ⟨Tab, hTab⟩ : ∃ T, T = sha (A ++ B) := ⟨_, rfl⟩
    obtain ⟨Tac, hTac⟩ : ∃ T, T = sha (A ++ C) := ⟨_, rfl⟩
    have hl1 : (A ++ B).length < 576460752303423488 := by rw [List.length_append, ← Hn.out, ← Hm.out]; omega
    have hl2 : (A ++ C).length < 576460752303423488 := by rw [List.length_append, ← Hn.out, ← Hl.out]; omega
    have QS : Hid (∀ q T W, ((q = d ∧ T = Tab) ∨ (q = g ∧ T = Tac) ∨ (q = f ∧ T = Tab)) → Nw w11 W → Calls Tryd.prog 20 #[.pointer (some ⟨q, 0, none⟩)] W fun e w' => e = .returned (.agg (hcs T 32)) ∧ Nw W w') := fun q T W hq hW => by
      rcases hq with ⟨rfl, rfl⟩ | ⟨rfl, rfl⟩ | ⟨rfl, rfl⟩
      · rw [hTab]; exact sum_dig _ _ W (HD11.out.keep hW (fun f => f)) (HL.out.nw (n11w.tr hW)) hl1
      · rw [hTac]; exact sum_dig _ _ W (HE11.out.keep hW (fun f => f)) (HL.out.nw (n11w.tr hW)) hl2
      · rw [hTab]; exact sum_dig _ _ W (HF11.out.keep hW (fun f => f)) (HL.out.nw (n11w.tr hW)) hl1
    have eab : cat [xa, xb] = A ++ B := by rw [hxa, hxb]; simp [cat]
    have eac : cat [xa, xc] = A ++ C := by rw [hxa, hxc]; simp [cat]
    have QAB : Hid (∀ p W, Nw w11 W → Strs W p [xa, xb] → Calls Tryd.prog 13 #[.slice p 2 2] W fun e w' => e = .returned (.agg (hcs Tab 32)) ∧ Nw W w') := fun p W hW hs => by
      have := sums_any p 2 [xa, xb] W hs (HL.out.nw (n11w.tr hW)) (by rw [eab]; exact hl1) (by simp)
      rw [eab, ← hTab] at this
      exact this
    have QAC : Hid (∀ p W, Nw w11 W → Strs W p [xa, xc] → Calls Tryd.prog 13 #[.slice p 2 2] W fun e w' => e = .returned (.agg (hcs Tac 32)) ∧ Nw W w') := fun p W hW hs => by
      have := sums_any p 2 [xa, xc] W hs (HL.out.nw (n11w.tr hW)) (by rw [eac]; exact hl2) (by simp)
      rw [eac, ← hTac] at this
      exact this
    have HTab : Hid (Tab = sha (A ++ B)) := hTab
    have HXa : Hid (xa = ⟨A.toArray⟩) := hxa
    have HXb : Hid (xb = ⟨B.toArray⟩) := hxb
    have HXc : Hid (xc = ⟨C.toArray⟩) := hxc
    clear hTab hTac hl1 hl2 eab eac hxa hxb hxc
    have he := hash_eq
    go_upto_region 11 with fail
    go_cut [72] (fun b wx => b = .bool false ∧ Nw w11 wx)
    case first =>
      have nb : Nw w11 w11.drew := (Fr.refl _ w11).drew
      go_region_held3 (fun w' => (convert 39 9 (.slice pa n ca)).run Tryd.prog w' = .ok (.string xa) w' ∧ (convert 39 9 (.slice pb m cb)).run Tryd.prog w' = .ok (.string xb) w' ∧ (convert 39 9 (.slice pc l cc)).run Tryd.prog w' = .ok (.string xc) w') (first | exact hkp.out _ nb | exact hkp.out _ (nb.alloc _)) (first
      | (go_at_call 20; refine (QS.out _ _ _ (by first | exact .inl ⟨rfl, rfl⟩ | exact .inr (.inl ⟨rfl, rfl⟩) | exact .inr (.inr ⟨rfl, rfl⟩)) (by first | exact nb | exact nb.alloc _)).mono ?_; rintro ex wx ⟨rfl, nx⟩; have nb := (show Nw w11 _ by first | exact nb | exact nb.alloc _).tr nx)
      | (go_at_call 13; refine (QAB.out _ _ (by first | exact nb | exact nb.alloc _) (by first | exact strs2 _ _ _ | exact strs2n nx | exact strs2d nx)).mono ?_; rintro ex wx ⟨rfl, nx⟩; have nb := (show Nw w11 _ by first | exact nb | exact nb.alloc _).tr nx)
      | (go_at_call 13; refine (QAC.out _ _ (by first | exact nb | exact nb.alloc _) (by first | exact strs2 _ _ _ | exact strs2n nx | exact strs2d nx)).mono ?_; rintro ex wx ⟨rfl, nx⟩; have nb := (show Nw w11 _ by first | exact nb | exact nb.alloc _).tr nx))
      all_goals go_wp2_with fail
      all_goals go_meet
      all_goals exact ⟨rfl, nb⟩
    case rest =>
      obtain ⟨rfl, n12⟩ := hcut
      have n12w : Nw w wc := n11w.tr n12
      have HF12 : Hid (Dig wc f (A ++ B)) := HF11.out.keep n12 (fun h => h)
      clear HF11
      go_wp2_with fail
      have q13 := twin_any pc cc C wc (HC.out.nw n12w) (by have := Hl.out; omega)
      rw [← Hl.out] at q13
      refine q13.mono ?_
      rintro e13 w13 ⟨rfl, j13, n13⟩
      clear q13
      go_wp2_with fail
      have q14 := write_twin f (A ++ B) C w13 wc HF12.out (HL.out.nw n12w) (by omega) n13 (by rw [← Hl.out]; exact j13) (by rw [List.length_append]; have := Hn.out; have := Hm.out; have := Hl.out; omega)
      rw [← Hl.out] at q14
      refine q14.mono ?_
      rintro e14 w14 ⟨rfl, D14, f14⟩
      have n14w : Nw w w14 := n12w.trans f14 (fun k hk q => by omega)
      have HD14 : Hid (Dig w14 d (A ++ B)) := (HD11.out.keep n12 (fun h => h)).keep f14 (by omega)
      have HE14 : Hid (Dig w14 g (A ++ C)) := (HE11.out.keep n12 (fun h => h)).keep f14 (by omega)
      have HF14 : Hid (Dig w14 f (A ++ B ++ C)) := D14
      clear D14 f14 q14 j13 n13 HF12 HD11 HE11 n12w n12 n11w hkp QS QAB QAC
      have hkp : Hid (∀ W, Nw w14 W → (convert 39 9 (.slice pa n ca)).run Tryd.prog W = .ok (.string xa) W ∧ (convert 39 9 (.slice pb m cb)).run Tryd.prog W = .ok (.string xb) W ∧ (convert 39 9 (.slice pc l cc)).run Tryd.prog W = .ok (.string xc) W) := fun W hW => by
        rw [Hn.out, Hm.out, Hl.out, HXa.out, HXb.out, HXc.out]
        exact ⟨conv_bys (HA.out.nw (n14w.tr hW)) ca, conv_bys (HB.out.nw (n14w.tr hW)) cb, conv_bys (HC.out.nw (n14w.tr hW)) cc⟩
      obtain ⟨Tabc, hTabc⟩ : ∃ T, T = sha (A ++ B ++ C) := ⟨_, rfl⟩
      have hl1 : (A ++ B).length < 576460752303423488 := by rw [List.length_append, ← Hn.out, ← Hm.out]; omega
      have hl3 : (A ++ B ++ C).length < 576460752303423488 := by rw [List.length_append, List.length_append, ← Hn.out, ← Hm.out, ← Hl.out]; omega
      have QS : Hid (∀ q T W, ((q = d ∧ T = Tab) ∨ (q = f ∧ T = Tabc)) → Nw w14 W → Calls Tryd.prog 20 #[.pointer (some ⟨q, 0, none⟩)] W fun e w' => e = .returned (.agg (hcs T 32)) ∧ Nw W w') := fun q T W hq hW => by
        rcases hq with ⟨rfl, rfl⟩ | ⟨rfl, rfl⟩
        · rw [HTab.out]; exact sum_dig _ _ W (HD14.out.keep hW (fun h => h)) (HL.out.nw (n14w.tr hW)) hl1
        · rw [hTabc]; exact sum_dig _ _ W (HF14.out.keep hW (fun h => h)) (HL.out.nw (n14w.tr hW)) hl3
      have eab : cat [xa, xb] = A ++ B := by rw [HXa.out, HXb.out]; simp [cat]
      have eabc : cat [xa, xb, xc] = A ++ B ++ C := by rw [HXa.out, HXb.out, HXc.out]; simp [cat]
      have QAB : Hid (∀ p W, Nw w14 W → Strs W p [xa, xb] → Calls Tryd.prog 13 #[.slice p 2 2] W fun e w' => e = .returned (.agg (hcs Tab 32)) ∧ Nw W w') := fun p W hW hs => by
        have := sums_any p 2 [xa, xb] W hs (HL.out.nw (n14w.tr hW)) (by rw [eab]; exact hl1) (by simp)
        rw [eab, ← HTab.out] at this
        exact this
      have QABC : Hid (∀ p W, Nw w14 W → Strs W p [xa, xb, xc] → Calls Tryd.prog 13 #[.slice p 3 3] W fun e w' => e = .returned (.agg (hcs Tabc 32)) ∧ Nw W w') := fun p W hW hs => by
        have := sums_any p 3 [xa, xb, xc] W hs (HL.out.nw (n14w.tr hW)) (by rw [eabc]; exact hl3) (by simp)
        rw [eabc, ← hTabc] at this
        exact this
      have QQ : Hid (∀ p k T W, Nw w14 W → ((k = 3 ∧ T = Tabc ∧ Strs W p [xa, xb, xc]) ∨ (k = 2 ∧ T = Tab ∧ Strs W p [xa, xb])) → Calls Tryd.prog 13 #[.slice p k k] W fun e w' => e = .returned (.agg (hcs T 32)) ∧ Nw W w') := fun p k T W hW hs => by
        rcases hs with ⟨rfl, rfl, hs⟩ | ⟨rfl, rfl, hs⟩
        · exact QABC.out p W hW hs
        · exact QAB.out p W hW hs
      clear QAB QABC
      obtain ⟨N1, hN1⟩ : ∃ N, N = n + m := ⟨_, rfl⟩
      obtain ⟨N2, hN2⟩ : ∃ N, N = n + l := ⟨_, rfl⟩
      have QL : Hid (∀ q N W, ((q = d ∧ N = N1) ∨ (q = g ∧ N = N2)) → Nw w14 W → Calls Tryd.prog 23 #[.pointer (some ⟨q, 0, none⟩)] W fun e w' => e = .returned (.int .u64 ((N : Nat) : Int)) ∧ w' = W) := fun q N W hq hW => by
        rcases hq with ⟨rfl, rfl⟩ | ⟨rfl, rfl⟩
        · have := len_dig _ _ W (HD14.out.keep hW (fun h => h))
          rw [List.length_append, ← Hn.out, ← Hm.out, ← hN1] at this
          exact this
        · have := len_dig _ _ W (HE14.out.keep hW (fun h => h))
          rw [List.length_append, ← Hn.out, ← Hl.out, ← hN2] at this
          exact this
      have i1 : IntKind.i64.wrap ((n : Int) + (m : Int)) = (N1 : Int) := by rw [IntKind.wrap_i64]; omega
      have i2 : IntKind.i64.wrap ((n : Int) + (l : Int)) = (N2 : Int) := by rw [IntKind.wrap_i64]; omega
      have i3 : IntKind.u64.wrap (N1 : Int) = (N1 : Int) := by rw [IntKind.wrap_u64]; omega
      have i4 : IntKind.u64.wrap (N2 : Int) = (N2 : Int) := by rw [IntKind.wrap_u64]; omega
      clear hTabc hl1 hl3 eab eabc hN1 hN2
      have nb : Nw w14 w14.drew := (Fr.refl _ w14).drew
      go_wp2
      go_region_held3 (fun w' => (convert 39 9 (.slice pa n ca)).run Tryd.prog w' = .ok (.string xa) w' ∧ (convert 39 9 (.slice pb m cb)).run Tryd.prog w' = .ok (.string xb) w' ∧ (convert 39 9 (.slice pc l cc)).run Tryd.prog w' = .ok (.string xc) w') (first | exact hkp.out _ nb | exact hkp.out _ (nb.alloc _)) (first
        | (go_at_call 23; refine (QL.out _ _ _ (by first | exact .inl ⟨rfl, rfl⟩ | exact .inr ⟨rfl, rfl⟩) (by first | exact nb | exact nb.alloc _)).mono ?_; rintro ex wx ⟨rfl, rfl⟩)
        | (go_at_call 20; refine (QS.out _ _ _ (by first | exact .inl ⟨rfl, rfl⟩ | exact .inr ⟨rfl, rfl⟩) (by first | exact nb | exact nb.alloc _)).mono ?_; rintro ex wx ⟨rfl, nx⟩; have nb := (show Nw w14 _ by first | exact nb | exact nb.alloc _).tr nx)
        | (go_at_call 13; refine (QQ.out _ _ _ _ (by first | exact nb | exact nb.alloc _) (by first | exact .inl ⟨rfl, rfl, strs3 _ _ _ _⟩ | exact .inl ⟨rfl, rfl, strs3n nx⟩ | exact .inl ⟨rfl, rfl, strs3d nx⟩ | exact .inr ⟨rfl, rfl, strs2 _ _ _⟩ | exact .inr ⟨rfl, rfl, strs2n nx⟩ | exact .inr ⟨rfl, rfl, strs2d nx⟩)).mono ?_; rintro ex wx ⟨rfl, nx⟩; have nb := (show Nw w14 _ by first | exact nb | exact nb.alloc _).tr nx))
      all_goals go_wp2
      all_goals go_ret
      all_goals exact ⟨rfl, n14w.tr nb⟩
end Go.Proofs.YtlmneommejdodaaDoor
