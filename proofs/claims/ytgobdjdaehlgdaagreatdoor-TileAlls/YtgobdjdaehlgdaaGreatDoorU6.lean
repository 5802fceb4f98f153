/- tile: a tile's name, Path. -/
import Derived.Test.YtgobdjdaehlgdaaGreatDoorU5
import Derived.Laws.MakeOwn
import Derived.Laws.IdiomStrings
namespace Go.Proofs.YtgobdjdaehlgdaaGreatDoor
open Go.RowKit
open Go.Lib (decDigits nDigits)
set_option linter.unusedVariables false
set_option linter.unusedSimpArgs false
theorem nDigits_lt : ∀ (k u : Nat), u < 10 ^ (k + 1) → nDigits u ≤ k + 1
  | 0, u, h => by rw [Go.Lib.nDigits_small (by simpa using h)]; omega
  | k + 1, u, h => by
    by_cases hu : u < 10
    · rw [Go.Lib.nDigits_small hu]; omega
    · rw [Go.Lib.nDigits_big hu]
      have := nDigits_lt k (u / 10) (by rw [Nat.pow_succ] at h; omega)
      omega
/-- A tile's name. -/
def nm (L I W : Nat) : List UInt8 := [116, 105, 108, 101, 47] ++ decDigits L ++ [47] ++ thrL (pad3 (decDigits I)) ++ (if W < 256 then [46, 112, 47] ++ decDigits W else [])
theorem rep3 (c : Nat) (V : World) (h : c < 3) : Calls Tryz.prog 139 #[.string ⟨#[48]⟩, .int .i64 (c : Int)] V fun e w' => e = .returned (.string ⟨(List.replicate c 48).toArray⟩) ∧ Nw V w' := by
  match c, h with
  | 0, _ => exact (Tryz.strings_Repeat_zero _ V).mono (by rintro e w' ⟨rfl, rfl⟩; exact ⟨rfl, nwr _⟩)
  | 1, _ => exact (Tryz.strings_Repeat_one _ V).mono (by rintro e w' ⟨rfl, rfl⟩; exact ⟨rfl, nwr _⟩)
  | 2, _ => exact (Tryz.strings_Repeat_main ⟨#[48]⟩ 2 V (by decide) (by decide) (by decide) (by decide)).mono (by rintro e w' ⟨rfl, b⟩; exact ⟨rfl, Fr.ofBelow b⟩)
theorem lay_made {w w' : World} {g cap : Nat} (h : w'.ownsRow g 5 1 (.slice (some ⟨g, 0, none⟩) 0 cap) 0 []) : Lay w' g cap [] := by
  obtain ⟨_, h2⟩ := h
  rcases h2 with ⟨h2, _⟩ | ⟨g', cap', cur, hv, hb, hh, h3, h4, h5, h6⟩
  · cases h2
  · cases hv
    exact ⟨cur, hh, by omega, by simp [bc], by simp⟩
theorem info8b : ∃ i, Tryz.prog.info? 5 = some i ∧ i.zero = some (.int .u8 0) ∧ i.size = 1 ∧ i.bytes = 1 := by
  have h : (Tryz.prog.info? 5).map (fun i => (i.zero, i.size, i.bytes)) = some (some (.int .u8 0), 1, 1) := by kernel_rfl
  obtain ⟨i, hi, he⟩ := Option.map_eq_some_iff.1 h
  simp only [Prod.mk.injEq] at he
  exact ⟨i, hi, he.1, he.2.1, he.2.2⟩
theorem wpl_make0 {w : World} {ops : Array Oper} {rest : List Oper} {o : Oper} {a : Act} {Q : Exit → Act → World → Prop} (hgd : o.guard = none) (c : Nat) (hc : c ≤ 1000000) (ho : o.op = .makeSlice 92 (.const (.int .i64 0)) (.const (.int .i64 (c : Int))))
    (h : ∀ w', Lay w' w.heap.size c [] → Nw w w' → wpList Tryz.prog ops Q rest (a.put o.dst (.slice (some ⟨w.heap.size, 0, none⟩) 0 c)) w') : wpList Tryz.prog ops Q (o :: rest) a w := by
  obtain ⟨i, hi, hz0, hz1, hz2⟩ := info8b
  obtain ⟨w', hr, hown, hg⟩ := run_make_own (P := Tryz.prog) w w.heap.size 92 5 i (.int .u8 0) 1 Tryz.underlying92 hi hz0 hz1 .i64 .i64 c (by rw [hz2]; omega) (by unfold maxLen; omega) (Nat.le_refl _)
  refine wpList_plain hgd fun K hK => ?_
  unfold Oper.wp execOp
  simp only [ho, Act.eval, Sem.run_bind, Sem.run_pure, Result.andThen_ok, hr]
  exact hK _ _ (h w' (lay_made (w := w) hown) ((Fr.refl _ _).grown hg (fun k e _ => by cases e)))
theorem conv_lay {w : World} {g cap : Nat} {T : List UInt8} (h : Lay w g cap T) : (convert 92 9 (.slice (some ⟨g, 0, none⟩) T.length cap)).run Tryz.prog w = .ok (.string ⟨T.toArray⟩) w := by
  obtain ⟨cur, h1, h2, h3, h4⟩ := h
  refine run_convert_bytes_back w _ _ 5 ⟨g, 0, none⟩ cap T Tryz.underlying92 Tryz.underlying5 Tryz.underlying9 (fun j hj => ?_)
  rw [addZ, cell_of h1]
  have e : (cur.toList.take T.length)[j]? = (bc T)[j]? := by rw [h3]
  rw [List.getElem?_take, if_pos hj] at e
  rw [← Array.getElem?_toList, e, bc, List.getElem?_map, List.getElem?_eq_getElem hj]
  rfl
theorem nm_len {L I W : Nat} (h : mayT L I (W : Int)) : (nm L I W).length ≤ 41 ∧ L ≤ 7 ∧ I < 36028797018963968 ∧ 1 ≤ W ∧ W ≤ 256 := by
  obtain ⟨h1, h2⟩ := h
  unfold wid at h2
  have hL : L ≤ 7 := by
    by_cases q : 7 < L
    · rw [if_pos (.inl q)] at h2; omega
    · omega
  rw [if_neg (by omega)] at h2
  have hN : nod8 L 9223372036854775808 ≤ 9223372036854775808 := Nat.div_le_self _ _
  have hI : I < 36028797018963968 := by omega
  have hW : W ≤ 256 := by omega
  refine ⟨?_, hL, hI, by omega, hW⟩
  have l1 : (decDigits L).length ≤ 1 := by rw [Go.Lib.decDigits_length]; exact nDigits_lt 0 L (by omega)
  have l2 : (decDigits I).length ≤ 17 := by rw [Go.Lib.decDigits_length]; exact nDigits_lt 16 I (by omega)
  have l20 : 1 ≤ (decDigits I).length := by rw [Go.Lib.decDigits_length]; exact Go.Lib.nDigits_pos I
  have l3 : (decDigits W).length ≤ 3 := by rw [Go.Lib.decDigits_length]; exact nDigits_lt 2 W (by omega)
  have lp := pad3_len (decDigits I)
  obtain ⟨k, hk, hk5⟩ : ∃ k, (pad3 (decDigits I)).length = 3 * k + 3 ∧ k ≤ 5 := ⟨((pad3 (decDigits I)).length - 3) / 3, by omega, by omega⟩
  have lt := thrL_len k _ hk
  unfold nm
  split
  · simp only [List.length_append, List.length_cons, List.length_nil, lt]; omega
  · simp only [List.length_append, List.length_cons, List.length_nil, lt]; omega
theorem dec_ne (u : Nat) : (⟨(decDigits u).toArray⟩ : ByteArray).size ≠ 0 := by
  rw [bxs, Go.Lib.decDigits_length]
  have := Go.Lib.nDigits_pos u
  omega
set_option maxRecDepth 100000 in
set_option maxHeartbeats 1000000 in
theorem name_any (L I W : Nat) (h : mayT L I (W : Int)) (w : World) (hP : TX.Pow w) :
    Calls Tryz.prog 82 #[tl L I W] w fun e w' => e = .returned (.string ⟨(nm L I W).toArray⟩) ∧ Nw w w' := by
  obtain ⟨hlen, hL, hI, hW1, hW⟩ := nm_len h
  have HP : Hid (TX.Pow w) := hP
  have QD : Hid (∀ (u : Nat) (V : World), u < 18446744073709551616 → Nw w V → Calls Tryz.prog 125 #[.int .u64 (u : Int)] V fun e w' => e = .returned (.string ⟨(decDigits u).toArray⟩) ∧ Nw V w') := fun u V hu nV => TX.decimal_any u hu V (HP.out.fr nV)
  have HLN : Hid ((nm L I W).length ≤ 41) := hlen
  clear h hP hlen
  go_enter Tryz.func82, Tryz.ntmps82
  go_wp2_with (refine wpl_make0 rfl 41 (by decide) rfl ?_; intro w1 y1 n1; have Y1 : Hid (Lay w1 (w.alloc (.cells #[.int .u8 (L : Int), .int .u64 (I : Int), .int .i64 (W : Int)] 56)).heap.size 41 []) := y1; have N1 : Hid (Nw (w.alloc (.cells #[.int .u8 (L : Int), .int .u64 (I : Int), .int .i64 (W : Int)] 56)) w1) := n1; obtain ⟨l0, b0, m1⟩ := one_made n1; obtain ⟨c0, c1, c2⟩ := cell3 b0; clear y1 n1)
  rw [World.size_alloc] at Y1
  obtain ⟨b, hb⟩ : ∃ b, b = w.heap.size := ⟨_, rfl⟩
  rw [← hb] at Y1 b0 c0 c1 c2 ⊢
  obtain ⟨g, hg⟩ : ∃ g, g = b + 1 := ⟨_, rfl⟩
  rw [← hg] at Y1 ⊢
  have HG : Hid (g = b + 1 ∧ b = w.heap.size) := ⟨hg, hb⟩
  have B0 : Hid (w1.heap[b]? = some (.cells #[.int .u8 (L : Int), .int .u64 (I : Int), .int .i64 (W : Int)] 56)) := b0
  have M1 : Hid (Nw w w1) := m1
  clear hb hg m1 N1 b0 l0
  have SP : Hid (∀ V, Fr (fun k => k = g) w V → Nw w V) := fun V f => f.mono (fun k hk e => by have := HG.out; omega)
  obtain ⟨sL, hsL⟩ : ∃ s, s = (⟨(decDigits L).toArray⟩ : ByteArray) := ⟨_, rfl⟩
  have q1 := QD.out L w1 (by omega) M1.out
  rw [← hsL] at q1
  refine q1.mono ?_
  rintro e w2 ⟨rfl, n2⟩
  clear q1
  have M2 : Hid (Nw w w2) := M1.out.tr n2
  have B2 : Hid (w2.heap[b]? = some (.cells #[.int .u8 (L : Int), .int .u64 (I : Int), .int .i64 (W : Int)] 56)) := (n2.block _ (heap_lt B0.out) (fun f => f)).trans B0.out
  have Y2 : Hid (Lay w2 g 41 []) := Y1.out.fr n2 (fun f => f)
  have hcat1 : cat [⟨#[116, 105, 108, 101, 47]⟩, sL, ⟨#[47]⟩] = [116, 105, 108, 101, 47] ++ decDigits L ++ [47] := by
    rw [hsL]; simp [cat]
  have hnmL : ([116, 105, 108, 101, 47] ++ decDigits L ++ [47]).length ≤ 41 := by
    have := HLN.out; unfold nm at this; simp only [List.length_append] at this ⊢; omega
  have QL : Hid (Calls Tryz.prog 124 #[.slice (some ⟨g, 0, none⟩) 0 41, .slice (some ⟨w2.heap.size, 0, none⟩) 3 3] (w2.alloc (.cells #[.string ⟨#[116, 105, 108, 101, 47]⟩, .string sL, .string ⟨#[47]⟩] 9)) fun e w' => e = .returned (.slice (some ⟨g, 0, none⟩) ([116, 105, 108, 101, 47] ++ decDigits L ++ [47]).length 41) ∧ Lay w' g 41 ([116, 105, 108, 101, 47] ++ decDigits L ++ [47]) ∧ Fr (fun k => k = g) (w2.alloc (.cells #[.string ⟨#[116, 105, 108, 101, 47]⟩, .string sL, .string ⟨#[47]⟩] 9)) w') := by
    have q := lay_any g 41 3 (by decide) [] (some ⟨w2.heap.size, 0, none⟩) [⟨#[116, 105, 108, 101, 47]⟩, sL, ⟨#[47]⟩] _ (Y2.out.fr (nwa w2 _) (fun f => f)) (strs3 w2 _ _ _) (fun a ha => by cases ha; have := Y2.out.lt; show w2.heap.size ≠ g; omega) (by rw [hcat1]; simp only [List.length_nil, Nat.zero_add]; exact hnmL) (by simp) (by
      intro x hx
      simp only [List.mem_cons, List.not_mem_nil, or_false] at hx
      rcases hx with rfl | rfl | rfl
      · decide
      · rw [hsL]; exact dec_ne L
      · decide)
    rw [hcat1] at q
    exact q
  obtain ⟨U, hU⟩ : ∃ U, U = [116, 105, 108, 101, 47] ++ decDigits L ++ [47] := ⟨_, rfl⟩
  rw [← hU] at QL
  have HU : Hid (U = [116, 105, 108, 101, 47] ++ decDigits L ++ [47]) := hU
  clear n2 hsL hcat1 hnmL c0 c1 c2 B0 Y1 hU
  go_wp2_with fail
  refine QL.out.mono ?_
  rintro e w3 ⟨rfl, y3, f3⟩
  have Y3 : Hid (Lay w3 g 41 U) := y3
  have F3 : Hid (Fr (fun k => k = g) w2 w3) := (nwa w2 _).mono (fun _ _ f => f.elim) |>.trans f3 (fun _ _ q => q)
  have M3 : Hid (Nw w w3) := SP.out _ ((M2.out.mono (fun _ _ f => f.elim)).trans F3.out (fun _ _ q => q))
  have B3 : Hid (w3.heap[b]? = some (.cells #[.int .u8 (L : Int), .int .u64 (I : Int), .int .i64 (W : Int)] 56)) := (F3.out.block _ (heap_lt B2.out) (fun q => by have := HG.out; omega)).trans B2.out
  obtain ⟨c0, c1, c2⟩ := cell3 B3.out
  have lb := heap_lt B3.out
  obtain ⟨uu, huu⟩ : ∃ q, q = U.length := ⟨_, rfl⟩
  rw [← huu]
  have HUU : Hid (U.length = uu) := huu.symm
  clear y3 f3 QL huu
  obtain ⟨sI, hsI⟩ : ∃ s, s = (⟨(decDigits I).toArray⟩ : ByteArray) := ⟨_, rfl⟩
  have HSI : Hid (sI = (⟨(decDigits I).toArray⟩ : ByteArray)) := hsI
  have q1 := QD.out I w3 (by omega) M3.out
  rw [← hsI] at q1
  clear hsI
  go_wp2_with fail
  refine q1.mono ?_
  rintro e w4 ⟨rfl, n4⟩
  clear q1
  have M4 : Hid (Nw w w4) := M3.out.tr n4
  have B4 : Hid (w4.heap[b]? = some (.cells #[.int .u8 (L : Int), .int .u64 (I : Int), .int .i64 (W : Int)] 56)) := (n4.block _ (heap_lt B3.out) (fun f => f)).trans B3.out
  have Y4 : Hid (Lay w4 g 41 U) := Y3.out.fr n4 (fun f => f)
  have QT : Hid (Calls Tryz.prog 126 #[.slice (some ⟨g, 0, none⟩) uu 41, .string sI] w4 fun e w' => e = .returned (.slice (some ⟨g, 0, none⟩) (U ++ thrL (pad3 (decDigits I))).length 41) ∧ Lay w' g 41 (U ++ thrL (pad3 (decDigits I))) ∧ Fr (fun k => k = g) w4 w') := by
    have hd : sI.data.toList = decDigits I := by rw [HSI.out, bx]
    have hds : sI.size = nDigits I := by rw [HSI.out, bxs, Go.Lib.decDigits_length]
    have q := threes_any g 41 (by decide) U sI (by rw [hds]; exact Go.Lib.nDigits_pos I) w4 Y4.out (by
      rw [hd]
      have := HLN.out; unfold nm at this; rw [← HU.out] at this; simp only [List.length_append] at this ⊢; omega) (by rw [hds]; have := nDigits_lt 19 I (by omega); omega) (fun c V h => rep3 c V h)
    rw [hd, HUU.out] at q
    exact q
  obtain ⟨X, hX⟩ : ∃ X, X = U ++ thrL (pad3 (decDigits I)) := ⟨_, rfl⟩
  rw [← hX] at QT
  have HX : Hid (X = U ++ thrL (pad3 (decDigits I))) := hX
  clear n4 c0 c1 c2 B3 Y3 lb hX
  go_wp2_with fail
  refine QT.out.mono ?_
  rintro e w5 ⟨rfl, y5, f5⟩
  have Y5 : Hid (Lay w5 g 41 X) := y5
  have M5 : Hid (Nw w w5) := SP.out _ ((M4.out.mono (fun _ _ f => f.elim)).trans f5 (fun _ _ q => q))
  have B5 : Hid (w5.heap[b]? = some (.cells #[.int .u8 (L : Int), .int .u64 (I : Int), .int .i64 (W : Int)] 56)) := (f5.block _ (heap_lt B4.out) (fun q => by have := HG.out; omega)).trans B4.out
  obtain ⟨c0, c1, c2⟩ := cell3 B5.out
  have lb := heap_lt B5.out
  obtain ⟨xx, hxx⟩ : ∃ q, q = X.length := ⟨_, rfl⟩
  rw [← hxx]
  have HXX : Hid (X.length = xx) := hxx.symm
  clear y5 f5 QT hxx
  by_cases hw : W < 256
  · have hwi : (W : Int) < 256 := by omega
    have hnm : X ++ ([46, 112, 47] ++ decDigits W) = nm L I W := by rw [HX.out, HU.out]; unfold nm; rw [if_pos hw]
    obtain ⟨sW, hsW⟩ : ∃ s, s = (⟨(decDigits W).toArray⟩ : ByteArray) := ⟨_, rfl⟩
    have q1 := QD.out W w5 (by omega) M5.out
    rw [← hsW] at q1
    have HSW : Hid (sW = (⟨(decDigits W).toArray⟩ : ByteArray)) := hsW
    clear hsW
    go_wp2_with fail
    refine q1.mono ?_
    rintro e w6 ⟨rfl, n6⟩
    clear q1
    have M6 : Hid (Nw w w6) := M5.out.tr n6
    have Y6 : Hid (Lay w6 g 41 X) := Y5.out.fr n6 (fun f => f)
    have hcat2 : cat [⟨#[46, 112, 47]⟩, sW] = [46, 112, 47] ++ decDigits W := by rw [HSW.out]; simp [cat]
    have QL : Hid (Calls Tryz.prog 124 #[.slice (some ⟨g, 0, none⟩) xx 41, .slice (some ⟨w6.heap.size, 0, none⟩) 2 2] (w6.alloc (.cells #[.string ⟨#[46, 112, 47]⟩, .string sW] 9)) fun e w' => e = .returned (.slice (some ⟨g, 0, none⟩) (nm L I W).length 41) ∧ Lay w' g 41 (nm L I W) ∧ Fr (fun k => k = g) (w6.alloc (.cells #[.string ⟨#[46, 112, 47]⟩, .string sW] 9)) w') := by
      have q := lay_any g 41 2 (by decide) X (some ⟨w6.heap.size, 0, none⟩) [⟨#[46, 112, 47]⟩, sW] _ (Y6.out.fr (nwa w6 _) (fun f => f)) (strs2 w6 _ _) (fun a ha => by cases ha; have := Y6.out.lt; show w6.heap.size ≠ g; omega) (by rw [hcat2, ← List.length_append, hnm]; exact HLN.out) (by simp) (by
        intro x hx
        simp only [List.mem_cons, List.not_mem_nil, or_false] at hx
        rcases hx with rfl | rfl
        · decide
        · rw [HSW.out]; exact dec_ne W)
      rw [hcat2, hnm, HXX.out] at q
      exact q
    clear n6 hcat2 hnm c0 c1 c2 B5 Y5
    go_wp2_with fail
    refine QL.out.mono ?_
    rintro e w7 ⟨rfl, y7, f7⟩
    have M7 : Hid (Nw w w7) := SP.out _ (((M6.out.alloc _).mono (fun _ _ f => f.elim)).trans f7 (fun _ _ q => q))
    have hcv := conv_lay y7
    clear y7 f7 QL
    generalize (nm L I W).length = nl at hcv ⊢
    go_wp2
    go_ret
    exact ⟨rfl, M7.out⟩
  · have hwi : ¬ (W : Int) < 256 := by omega
    have hnm : X = nm L I W := by rw [HX.out, HU.out]; unfold nm; rw [if_neg hw, List.append_nil]
    have hcv := conv_lay Y5.out
    rw [HXX.out] at hcv
    have HNM : Hid (X = nm L I W) := hnm
    clear hnm
    go_wp2
    go_ret
    exact ⟨by rw [← HNM.out]; rfl, M5.out⟩
end Go.Proofs.YtgobdjdaehlgdaaGreatDoor
