/- CoordJoins. -/
import Derived.Test.YtibkmcmgolbhhaaDoorJ1
import Derived.Deep.DeepCutAuto
import Derived.Deep.RegionLaw
namespace Go.Proofs.YtibkmcmgolbhhaaDoor
open Go.RowKit
set_option linter.unusedVariables false
set_option linter.unusedSimpArgs false

theorem hidj {p : Prop} (h : p) : Hid p := h
/-- How long a slice is. -/
def slen : Value → Nat
  | .slice _ n _ => n
  | _ => 0
/-- How far the statement has come: the trees that are put already, where they end, those that are left, the row that they became. -/
structure JoinI (x c : Nat) (B pre suf R : List (Nat × Nat)) (p : Nat) : Prop where
  all : B = pre ++ suf
  left : Row p c suf
  row : Row x p R
  red : Red R
  len : R.length ≤ pre.length
/-- The row while neighbours are replaced. -/
structure InI (x p k : Nat) (R : List (Nat × Nat)) : Prop where
  row : Row x p R
  red : Red R.dropLast
  ne : 0 < R.length
  len : R.length ≤ k
theorem InI.split {x p k : Nat} {R : List (Nat × Nat)} (h : InI x p k R) (hl : 1 < R.length) : ∃ R0 u t q, R = R0 ++ [u, t] ∧ Row x (u.2 * 2 ^ u.1) R0 ∧ u.2 * 2 ^ u.1 + 2 ^ u.1 = q ∧ t.2 * 2 ^ t.1 = q ∧ q + 2 ^ t.1 = p ∧ Red (R0 ++ [u]) := by
  rcases List.eq_nil_or_concat R with k1 | ⟨R1, t, k1⟩
  · rw [k1] at hl; simp at hl
  · rw [List.concat_eq_append] at k1
    rcases List.eq_nil_or_concat R1 with k2 | ⟨R0, u, k2⟩
    · rw [k1, k2] at hl; simp at hl
    · rw [List.concat_eq_append] at k2
      have e : R = R0 ++ [u, t] := by rw [k1, k2, List.append_assoc]; rfl
      have hr := h.row
      rw [e] at hr
      obtain ⟨s, r1, r2⟩ := row_split _ _ _ _ hr
      obtain ⟨a1, a2, a3⟩ := r2
      have a3 : s + 2 ^ u.1 + 2 ^ t.1 = p := a3
      have hd := h.red
      rw [k1, List.dropLast_concat, k2] at hd
      refine ⟨R0, u, t, s + 2 ^ u.1, e, by rw [a1]; exact r1, by rw [a1], a2, a3, hd⟩
theorem InI.one {x p k : Nat} {R : List (Nat × Nat)} (h : InI x p k R) (hl : ¬ 1 < R.length) : Red R := by
  have := h.ne
  match R, hl, this with
  | [t], _, _ => trivial
  | _ :: _ :: _, hl, _ => simp at hl
set_option maxRecDepth 100000 in
set_option maxHeartbeats 8000000 in
theorem joins_any (m0 m1 m2 : Nat) (h0 : m0 < 18446744073709551616) (h1 : m1 < 18446744073709551616) (h2 : m2 < 18446744073709551616) (w : World) (hT : TabAt w) :
    Calls Tryd.prog 7 #[.int .u64 (m0 : Int), .int .u64 (m1 : Int), .int .u64 (m2 : Int)] w fun x w' => x = .returned (.bool true) ∧ Nw w w' := by
  have HT : Hid (TabAt w) := hT
  clear hT
  go_enter Tryd.func7, Tryd.ntmps7
  go_upto_if 23 with fail
  go_cut [0, 1] (fun s0 s1 wx => s0 = .int .u64 ((min m0 m1 : Nat) : Int) ∧ s1 = .int .u64 ((max m0 m1 : Nat) : Int) ∧ w = wx)
  case first =>
    by_cases k : m1 < m0
    · have i1 : (m0 : Int) > (m1 : Int) := by omega
      go_wp2
      go_meet
      exact ⟨by rw [Nat.min_eq_right (by omega)], by rw [Nat.max_eq_left (by omega)], rfl⟩
    · have i1 : ¬ (m0 : Int) > (m1 : Int) := by omega
      go_wp2
      go_meet
      exact ⟨by rw [Nat.min_eq_left (by omega)], by rw [Nat.max_eq_right (by omega)], rfl⟩
  case rest =>
    obtain ⟨rfl, rfl, rfl⟩ := hcut
    obtain ⟨a, ha⟩ : ∃ a, a = min m0 m1 := ⟨_, rfl⟩
    obtain ⟨b, hb⟩ : ∃ b, b = max m0 m1 := ⟨_, rfl⟩
    rw [← ha, ← hb]
    have hab : a ≤ b := by omega
    have hb64 : b < 18446744073709551616 := by omega
    clear ha hb h0 h1
    go_upto_if 28 with fail
    go_cut [1, 2] (fun s0 s1 wx => s0 = .int .u64 ((min b m2 : Nat) : Int) ∧ s1 = .int .u64 ((max b m2 : Nat) : Int) ∧ w = wx)
    case first =>
      by_cases k : m2 < b
      · have i1 : (b : Int) > (m2 : Int) := by omega
        go_wp2
        go_meet
        exact ⟨by rw [Nat.min_eq_right (by omega)], by rw [Nat.max_eq_left (by omega)], rfl⟩
      · have i1 : ¬ (b : Int) > (m2 : Int) := by omega
        go_wp2
        go_meet
        exact ⟨by rw [Nat.min_eq_left (by omega)], by rw [Nat.max_eq_right (by omega)], rfl⟩
    case rest =>
      obtain ⟨rfl, rfl, rfl⟩ := hcut
      obtain ⟨b', hb'⟩ : ∃ b', b' = min b m2 := ⟨_, rfl⟩
      obtain ⟨c, hc⟩ : ∃ c, c = max b m2 := ⟨_, rfl⟩
      rw [← hb', ← hc]
      have hbc : b' ≤ c := by omega
      have hac : a ≤ c := by omega
      have hc64 : c < 18446744073709551616 := by omega
      clear hb' hc hb64 h2 hab
      go_upto_if 33 with fail
      go_cut [0, 1] (fun s0 s1 wx => s0 = .int .u64 ((min a b' : Nat) : Int) ∧ s1 = .int .u64 ((max a b' : Nat) : Int) ∧ w = wx)
      case first =>
        by_cases k : b' < a
        · have i1 : (a : Int) > (b' : Int) := by omega
          go_wp2
          go_meet
          exact ⟨by rw [Nat.min_eq_right (by omega)], by rw [Nat.max_eq_left (by omega)], rfl⟩
        · have i1 : ¬ (a : Int) > (b' : Int) := by omega
          go_wp2
          go_meet
          exact ⟨by rw [Nat.min_eq_left (by omega)], by rw [Nat.max_eq_right (by omega)], rfl⟩
      case rest =>
        obtain ⟨rfl, rfl, rfl⟩ := hcut
        obtain ⟨x, hx⟩ : ∃ x, x = min a b' := ⟨_, rfl⟩
        obtain ⟨y, hy⟩ : ∃ y, y = max a b' := ⟨_, rfl⟩
        rw [← hx, ← hy]
        have hxy : x ≤ y := by omega
        have hyc : y ≤ c := by omega
        clear hx hy hbc hac
        by_cases hce : 9223372036854775808 < c
        · have i1 : (c : Int) > 9223372036854775808 := by omega
          go_wp2_with fail
          refine (alive_any _ HT.out).mono ?_
          rintro e w1 ⟨rfl, n1⟩
          go_wp2
          go_ret
          exact ⟨rfl, n1⟩
        · have i1 : ¬ (c : Int) > 9223372036854775808 := by omega
          go_wp2_with fail
          refine (cover_yes x y hxy (by omega) _ HT.out).mono ?_
          rintro e w1 ⟨v1, rfl, o1, n1⟩
          go_wp2_with fail
          refine (cover_yes y c hyc (by omega) _ (HT.out.nw n1)).mono ?_
          rintro e w2 ⟨v2, rfl, o2, n2⟩
          have o1' := ownsRow_keep o1 (fun g hg => n2.block g (o1.lt g hg).2 (fun f => f))
          have n3 : Nw w w2 := n1.tr n2
          clear o1 n1 n2
          go_wp2_with fail
          refine (cover_yes x c (by omega) (by omega) _ (HT.out.nw n3)).mono ?_
          rintro e w3 ⟨v3, rfl, o3, n4⟩
          have o1 := ownsRow_keep o1' (fun g hg => n4.block g (o1'.lt g hg).2 (fun f => f))
          have o2' := ownsRow_keep o2 (fun g hg => n4.block g (o2.lt g hg).2 (fun f => f))
          have n5 : Nw w w3 := n3.tr n4
          clear o1' o2 n3 n4
          have H1 := hidj o1
          have H2 := hidj o2'
          have H3 := hidj o3
          clear o1 o2' o3
          have L1 : Hid ((cov x y).length ≤ 128) := cov_len x y (by rw [p63]; omega)
          have L2 : Hid ((cov y c).length ≤ 128) := cov_len y c (by rw [p63]; omega)
          have L3 : Hid ((cov x c).length ≤ 128) := cov_len x c (by rw [p63]; omega)
          have own0 : Hid ((w3.alloc (.cells #[] 24)).ownsRow w3.heap.size 24 2 (.slice (some ⟨w3.heap.size, 0, none⟩) 0 0) ([] : List (Nat × Nat)).length (fl [])) := ⟨rfl, .inr ⟨_, 0, #[], rfl, Nat.le_refl _, heap_new w3 _, by simp, by unfold maxLen; omega, rfl, rfl⟩⟩
          obtain ⟨ad1, cp1, rfl⟩ := ownsRow_form H1.out
          obtain ⟨ad2, cp2, rfl⟩ := ownsRow_form H2.out
          obtain ⟨ad3, cp3, rfl⟩ := ownsRow_form H3.out
          go_upto_region 15 with fail
          go_wp2_with first
            | (at_builtin; (refine wpList_append_crd rfl (.tmp 70) (.tmp 71) rfl w3.heap.size (.slice (some ⟨w3.heap.size, 0, none⟩) 0 0) [] rfl own0.out (.slice ad1 (cov x y).length cp1) (cov x y) rfl (ownsRow_keep H1.out (fun g hg => hp_al (H1.out.lt g hg).2 rfl)) (by have := L1.out; simp; omega) (by simp) ?_); intro v4 w4 o4 g4; rw [List.nil_append] at o4; have m4 : Nw w3 w4 := (nwa w3 _).grown g4 (fun k q hk => by simp [Value.ownBlock] at q; omega); have O4 := hidj o4; clear o4 g4)
            | (at_builtin; refine wpList_append_crd rfl (.tmp 72) (.tmp 73) rfl w3.heap.size v4 (cov x y) rfl O4.out (.slice ad2 (cov y c).length cp2) (cov y c) rfl (ownsRow_keep H2.out (fun g hg => m4.block g (H2.out.lt g hg).2 (fun f => f))) (by have := L1.out; have := L2.out; omega) m4.size ?_; intro v5 w5 o5 g5; have m5 : Nw w3 w5 := m4.grown g5 (fun k q hk => by have := (O4.out.lt k q).1; omega); have O5 := hidj o5; clear o5 g5)
          have n6 : Nw w w5 := n5.tr m5
          have O3 := hidj (ownsRow_keep H3.out (fun g hg => m5.block g (H3.out.lt g hg).2 (fun f => f)))
          obtain ⟨B, hB⟩ : ∃ B, B = cov x y ++ cov y c := ⟨_, rfl⟩
          have hBl : B.length ≤ 256 := by rw [hB, List.length_append]; have := L1.out; have := L2.out; omega
          have RB : Hid (Row x c B) := by rw [hB]; exact row_app _ _ _ _ _ (cov_side hxy) (cov_side hyc)
          rw [← hB] at O5
          clear hB m4 O4 own0 L1 L2 H1 H2 H3 m5 n5
          obtain ⟨adB, cpB, rfl⟩ := ownsRow_form O5.out
          obtain ⟨nB, hnB⟩ : ∃ nB, nB = B.length := ⟨_, rfl⟩
          have HnB := hidj hnB
          rw [← hnB] at hBl ⊢
          have hcrd := Crd.of O5.out
          obtain ⟨ad', cp', he', hcells⟩ := hcrd
          simp only [Value.slice.injEq] at he'
          obtain ⟨rfl, _, rfl⟩ := he'
          have HC := hidj hcells
          clear hcells hnB O5
          obtain ⟨i0, hi, hz0, hz1, hz2⟩ := info_parts infoC
          go_loopw [13, 15] (fun r i wr => ∃ (pre suf R : List (Nat × Nat)) (p : Nat), JoinI x c B pre suf R p ∧ i = .int .i64 (pre.length : Int) ∧ wr.ownsRow w5.heap.size 24 2 r R.length (fl R) ∧ Nw w5 wr) (fun _ i _ => nB - (intOf i).toNat)
          case atStart => exact ⟨[], B, [], x, ⟨rfl, RB.out, rfl, trivial, by simp⟩, rfl, World.ownsRow_nil _ _ _ _, nwr w5⟩
          case round =>
            obtain ⟨pre, suf, R, p, hJ, rfl, hown, hnw⟩ := hrel
            have HJ := hidj hJ
            have hpl : pre.length ≤ nB := by rw [HnB.out, hJ.all, List.length_append]; omega
            clear hJ
            obtain ⟨k, hk⟩ : ∃ k, k = pre.length := ⟨_, rfl⟩
            have HK := hidj hk
            rw [← hk] at hpl ⊢
            clear hk
            have HO := hidj hown
            clear hown
            by_cases hlt : k < nB
            · obtain ⟨t, suf', hsuf⟩ : ∃ t suf', suf = t :: suf' := by
                cases suf with
                | nil =>
                  have h1 := HJ.out.all
                  rw [List.append_nil] at h1
                  have h2 := HnB.out
                  rw [h1, ← HK.out] at h2
                  omega
                | cons t r => exact ⟨t, r, rfl⟩
              have hget : B[k]? = some t := by rw [HK.out]; exact split_get (by rw [HJ.out.all, hsuf])
              obtain ⟨g, off, rfl, g1, g2, g3⟩ := HC.out k t hget
              have g2' := hnw.cellOf g2
              have g3' := hnw.cellOf g3
              clear g2 g3
              obtain ⟨L, I⟩ := t
              simp only at g2' g3'
              have hRl : R.length ≤ 256 := by have := HJ.out.len; have := HK.out; omega
              have hki : (k : Int) < (nB : Int) := by omega
              have hown := HO.out
              have own5 := hown.alloc (.cells #[.int .u8 (L : Int), .int .u64 (I : Int)] 24)
              have hnew := hidj (cd_new (w := wr) (L : Int) (I : Int) 24)
              have HG : Hid (∀ g, u13.ownBlock = some g → w5.heap.size ≤ g ∧ g < wr.heap.size) := hown.lt
              clear hown
              go_wp2_with (at_builtin; refine wpList_append_own _ rfl (.tmp 81) (.tmp 86) 39 rfl w5.heap.size 24 i0 (cd 0 0) 2 16 Tryd.underlying39 hi hz0 hz1 hz2 rfl (by decide) u13 R.length (fl R) rfl own5 ⟨wr.heap.size, 0, none⟩ 1 1 [.int .u8 (L : Int), .int .u64 (I : Int)] rfl rfl hnew.out (by simp [Value.oneCell']) (by unfold maxLen; omega) (by omega) (by have := hnw.size; simp; omega) ?_; intro v6 w6 o6 g6 _; have n7 : Nw w5 w6 := (hnw.alloc _).grown g6 (fun k q hk => by have := (HG.out _ q).1; omega); obtain ⟨va, vc, rfl⟩ := ownsRow_form o6; have O6 := hidj o6; clear o6 g6)
              have HP := hidj (show Row p c ((L, I) :: suf') by rw [← hsuf]; exact HJ.out.left)
              obtain ⟨P, hP⟩ : ∃ P, P = p + 2 ^ L := ⟨_, rfl⟩
              have HPs : Hid (Row P c suf') := by rw [hP]; exact HP.out.2
              have HAll : Hid (B = (pre ++ [(L, I)]) ++ suf') := by rw [HJ.out.all, hsuf, List.append_assoc]; rfl
              have hstart : Hid (InI x P (k + 1) (R ++ [(L, I)])) := by
                refine ⟨?_, ?_, by simp, ?_⟩
                · refine row_app _ _ _ _ _ HJ.out.row ⟨HP.out.1, ?_⟩
                  exact hP.symm
                · rw [List.dropLast_concat]; exact HJ.out.red
                · have h1 := HJ.out.len
                  have h2 := HK.out
                  rw [List.length_append]
                  simp
                  omega
              have HO6 : Hid (w6.ownsRow w5.heap.size 24 2 (.slice va (R.length + 1) vc) (R ++ [(L, I)]).length (fl (R ++ [(L, I)]))) := by
                rw [List.length_append, fl_app]; exact O6.out
              have hPc := row_le _ _ _ HPs.out
              clear hP O6 HP HO hnew HG own5 g2' g3' hget
              have hm256 : k + 1 ≤ 256 := by omega
              go_loopw [13] (fun r wr2 => ∃ R' : List (Nat × Nat), InI x P (k + 1) R' ∧ wr2.ownsRow w5.heap.size 24 2 r R'.length (fl R') ∧ Nw w5 wr2) (fun r _ => slen r)
              case atStart => exact ⟨R ++ [(L, I)], hstart.out, HO6.out, n7⟩
              case round =>
                clear hstart HO6 n7
                obtain ⟨R', hI, hown, hnw2⟩ := hrel
                have HI := hidj hI
                have hne := hI.ne
                have hRl2 := hI.len
                clear hI
                obtain ⟨vb, vd, rfl⟩ := ownsRow_form hown
                have HO2 := hidj hown
                by_cases h1l : 1 < R'.length
                · obtain ⟨R0, u, t, q, e0, r0, hu, ht, hqp, hred⟩ := HI.out.split h1l
                  obtain ⟨g, hg0⟩ : ∃ g, vb = some ⟨g, 0, none⟩ := by
                    rcases hown.2 with ⟨k1, k2⟩ | ⟨g, cap, cur, k1, _⟩
                    · omega
                    · simp only [Value.slice.injEq] at k1
                      exact ⟨g, k1.1⟩
                  subst hg0
                  have hcl := hown.cells (g := g) rfl
                  obtain ⟨m, hm⟩ : ∃ m, m = R0.length := ⟨_, rfl⟩
                  have hlen : R'.length = m + 2 := by rw [e0, List.length_append, ← hm]; rfl
                  have ht0 : R'[m + 1]? = some t := by rw [e0, hm, List.getElem?_append_right (by omega)]; simp
                  have hu0 : R'[m]? = some u := by rw [e0, hm, List.getElem?_append_right (by omega)]; simp
                  have z0 := hcl _ _ (fl_get R' (m + 1) t ht0).1
                  have z1 := hcl _ _ (fl_get R' (m + 1) t ht0).2
                  have z2 := hcl _ _ (fl_get R' m u hu0).1
                  have z3 := hcl _ _ (fl_get R' m u hu0).2
                  rw [addZ] at z0 z1 z2 z3
                  have hgl := (hown.lt g rfl)
                  have hmayt : may t.1 t.2 := by
                    have hle := pow_le2 (Nat.le_refl t.1)
                    refine ⟨pow_le_inv (k := t.1) (L := 63) (by rw [p63]; omega), ?_⟩
                    rw [p63, Nat.add_mul, Nat.one_mul, ht]
                    omega
                  have hmayu : may u.1 u.2 := by
                    have hpt := Nat.two_pow_pos t.1
                    refine ⟨pow_le_inv (k := u.1) (L := 63) (by rw [p63]; omega), ?_⟩
                    rw [p63, Nat.add_mul, Nat.one_mul, hu]
                    omega
                  obtain ⟨tL, tI⟩ := t
                  obtain ⟨uL, uI⟩ := u
                  simp only at hu ht hqp hmayt hmayu z0 z1 z2 z3 r0
                  have htb := may_bd hmayt
                  have hub := may_bd hmayu
                  rw [p63] at htb hub
                  have htL := hmayt.1
                  have huL := hmayu.1
                  have HE0 := hidj e0
                  have HR0 := hidj (And.intro r0 (And.intro hu (And.intro ht (And.intro hqp (And.intro hred (And.intro hmayt hmayu))))))
                  have Hm := hidj hm
                  obtain ⟨p1, q1, o1, h1, bp1, bq1⟩ := parIs_ex tL tI
                  obtain ⟨p2, q2, o2, h2, bp2, bq2⟩ := parIs_ex uL uI
                  have H1 := hidj h1
                  have H2 := hidj h2
                  clear e0 r0 hu ht hqp hred hmayt hmayu h1 h2 hcl ht0 hu0 hown hm bq1 bq2
                  rw [hlen] at HO2 hne hRl2 ⊢
                  clear h1l
                  have hsub1 : Hid True := trivial
                  go_wp2_with fail
                  refine (parent_any H1.out (by omega) (by omega) _).mono ?_
                  rintro e w7 ⟨rfl, m7⟩
                  have y2 := m7.cellOf z2
                  have y3 := m7.cellOf z3
                  have n8 : Nw w5 w7 := hnw2.tr m7
                  have O7 := hidj (ownsRow_keep HO2.out (fun g hg => m7.block g (HO2.out.lt g hg).2 (fun f => f)))
                  have hg7 : g < w7.heap.size := Nat.lt_of_lt_of_le hgl.2 m7.size
                  clear m7 hnw2 HO2 z0 z1 z2 z3
                  go_wp2_with fail
                  refine (parent_any H2.out (by omega) (by omega) _).mono ?_
                  rintro e w8 ⟨rfl, m8⟩
                  obtain ⟨l8, b8, m9⟩ := one_made m8
                  have n9 : Nw w5 w8 := n8.tr m9
                  have O8 := hidj (ownsRow_keep O7.out (fun g hg => m9.block g (O7.out.lt g hg).2 (fun f => f)))
                  have hg8 : g < w8.heap.size := Nat.lt_of_lt_of_le hg7 m9.size
                  have c0 := cell2a b8
                  have c1 := cell2b b8
                  clear m8 m9 n8 O7 y2 y3
                  have hcs : (o1 = true ∧ o2 = true ∧ p1 = p2 ∧ q1 = q2) ∨ (o1 = false) ∨ (o1 = true ∧ o2 = false) ∨ (o1 = true ∧ o2 = true ∧ ((p1 : Int) == (p2 : Int)) = false) ∨ (o1 = true ∧ o2 = true ∧ p1 = p2 ∧ ((q1 : Int) == (q2 : Int)) = false) := by
                    rcases o1 with _ | _
                    · exact .inr (.inl rfl)
                    · rcases o2 with _ | _
                      · exact .inr (.inr (.inl ⟨rfl, rfl⟩))
                      · by_cases kp : p1 = p2
                        · by_cases kq : q1 = q2
                          · exact .inl ⟨rfl, rfl, kp, kq⟩
                          · exact .inr (.inr (.inr (.inr ⟨rfl, rfl, kp, by simp; omega⟩)))
                        · exact .inr (.inr (.inr (.inl ⟨rfl, rfl, by simp; omega⟩)))
                  have HBR : Hid (¬ (o1 = true ∧ o2 = true ∧ p1 = p2 ∧ q1 = q2) → Red R') := by
                    intro hn
                    rw [HE0.out]
                    obtain ⟨r0, hu, ht, hqp, hred, hmt, hmu⟩ := HR0.out
                    refine red_snoc _ _ _ hred fun hh => hn ?_
                    obtain ⟨s1, s2⟩ := parents_meet hu ht hmt hh.1 hh.2
                    have hh1 : uL = tL := hh.1
                    simp only at s1 s2
                    rcases H1.out with ⟨_, a1, a2, a3⟩ | ⟨a0, _⟩
                    · rcases H2.out with ⟨_, b1, b2, b3⟩ | ⟨b0, _⟩
                      · exact ⟨a3, b3, by omega, by omega⟩
                      · exact absurd ⟨by omega, hmu⟩ b0
                    · exact absurd ⟨s1, hmt⟩ a0
                  have HMG : Hid (o1 = true ∧ o2 = true ∧ p1 = p2 ∧ q1 = q2 → InI x P (k + 1) (R0 ++ [(p1, q1)])) := by
                    rintro ⟨k1, k2, k3, k4⟩
                    obtain ⟨r0, hu, ht, hqp, hred, hmt, hmu⟩ := HR0.out
                    rcases H1.out with ⟨_, a1, a2, a3⟩ | ⟨_, _, _, a3⟩
                    · rcases H2.out with ⟨_, b1, b2, b3⟩ | ⟨_, _, _, b3⟩
                      · obtain ⟨s1, s2⟩ := same_parent (c := c) (u := (uL, uI)) (t := (tL, tI)) hu ht (by simp only; omega) (by simp only; omega)
                        simp only at s1 s2
                        refine ⟨?_, ?_, by simp, ?_⟩
                        · refine row_app _ _ _ _ _ r0 ⟨?_, ?_⟩
                          · rw [a1, a2]; exact s1
                          · show uI * 2 ^ uL + 2 ^ p1 = P
                            rw [a1, s2]; exact hqp
                        · rw [List.dropLast_concat]
                          exact red_app_left _ _ hred
                        · rw [List.length_append, ← Hm.out]
                          simp
                          omega
                      · rw [b3] at k2; cases k2
                    · rw [a3] at k1; cases k1
                  clear HR0 H1 H2
                  have HOP := hidj (ownsRow_pop2 Hm.out (by rw [← HE0.out]; exact O8.out))
                  have hvd := HOP.out.2
                  have HEND : Hid (∀ W : World, Nw w5 W → W.ownsRow w5.heap.size 24 2 (.slice (some ⟨g, 0, none⟩) (m + 2) vd) (m + 2) (fl R') → Red R' → (∃ (pre_1 suf_1 R_1 : List (Nat × Nat)) (p_1 : Nat), JoinI x c B pre_1 suf_1 R_1 p_1 ∧ Value.int .i64 ((k : Int) + 1) = .int .i64 (pre_1.length : Int) ∧ W.ownsRow w5.heap.size 24 2 (.slice (some ⟨g, 0, none⟩) (m + 2) vd) R_1.length (fl R_1) ∧ Nw w5 W) ∧ nB - (intOf (Value.int .i64 ((k : Int) + 1))).toNat < nB - (intOf (Value.int .i64 (k : Int))).toNat) := by
                    intro W a1 a2 a3
                    have hl2 : (pre ++ [(L, I)]).length = k + 1 := by rw [List.length_append, ← HK.out]; rfl
                    refine ⟨⟨pre ++ [(L, I)], suf', R', P, ⟨HAll.out, HPs.out, HI.out.row, a3, by rw [hl2]; exact HI.out.len⟩, by rw [hl2]; rfl, ?_, a1⟩, by simp [intOf]; omega⟩
                    rw [hlen]
                    exact a2
                  rcases hcs with ⟨rfl, rfl, rfl, rfl⟩ | rfl | ⟨rfl, rfl⟩ | ⟨rfl, rfl, hne2⟩ | ⟨rfl, rfl, rfl, hne2⟩
                  · have own9 : Hid ((((w8.alloc (.cells #[.int .u8 (p1 : Int), .int .u64 (q1 : Int)] 24)).alloc (.cells #[.int .u8 (p1 : Int), .int .u64 (q1 : Int)] 24)).drew).ownsRow w5.heap.size 24 2 (.slice (some ⟨g, 0, none⟩) m vd) m (fl R0)) := (HOP.out.1.alloc _).alloc _
                    have hnew := cd_new (w := w8.alloc (.cells #[.int .u8 (p1 : Int), .int .u64 (q1 : Int)] 24)) (p1 : Int) (q1 : Int) 24
                    rw [World.size_alloc] at hnew
                    have HNew : Hid (∀ j u, [Value.int .u8 (p1 : Int), .int .u64 (q1 : Int)][j]? = some u → (((w8.alloc (.cells #[.int .u8 (p1 : Int), .int .u64 (q1 : Int)] 24)).alloc (.cells #[.int .u8 (p1 : Int), .int .u64 (q1 : Int)] 24)).drew).cell? ((⟨w8.heap.size + 1, 0, none⟩ : Addr).add j) = some u) := hnew
                    clear hnew HBR HEND
                    have hs58 := n9.size
                    have hwm : IntKind.i64.wrap (m : Int) = (m : Int) := by simp [IntKind.wrap, IntKind.bits, IntKind.signed]; omega
                    have hvi : (m : Int) ≤ (vd : Int) := by omega
                    go_wp2
                    go_region_law (refine step_append_own rfl (.tmp 125) (.tmp 127) 39 rfl w5.heap.size 24 i0 (cd 0 0) 2 16 Tryd.underlying39 hi hz0 hz1 hz2 rfl (by decide) (.slice (some ⟨g, 0, none⟩) m vd) m (fl R0) rfl own9.out ⟨w8.heap.size + 1, 0, none⟩ 1 1 [.int .u8 (p1 : Int), .int .u64 (q1 : Int)] rfl rfl HNew.out (by simp [Value.oneCell']) (by unfold maxLen; omega) (by omega) (by simp; omega) ?_; intro v9 w9 o9 g9; have n10 : Nw w5 w9 := ((n9.alloc _).alloc _).drew.grown g9 (fun k q hk => by simp [Value.ownBlock] at q; omega); obtain ⟨vx, vy, rfl⟩ := ownsRow_form o9; have O9 := hidj o9; clear o9 g9)
                    all_goals
                      simp only [List.getElem_toArray, List.getElem_cons_succ, List.getElem_cons_zero, Act.put, List.setIfInBounds_toArray, List.set_cons_succ, List.set_cons_zero]
                      go_wp2
                      refine ⟨⟨R0 ++ [(p1, q1)], HMG.out (by simp), ?_, n10⟩, by simp [slen]⟩
                      rw [List.length_append, fl_app, ← Hm.out]
                      exact O9.out
                  · go_wp2
                    exact HEND.out _ (by repeat first | with_reducible exact n9 | with_reducible refine Fr.alloc ?_ _ | with_reducible refine Fr.drew ?_ | (with_reducible refine Fr.setCell ?_ _ _ (fun h => ?_); rotate_left; focus (simp only at h; omega))) (O8.out.alloc _) (HBR.out (by simp))
                  · go_wp2
                    exact HEND.out _ (by repeat first | with_reducible exact n9 | with_reducible refine Fr.alloc ?_ _ | with_reducible refine Fr.drew ?_ | (with_reducible refine Fr.setCell ?_ _ _ (fun h => ?_); rotate_left; focus (simp only at h; omega))) (O8.out.alloc _) (HBR.out (by simp))
                  · go_wp2
                    exact HEND.out _ (by repeat first | with_reducible exact n9 | with_reducible refine Fr.alloc ?_ _ | with_reducible refine Fr.drew ?_ | (with_reducible refine Fr.setCell ?_ _ _ (fun h => ?_); rotate_left; focus (simp only at h; omega))) (O8.out.alloc _) (HBR.out (by have := hne2; simp at this; omega))
                  · go_wp2
                    exact HEND.out _ (by repeat first | with_reducible exact n9 | with_reducible refine Fr.alloc ?_ _ | with_reducible refine Fr.drew ?_ | (with_reducible refine Fr.setCell ?_ _ _ (fun h => ?_); rotate_left; focus (simp only at h; omega))) (O8.out.alloc _) (HBR.out (by have := hne2; simp at this; omega))
                · have hl1 : R'.length = 1 := by omega
                  rw [hl1] at hown HO2 ⊢
                  have hl2 : (pre ++ [(L, I)]).length = k + 1 := by rw [List.length_append, ← HK.out]; rfl
                  have HL2 := hidj hl2
                  clear hown hl2
                  go_wp2
                  refine ⟨⟨pre ++ [(L, I)], suf', R', P, ⟨HAll.out, HPs.out, HI.out.row, HI.out.one (by omega), by rw [HL2.out]; exact HI.out.len⟩, by rw [HL2.out]; rfl, ?_, hnw2⟩, by simp [intOf]; omega⟩
                  rw [hl1]
                  exact HO2.out
            · have hkn : k = nB := by omega
              obtain rfl : suf = [] := by
                have h1 := HJ.out.all
                cases suf with
                | nil => rfl
                | cons t r =>
                  have h2 := HnB.out
                  rw [h1, List.length_append, ← HK.out, List.length_cons] at h2
                  omega
              have hpc : p = c := HJ.out.left
              subst hpc
              have hR : R = cov x p := cov_uniq R x p HJ.out.row HJ.out.red
              subst hR
              have hki : ¬ (k : Int) < (nB : Int) := by omega
              have hc1 := Crd.of HO.out
              have hc2 := (Crd.of O3.out).nw hnw
              have hl3 := L3.out
              obtain ⟨va, vc, rfl⟩ := ownsRow_form HO.out
              have HC1 := hidj hc1
              have HC2 := hidj hc2
              clear hkn hc1 hc2
              go_wp2_with fail
              refine (same_yes _ _ (cov x p) _ HC1.out HC2.out (by omega)).mono ?_
              rintro e w8 ⟨rfl, n8⟩
              have n9 : Nw w w8 := n6.tr (hnw.tr n8)
              go_wp2_with fail
              refine (alive_any _ (HT.out.nw n9)).mono ?_
              rintro e w9 ⟨rfl, n10⟩
              go_wp2
              go_ret
              exact ⟨rfl, n9.tr n10⟩
end Go.Proofs.YtibkmcmgolbhhaaDoor
