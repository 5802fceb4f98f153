/- Batch of package shape: a loop over what is still to be looked at. -/
import Derived.Test.YtlaiomgebkeldaaGreatDoorS3
namespace Go.Proofs.YtlaiomgebkeldaaGreatDoor
open Go.RowKit
set_option linter.unusedVariables false
set_option linter.unusedSimpArgs false

/-- A number that lies in memory. -/
def natAt (W : World) (b o : Nat) : Nat := match W.cell? ⟨b, o, none⟩ with
  | some v => (intOf v).toNat
  | none => 0
/-- The stretches that a slice holds. -/
def rdS (W : World) : Value → List (Nat × Nat)
  | .slice (some ⟨g, off, none⟩) n _ => (List.range n).map fun k => (natAt W g (off + k * 2), natAt W g (off + k * 2 + 1))
  | _ => []
/-- A row of stretches that is only read; none of it in what N says. -/
def Lst (w : World) (N : Nat → Prop) (v : Value) (l : List (Nat × Nat)) : Prop :=
  ∃ ad cap, v = .slice ad l.length cap ∧ l.length ≤ cap ∧ ∀ k t, l[k]? = some t → ∃ g off, ad = some ⟨g, off, none⟩ ∧ g < w.heap.size ∧ ¬ N g ∧ w.cell? ⟨g, off + k * 2, none⟩ = some (.int .u64 (t.1 : Int)) ∧ w.cell? ⟨g, off + k * 2 + 1, none⟩ = some (.int .u64 (t.2 : Int))
theorem Lst.rd {w : World} {N : Nat → Prop} {v : Value} {l : List (Nat × Nat)} (h : Lst w N v l) : rdS w v = l := by
  obtain ⟨ad, cap, rfl, hc, h⟩ := h
  cases hl : l with
  | nil =>
    subst hl
    rcases ad with _ | ⟨g, off, x⟩
    · rfl
    · cases x <;> rfl
  | cons s r =>
    obtain ⟨g, off, rfl, _⟩ := h 0 s (by rw [hl]; rfl)
    rw [← hl]
    apply List.ext_getElem?
    intro k
    simp only [rdS, List.getElem?_map, List.getElem?_range']
    by_cases hk : k < l.length
    · obtain ⟨t, ht⟩ : ∃ t, l[k]? = some t := ⟨_, List.getElem?_eq_getElem hk⟩
      obtain ⟨g', off', e, _, _, c0, c1⟩ := h k t ht
      cases e
      rw [ht]
      simp [List.getElem?_range hk, natAt, c0, c1, intOf]
    · simp [List.getElem?_eq_none (Nat.le_of_not_lt hk), List.getElem?_eq_none (show (List.range l.length).length ≤ k by simpa using hk)]
theorem Lst.fr {w w' : World} {N M S : Nat → Prop} {v : Value} {l : List (Nat × Nat)} (h : Lst w N v l) (hf : Fr S w w') (hS : ∀ g, g < w.heap.size → S g → N g) (hM : ∀ g, g < w.heap.size → M g → N g) : Lst w' M v l := by
  obtain ⟨ad, cap, rfl, hc, h⟩ := h
  refine ⟨ad, cap, rfl, hc, fun k t ht => ?_⟩
  obtain ⟨g, off, rfl, h1, h2, c0, c1⟩ := h k t ht
  have hn : ¬ S g := fun q => h2 (hS g h1 q)
  exact ⟨g, off, rfl, Nat.lt_of_lt_of_le h1 hf.size, fun q => h2 (hM g h1 q), (hf.cell (p := ⟨g, _, none⟩) h1 hn).trans c0, (hf.cell (p := ⟨g, _, none⟩) h1 hn).trans c1⟩
theorem Lst.news {w : World} {N : Nat → Prop} {g off cap n : Nat} {l : List (Nat × Nat)} (h : Lst w N (.slice (some ⟨g, off, none⟩) n cap) l) : ∀ j u, (fs l)[j]? = some u → w.cell? ((⟨g, off, none⟩ : Addr).add j) = some u := by
  obtain ⟨ad, cap', e, _, h⟩ := h
  cases e
  intro j u hj
  have hl : j < l.length * 2 := by have := (List.getElem?_eq_some_iff.1 hj).1; rwa [fs_len] at this
  obtain ⟨t, ht⟩ : ∃ t, l[j / 2]? = some t := ⟨_, List.getElem?_eq_getElem (by omega)⟩
  obtain ⟨g', off', e, _, _, c0, c1⟩ := h (j / 2) t ht
  cases e
  have hg := fs_get l (j / 2) t ht
  rw [addO]
  rcases Nat.mod_two_eq_zero_or_one j with hm | hm
  · have ej : j = j / 2 * 2 := by omega
    rw [← ej] at hg c0
    rw [hg.1] at hj
    rw [c0, ← hj]
  · have ej : j = j / 2 * 2 + 1 := by omega
    have ej2 : off + j / 2 * 2 + 1 = off + j := by omega
    rw [ej2] at c1
    rw [← ej] at hg
    rw [hg.2] at hj
    rw [c1, ← hj]
theorem Lst.of {w : World} {N : Nat → Prop} {base : Nat} {v : Value} {l : List (Nat × Nat)} (h : w.ownsRow base 81 2 v l.length (fs l)) (hN : ∀ g, base ≤ g → ¬ N g) : Lst w N v l := by
  have hlt := h.lt
  have h' := h
  rcases h.2 with ⟨rfl, hn⟩ | ⟨g, cap, cur, rfl, hb, hh, h3, _⟩
  · have : l = [] := List.length_eq_zero_iff.1 hn
    subst this
    exact ⟨none, 0, rfl, by simp, fun k t ht => by simp at ht⟩
  · refine ⟨_, _, rfl, h3, fun k t ht => ⟨g, 0, rfl, (hlt g rfl).2, hN g hb, ?_, ?_⟩⟩
    · have := h'.cells (g := g) rfl (k * 2) _ (fs_get l k t ht).1
      rw [addZ] at this
      rw [Nat.zero_add]; exact this
    · have := h'.cells (g := g) rfl (k * 2 + 1) _ (fs_get l k t ht).2
      rw [addZ] at this
      rw [Nat.zero_add]; exact this
theorem ne_all {s : Nat × Nat} {r : List (Nat × Nat)} (h : ∀ t ∈ s :: r, t.1 < t.2) : s.1 < s.2 ∧ ∀ t ∈ r, t.1 < t.2 := ⟨h s (by simp), fun t ht => h t (by simp [ht])⟩

/-- None is empty, or ends behind n. -/
def Nes (n : Nat) (l : List (Nat × Nat)) : Prop := ∀ s ∈ l, s.1 < s.2 ∧ s.2 ≤ n

set_option maxRecDepth 100000 in
set_option maxHeartbeats 4000000 in
theorem batch_yes (x y n : Nat) (hxy : x < y) (hy : y ≤ n) (hn : n ≤ 9223372036854775808) (w : World) :
    Calls Tryz.prog 39 #[.int .u64 (x : Int), .int .u64 (y : Int), .int .u64 (n : Int)] w fun z w' => ∃ v, z = .returned (.tuple #[v, .nilIface]) ∧ w'.ownsRow w.heap.size 81 2 v (bat x y 0 n).length (fs (bat x y 0 n)) ∧ Nw w w' := by
  obtain ⟨i0, hi, hz0, hz1, hz2⟩ := info_parts infoS
  have hxy1 : (x : Int) < (y : Int) := by omega
  have hy1 : (y : Int) ≤ (n : Int) := by omega
  have hd1 : decide (n < y) = false := by simp; omega
  have hd2 : decide (y ≤ x) = false := by simp; omega
  have hd3 : decide ((9223372036854775808 : Int) < (n : Int)) = false := by simp; omega
  have hd4 : decide ((n : Int) < (y : Int)) = false := by simp; omega
  have hd5 : decide ((y : Int) ≤ (x : Int)) = false := by simp; omega
  have hl : Hid ((bat x y 0 n).length ≤ 2 * 63 + 1) := bat_len 63 x y 0 n (by rw [p63]; omega)
  go_enter Tryz.func39, Tryz.ntmps39
  go_wp2_with fail
  go_loopw [8, 9] (fun p t wr => ∃ (pre tl : List (Nat × Nat)), bat x y 0 n = pre ++ bats x y tl ∧ Todo tl ∧ Nes n tl ∧ wr.ownsRow w.heap.size 81 2 p pre.length (fs pre) ∧ Lst wr (fun g => p.ownBlock = some g) t tl ∧ Nw w wr) (fun _ t wr => wgt (rdS wr t))
  case atStart =>
    refine ⟨[], [(0, n)], by simp [bats], Todo.one hn, fun s hs => by simp at hs; subst hs; exact ⟨by simp only; omega, by simp⟩, World.ownsRow_nil _ _ _ _, ⟨_, _, rfl, by simp, fun k t ht => ?_⟩, nwa w _⟩
    match k, ht with
    | 0, ht => injection ht with ht; subst ht; exact ⟨_, _, rfl, by simp, by simp [Value.ownBlock], (cell_of (heap_new w _) _).trans rfl, (cell_of (heap_new w _) _).trans rfl⟩
    | k + 1, ht => simp at ht
  case round =>
    obtain ⟨pre, tl, hbat, htd, hne, hown, hlst, hnw⟩ := hrel
    have HB : Hid (bat x y 0 n = pre ++ bats x y tl) := hbat
    have HTD : Hid (Todo tl) := htd
    have HNE : Hid (Nes n tl) := hne
    have HO : Hid (wr.ownsRow w.heap.size 81 2 u8 pre.length (fs pre)) := hown
    have HRD : Hid (rdS wr u9 = tl) := hlst.rd
    have HNW : Hid (Nw w wr) := hnw
    have hpl : pre.length ≤ 127 := by have := hl.out; rw [hbat] at this; simp at this; omega
    obtain ⟨pa, pc, rfl⟩ := ownsRow_form hown
    clear hbat htd hne hown hnw
    cases tl with
    | nil =>
      obtain ⟨ad, cap, rfl, _⟩ := hlst
      have HE : Hid (bat x y 0 n = pre) := by have := HB.out; rw [bats_nil, List.append_nil] at this; exact this
      simp only [List.length_nil]
      go_wp2
      refine bodyPost_ret (v := .tuple #[.slice pa pre.length pc, .nilIface]) (by simp [results, Tryz.results39]) rfl ⟨_, rfl, ?_, HNW.out⟩
      rw [HE.out]
      exact HO.out
    | cons s r =>
      obtain ⟨b, e⟩ := s
      have hbe := HNE.out (b, e) (by simp)
      simp only at hbe
      have HNR : Hid (Nes n r) := fun s hs => HNE.out s (by simp [hs])
      have HTR : Hid (Todo r) := HTD.out.pop
      have HBS : Hid (bat x y 0 n = pre ++ (bat x y b e ++ bats x y r)) := by have := HB.out; rw [bats_cons] at this; exact this
      obtain ⟨ad, cap, rfl, hcap, hcs⟩ := hlst
      obtain ⟨g, off, rfl, hg, hng, c0, c1⟩ := hcs 0 (b, e) rfl
      simp only [Nat.zero_mul, Nat.add_zero] at c0 c1
      simp only [List.length_cons] at hcap
      have hrl : r.length ≤ 64 := by have := HTD.out.len; simp at this; omega
      obtain ⟨ra, hra⟩ : ∃ ra : Option Addr, (if cap = 1 then some ⟨g, off, none⟩ else some ⟨g, off + 2, none⟩) = ra := ⟨_, rfl⟩
      obtain ⟨roff, hro⟩ : ∃ o, ra = some ⟨g, o, none⟩ := by rw [← hra]; split <;> exact ⟨_, rfl⟩
      have HLR : Hid (Lst wr (fun g => (Value.slice pa pre.length pc).ownBlock = some g) (.slice ra r.length (cap - 1)) r) := by
        refine ⟨ra, cap - 1, rfl, by omega, fun k t ht => ?_⟩
        obtain ⟨g', off', e', h1, h2, h3, h4⟩ := hcs (k + 1) t (by simpa using ht)
        cases e'
        have hk : k < r.length := (List.getElem?_eq_some_iff.1 ht).1
        have ec : ¬ cap = 1 := by omega
        rw [if_neg ec] at hra
        have e1 : off + (k + 1) * 2 = off + 2 + k * 2 := by omega
        rw [e1] at h3 h4
        exact ⟨g, off + 2, hra.symm, h1, h2, h3, h4⟩
      have HRA : Hid ((if cap = 1 then some ⟨g, off, none⟩ else some ⟨g, off + 2, none⟩) = ra) := hra
      clear hcs hra
      subst hro
      simp only [List.length_cons]
      obtain ⟨rl, hrr⟩ : ∃ rl, rl = r.length := ⟨_, rfl⟩
      simp only [List.length_cons] at HRD
      rw [← hrr] at hcap hrl HLR HRD ⊢
      have HRR : Hid (rl = r.length) := hrr
      clear hrr
      go_wp2
      go_region
      rw [HRA.out]
      have lgr : wr.heap.size < wr.heap.size + 1 := by omega
      refine gen_world (fun W => W.heap[wr.heap.size]? = some (.cells #[.int .u64 (b : Int), .int .u64 (e : Int)] 81) ∧ Nw wr W) ⟨by (repeat first | with_reducible exact heap_new _ _ | with_reducible exact heap_new _ _ | with_reducible exact heap_next _ _ _ | with_reducible exact heap_third _ _ _ _ | with_reducible refine hp_dr ?_ | (with_reducible refine hp_ne ?_ ?_; focus omega) | (with_reducible refine hp_al ?_ ?_; focus (first | omega | (simp <;> omega))) | with_reducible apply hp_set) <;> rfl, (by repeat first | with_reducible exact nwr wr | with_reducible refine Fr.alloc ?_ _ | with_reducible refine Fr.drew ?_ | (with_reducible refine Fr.setCell ?_ _ _ (fun h => ?_); rotate_left; focus (simp only at h; omega)))⟩ ?_
      rintro w1 ⟨b1, n1⟩
      have N1 : Hid (Nw wr w1) := n1
      have HO1 : Hid (w1.ownsRow w.heap.size 81 2 (.slice pa pre.length pc) pre.length (fs pre)) := ownsRow_keep HO.out (fun q hq => n1.block q (HO.out.lt q hq).2 (fun f => f))
      have HL1 : Hid (Lst w1 (fun g => (Value.slice pa pre.length pc).ownBlock = some g) (.slice (some ⟨g, roff, none⟩) rl (cap - 1)) r) := HLR.out.fr n1 (fun _ _ f => f.elim) (fun _ _ h => h)
      have ls := heap_lt b1
      have s0 := cell2a b1
      have s1 := cell2b b1
      have B1 := show Hid _ from b1
      clear b1 n1 c0 c1 HLR hg hng
      have own5 : Hid ((w1.alloc (.cells #[.int .u64 (b : Int), .int .u64 (e : Int)] 81)).ownsRow w.heap.size 81 2 (.slice pa pre.length pc) pre.length (fs pre)) := HO1.out.alloc _
      have NW1 : Hid (Nw w w1) := HNW.out.tr N1.out
      have hws : w.heap.size ≤ w1.heap.size := NW1.out.size
      by_cases hout : y ≤ b ∨ e ≤ x
      · have hbq : Hid (bat x y b e = [(b, e)]) := bat_out hout
        have hw : (e : Int) ≤ (x : Int) ∨ (¬ (e : Int) ≤ (x : Int) ∧ (y : Int) ≤ (b : Int)) := by omega
        clear hout
        have HNew : Hid (∀ j u, [Value.int .u64 (b : Int), .int .u64 (e : Int)][j]? = some u → (w1.alloc (.cells #[.int .u64 (b : Int), .int .u64 (e : Int)] 81)).cell? ((⟨w1.heap.size, 0, none⟩ : Addr).add j) = some u) := sp_new (w := w1) (b : Int) (e : Int) 81
        have HF : Hid (∀ v' w5, w5.ownsRow w.heap.size 81 2 v' (pre.length + 1) (fs pre ++ [.int .u64 (b : Int), .int .u64 (e : Int)]) → Two (w1.alloc (.cells #[.int .u64 (b : Int), .int .u64 (e : Int)] 81)) w5 81 2 (.slice pa pre.length pc) v' pre.length 1 (fs pre ++ [.int .u64 (b : Int), .int .u64 (e : Int)]) → w5.ownsRow w.heap.size 81 2 v' (pre ++ [(b, e)]).length (fs (pre ++ [(b, e)])) ∧ Lst w5 (fun g => v'.ownBlock = some g) (.slice (some ⟨g, roff, none⟩) rl (cap - 1)) r ∧ Nw w w5) := by
          intro v' w5 o5 t5
          have hst := t5.stays (by omega)
          refine ⟨by rw [List.length_append, fs_app]; exact o5, ((HL1.out.fr (nwa w1 _) (fun _ _ f => f.elim) (fun _ _ h => h)).fr t5.fr (fun _ _ h => h) (fun q hq hv => ?_)), ?_⟩
          · rcases hst with e1 | ⟨q', hq', hl'⟩
            · exact e1 ▸ hv
            · rw [hq'] at hv; injection hv with hv; omega
          · exact (NW1.out.alloc _).trans t5.fr (fun j hj q => by have := (HO1.out.lt j q).1; omega)
        rcases hw with hw | ⟨hw1, hw2⟩
        all_goals
          go_wp2_with (at_builtin; refine wpList_two _ rfl (.tmp 62) (.tmp 64) 89 rfl w.heap.size 81 i0 (sp 0 0) 2 16 Tryz.underlying89 hi hz0 hz1 hz2 rfl (by decide) (.slice pa pre.length pc) pre.length (fs pre) rfl own5.out ⟨w1.heap.size, 0, none⟩ 1 1 [.int .u64 (b : Int), .int .u64 (e : Int)] rfl rfl HNew.out (by simp [Value.oneCell']) (by unfold maxLen; omega) (by omega) (by simp; omega) ?_; intro v' w5 o5 t5; have HF5 := show Hid _ from HF.out v' w5 o5 t5; obtain ⟨xa, xc, rfl⟩ := ownsRow_form o5; clear o5 t5)
          refine ⟨⟨pre ++ [(b, e)], r, by rw [HBS.out, hbq.out, List.append_assoc], HTR.out, HNR.out, HF5.out.1, HF5.out.2.1, HF5.out.2.2⟩, ?_⟩
          rw [HRD.out, HF5.out.2.1.rd]
          simp only [wgt]
          omega
      · by_cases hin : x ≤ b ∧ e ≤ y
        · have hbq : Hid (bat x y b e = []) := bat_in hout hin
          have h1 : ¬ (e : Int) ≤ (x : Int) := by omega
          have h2 : ¬ (y : Int) ≤ (b : Int) := by omega
          have h3 : (x : Int) ≤ (b : Int) := by omega
          have h4 : (e : Int) ≤ (y : Int) := by omega
          clear hout hin
          go_wp2
          refine ⟨⟨pre, r, by rw [HBS.out, hbq.out, List.nil_append], HTR.out, HNR.out, HO1.out, HL1.out, NW1.out⟩, ?_⟩
          rw [HRD.out, HL1.out.rd]
          simp only [wgt]
          omega
        · have hbq : Hid (bat x y b e = bat x y b (b + spl (e - b)) ++ bat x y (b + spl (e - b)) e) := bat_cut hout hin
          have h2e : 2 ≤ e - b := by omega
          have hs1 := spl_lt h2e
          have hs0 := spl_pos (e - b)
          have HTC : Hid (Todo ((b, b + spl (e - b)) :: (b + spl (e - b), e) :: r)) := HTD.out.cut h2e
          have QC := show Hid _ from cut_any b e h2e (by omega)
          obtain ⟨k, hk⟩ : ∃ k, k = b + spl (e - b) := ⟨_, rfl⟩
          rw [← hk] at QC HTC hbq
          have hkb : b < k ∧ k < e := by omega
          clear hk hs1 hs0
          have h1 : ¬ (e : Int) ≤ (x : Int) := by omega
          have h2 : ¬ (y : Int) ≤ (b : Int) := by omega
          have hw : ¬ (x : Int) ≤ (b : Int) ∨ ((x : Int) ≤ (b : Int) ∧ ¬ (e : Int) ≤ (y : Int)) := by omega
          clear hout hin
          have HNC : Hid (Nes n ((b, k) :: (k, e) :: r)) := by
            intro s hs
            simp only [List.mem_cons] at hs
            rcases hs with rfl | rfl | hs
            · exact ⟨hkb.1, by simp only; omega⟩
            · exact ⟨hkb.2, hbe.2⟩
            · exact HNR.out s hs
          rcases hw with hw | ⟨hw1, hw2⟩
          all_goals
            go_wp2_with fail
            refine (QC.out _).mono ?_
            rintro z w2 ⟨rfl, n2⟩
            have N2 : Hid (Nw w1 w2) := n2
            obtain ⟨WD, hWD⟩ : ∃ WD, (((w2.alloc (.cells #[.int .u64 (b : Int), .int .u64 (k : Int)] 81)).alloc (.cells #[.int .u64 (k : Int), .int .u64 (e : Int)] 81)).alloc (.cells #[.int .u64 (b : Int), .int .u64 (k : Int), .int .u64 (k : Int), .int .u64 (e : Int)] 81)).drew = WD := ⟨_, rfl⟩
            have ND : Hid (Nw w1 WD) := by rw [← hWD]; exact (((N2.out.alloc _).alloc _).alloc _).drew
            have HN4 : Hid (∀ j u, [Value.int .u64 (b : Int), .int .u64 (k : Int), .int .u64 (k : Int), .int .u64 (e : Int)][j]? = some u → WD.cell? ((⟨w2.heap.size + 1 + 1, 0, none⟩ : Addr).add j) = some u) := by
              intro j u hj
              have h3 : WD.heap[w2.heap.size + 1 + 1]? = some (.cells #[.int .u64 (b : Int), .int .u64 (k : Int), .int .u64 (k : Int), .int .u64 (e : Int)] 81) := by rw [← hWD]; exact heap_third w2 _ _ _
              rw [addZ, cell_of h3]
              simpa using hj
            have HF : Hid (∀ v1 w3 v2 w4, w3.ownsRow WD.heap.size 81 2 v1 2 [Value.int .u64 (b : Int), .int .u64 (k : Int), .int .u64 (k : Int), .int .u64 (e : Int)] → WD.grownBy w3 none → w4.ownsRow WD.heap.size 81 2 v2 (2 + rl) ([Value.int .u64 (b : Int), .int .u64 (k : Int), .int .u64 (k : Int), .int .u64 (e : Int)] ++ fs r) → w3.grownBy w4 v1.ownBlock →
                w4.ownsRow w.heap.size 81 2 (.slice pa pre.length pc) pre.length (fs pre) ∧ Lst w4 (fun g => (Value.slice pa pre.length pc).ownBlock = some g) v2 ((b, k) :: (k, e) :: r) ∧ Nw w w4) := by
              intro v1 w3 v2 w4 o3 g3 o4 g4
              have n3 : Nw w1 w3 := ND.out.grown g3 (fun q hq _ => by cases hq)
              have n4 : Nw w1 w4 := n3.grown g4 (fun q hq hlt => by have := (o3.lt q hq).1; have := ND.out.size; omega)
              refine ⟨ownsRow_keep HO1.out (fun q hq => n4.block q (HO1.out.lt q hq).2 (fun f => f)), ?_, NW1.out.tr n4⟩
              have e1 : 2 + rl = ((b, k) :: (k, e) :: r).length := by rw [HRR.out]; simp; omega
              rw [e1] at o4
              exact Lst.of (base := WD.heap.size) o4 (fun q hq hp => by have := (HO1.out.lt q hp).2; have := ND.out.size; omega)
            have HR3 : Hid (∀ w3, WD.grownBy w3 none → ∀ j u, (fs r)[j]? = some u → w3.cell? ((⟨g, roff, none⟩ : Addr).add j) = some u) := fun w3 g3 => (HL1.out.fr (ND.out.grown g3 (fun q hq _ => by cases hq)) (fun _ _ f => f.elim) (fun _ _ h => h)).news
            have HFL : Hid ((fs r).length = rl * 2) := by show _ = _; rw [fs_len, HRR.out]
            have HF1 : Hid (∀ u ∈ fs r, u.oneCell' = true) := fs_one r
            have HGS : Hid (∀ w3, WD.grownBy w3 none → WD.heap.size ≤ w3.heap.size) := fun w3 g3 => g3.size
            have HWD := show Hid _ from hWD
            clear n2 hWD
            go_wp2_with fail
            go_region_law (first
              | (rw [HWD.out]; refine step_append_grows rfl (.tmp 44) (.tmp 47) 89 rfl 81 i0 (sp 0 0) 2 16 Tryz.underlying89 hi hz0 hz1 hz2 rfl (by decide) (some ⟨g, off, none⟩) 0 0 [] rfl (by simp) rfl (fun _ _ j u h => by simp at h) ⟨w2.heap.size + 1 + 1, 0, none⟩ 2 2 [.int .u64 (b : Int), .int .u64 (k : Int), .int .u64 (k : Int), .int .u64 (e : Int)] rfl rfl HN4.out (by simp [Value.oneCell']) (by omega) (by unfold maxLen; omega) (by omega) ?_; intro v1 w3 o3 g3; simp only [Nat.zero_add, List.nil_append] at o3; obtain ⟨va, vc, rfl⟩ := ownsRow_form o3; have O3 := show Hid _ from o3; have G3 := show Hid _ from g3; clear o3 g3)
              | (refine step_append_own rfl (.tmp 48) (.tmp 49) 89 rfl WD.heap.size 81 i0 (sp 0 0) 2 16 Tryz.underlying89 hi hz0 hz1 hz2 rfl (by decide) (.slice va 2 vc) 2 [.int .u64 (b : Int), .int .u64 (k : Int), .int .u64 (k : Int), .int .u64 (e : Int)] rfl O3.out ⟨g, roff, none⟩ rl (cap - 1) (fs r) rfl HFL.out (HR3.out _ G3.out) HF1.out (by unfold maxLen; omega) (by omega) (HGS.out _ G3.out) ?_; intro v2 w4 o4 g4; have HF4 := show Hid _ from HF.out _ _ v2 w4 O3.out G3.out o4 g4; obtain ⟨xa, xc, rfl⟩ := ownsRow_form o4; clear o4 g4))
            all_goals
              try simp only [List.getElem_toArray, List.getElem_cons_succ, List.getElem_cons_zero, Act.put, List.setIfInBounds_toArray, List.set_cons_succ, List.set_cons_zero]
              go_wp2
              refine ⟨⟨pre, (b, k) :: (k, e) :: r, by rw [HBS.out, hbq.out, bats_cons, bats_cons]; simp only [List.append_assoc], HTC.out, HNC.out, HF4.out.1, HF4.out.2.1, HF4.out.2.2⟩, ?_⟩
              rw [HRD.out, HF4.out.2.1.rd]
              simp only [wgt]
              omega
end Go.Proofs.YtlaiomgebkeldaaGreatDoor
