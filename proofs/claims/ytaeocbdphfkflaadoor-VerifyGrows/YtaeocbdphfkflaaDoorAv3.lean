/- law18: rows of hashes compared; what two climbs to one root say. -/
import Derived.Test.YtaeocbdphfkflaaDoorAv2
import Derived.Test.YtaeocbdphfkflaaDoorAn
import Derived.Test.YtaeocbdphfkflaaDoorAnx
namespace Go.Proofs.YtaeocbdphfkflaaDoor
open Go.RowKit
set_option linter.unusedVariables false
set_option linter.unusedSimpArgs false
theorem quiet_neqB {o : Oper} {a : Act} {K : Act → Prop} (x y : Operand) (ho : o.op = .binOp .neq 24 x y 24) (A B : List UInt8) (hA : A.length = 32) (hB : B.length = 32) (b : Bool) (hb : (!decide (A = B)) = b) (hx : a.eval x = .agg (hbs A)) (hy : a.eval y = .agg (hbs B)) {C : World → Prop} (hk : K (a.put o.dst (.bool b))) : o.quiet Tryd.prog a C K := by
  refine quiet_val (.bool b) (fun W => ?_) hk
  unfold execOp
  simp only [ho, hx, hy, run_eqGuard, hbs_neqA A B hA hB W, Sem.run_bind, Sem.run_pure, Result.andThen_ok, hb]
set_option maxRecDepth 100000 in
set_option maxHeartbeats 4000000 in
theorem sames_any (ad bd : Option Addr) (ca cb : Nat) (l m : List (List UInt8)) (hl32 : ∀ x ∈ l, x.length = 32) (hm32 : ∀ x ∈ m, x.length = 32) (hlm : l.length = m.length) (w : World) (hu : Hss w (.slice ad l.length ca) l) (hv : Hss w (.slice bd m.length cb) m) (hl : l.length < 4611686018427387904) :
    Calls Tryd.prog 26 #[.slice ad l.length ca, .slice bd m.length cb] w fun e w' => e = .returned (.bool (decide (l = m))) ∧ Nw w w' := by
  have HU : Hid (∀ k h, l[k]? = some h → ∃ g off, ad = some ⟨g, off, none⟩ ∧ ∀ j, j < 32 → w.cell? ⟨g, off + k * 32 + j, none⟩ = (hbs h)[j]?) := fun k h hk => hu.atT hk
  have HV : Hid (∀ k h, m[k]? = some h → ∃ g off, bd = some ⟨g, off, none⟩ ∧ ∀ j, j < 32 → w.cell? ⟨g, off + k * 32 + j, none⟩ = (hbs h)[j]?) := fun k h hk => hv.atT hk
  have H32 : Hid (∀ x ∈ l, x.length = 32) := hl32
  have M32 : Hid (∀ x ∈ m, x.length = 32) := hm32
  rw [← hlm]
  obtain ⟨n, hn⟩ : ∃ n, n = l.length := ⟨_, rfl⟩
  have HN : Hid (n = l.length) := hn
  have HM : Hid (n = m.length) := by show n = _; rw [hn, hlm]
  rw [← hn] at hl ⊢
  clear hn hu hv hl32 hm32 hlm
  go_enter Tryd.func26, Tryd.ntmps26
  go_wp2
  go_loopw [5] (fun i wr => ∃ k : Nat, k ≤ n ∧ i = .int .i64 k ∧ l.take k = m.take k ∧ Nw w wr) (fun i _ => n - (intOf i).toNat)
  case atStart => exact ⟨0, by omega, rfl, by simp, nwr w⟩
  case round =>
    obtain ⟨k, hk, rfl, htk, hnw⟩ := hrel
    have HTK := hid_of htk
    clear htk
    by_cases hlt : k < n
    · obtain ⟨t, ht⟩ : ∃ t, l[k]? = some t := ⟨_, List.getElem?_eq_getElem (by rw [← HN.out]; exact hlt)⟩
      obtain ⟨s, hs⟩ : ∃ t, m[k]? = some t := ⟨_, List.getElem?_eq_getElem (by rw [← HM.out]; exact hlt)⟩
      obtain ⟨g, off, rfl, g1⟩ := HU.out k t ht
      obtain ⟨p, off2, rfl, p1⟩ := HV.out k s hs
      have t32 := H32.out t (List.mem_of_getElem? ht)
      have s32 := M32.out s (List.mem_of_getElem? hs)
      have G1 : Hid (∀ j, j < 32 → wr.cell? ⟨g, off + k * 32 + j, none⟩ = (hbs t)[j]?) := fun j hj => by
        have h2 := g1 j hj
        rw [hbs_get t j (by omega)] at h2 ⊢
        exact hnw.cellOf h2
      have P1 : Hid (∀ j, j < 32 → wr.cell? ⟨p, off2 + k * 32 + j, none⟩ = (hbs s)[j]?) := fun j hj => by
        have h2 := p1 j hj
        rw [hbs_get s j (by omega)] at h2 ⊢
        exact hnw.cellOf h2
      have HW : Hid (Nw w wr) := hnw
      have T32 : Hid (t.length = 32) := t32
      have S32 : Hid (s.length = 32) := s32
      have HTS := hid_of ht
      have HSS := hid_of hs
      clear g1 p1 ht hs hnw t32 s32
      have hki : (k : Int) < (n : Int) := by omega
      by_cases he : t = s
      · have HE : Hid ((!decide (t = s)) = false) := by show _ = _; rw [decide_eq_true he]; rfl
        have HNX : Hid (l.take (k + 1) = m.take (k + 1)) := by show _ = _; rw [List.take_add_one, List.take_add_one, HTK.out, HTS.out, HSS.out, he]
        clear he
        go_wp2_with fail
        refine wp_region_grown (by kernel_rfl) (by kernel_rfl) ?_
        repeat (first
          | go_big_quiet_skip
          | (go_big_quiet_want; first
              | (refine quiet_load (.tmp 19) rfl g (off + k * 32) rfl t T32.out G1.out ?_; (try simp only [Act.put, List.setIfInBounds_toArray, List.set_cons_zero, List.set_cons_succ]); go_big_quiet_on)
              | (refine quiet_load (.tmp 23) rfl p (off2 + k * 32) rfl s S32.out P1.out ?_; (try simp only [Act.put, List.setIfInBounds_toArray, List.set_cons_zero, List.set_cons_succ]); go_big_quiet_on)
              | (refine quiet_neqB (.tmp 20) (.tmp 24) rfl t s T32.out S32.out false HE.out rfl rfl ?_; (try simp only [Act.put, List.setIfInBounds_toArray, List.set_cons_zero, List.set_cons_succ]); go_big_quiet_on)
              | (go_big_quiet_op; first | go_big_quiet_on | go_big_quiet_call (rfl))))
        refine wpQuiet_nil ?_
        rintro _ ⟨⟨W, nW⟩, rfl⟩
        go_wp2
        exact ⟨⟨k + 1, by omega, by go_num, HNX.out, HW.out.tr nW⟩, by simp [intOf]; omega⟩
      · have HE : Hid ((!decide (t = s)) = true) := by show _ = _; rw [decide_eq_false he]; rfl
        have HNX : Hid (decide (l = m) = false) := by
          refine decide_eq_false (fun q => he ?_)
          have := HTS.out
          rw [q, HSS.out] at this
          exact (Option.some.inj this).symm
        clear he
        go_wp2_with fail
        refine wp_region_grown (by kernel_rfl) (by kernel_rfl) ?_
        repeat (first
          | go_big_quiet_skip
          | (go_big_quiet_want; first
              | (refine quiet_load (.tmp 19) rfl g (off + k * 32) rfl t T32.out G1.out ?_; (try simp only [Act.put, List.setIfInBounds_toArray, List.set_cons_zero, List.set_cons_succ]); go_big_quiet_on)
              | (refine quiet_load (.tmp 23) rfl p (off2 + k * 32) rfl s S32.out P1.out ?_; (try simp only [Act.put, List.setIfInBounds_toArray, List.set_cons_zero, List.set_cons_succ]); go_big_quiet_on)
              | (refine quiet_neqB (.tmp 20) (.tmp 24) rfl t s T32.out S32.out true HE.out rfl rfl ?_; (try simp only [Act.put, List.setIfInBounds_toArray, List.set_cons_zero, List.set_cons_succ]); go_big_quiet_on)
              | (go_big_quiet_op; first | go_big_quiet_on | go_big_quiet_call (rfl))))
        refine wpQuiet_nil ?_
        rintro _ ⟨⟨W, nW⟩, rfl⟩
        go_wp2
        go_ret
        rw [HNX.out]
        exact ⟨rfl, HW.out.tr nW⟩
    · obtain rfl : k = n := by omega
      have HEQ : Hid (decide (l = m) = true) := by
        refine decide_eq_true ?_
        have := HTK.out
        rwa [List.take_of_length_le (by rw [← HN.out]; exact Nat.le_refl _), List.take_of_length_le (by rw [← HM.out]; exact Nat.le_refl _)] at this
      go_wp2
      go_ret
      rw [HEQ.out]
      exact ⟨rfl, hnw⟩
/-- Two climbs to one root: the same, or two nodes that are the same of hashes that are not. -/
theorem clm_bind : ∀ (s : List Bool) (x y : List UInt8) (L M : List (List UInt8)), L.length = s.length → M.length = s.length → clm x L s = clm y M s → (x = y ∧ L = M) ∨ brk (prs x L s) (prs y M s) = true
  | [], x, y, [], [], _, _, h => .inl ⟨by simpa [clm] using h, rfl⟩
  | [], x, y, _ :: _, _, h, _, _ => by simp at h
  | [], x, y, [], _ :: _, _, h, _ => by simp at h
  | b :: s, x, y, [], _, h, _, _ => by simp at h
  | b :: s, x, y, _ :: _, [], _, h, _ => by simp at h
  | b :: s, x, y, h :: L, k :: M, e1, e2, e => by
    rw [clm, clm] at e
    rcases clm_bind s _ _ L M (by simpa using e1) (by simpa using e2) e with ⟨hn, rfl⟩ | hb
    · by_cases hp : x = y ∧ h = k
      · obtain ⟨rfl, rfl⟩ := hp
        exact .inl ⟨rfl, rfl⟩
      · refine .inr ?_
        rw [prs, prs, brk]
        cases b
        · have h1 : ¬ (x = y ∧ h = k) := hp
          simp only [Bool.false_eq_true, if_false] at hn ⊢
          rw [decide_eq_false h1, decide_eq_true hn]
          rfl
        · have h1 : ¬ (h = k ∧ x = y) := fun q => hp ⟨q.2, q.1⟩
          simp only [if_true] at hn ⊢
          rw [decide_eq_false h1, decide_eq_true hn]
          rfl
    · refine .inr ?_
      rw [prs, prs, brk, hb, Bool.or_true]
theorem prs_last (x : List UInt8) (L : List (List UInt8)) (s : List Bool) (j : Nat) (hl : L.length = j + 1) (hs : s.length = j + 1) : ∃ p1 p2, (prs x L s)[j]? = some (p1, p2) ∧ ndp p1 p2 = clm x L s := by
  obtain ⟨y, hy⟩ : ∃ y, L[j]? = some y := ⟨_, List.getElem?_eq_getElem (by omega)⟩
  obtain ⟨b, hb⟩ : ∃ y, s[j]? = some y := ⟨_, List.getElem?_eq_getElem (by omega)⟩
  have h1 := prs_get x L s j y b hy hb
  have h2 := clm_step x L s j y b hy hb
  rw [List.take_of_length_le (by omega), List.take_of_length_le (by omega)] at h2
  cases b
  · exact ⟨_, _, h1, by rw [h2]; rfl⟩
  · exact ⟨_, _, h1, by rw [h2]; rfl⟩
theorem ic_both {i n : Nat} {x r : List UInt8} {L : List (List UInt8)} (h : icA i n x L r = 0) : (¬ (9223372036854775808 < n ∨ n ≤ i)) ∧ L.length = (sds i n).length ∧ clm x L (sds i n) = r := by
  by_cases hr : 9223372036854775808 < n ∨ n ≤ i
  · unfold icA at h
    rw [rtA_range hr] at h
    simp at h
  · by_cases hl : L.length = (sds i n).length
    · unfold icA at h
      rw [rtA_yes hr hl] at h
      refine ⟨hr, hl, ?_⟩
      by_cases hc : clm x L (sds i n) = r
      · exact hc
      · simp [hc] at h
    · unfold icA at h
      rw [rtA_no hr hl] at h
      simp at h
end Go.Proofs.YtaeocbdphfkflaaDoor
