/- plan: whether all trees are laid. -/
import Derived.Test.YtlaiomgebkeldaaDoorYr
namespace Go.Proofs.YtlaiomgebkeldaaDoor
open Go.RowKit
set_option linter.unusedVariables false
set_option linter.unusedSimpArgs false
set_option maxRecDepth 100000 in
set_option maxHeartbeats 8000000 in
theorem laid15_any (v : Value) (ls : List (List (Nat × Nat))) (S : Nat) (hS : S ≤ 9223372036854775808) (out : List Ti) (ta : Option Addr) (tc base : Nat) (w : World) (hv : Prt w v ls) (hg : gdA S ls.flatten) (hin : ∀ c ∈ ls.flatten, tiN S c ∈ out) (ho : w.ownsRow base 87 3 (.slice ta out.length tc) out.length (tic out))
    (hl : ls.length ≤ 1099511627776) (hl3 : ∀ l ∈ ls, l.length ≤ 1099511627776) (hlo : out.length ≤ 1099511627776) :
    Calls Tryd.prog 54 #[v, .slice ta out.length tc] w fun e w' => e = .returned (.bool true) ∧ Nw w w' := by
  obtain ⟨ad, ca, rfl, hv⟩ := hv
  have HV : Hid (∀ k l, ls[k]? = some l → ∃ g off x, ad = some ⟨g, off, none⟩ ∧ g < w.heap.size ∧ w.cell? ⟨g, off + k, none⟩ = some x ∧ Crd w x l) := hv
  have HG : Hid (gdA S ls.flatten) := hg
  have HIN : Hid (∀ c ∈ ls.flatten, tiN S c ∈ out) := hin
  have HO : Hid (w.ownsRow base 87 3 (.slice ta out.length tc) out.length (tic out)) := ho
  have HL3 : Hid (∀ l ∈ ls, l.length ≤ 1099511627776) := hl3
  clear hv hg hin ho hl3
  obtain ⟨n, hn⟩ : ∃ n, n = ls.length := ⟨_, rfl⟩
  have HN : Hid (n = ls.length) := hn
  obtain ⟨m, hm⟩ : ∃ m, m = out.length := ⟨_, rfl⟩
  have HM : Hid (m = out.length) := hm
  rw [← hn] at hl ⊢
  rw [← hm] at hlo ⊢
  clear hn hm
  go_enter Tryd.func54, Tryd.ntmps54
  go_wp2
  go_loopw [5] (fun i wr => ∃ k : Nat, k ≤ n ∧ i = .int .i64 k ∧ Nw w wr) (fun i _ => n - (intOf i).toNat)
  case atStart => exact ⟨0, by omega, rfl, nwr w⟩
  case round =>
    obtain ⟨k, hk, rfl, hnw⟩ := hrel
    have HW : Hid (Nw w wr) := hnw
    clear hnw
    by_cases hlt : k < n
    · obtain ⟨l, hl9⟩ : ∃ l, ls[k]? = some l := ⟨_, List.getElem?_eq_getElem (by rw [← HN.out]; exact hlt)⟩
      obtain ⟨g, off, x, rfl, g1, g2, g3⟩ := HV.out k l hl9
      have HK : Hid (ls[k]? = some l) := hl9
      obtain ⟨bd, cb, rfl, hc⟩ := g3
      have HC : Hid (∀ k t, l[k]? = some t → ∃ g off, bd = some ⟨g, off, none⟩ ∧ g < w.heap.size ∧ w.cell? ⟨g, off + k * 2, none⟩ = some (.int .u8 (t.1 : Int)) ∧ w.cell? ⟨g, off + k * 2 + 1, none⟩ = some (.int .u64 (t.2 : Int))) := hc
      have hml := HL3.out l (List.mem_of_getElem? hl9)
      obtain ⟨q, hq⟩ : ∃ q, q = l.length := ⟨_, rfl⟩
      have HQ : Hid (q = l.length) := hq
      rw [← hq] at g2 hml
      have HG2 : Hid (w.cell? ⟨g, off + k, none⟩ = some (.slice bd q cb)) := g2
      clear g2 hc hl9 hq
      have hki : (k : Int) < (n : Int) := by omega
      go_wp2
      go_loopw [6] (fun i wr => ∃ j : Nat, j ≤ q ∧ i = .int .i64 j ∧ Nw w wr) (fun i _ => q - (intOf i).toNat)
      case atStart => exact ⟨0, by omega, rfl, HW.out⟩
      case round =>
        obtain ⟨j, hj, rfl, hnw⟩ := hrel
        have HW2 : Hid (Nw w wr) := hnw
        have g2 := hnw.cellOf HG2.out
        clear hnw
        by_cases hlj : j < q
        · obtain ⟨c, ht⟩ : ∃ t, l[j]? = some t := ⟨_, List.getElem?_eq_getElem (by rw [← HQ.out]; exact hlj)⟩
          obtain ⟨h, of2, rfl, q1, q2, q3⟩ := HC.out j c ht
          have hmem : c ∈ ls.flatten := List.mem_flatten.2 ⟨l, List.mem_of_getElem? HK.out, List.mem_of_getElem? ht⟩
          have hgd := HG.out c hmem
          obtain ⟨j0, hj0⟩ := List.getElem?_of_mem (HIN.out c hmem)
          obtain ⟨L, I⟩ := c
          have hwid := gd_wid hgd hS
          have qq := fun V => tof_yes L I hgd.1 V
          obtain ⟨x, hx⟩ : ∃ x, x = L / 8 := ⟨_, rfl⟩
          obtain ⟨y, hy⟩ : ∃ y, y = ofA L I / 256 := ⟨_, rfl⟩
          obtain ⟨z, hz⟩ : ∃ z, z = ofW L := ⟨_, rfl⟩
          obtain ⟨u, hu⟩ : ∃ u, u = ofA L I % 256 := ⟨_, rfl⟩
          obtain ⟨v, hv⟩ : ∃ v, v = 2 ^ (L % 8) := ⟨_, rfl⟩
          obtain ⟨WW, hWW⟩ : ∃ z, z = wid (L / 8) (ofA L I / 256) S := ⟨_, rfl⟩
          have hT : tiN S (L, I) = ⟨x, y, WW⟩ := by rw [hx, hy, hWW]; rfl
          rw [hT] at hj0
          rw [← hu, ← hv, ← hWW] at hwid
          rw [← hx, ← hy, ← hz, ← hu, ← hv] at qq
          have hW2 : WW ≤ 256 := by rw [hWW]; exact wid_le _ _ _
          have HJ0 : Hid (out[j0]? = some ⟨x, y, WW⟩) := hj0
          have HT : Hid (∀ V, Calls Tryd.prog 68 #[cd L I] V fun e w' => e = .returned (.tuple #[tl x y z, .int .i64 (u : Int), .int .i64 (v : Int), .bool true]) ∧ Nw V w') := qq
          have q2' := HW2.out.cellOf q2
          have q3' := HW2.out.cellOf q3
          have hji : (j : Int) < (q : Int) := by omega
          have hjm : j0 < m := by rw [HM.out]; exact (List.getElem?_eq_some_iff.1 hj0).1
          clear q2 q3 ht hmem hgd hx hy hz hu hv hWW hT hj0 qq
          go_wp2_with fail
          refine (HT.out _).mono ?_
          rintro e w1 ⟨rfl, n1⟩
          have W1 : Hid (Nw w w1) := HW2.out.tr n1
          clear n1 q2' q3' g2
          go_upto_region 9 with fail
          refine gen_wq (fun V => Nw w V ∧ V.heap[w1.heap.size]? = some (.cells #[.int .u8 (x : Int), .int .u64 (y : Int), .int .i64 (z : Int)] 87)) ⟨(by repeat first | with_reducible exact W1.out | with_reducible refine Fr.alloc ?_ _ | with_reducible refine Fr.drew ?_ | (with_reducible refine Fr.setCell ?_ _ _ (fun h => ?_); rotate_left; focus (simp only at h; omega))), by (repeat first | with_reducible exact heap_new _ _ | with_reducible exact heap_new _ _ | with_reducible exact heap_next _ _ _ | with_reducible exact heap_third _ _ _ _ | with_reducible refine hp_dr ?_ | (with_reducible refine hp_ne ?_ ?_; focus omega) | (with_reducible refine hp_al ?_ ?_; focus (first | omega | (simp <;> omega))) | with_reducible apply hp_set) <;> rfl⟩ ?_
          rintro w2 ⟨n2, b2⟩
          obtain ⟨bu, hbu⟩ : ∃ b, b = w1.heap.size := ⟨_, rfl⟩
          rw [← hbu] at b2 ⊢
          clear hbu
          have B2 : Hid (w2.heap[bu]? = some (.cells #[.int .u8 (x : Int), .int .u64 (y : Int), .int .i64 (z : Int)] 87)) := b2
          have W2 : Hid (Nw w w2) := n2
          clear n2 b2
          go_wp2
          go_loopw [7, 12] (fun b i wr => ∃ (t : Nat) (bb : Bool), t ≤ m ∧ b = .bool bb ∧ i = .int .i64 t ∧ (bb = true ∨ t ≤ j0) ∧ Nw w2 wr) (fun _ i _ => m - (intOf i).toNat)
          case atStart => exact ⟨0, false, by omega, rfl, rfl, .inr (by omega), nwr w2⟩
          case round =>
            obtain ⟨t, bb, hjt, rfl, rfl, hor, hnw⟩ := hrel
            have HOR : Hid (bb = true ∨ t ≤ j0) := hor
            have HW3 : Hid (Nw w2 wr) := hnw
            have b3 := (hnw.block _ (heap_lt B2.out) (fun f => f)).trans B2.out
            clear hnw hor
            by_cases hlt2 : t < m
            · obtain ⟨s, hs⟩ : ∃ s, out[t]? = some s := ⟨_, List.getElem?_eq_getElem (by rw [← HM.out]; exact hlt2)⟩
              have HS : Hid (out[t]? = some s) := hs
              obtain ⟨p, hta, p1, p2, p3⟩ := tic_cellsP HO.out t s hs
              subst hta
              obtain ⟨sL, sI, sW⟩ := s
              simp only at p1 p2 p3
              have p1' := (W2.out.tr HW3.out).cellOf p1
              have p2' := (W2.out.tr HW3.out).cellOf p2
              have p3' := (W2.out.tr HW3.out).cellOf p3
              obtain ⟨d0, d1, d2⟩ := cell3 b3
              have lb := heap_lt b3
              have hti : (t : Int) < (m : Int) := by omega
              have hne : t ≤ j0 → (¬ (x = sL ∧ y = sI ∧ u + v ≤ sW)) → t + 1 ≤ j0 := fun h1 h2 => by
                by_cases e : t = j0
                · exfalso
                  subst e
                  have := HJ0.out.symm.trans HS.out
                  simp only [Option.some.injEq, Ti.mk.injEq] at this
                  obtain ⟨rfl, rfl, rfl⟩ := this
                  exact h2 ⟨rfl, rfl, hwid⟩
                · omega
              have HNE : Hid (t ≤ j0 → (¬ (x = sL ∧ y = sI ∧ u + v ≤ sW)) → t + 1 ≤ j0) := hne
              have HJ0' : Hid True := trivial
              have hsum : u + v ≤ 256 := by omega
              clear p1 p2 p3 hs b3 hne hwid HJ0' d2
              cases bb with
              | true =>
                go_wp2
                go_quiet (fail)
                go_wp2
                exact ⟨⟨t + 1, true, by omega, rfl, by go_num, .inl rfl, HW3.out.drewN nq⟩, by simp [intOf]; omega⟩
              | false =>
                have ht0 : t ≤ j0 := by rcases HOR.out with h | h; cases h; exact h
                by_cases h1 : x = sL
                · have e1 : ((x : Int) == (sL : Int)) = true := by simp; omega
                  by_cases h2 : y = sI
                  · have e2 : ((y : Int) == (sI : Int)) = true := by simp; omega
                    obtain ⟨A, hA⟩ : ∃ A, A = u + v := ⟨_, rfl⟩
                    have e3 : IntKind.i64.wrap ((u : Int) + (v : Int)) = (A : Int) := by rw [IntKind.wrap_i64]; omega
                    have e4 : (u : Int) + (v : Int) = (A : Int) := by omega
                    have HWR : Hid (wrap64 (A : Int) = (A : Int)) := by show wrap64 (A : Int) = (A : Int); unfold wrap64; omega
                    by_cases h3 : A ≤ sW
                    · have e5 : (A : Int) ≤ (sW : Int) := by omega
                      have e6 : decide ((A : Int) ≤ (sW : Int)) = true := by simp; omega
                      clear h1 h2 hA hsum
                      go_wp2
                      go_quiet (fail)
                      have E6 : Hid (decide ((A : Int) ≤ (sW : Int)) = true) := e6
                      go_wp2
                      exact ⟨⟨t + 1, true, by omega, by first | rfl | (rw [HWR.out, E6.out]), by go_num, .inl rfl, HW3.out.drewN nq⟩, by simp [intOf]; omega⟩
                    · have e5 : ¬ (A : Int) ≤ (sW : Int) := by omega
                      have e6 : decide ((A : Int) ≤ (sW : Int)) = false := by simp; omega
                      have HF : Hid (t + 1 ≤ j0) := HNE.out ht0 (fun q => h3 (by rw [hA]; exact q.2.2))
                      clear h1 h2 hA hsum h3
                      go_wp2
                      go_quiet (fail)
                      have E6 : Hid (decide ((A : Int) ≤ (sW : Int)) = false) := e6
                      go_wp2
                      exact ⟨⟨t + 1, false, by omega, by first | rfl | (rw [HWR.out, E6.out]), by go_num, .inr HF.out, HW3.out.drewN nq⟩, by simp [intOf]; omega⟩
                  · have e2 : ((y : Int) == (sI : Int)) = false := by simp; omega
                    have HF : Hid (t + 1 ≤ j0) := HNE.out ht0 (fun q => h2 q.2.1)
                    clear h1 h2
                    go_wp2
                    go_quiet (fail)
                    go_wp2
                    exact ⟨⟨t + 1, false, by omega, rfl, by go_num, .inr HF.out, HW3.out.drewN nq⟩, by simp [intOf]; omega⟩
                · have e1 : ((x : Int) == (sL : Int)) = false := by simp; omega
                  have HF : Hid (t + 1 ≤ j0) := HNE.out ht0 (fun q => h1 q.1)
                  clear h1
                  go_wp2
                  go_quiet (fail)
                  go_wp2
                  exact ⟨⟨t + 1, false, by omega, rfl, by go_num, .inr HF.out, HW3.out.drewN nq⟩, by simp [intOf]; omega⟩
            · obtain rfl : t = m := by omega
              obtain rfl : bb = true := by rcases HOR.out with h | h; exact h; omega
              go_wp2
              exact ⟨⟨j + 1, by omega, by go_num, W2.out.tr HW3.out⟩, by simp [intOf]; omega⟩
        · obtain rfl : j = q := by omega
          go_wp2
          exact ⟨⟨k + 1, by omega, by go_num, HW2.out⟩, by simp [intOf]; omega⟩
    · obtain rfl : k = n := by omega
      go_wp2
      go_ret
      exact ⟨rfl, HW.out⟩
end Go.Proofs.YtlaiomgebkeldaaDoor
