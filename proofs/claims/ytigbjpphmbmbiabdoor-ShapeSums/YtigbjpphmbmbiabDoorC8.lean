/- The cover. -/
import Derived.Test.YtigbjpphmbmbiabDoorC7
import Derived.Maps.AppendAt
namespace Go.Proofs.YtigbjpphmbmbiabDoor
open Go.RowKit
set_option linter.unusedVariables false
set_option linter.unusedSimpArgs false

/-- Where what lies in a block begins. -/
def bgn (W : World) (b : Nat) : Nat := match W.cell? ⟨b, 0, none⟩ with
  | some v => (intOf v).toNat
  | none => 0
theorem bgn_of {W : World} {b x : Nat} {y : Value} {t : TypeId} {f : Nat × Nat} (h : W.heap[b]? = some (.cells #[.int .u64 (x : Int), y] t f)) : bgn W b = x := by
  unfold bgn
  rw [cell2a h]
  simp [intOf]
theorem ownsRow_form {w : World} {base : Nat} {e : TypeId} {size : Nat} {v : Value} {n : Nat} {xs : List Value} (h : w.ownsRow base e size v n xs) : ∃ ad cap, v = .slice ad n cap := by
  rcases h.2 with ⟨rfl, rfl⟩ | ⟨g, cap, cur, rfl, _⟩
  · exact ⟨none, 0, rfl⟩
  · exact ⟨_, _, rfl⟩
theorem ownsRow_base {w : World} {base base' : Nat} {e : TypeId} {size : Nat} {v : Value} {n : Nat} {xs : List Value} (h : w.ownsRow base e size v n xs) (hb : base' ≤ base) : w.ownsRow base' e size v n xs := by
  obtain ⟨h1, h2⟩ := h
  refine ⟨h1, ?_⟩
  rcases h2 with h2 | ⟨g, cap, cur, rfl, hg, h3⟩
  · exact .inl h2
  · exact .inr ⟨g, cap, cur, rfl, Nat.le_trans hb hg, h3⟩
theorem infoC : (Tryd.prog.info? 45).map (fun i => (i.zero, i.size, i.bytes)) = some (some (cd 0 0), 2, 16) := by kernel_rfl
theorem cd_new {w : World} (L I : Int) (t : TypeId) : ∀ j u, [Value.int .u8 L, .int .u64 I][j]? = some u → (w.alloc (.cells #[.int .u8 L, .int .u64 I] t)).cell? ((⟨w.heap.size, 0, none⟩ : Addr).add j) = some u := by
  intro j u h
  rw [addZ, cell_of (heap_new w _)]
  match j, h with
  | 0, h => exact h
  | 1, h => exact h
theorem two_le {L : Nat} (h : L ≤ 63) : 2 ^ L ≤ 9223372036854775808 := by rw [← p63]; exact pow_le2 h

set_option maxRecDepth 100000 in
set_option maxHeartbeats 1000000 in
theorem cover_yes (b e : Nat) (hbe : b ≤ e) (he : e ≤ 9223372036854775808) (w : World) (hT : TabAt w) :
    Calls Tryd.prog 25 #[sp b e] w fun x w' => ∃ v, x = .returned (.tuple #[v, .nilIface]) ∧ w'.ownsRow w.heap.size 45 2 v (cov b e).length (fl (cov b e)) ∧ Nw w w' := by
  have HT : Hid (TabAt w) := hT
  have hlen : Hid ((cov b e).length ≤ 128) := cov_len b e (by rw [p63]; exact he)
  obtain ⟨i0, hi, hz0, hz1, hz2⟩ := info_parts infoC
  clear hT
  go_enter Tryd.func25, Tryd.ntmps25
  go_wp2_with fail
  refine (smb b e true (by simp; omega) (by omega) (by omega) _).mono ?_
  rintro x w1 ⟨rfl, n1⟩
  obtain ⟨l0, b0, n2⟩ := one_made n1
  clear n1
  go_wp2
  go_loopw [4] (fun v wr => ∃ (at_ : Nat) (pre : List (Nat × Nat)), cov b e = pre ++ cov at_ e ∧ at_ ≤ e ∧ wr.heap[w.heap.size]? = some (.cells #[.int .u64 (at_ : Int), .int .u64 (e : Int)] 33) ∧ wr.ownsRow (w.heap.size + 1) 45 2 v pre.length (fl pre) ∧ Nw w wr) (fun _ wr => e - bgn wr w.heap.size)
  case atStart => exact ⟨b, [], rfl, hbe, b0, World.ownsRow_nil _ _ _ _, n2⟩
  case round =>
    clear b0 n2 l0
    obtain ⟨p, pre, hcov, hpe, j0, hown, hnw⟩ := hrel
    have HC : Hid (cov b e = pre ++ cov p e) := hcov
    have hpl : pre.length ≤ 128 := by
      have := hlen.out
      rw [hcov, List.length_append] at this
      omega
    have HB : Hid (bgn wr w.heap.size = p) := bgn_of j0
    clear hcov
    have l0 := heap_lt j0
    have c0 := cell2a j0
    have c1 := cell2b j0
    by_cases hlt : p < e
    · have hW := lev_is hlt
      obtain ⟨L, hL⟩ : ∃ L, L = lev p e := ⟨_, rfl⟩
      rw [← hL] at hW
      have HW : Hid (IsW p e L) := hW
      have hL63 := isW_le hW (by rw [p63]; exact he)
      have hst := cov_step hW
      have hfit := hW.1.2
      have h2L := two_le hL63
      have hp2 := Nat.two_pow_pos L
      have HS : Hid (cov p e = (L, p / 2 ^ L) :: cov (p + 2 ^ L) e) := hst
      clear hL hW hst
      have hi1 : (p : Int) < (e : Int) := by omega
      go_wp2_with fail
      refine (widest_any p e L HW.out he wr (HT.out.nw hnw)).mono ?_
      rintro x w3 ⟨rfl, n3⟩
      have k0 := (n3.block _ l0 (fun f => f)).trans j0
      have n4 : Nw w w3 := hnw.tr n3
      have own3 : w3.ownsRow (w.heap.size + 1) 45 2 u4 pre.length (fl pre) := ownsRow_keep hown (fun g hg => n3.block g (hown.lt g hg).2 (fun f => f))
      have l3 := heap_lt k0
      obtain ⟨I, hI⟩ : ∃ I, I = p / 2 ^ L := ⟨_, rfl⟩
      rw [← hI]
      have HI : Hid (I = p / 2 ^ L) := hI
      clear hI c0 c1 j0 hown hnw n3 l0
      have c0 := cell2a k0
      have c1 := cell2b k0
      have own5 := (own3.alloc (.cells #[.int .u8 (L : Int), .int .u64 (I : Int)] 45)).alloc (.cells #[.int .u8 (L : Int), .int .u64 (I : Int)] 45)
      have hnew := cd_new (w := w3.alloc (.cells #[.int .u8 (L : Int), .int .u64 (I : Int)] 45)) (L : Int) (I : Int) 45
      rw [World.size_alloc] at hnew
      have HNew : Hid (∀ j u, [Value.int .u8 (L : Int), .int .u64 (I : Int)][j]? = some u → ((w3.alloc (.cells #[.int .u8 (L : Int), .int .u64 (I : Int)] 45)).alloc (.cells #[.int .u8 (L : Int), .int .u64 (I : Int)] 45)).cell? ((⟨w3.heap.size + 1, 0, none⟩ : Addr).add j) = some u) := hnew
      clear hnew
      have HG : Hid (∀ g, u4.ownBlock = some g → w.heap.size + 1 ≤ g ∧ g < w3.heap.size) := own3.lt
      have hpw : w.heap.size + 1 ≤ w3.heap.size := by omega
      clear own3
      go_wp2_with (at_builtin; refine wpList_append_own _ rfl (.tmp 17) (.tmp 19) 36 rfl (w.heap.size + 1) 45 i0 (cd 0 0) 2 16 Tryd.underlying36 hi hz0 hz1 hz2 rfl (by decide) u4 pre.length (fl pre) rfl own5 ⟨w3.heap.size + 1, 0, none⟩ 1 1 [.int .u8 (L : Int), .int .u64 (I : Int)] rfl rfl HNew.out (by simp [Value.oneCell']) (by unfold maxLen; omega) (by omega) (by simp; omega) ?_; intro v' w5 hown' hgrow _; obtain ⟨va, vc, rfl⟩ := ownsRow_form hown'; have m0 : w5.heap[w.heap.size]? = some (.cells #[.int .u64 (p : Int), .int .u64 (e : Int)] 33) := (hgrow.block _ (by simp; omega) (fun q => by have := (HG.out _ q.symm).1; omega)).trans (by (repeat first | with_reducible exact k0 | with_reducible exact heap_new _ _ | with_reducible exact heap_next _ _ _ | with_reducible exact heap_third _ _ _ _ | with_reducible refine hp_dr ?_ | (with_reducible refine hp_ne ?_ ?_; focus omega) | (with_reducible refine hp_al ?_ ?_; focus (first | omega | (simp <;> omega))) | with_reducible apply hp_set) <;> rfl); have m1 : w5.heap[w3.heap.size]? = some (.cells #[.int .u8 (L : Int), .int .u64 (I : Int)] 45) := (hgrow.block _ (by simp; omega) (fun q => by have := (HG.out _ q.symm).2; omega)).trans (by (repeat first | with_reducible exact k0 | with_reducible exact heap_new _ _ | with_reducible exact heap_next _ _ _ | with_reducible exact heap_third _ _ _ _ | with_reducible refine hp_dr ?_ | (with_reducible refine hp_ne ?_ ?_; focus omega) | (with_reducible refine hp_al ?_ ?_; focus (first | omega | (simp <;> omega))) | with_reducible apply hp_set) <;> rfl); have n6 : Nw w w5 := ((n4.alloc _).alloc _).grown hgrow (fun k q hk => by have := (HG.out _ q).1; omega); have hs5 := hgrow.size; have c0' := cell2a m0; have c1' := cell2b m0; have f0' := frozen_of m0 0; have d0' := cell2a m1; clear hgrow)
      have HO : Hid (w5.ownsRow (w.heap.size + 1) 45 2 (.slice va (pre.length + 1) vc) (pre.length + 1) (fl pre ++ [.int .u8 (L : Int), .int .u64 (I : Int)])) := hown'
      have e1 : IntKind.u64.wrap ((p : Int) + IntKind.u64.wrap (2 ^ L)) = ((p + 2 ^ L : Nat) : Int) := by rw [w64, w64, ← pow_cast]; omega
      rw [e1]
      refine ⟨⟨p + 2 ^ L, pre ++ [(L, I)], ?_, hfit, by (repeat first | with_reducible exact m0 | with_reducible exact heap_new _ _ | with_reducible exact heap_next _ _ _ | with_reducible exact heap_third _ _ _ _ | with_reducible refine hp_dr ?_ | (with_reducible refine hp_ne ?_ ?_; focus omega) | (with_reducible refine hp_al ?_ ?_; focus (first | omega | (simp <;> omega))) | with_reducible apply hp_set) <;> rfl, ?_, (by repeat first | with_reducible exact n6 | with_reducible refine Fr.alloc ?_ _ | with_reducible refine Fr.drew ?_ | (with_reducible refine Fr.setCell ?_ _ _ (fun h => ?_); rotate_left; focus (simp only at h; omega)))⟩, ?_⟩
      · rw [HC.out, HS.out, ← HI.out, List.append_assoc]; rfl
      · rw [List.length_append, fl_app]
        exact ownsRow_setCell_other HO.out (fun q => by have := (HO.out.lt _ q).1; simp only at this; omega) _
      · rw [HB.out, bgn_of (x := p + 2 ^ L) (y := .int .u64 (e : Int)) (t := 33) (f := (0, 0)) (by (repeat first | with_reducible exact m0 | with_reducible exact heap_new _ _ | with_reducible exact heap_next _ _ _ | with_reducible exact heap_third _ _ _ _ | with_reducible refine hp_dr ?_ | (with_reducible refine hp_ne ?_ ?_; focus omega) | (with_reducible refine hp_al ?_ ?_; focus (first | omega | (simp <;> omega))) | with_reducible apply hp_set) <;> rfl)]
        omega
    · have hpq : p = e := by omega
      have HP : Hid (cov b e = pre) := by
        have h1 := HC.out
        rw [cov_nil (a := p) (c := e) (by omega), List.append_nil] at h1
        exact h1
      clear hpq
      have hi1 : ¬ (p : Int) < (e : Int) := by omega
      go_wp2
      refine bodyPost_ret (v := .tuple #[u4, .nilIface]) (by simp [results, Tryd.results25]) rfl ⟨u4, rfl, ?_, hnw⟩
      rw [HP.out]
      exact ownsRow_base hown (by omega)
end Go.Proofs.YtigbjpphmbmbiabDoor
