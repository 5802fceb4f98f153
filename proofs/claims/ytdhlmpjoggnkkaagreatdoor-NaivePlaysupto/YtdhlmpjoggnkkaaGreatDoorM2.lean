/- A step with a log and what is meant by it, every kind. -/
import Derived.Test.YtdhlmpjoggnkkaaGreatDoorJ3
import Derived.Test.YtdhlmpjoggnkkaaGreatDoorD6
namespace Go.Proofs.YtdhlmpjoggnkkaaGreatDoor
open Go.RowKit
set_option linter.unusedVariables false
set_option linter.unusedSimpArgs false

def fe (c : Nat) : Value := if c = 0 then flt 0 0 else flt (c : Int) (-1)
theorem own_nil (w : World) (b : Nat) : w.ownsRow b 56 32 (.slice none 0 0) ([] : List (List UInt8)).length (hsc []) := World.ownsRow_nil w _ _ _
theorem Rowed.of {w w' : World} {L : List ByteArray} {T : List (Nat × Nat)} {e : Ending} (h : Rowed w w' L T e) : ∃ u, e = .returned (.tuple #[u, .nilIface]) ∧ w'.ownsRow w.heap.size 56 32 u (T.map (hst L)).length (hsc (T.map (hst L))) ∧ Nw w w' := by
  obtain ⟨u, h1, h2, h3⟩ := h
  exact ⟨u, h1, by rw [List.length_map]; exact h2, h3⟩
theorem Errd.of {w w' : World} {x : Addr} {e : Ending} (h : Errd w w' x e) : ∃ u, e = .returned (.tuple #[u, sen x]) ∧ w'.ownsRow w.heap.size 56 32 u ([] : List (List UInt8)).length (hsc []) ∧ Nw w w' := ⟨_, h.1, own_nil _ _, h.2⟩
/-- No append that goes. -/
def Ask (L : List ByteArray) (s : ByteArray) (kind : Int) : Prop := kind % 7 = 0 → 65536 < s.size ∨ 1048576 ≤ L.length
def kd (kind : Int) : Nat := (kind % 7).toNat
theorem kd_cases (kind : Int) : kind % 7 = 0 ∨ kind % 7 = 1 ∨ kind % 7 = 2 ∨ kind % 7 = 3 ∨ kind % 7 = 4 ∨ kind % 7 = 5 ∨ kind % 7 = 6 := by omega
theorem kd_of {kind : Int} {n : Nat} (h : kind % 7 = n) : kd kind = n := by unfold kd; rw [h]; rfl

theorem step_ask {w : World} {b base : Nat} {v : Value} {L : List ByteArray} (h : Lg w b base v L) (who kind : Int) (s : ByteArray) (x y z : Nat) (hk1 : -9223372036854775808 ≤ kind) (hk2 : kind ≤ 9223372036854775807) (hx : x < 18446744073709551616) (hy : y < 18446744073709551616) (hz : z < 18446744073709551616) (hs : s.size < 9223372036854775807) (ha : Ask L s kind) (hL : Laid w) {B : Nat} {a : Nat → Addr} (hS : Sent B w a) :
    Calls Tryz.prog 10 #[.pointer (some ⟨b, 0, none⟩), .agg (opc who kind s x y z)] w fun e w' => ∃ u, e = .returned (.tuple #[.agg (tcs ((anw L s x y z (kd kind)).n : Int) (anw L s x y z (kd kind)).s (anw L s x y z (kd kind)).h u), ec a (anw L s x y z (kd kind)).c]) ∧ w'.ownsRow w.heap.size 56 32 u (anw L s x y z (kd kind)).l.length (hsc (anw L s x y z (kd kind)).l) ∧ Nw w w' := by
  rcases kd_cases kind with hk | hk | hk | hk | hk | hk | hk
  · have hl := ha hk
    rw [kd_of (n := 0) hk]
    refine (step_0 _ (sen (a 3)) 0 who kind s x y z hk1 hk2 hk (fun W hW => append_lim (h.nw hW) s hs hl (hS.fr hW (fun _ _ f => f)))).mono ?_
    rintro e w' ⟨rfl, n⟩
    exact ⟨.slice none 0 0, by simp [anw, hl, ec], by simp only [anw, hl, if_true]; exact own_nil _ _, n⟩
  · rw [kd_of (n := 1) hk]
    by_cases hc : x < L.length
    · refine (step_1 _ .nilIface (L.getD x ⟨#[]⟩) who kind s x y z hk1 hk2 hk (fun W hW => leaf_yes (h.nw hW) x _ (by rw [List.getD_eq_getElem?_getD, List.getElem?_eq_getElem hc]; rfl))).mono ?_
      rintro e w' ⟨rfl, n⟩
      exact ⟨.slice none 0 0, by simp [anw, hc, ec], own_nil _ _, n⟩
    · refine (step_1 _ (sen (a 4)) ⟨#[]⟩ who kind s x y z hk1 hk2 hk (fun W hW => leaf_rng (h.nw hW) x (by omega) hx (hS.fr hW (fun _ _ f => f)))).mono ?_
      rintro e w' ⟨rfl, n⟩
      exact ⟨.slice none 0 0, by simp [anw, hc, ec, List.getElem?_eq_none (Nat.le_of_not_lt hc)], own_nil _ _, n⟩
  · rw [kd_of (n := 2) hk]
    by_cases hc : x ≤ y ∧ y ≤ L.length
    · refine (step_2 _ .nilIface (mth (sbl L x y)) (mth_len _) who kind s x y z hk1 hk2 hk (fun W hW => by have q := Tree_any (h.nw hW) x y hx hy (hL.nw hW) (hS.fr hW (fun _ _ f => f)); unfold treeA at q; rw [if_pos hc] at q; exact q)).mono ?_
      rintro e w' ⟨rfl, n⟩
      exact ⟨.slice none 0 0, by simp [anw, hc, ec], own_nil _ _, n⟩
    · refine (step_2 _ (sen (a 4)) zh zh32 who kind s x y z hk1 hk2 hk (fun W hW => by have q := Tree_any (h.nw hW) x y hx hy (hL.nw hW) (hS.fr hW (fun _ _ f => f)); unfold treeA at q; rw [if_neg hc] at q; exact q)).mono ?_
      rintro e w' ⟨rfl, n⟩
      exact ⟨.slice none 0 0, by simp only [anw, if_neg hc, ec]; rfl, own_nil _ _, n⟩
  · rw [kd_of (n := 3) hk]
    by_cases hc : 0 ≤ x ∧ x ≤ L.length
    · refine (step_3 _ .nilIface (mth (sbl L 0 x)) (mth_len _) who kind s x y z hk1 hk2 hk (fun W hW => by have q := Root_any (h.nw hW) x hx (hL.nw hW) (hS.fr hW (fun _ _ f => f)); unfold treeA at q; rw [if_pos hc] at q; exact q)).mono ?_
      rintro e w' ⟨rfl, n⟩
      exact ⟨.slice none 0 0, by simp only [anw, if_pos hc, ec]; rfl, own_nil _ _, n⟩
    · refine (step_3 _ (sen (a 4)) zh zh32 who kind s x y z hk1 hk2 hk (fun W hW => by have q := Root_any (h.nw hW) x hx (hL.nw hW) (hS.fr hW (fun _ _ f => f)); unfold treeA at q; rw [if_neg hc] at q; exact q)).mono ?_
      rintro e w' ⟨rfl, n⟩
      exact ⟨.slice none 0 0, by simp only [anw, if_neg hc, ec]; rfl, own_nil _ _, n⟩
  · rw [kd_of (n := 4) hk]
    by_cases hc : (x < y) ∧ y ≤ L.length
    · refine (step_4 _ .nilIface ((TP L x y).map (hst L)) who kind s x y z hk1 hk2 hk (fun W hW => by have q := Path_any (h.nw hW) x y hx hy (hL.nw hW) (hS.fr hW (fun _ _ f => f)); exact q.mono (fun e w' h => by rw [if_pos hc] at h; rw [show TP L x y = pth x 0 y by simp [TP, hc]]; exact h.of))).mono ?_
      rintro e w' ⟨u, rfl, o, n⟩
      exact ⟨u, by simp only [anw, if_pos hc, ec]; rfl, o, n⟩
    · refine (step_4 _ (sen (a 4)) [] who kind s x y z hk1 hk2 hk (fun W hW => by have q := Path_any (h.nw hW) x y hx hy (hL.nw hW) (hS.fr hW (fun _ _ f => f)); exact q.mono (fun e w' h => by rw [if_neg hc] at h; exact h.of))).mono ?_
      rintro e w' ⟨u, rfl, o, n⟩
      exact ⟨u, by simp only [anw, if_neg hc, ec]; rfl, by simp only [anw]; rw [show TP L x y = [] by simp only [TP]; exact if_neg hc]; exact o, n⟩
  · rw [kd_of (n := 5) hk]
    by_cases hc : (0 < x ∧ x ≤ y) ∧ y ≤ L.length
    · refine (step_5 _ .nilIface ((TR L x y).map (hst L)) who kind s x y z hk1 hk2 hk (fun W hW => by have q := Proof_any (h.nw hW) x y hx hy (hL.nw hW) (hS.fr hW (fun _ _ f => f)); exact q.mono (fun e w' h => by rw [if_pos hc] at h; rw [show TR L x y = prf x 0 y true by simp [TR, hc]]; exact h.of))).mono ?_
      rintro e w' ⟨u, rfl, o, n⟩
      exact ⟨u, by simp only [anw, if_pos hc, ec]; rfl, o, n⟩
    · refine (step_5 _ (sen (a 4)) [] who kind s x y z hk1 hk2 hk (fun W hW => by have q := Proof_any (h.nw hW) x y hx hy (hL.nw hW) (hS.fr hW (fun _ _ f => f)); exact q.mono (fun e w' h => by rw [if_neg hc] at h; exact h.of))).mono ?_
      rintro e w' ⟨u, rfl, o, n⟩
      exact ⟨u, by simp only [anw, if_neg hc, ec]; rfl, by simp only [anw]; rw [show TR L x y = [] by simp only [TR]; exact if_neg hc]; exact o, n⟩
  · rw [kd_of (n := 6) hk]
    by_cases hc : (x < y ∧ y ≤ z) ∧ z ≤ L.length
    · refine (step_6 _ .nilIface ((TB L x y z).map (hst L)) who kind s x y z hk1 hk2 hk (fun W hW => by have q := Batch_any (h.nw hW) x y z hx hy hz (hL.nw hW) (hS.fr hW (fun _ _ f => f)); exact q.mono (fun e w' h => by rw [if_pos hc] at h; rw [show TB L x y z = bat x y 0 z by simp [TB, hc]]; exact h.of))).mono ?_
      rintro e w' ⟨u, rfl, o, n⟩
      exact ⟨u, by simp only [anw, if_pos hc, ec]; rfl, o, n⟩
    · refine (step_6 _ (sen (a 4)) [] who kind s x y z hk1 hk2 hk (fun W hW => by have q := Batch_any (h.nw hW) x y z hx hy hz (hL.nw hW) (hS.fr hW (fun _ _ f => f)); exact q.mono (fun e w' h => by rw [if_neg hc] at h; exact h.of))).mono ?_
      rintro e w' ⟨u, rfl, o, n⟩
      exact ⟨u, by simp only [anw, if_neg hc, ec]; rfl, by simp only [anw]; rw [show TB L x y z = [] by simp only [TB]; exact if_neg hc]; exact o, n⟩
theorem step_no {w : World} {p : Value} (h : NoL w p) (who kind : Int) (s : ByteArray) (x y z : Nat) (hk1 : -9223372036854775808 ≤ kind) (hk2 : kind ≤ 9223372036854775807) {B : Nat} {a : Nat → Addr} (hS : Sent B w a) :
    Calls Tryz.prog 10 #[p, .agg (opc who kind s x y z)] w fun e w' => ∃ u, e = .returned (.tuple #[.agg (tcs (0 : Nat) ⟨#[]⟩ zh u), sen (a 0)]) ∧ w'.ownsRow w.heap.size 56 32 u ([] : List (List UInt8)).length (hsc []) ∧ Nw w w' := by
  rcases kd_cases kind with hk | hk | hk | hk | hk | hk | hk
  · refine (step_0 p (sen (a 0)) 0 who kind s x y z hk1 hk2 hk (fun W hW => append_no (h.nw hW) s (hS.fr hW (fun _ _ f => f)))).mono ?_
    rintro e w' ⟨rfl, n⟩
    exact ⟨_, rfl, own_nil _ _, n⟩
  · refine (step_1 p (sen (a 0)) ⟨#[]⟩ who kind s x y z hk1 hk2 hk (fun W hW => leaf_no (h.nw hW) x (hS.fr hW (fun _ _ f => f)))).mono ?_
    rintro e w' ⟨rfl, n⟩
    exact ⟨_, rfl, own_nil _ _, n⟩
  · refine (step_2 p (sen (a 0)) zh zh32 who kind s x y z hk1 hk2 hk (fun W hW => Tree_no (h.nw hW) x y (hS.fr hW (fun _ _ f => f)))).mono ?_
    rintro e w' ⟨rfl, n⟩
    exact ⟨_, rfl, own_nil _ _, n⟩
  · refine (step_3 p (sen (a 0)) zh zh32 who kind s x y z hk1 hk2 hk (fun W hW => Root_no (h.nw hW) x (hS.fr hW (fun _ _ f => f)))).mono ?_
    rintro e w' ⟨rfl, n⟩
    exact ⟨_, rfl, own_nil _ _, n⟩
  · refine (step_4 p (sen (a 0)) [] who kind s x y z hk1 hk2 hk (fun W hW => (Path_no (h.nw hW) x y (hS.fr hW (fun _ _ f => f))).mono (fun e w' h => h.of))).mono ?_
    rintro e w' ⟨u, rfl, o, n⟩
    exact ⟨_, rfl, o, n⟩
  · refine (step_5 p (sen (a 0)) [] who kind s x y z hk1 hk2 hk (fun W hW => (Proof_no (h.nw hW) x y (hS.fr hW (fun _ _ f => f))).mono (fun e w' h => h.of))).mono ?_
    rintro e w' ⟨u, rfl, o, n⟩
    exact ⟨_, rfl, o, n⟩
  · refine (step_6 p (sen (a 0)) [] who kind s x y z hk1 hk2 hk (fun W hW => (Batch_no (h.nw hW) x y z (hS.fr hW (fun _ _ f => f))).mono (fun e w' h => h.of))).mono ?_
    rintro e w' ⟨u, rfl, o, n⟩
    exact ⟨_, rfl, o, n⟩
/-- An append that goes. -/
theorem step_put {w : World} {b base : Nat} {v : Value} {L : List ByteArray} (h : Lg w b base v L) (who kind : Int) (s : ByteArray) (x y z : Nat) (hk1 : -9223372036854775808 ≤ kind) (hk2 : kind ≤ 9223372036854775807) (hk : kind % 7 = 0) (hs : s.size ≤ 65536) (hl : L.length < 1048576) :
    Calls Tryz.prog 10 #[.pointer (some ⟨b, 0, none⟩), .agg (opc who kind s x y z)] w fun e w' => e = .returned (.tuple #[.agg (tcs (L.length : Int) ⟨#[]⟩ zh (.slice none 0 0)), .nilIface]) ∧ (∃ v', Lg w' b base v' (L ++ [s]) ∧ Stays w v v') ∧ Fr (fun k => k = b ∨ v.ownBlock = some k) w w' := by
  have hbl := heap_lt h.blk
  have hvl : ∀ g, v.ownBlock = some g → g < w.heap.size := fun g hg => (h.own.lt g hg).2
  refine (step_app _ .nilIface L.length (fun k => k = b ∨ v.ownBlock = some k) (fun W w' => ∃ v', Lg w' b base v' (L ++ [s]) ∧ Stays W v v') (fun k q => by rcases q with rfl | q; exact hbl; exact hvl k q) ?_ who kind s x y z hk1 hk2 hk ?_).mono ?_
  · rintro W A B hW ⟨v', g1, g2⟩ T hf h1 h2
    refine ⟨v', g1.fr hf (fun q => by have := h1 _ q; omega) (fun g hg q => ?_), g2⟩
    rcases g2 with e | ⟨g', hg', hl'⟩
    · have := hvl g (by rw [← e]; exact hg)
      have := h1 _ q
      omega
    · rw [hg'] at hg; injection hg with hg
      have := h2 _ q
      omega
  · intro W hW
    refine (append_yes (h.nw hW) s hs hl).mono ?_
    rintro e w' ⟨rfl, v', g1, g2, g3⟩
    exact ⟨rfl, ⟨v', g1, g2⟩, g3⟩
  · rintro e w' ⟨rfl, ⟨W, nW, v', g1, g2⟩, g3⟩
    exact ⟨rfl, ⟨v', g1, g2.mono nW.size⟩, g3⟩
theorem meant_ask {w : World} {b base : Nat} {v : Value} {L : List ByteArray} (h : Dg w b base v L) (who kind : Int) (s : ByteArray) (x y z : Nat) (hk1 : -9223372036854775808 ≤ kind) (hk2 : kind ≤ 9223372036854775807) (hx : x < 18446744073709551616) (hy : y < 18446744073709551616) (hz : z < 18446744073709551616) (hs : s.size < 9223372036854775807) (ha : Ask L s kind) :
    Calls Tryz.prog 8 #[.pointer (some ⟨b, 0, none⟩), .agg (opc who kind s x y z)] w fun e w' => ∃ u, e = .returned (.tuple #[.agg (tcs ((anw L s x y z (kd kind)).n : Int) (anw L s x y z (kd kind)).s (anw L s x y z (kd kind)).h u), fe (anw L s x y z (kd kind)).c]) ∧ w'.ownsRow w.heap.size 56 32 u (anw L s x y z (kd kind)).l.length (hsc (anw L s x y z (kd kind)).l) ∧ Nw w w' := by
  rcases kd_cases kind with hk | hk | hk | hk | hk | hk | hk
  · have hl := ha hk
    rw [kd_of (n := 0) hk]
    refine (meant_0 _ 4 (-1) 0 who kind s x y z hk1 hk2 hk (fun W hW => dappend_lim (h.nw hW) s hs hl)).mono ?_
    rintro e w' ⟨rfl, n⟩
    exact ⟨.slice none 0 0, by simp [anw, hl, fe], by simp only [anw, hl, if_true]; exact own_nil _ _, n⟩
  · rw [kd_of (n := 1) hk]
    by_cases hc : x < L.length
    · refine (meant_1 _ 0 0 (L.getD x ⟨#[]⟩) who kind s x y z hk1 hk2 hk (fun W hW => by have q := dleaf_any (h.nw hW) x hx; simp only [if_pos hc] at q; exact q)).mono ?_
      rintro e w' ⟨rfl, n⟩
      exact ⟨.slice none 0 0, by simp only [anw, if_pos hc, fe]; rfl, own_nil _ _, n⟩
    · refine (meant_1 _ 5 (-1) (L.getD x ⟨#[]⟩) who kind s x y z hk1 hk2 hk (fun W hW => by have q := dleaf_any (h.nw hW) x hx; simp only [if_neg hc] at q; exact q)).mono ?_
      rintro e w' ⟨rfl, n⟩
      exact ⟨.slice none 0 0, by simp only [anw, if_neg hc, fe]; rfl, own_nil _ _, n⟩
  · rw [kd_of (n := 2) hk]
    by_cases hc : x ≤ y ∧ y ≤ L.length
    · refine (meant_2 _ 0 0 (mth (sbl L x y)) (mth_len _) who kind s x y z hk1 hk2 hk (fun W hW => by have q := dtree_any (h.nw hW) x y hx hy; unfold dtreeA at q; simp only [if_pos hc] at q; exact q)).mono ?_
      rintro e w' ⟨rfl, n⟩
      exact ⟨.slice none 0 0, by simp only [anw, if_pos hc, fe]; rfl, own_nil _ _, n⟩
    · refine (meant_2 _ 5 (-1) zh zh32 who kind s x y z hk1 hk2 hk (fun W hW => by have q := dtree_any (h.nw hW) x y hx hy; unfold dtreeA at q; simp only [if_neg hc] at q; exact q)).mono ?_
      rintro e w' ⟨rfl, n⟩
      exact ⟨.slice none 0 0, by simp only [anw, if_neg hc, fe]; rfl, own_nil _ _, n⟩
  · rw [kd_of (n := 3) hk]
    by_cases hc : 0 ≤ x ∧ x ≤ L.length
    · refine (meant_3 _ 0 0 (mth (sbl L 0 x)) (mth_len _) who kind s x y z hk1 hk2 hk (fun W hW => by have q := droot_any (h.nw hW) x hx; unfold dtreeA at q; simp only [if_pos hc] at q; exact q)).mono ?_
      rintro e w' ⟨rfl, n⟩
      exact ⟨.slice none 0 0, by simp only [anw, if_pos hc, fe]; rfl, own_nil _ _, n⟩
    · refine (meant_3 _ 5 (-1) zh zh32 who kind s x y z hk1 hk2 hk (fun W hW => by have q := droot_any (h.nw hW) x hx; unfold dtreeA at q; simp only [if_neg hc] at q; exact q)).mono ?_
      rintro e w' ⟨rfl, n⟩
      exact ⟨.slice none 0 0, by simp only [anw, if_neg hc, fe]; rfl, own_nil _ _, n⟩
  · rw [kd_of (n := 4) hk]
    by_cases hc : (x < y) ∧ y ≤ L.length
    · refine (meant_4 _ 0 0 ((TP L x y).map (hst L)) who kind s x y z hk1 hk2 hk (fun W hW => by have q := dPath_any (h.nw hW) x y hx hy; simp only [if_pos hc] at q; exact q)).mono ?_
      rintro e w' ⟨u, rfl, o, n⟩
      exact ⟨u, by simp only [anw, if_pos hc, fe]; rfl, o, n⟩
    · refine (meant_4 _ 5 (-1) ((TP L x y).map (hst L)) who kind s x y z hk1 hk2 hk (fun W hW => by have q := dPath_any (h.nw hW) x y hx hy; simp only [if_neg hc] at q; exact q)).mono ?_
      rintro e w' ⟨u, rfl, o, n⟩
      exact ⟨u, by simp only [anw, if_neg hc, fe]; rfl, o, n⟩
  · rw [kd_of (n := 5) hk]
    by_cases hc : (0 < x ∧ x ≤ y) ∧ y ≤ L.length
    · refine (meant_5 _ 0 0 ((TR L x y).map (hst L)) who kind s x y z hk1 hk2 hk (fun W hW => by have q := dProof_any (h.nw hW) x y hx hy; simp only [if_pos hc] at q; exact q)).mono ?_
      rintro e w' ⟨u, rfl, o, n⟩
      exact ⟨u, by simp only [anw, if_pos hc, fe]; rfl, o, n⟩
    · refine (meant_5 _ 5 (-1) ((TR L x y).map (hst L)) who kind s x y z hk1 hk2 hk (fun W hW => by have q := dProof_any (h.nw hW) x y hx hy; simp only [if_neg hc] at q; exact q)).mono ?_
      rintro e w' ⟨u, rfl, o, n⟩
      exact ⟨u, by simp only [anw, if_neg hc, fe]; rfl, o, n⟩
  · rw [kd_of (n := 6) hk]
    by_cases hc : (x < y ∧ y ≤ z) ∧ z ≤ L.length
    · refine (meant_6 _ 0 0 ((TB L x y z).map (hst L)) who kind s x y z hk1 hk2 hk (fun W hW => by have q := dBatch_any (h.nw hW) x y z hx hy hz; simp only [if_pos hc] at q; exact q)).mono ?_
      rintro e w' ⟨u, rfl, o, n⟩
      exact ⟨u, by simp only [anw, if_pos hc, fe]; rfl, o, n⟩
    · refine (meant_6 _ 5 (-1) ((TB L x y z).map (hst L)) who kind s x y z hk1 hk2 hk (fun W hW => by have q := dBatch_any (h.nw hW) x y z hx hy hz; simp only [if_neg hc] at q; exact q)).mono ?_
      rintro e w' ⟨u, rfl, o, n⟩
      exact ⟨u, by simp only [anw, if_neg hc, fe]; rfl, o, n⟩
theorem meant_put {w : World} {b base : Nat} {v : Value} {L : List ByteArray} (h : Dg w b base v L) (who kind : Int) (s : ByteArray) (x y z : Nat) (hk1 : -9223372036854775808 ≤ kind) (hk2 : kind ≤ 9223372036854775807) (hk : kind % 7 = 0) (hs : s.size ≤ 65536) (hl : L.length < 1048576) :
    Calls Tryz.prog 8 #[.pointer (some ⟨b, 0, none⟩), .agg (opc who kind s x y z)] w fun e w' => e = .returned (.tuple #[.agg (tcs (L.length : Int) ⟨#[]⟩ zh (.slice none 0 0)), flt 0 0]) ∧ (∃ v', Dg w' b base v' (L ++ [s]) ∧ Stays w v v') ∧ Fr (fun k => k = b ∨ v.ownBlock = some k) w w' := by
  have hbl := heap_lt h.blk
  have hvl : ∀ g, v.ownBlock = some g → g < w.heap.size := fun g hg => (h.own.lt g hg).2
  refine (meant_app _ 0 0 L.length (fun k => k = b ∨ v.ownBlock = some k) (fun W w' => ∃ v', Dg w' b base v' (L ++ [s]) ∧ Stays W v v') (fun k q => by rcases q with rfl | q; exact hbl; exact hvl k q) ?_ who kind s x y z hk1 hk2 hk ?_).mono ?_
  · rintro W A B hW ⟨v', g1, g2⟩ T hf h1 h2
    refine ⟨v', g1.fr hf (fun q => by have := h1 _ q; omega) (fun g hg q => ?_), g2⟩
    rcases g2 with e | ⟨g', hg', hl'⟩
    · have := hvl g (by rw [← e]; exact hg)
      have := h1 _ q
      omega
    · rw [hg'] at hg; injection hg with hg
      have := h2 _ q
      omega
  · intro W hW
    refine (dappend_yes (h.nw hW) s hs hl).mono ?_
    rintro e w' ⟨rfl, v', g1, g2, g3⟩
    exact ⟨rfl, ⟨v', g1, g2⟩, g3⟩
  · rintro e w' ⟨rfl, ⟨W, nW, v', g1, g2⟩, g3⟩
    exact ⟨rfl, ⟨v', g1, g2.mono nW.size⟩, g3⟩
end Go.Proofs.YtdhlmpjoggnkkaaGreatDoor
