/- emit: Add beyond the last leaf; Load, what it refuses. -/
import Derived.Test.YtkjonddlmiedcaaDoorY6
import Derived.Test.YtkjonddlmiedcaaDoorPo
namespace Go.Proofs.YtkjonddlmiedcaaDoor
open Go.RowKit Go.Shelf
set_option linter.unusedVariables false
set_option linter.unusedSimpArgs false
set_option maxRecDepth 100000 in
set_option maxHeartbeats 1000000 in
/-- No leaf is added behind the last that may be. -/
theorem eadd_limit {w : World} {b base : Nat} {v : Value} {n : Nat} {L : List (List UInt8)} (h : Bd w b base v n L) (hn : 9223372036854775808 ≤ n) (x : List UInt8) {B : Nat} {a : Nat → Addr} (hS : Sent B w a) :
    Calls Tryd.prog 6 #[.pointer (some ⟨b, 0, none⟩), .agg (hbs x)] w fun e w' => e = .returned (.tuple #[.slice none 0 0, sen (a 3)]) ∧ Nw w w' := by
  have n0 : Nw w (w.alloc (.cells (hbs x) 32)) := nwa w _
  have h0 := h.nw n0
  have q := ethere_any b true _ _ _ h0.blk
  have e1 := n0.cellOf hS.c3
  have c1 := h0.cs.2.1
  have lb := heap_lt h0.blk
  have hni : (9223372036854775808 : Int) ≤ (n : Int) := by omega
  have hnd : decide ((9223372036854775808 : Int) ≤ (n : Int)) = true := by rw [decide_eq_true_iff]; exact hni
  clear h h0 hS hn
  go_enter Tryd.func6, Tryd.ntmps6
  go_wp2_with fail
  refine q.mono ?_
  rintro e w1 ⟨rfl, h1⟩
  have N1 : Hid (Nw w w1) := by show Nw _ _; rw [h1]; exact n0
  rw [← h1] at e1 c1 lb
  clear h1 n0 q
  go_wp2_with fail
  go_quiet (fail)
  go_wp2
  refine bodyPost_ret (v := .tuple #[.slice none 0 0, sen (a 3)]) (by simp [results, Tryd.results6]) rfl ⟨rfl, N1.out.drewN nq⟩
set_option maxRecDepth 100000 in
set_option maxHeartbeats 1000000 in
/-- More leaves than may be are not loaded. -/
theorem eload_range {w : World} (n : Nat) (hn : 9223372036854775808 < n) (v : Value) {B : Nat} {a : Nat → Addr} (hS : Sent B w a) :
    Calls Tryd.prog 18 #[.int .u64 (n : Int), v] w fun e w' => e = .returned (.tuple #[.pointer none, sen (a 4)]) ∧ Nw w w' := by
  have e1 := hS.c4
  have hni : (9223372036854775808 : Int) < (n : Int) := by omega
  have hnd : decide ((9223372036854775808 : Int) < (n : Int)) = true := by rw [decide_eq_true_iff]; exact hni
  have N1 : Hid (Nw w w) := nwr w
  clear hS hn
  go_enter Tryd.func18, Tryd.ntmps18
  go_wp2_with fail
  go_quiet (fail)
  go_wp2
  refine bodyPost_ret (v := .tuple #[.pointer none, sen (a 4)]) (by simp [results, Tryd.results18]) rfl ⟨rfl, N1.out.drewN nq⟩
set_option maxRecDepth 100000 in
set_option maxHeartbeats 1000000 in
/-- Hashes too many or too few are not loaded. -/
theorem eload_arg {w : World} (n : Nat) (hn : n ≤ 9223372036854775808) (va : Option Addr) (m vc : Nat) (hm : m ≠ Lib.popAux 64 n) {B : Nat} {a : Nat → Addr} (hS : Sent B w a) :
    Calls Tryd.prog 18 #[.int .u64 (n : Int), .slice va m vc] w fun e w' => e = .returned (.tuple #[.pointer none, sen (a 1)]) ∧ Nw w w' := by
  have e1 := hS.c1
  have hni : ¬ (9223372036854775808 : Int) < (n : Int) := by omega
  have hnd : decide ((9223372036854775808 : Int) < (n : Int)) = false := by rw [decide_eq_false_iff_not]; exact hni
  obtain ⟨c, hc⟩ : ∃ c, c = Lib.popAux 64 n := ⟨_, rfl⟩
  have q := oc_any (n : Int) w (by omega) (by omega)
  rw [Int.toNat_natCast, ← hc] at q
  rw [← hc] at hm
  have hmc : ¬ ((m : Int) = (c : Int)) := by omega
  have N1 : Hid (Nw w w) := nwr w
  clear hS hn
  go_enter Tryd.func18, Tryd.ntmps18
  go_wp2_with fail
  refine q.mono ?_
  rintro e w1 ⟨rfl, h1⟩
  have N2 : Hid (Nw w w1) := by show Nw _ _; rw [h1]; exact nwr w
  rw [← h1] at e1
  clear h1 q
  go_wp2_with fail
  go_quiet (fail)
  go_wp2
  refine bodyPost_ret (v := .tuple #[.pointer none, sen (a 1)]) (by simp [results, Tryd.results18]) rfl ⟨rfl, N2.out.drewN nq⟩
set_option maxRecDepth 100000 in
set_option maxHeartbeats 1000000 in
/-- A builder of so many leaves, by the hashes of their whole trees. -/
theorem eload_any {w : World} {base0 : Nat} (n : Nat) (hn : n ≤ 9223372036854775808) (v : Value) (L : List (List UInt8)) (ho : w.ownsRow base0 32 32 v L.length (hsc L)) (hok : ∀ t ∈ L, t.length = 32) (hm : L.length = Lib.popAux 64 n) (hL : Laid w) :
    Calls Tryd.prog 18 #[.int .u64 (n : Int), v] w fun e w' => ∃ b v', e = .returned (.tuple #[.pointer (some ⟨b, 0, none⟩), .nilIface]) ∧ w.heap.size ≤ b ∧ Bd w' b w.heap.size v' n L ∧ Nw w w' := by
  have hni : ¬ (9223372036854775808 : Int) < (n : Int) := by omega
  have hnd : decide ((9223372036854775808 : Int) < (n : Int)) = false := by rw [decide_eq_false_iff_not]; exact hni
  have q := oc_any (n : Int) w (by omega) (by omega)
  rw [Int.toNat_natCast, ← hm] at q
  have hl : L.length ≤ 64 := by rw [hm]; exact popAux_le 64 n
  have HL : Hid (20 ≤ w.heap.size) := hL.lt
  have HOK : Hid (∀ t ∈ L, t.length = 32) := hok
  obtain ⟨va, vc, rfl⟩ := ownsRow_form ho
  have qc : ∀ V, Nw w V → Calls Tryd.prog 27 #[.slice va L.length vc] V fun e w' => ∃ v', e = .returned v' ∧ w'.ownsRow V.heap.size 32 32 v' L.length (hsc L) ∧ Nw V w' := fun V nV => by
    have ho' : V.ownsRow base0 32 32 (.slice va L.length vc) L.length (hsc L) := ownsRow_keep ho (fun g hg => nV.block g (ho.lt g hg).2 (fun f => f))
    rcases ho'.2 with ⟨hv, hn⟩ | ⟨g, cap, cur, hv, _⟩
    · rw [hv, hn]
      obtain rfl : L = [] := List.length_eq_zero_iff.1 hn
      refine (hclone_nil V).mono ?_
      rintro e w' ⟨rfl, rfl⟩
      exact ⟨_, rfl, World.ownsRow_nil _ _ _ _, Fr.refl _ _⟩
    · rw [hv] at ho' ⊢
      exact hclone_some ho' rfl HOK.out (by omega)
  have QC : Hid (∀ V, Nw w V → Calls Tryd.prog 27 #[.slice va L.length vc] V fun e w' => ∃ v', e = .returned v' ∧ w'.ownsRow V.heap.size 32 32 v' L.length (hsc L) ∧ Nw V w') := qc
  obtain ⟨m, hmm⟩ : ∃ m, m = L.length := ⟨_, rfl⟩
  have HM : Hid (L.length = m) := hmm.symm
  rw [← hmm] at q QC hl ⊢
  clear ho qc hok hL hn hm hmm
  go_enter Tryd.func18, Tryd.ntmps18
  go_wp2_with fail
  refine q.mono ?_
  rintro e w1 ⟨rfl, h1⟩
  have N2 : Hid (Nw w w1) := by show Nw _ _; rw [h1]; exact nwr w
  have S2 : Hid (w1 = w) := h1
  clear h1 q
  go_wp2_with fail
  refine (QC.out w1 N2.out).mono ?_
  rintro e w2 ⟨v', rfl, o2, n2⟩
  obtain ⟨ya, yc, rfl⟩ := ownsRow_form o2
  have O2 : Hid (w2.ownsRow w1.heap.size 32 32 (.slice ya m yc) m (hsc L)) := o2
  have N3 : Hid (Nw w w2) := N2.out.tr n2
  clear o2 n2
  go_wp2
  refine bodyPost_ret (v := .tuple #[.pointer (some ⟨w2.heap.size, 0, none⟩), .nilIface]) (by simp [results, Tryd.results18]) rfl ?_
  have na := nwa w2 (.cells #[.bool true, .int .u64 (n : Int), .slice ya m yc] 57)
  have s1 := N2.out.size
  have s2 := N3.out.size
  have s3 := na.size
  have s4 := HL.out
  refine ⟨w2.heap.size, _, rfl, s2, ⟨heap_new _ _, ?_, ⟨by simp, Nat.le_trans s2 s3⟩, HOK.out, ⟨by omega, s4⟩, fun g hg => ?_⟩, N3.out.tr na⟩
  · rw [HM.out]
    exact ownsRow_base (ownsRow_keep O2.out (fun g hg => na.block g (O2.out.lt g hg).2 (fun f => f))) s1
  · have := (O2.out.lt g hg).2
    omega
end Go.Proofs.YtkjonddlmiedcaaDoor
