/- Bytes: compared, and a copy left as it was. -/
import Derived.Test.YtlmneommejdodaaDoorOc
namespace Go.Proofs.YtlmneommejdodaaDoor
open Go.RowKit
set_option linter.unusedVariables false
set_option linter.unusedSimpArgs false

set_option maxRecDepth 100000 in
set_option maxHeartbeats 1000000 in
theorem sameb_any (p q : Option Addr) (c c' : Nat) (L : List UInt8) (w : World) (hp : Bys w p L) (hq : Bys w q L) (hl : L.length ≤ 140737488355328) :
    Calls Tryd.prog 44 #[.slice p L.length c, .slice q L.length c'] w fun e w' => e = .returned (.bool true) ∧ Nw w w' := by
  have HP : Hid (Bys w p L) := hp
  have HQ : Hid (Bys w q L) := hq
  clear hp hq
  obtain ⟨n, hn⟩ : ∃ n, n = L.length := ⟨_, rfl⟩
  rw [← hn] at hl ⊢
  have Hn : Hid (n = L.length) := hn
  clear hn
  go_enter Tryd.func44, Tryd.ntmps44
  go_wp2
  go_loopw [5] (fun i wr => ∃ k : Nat, k ≤ n ∧ i = .int .i64 k ∧ Nw w wr) (fun i _ => n - (intOf i).toNat)
  case atStart => exact ⟨0, by omega, rfl, Fr.refl _ _⟩
  case round =>
    obtain ⟨k, hk, rfl, hnw⟩ := hrel
    by_cases hlt : k < n
    · obtain ⟨g, o, rfl, hc⟩ := HP.out k (by have := Hn.out; omega)
      obtain ⟨g', o', rfl, hc'⟩ := HQ.out k (by have := Hn.out; omega)
      have hd := hnw.cellOf hc
      have hd' := hnw.cellOf hc'
      generalize L.getD k 0 = x at hd hd'
      clear hc hc'
      have hki : (k : Int) < (n : Int) := by omega
      go_wp2
      go_quiet (fail)
      go_wp2
      exact ⟨⟨k + 1, by omega, by go_num, hnw.drewN _⟩, by simp [intOf]; omega⟩
    · have hge : ¬ (k : Int) < (n : Int) := by omega
      go_wp2
      go_ret
      exact ⟨rfl, hnw⟩
theorem isbyte_any (w : World) : Calls Tryd.prog 45 #[.int .u8 128, .int .i64 7777] w fun e w' => e = .returned (.bool true) ∧ w' = w := by
  go_enter Tryd.func45, Tryd.ntmps45
  go_wp2
  go_ret
  exact ⟨rfl, rfl⟩
set_option maxRecDepth 100000 in
set_option maxHeartbeats 1000000 in
theorem leftb_any (g : Nat) (q : Option Addr) (c : Nat) (L : List UInt8) (w : World) (hj : w.heap[g]? = some (.cells (rcs (L ++ [128]) (L.length + 1)) 5 (0, 0))) (hq : Bys w q L) (hl : L.length ≤ 1048576) :
    Calls Tryd.prog 35 #[.slice (some ⟨g, 0, none⟩) L.length (L.length + 1), .slice q L.length c] w fun e w' => e = .returned (.bool true) ∧ Nw w w' := by
  have q1 := sameb_any (some ⟨g, 0, none⟩) q (L.length + 1) c L w (twin_bys hj) hq (by omega)
  have hc : w.cell? ⟨g, L.length, none⟩ = some (.int .u8 128) := by
    rw [cell_of hj, rcs_get _ _ _ (by omega) (by simp), getD_r]
    rfl
  clear hj hq
  obtain ⟨n, hn⟩ : ∃ n, n = L.length := ⟨_, rfl⟩
  rw [← hn] at q1 hc hl ⊢
  clear hn
  have hs : ∀ W : World, (Instr.sliceAt 39 (.slice (some ⟨g, 0, none⟩) n (n + 1)) none (some (.int .i64 ((n : Int) + 1))) none).run Tryd.prog W = .ok (.slice (some ⟨g, 0, none⟩) (n + 1) (n + 1)) W := fun W => by
    have h := slice_h (some ⟨g, 0, none⟩) n (n + 1) (n + 1) (Nat.le_refl _) W
    rw [show ((n + 1 : Nat) : Int) = (n : Int) + 1 by omega] at h
    rw [h]
    simp [pcut, Addr.add]
  have hlt : (n : Int) < (n : Int) + 1 := by omega
  go_enter Tryd.func35, Tryd.ntmps35
  go_wp2_with first
    | (go_at_call 44; refine q1.mono ?_; rintro e1 w1 ⟨rfl, n1⟩; have hc1 := n1.cellOf hc; clear q1 hc)
    | (go_at_call 45; refine (isbyte_any _).mono ?_; rintro e2 w2 ⟨rfl, rfl⟩)
  go_ret
  exact ⟨rfl, n1⟩
end Go.Proofs.YtlmneommejdodaaDoor
