/- What Chain answers. -/
import Derived.Test.YtambfmohhflimabDoorH2
import Derived.BigRegion
namespace Go.Proofs.YtambfmohhflimabDoor
open Go.RowKit
set_option linter.unusedVariables false
set_option linter.unusedSimpArgs false

/-- Two results, the first of them in memory. -/
theorem results_cell_slot {P : Program} {w : World} {fn : Func} {i j : Nat} {t : TypeId} {n g : Nat} {tmps : Array Value} {V : Array Value} {ty : TypeId} {f : Nat × Nat} (hr : fn.results = #[.cell i t, .tmp j]) (hagg : ∀ W : World, (isAgg t).run P W = .ok true W) (hsz : ∀ W : World, (sizeOf t).run P W = .ok n W)
    (hx : tmps.getD i undef = .pointer (some ⟨g, 0, none⟩)) (v : Value) (hj : tmps.getD j undef = v) (hg : w.heap[g]? = some (.cells V ty f)) (hV : V.size = n) : (results fn tmps).run P w = .ok (.tuple #[.agg V, v]) w := by
  have hl : (loadCells ⟨g, 0, none⟩ n).run P w = .ok V w := by
    have := run_loadCells_list (P := P) w ⟨g, 0, none⟩ V.toList (fun j v hv => by
      rw [addZ, cell_of hg]
      simpa using hv)
    simpa [hV] using this
  have ha : ∀ W : World, (asAddr (.pointer (some ⟨g, 0, none⟩))).run P W = .ok ⟨g, 0, none⟩ W := fun W => by simp [asAddr]
  have hx2 : tmps[i]?.getD undef = .pointer (some ⟨g, 0, none⟩) := by rw [← hx]; simp [Array.getD]; split <;> simp_all
  have hj2 : tmps[j]?.getD undef = v := by rw [← hj]; simp [Array.getD]; split <;> simp_all
  simp [results, hr, hx2, hj2, ha, loadVar, hagg, hsz, hl]

/-- A hash, hashed so many times. -/
def chn : Nat → List UInt8 → List UInt8
  | 0, A => A
  | n + 1, A => Sh (2 :: chn n A)
theorem chn_len (n : Nat) (A : List UInt8) (h : A.length = 32) : (chn n A).length = 32 := by
  cases n with
  | zero => exact h
  | succ n => exact Sh_len _
theorem chn_add (m n : Nat) (A : List UInt8) : chn n (chn m A) = chn (m + n) A := by
  induction n with
  | zero => rfl
  | succ n ih => rw [chn, ih]; rfl

set_option maxRecDepth 100000 in
set_option maxHeartbeats 1000000 in
theorem chain_in (A : List UInt8) (hA : A.length = 32) (n : Nat) (hn : n ≤ 255) (w : World) (hL : Laid w) :
    Calls Tryd.prog 6 #[.agg (hbs A), .int .i64 n] w fun e w' => e = .returned (.tuple #[.agg (hbs (chn n A)), .nilIface]) ∧ Nw w w' := by
  have HL : Hid (Laid w) := hL
  clear hL
  obtain ⟨a, ha⟩ : ∃ a, a = hbs A := ⟨_, rfl⟩
  rw [← ha]
  have Ha : Hid (a = hbs A) := ha
  have HA : Hid (A.length = 32) := hA
  have has : a.size = 32 := by rw [ha, hbs_size, hA]
  clear ha hA
  have h1 : ¬ (n : Int) < 0 := by omega
  have h2 : ¬ (n : Int) > 255 := by omega
  go_enter Tryd.func6, Tryd.ntmps6
  go_wp2
  rw [z32_h]
  obtain ⟨w1, hw1⟩ : ∃ w1, w1 = (w.alloc (.cells a 23)).alloc (.cells z32 23) := ⟨_, rfl⟩
  have n1 : Nw w w1 := by rw [hw1]; exact ((Fr.refl _ _).alloc _).alloc _
  have hs1 : w1.heap.size = w.heap.size + 1 + 1 := by rw [hw1]; simp
  have ja : w1.heap[w.heap.size]? = some (.cells a 23) := by rw [hw1]; exact (Below.heap_alloc _ _ _ (by simp)).trans (heap_new w _)
  have jz : w1.heap[w.heap.size + 1]? = some (.cells z32 23) := by rw [hw1]; exact heap_next w _ _
  rw [← hw1]
  clear hw1
  have HS : Hid (w1.heap.size = w.heap.size + 1 + 1) := hs1
  clear hs1
  go_loopw [15] (fun i wr => ∃ k : Nat, k ≤ n ∧ i = .int .i64 k ∧ Nw w wr ∧ wr.heap[w.heap.size]? = some (.cells (hbs (chn k A)) 23) ∧ wr.heap[w.heap.size + 1]? = some (.cells z32 23)) (fun i _ => n - (intOf i).toNat)
  case atStart => exact ⟨0, by omega, rfl, n1, by rw [chn, ← Ha.out]; exact ja, jz⟩
  case round =>
    clear ja jz n1
    obtain ⟨k, hk, rfl, hnw, hh, hz⟩ := hrel
    by_cases hlt : k < n
    · have hki : (k : Int) < (n : Int) := by omega
      have hc := conv_h hh (chn_len k A HA.out)
      have hcl : (2 :: chn k A).length = 33 := by rw [List.length_cons, chn_len k A HA.out]
      go_wp2_with fail
      have hct : cat [⟨#[2]⟩, ⟨(chn k A).toArray⟩] = 2 :: chn k A := by simp [cat]
      have hcl2 : (cat [⟨#[2]⟩, ⟨(chn k A).toArray⟩]).length < 576460752303423488 := by rw [hct, hcl]; decide
      have q3 := sumh_any (some ⟨wr.heap.size, 0, none⟩) 2 [⟨#[2]⟩, ⟨(chn k A).toArray⟩] _ (strs2 wr _ _) (HL.out.nw (hnw.alloc _)) hcl2 (by simp)
      rw [hct] at q3
      refine q3.mono ?_
      rintro e3 w3 ⟨rfl, n3⟩
      have hh3 := (n3.block _ (by have := heap_lt hh; simp; omega) (fun f => f)).trans ((Below.heap_alloc _ _ _ (heap_lt hh)).trans hh)
      have hz3 := (n3.block _ (by have := heap_lt hz; simp; omega) (fun f => f)).trans ((Below.heap_alloc _ _ _ (heap_lt hz)).trans hz)
      have nw3 : Nw w w3 := Nw.tr (hnw.alloc _) n3
      have hpl : (hbs (chn k A)).toList.drop (0 + 32) = [] := by rw [List.drop_eq_nil_iff]; simp [hbs_size, chn_len k A HA.out]
      have hps : (hbs (chn k A)).size = 32 := by rw [hbs_size, chn_len k A HA.out]
      have hRl : (hbs (Sh (2 :: chn k A))).size = 32 := by rw [hbs_size, Sh_len]
      clear q3 n3 hc hcl hcl2 hct hh hz hnw
      go_wp2_with (refine wp_store_agg rfl (.tmp 2) (.tmp 20) 23 32 rfl Tryd.sizeOf23 w.heap.size 0 rfl (hbs (chn k A)) 23 hh3 (hbs (Sh (2 :: chn k A))) rfl hRl (hbs_one _) (by rw [hps]; decide) (hbs (Sh (2 :: chn k A))) (by rw [hpl]; simp) ?_; intro w4 j4 f4 z4)
      refine ⟨⟨k + 1, by omega, by go_num, nw3.trans f4 (fun k hk q => by omega), j4, (f4.block _ (heap_lt hz3) (by omega)).trans hz3⟩, by simp [intOf]; omega⟩
    · obtain rfl : k = n := by omega
      have hRl : (hbs (chn k A)).size = 32 := by rw [hbs_size, chn_len k A HA.out]
      go_wp2_with first
        | (refine wp_load_agg rfl (.tmp 2) 23 32 rfl Tryd.isAgg23 Tryd.sizeOf23 w.heap.size 0 rfl (hbs (chn k A)) 23 (0, 0) hh (hbs (chn k A)) hRl (fun j _ => by rw [Nat.zero_add]) ?_)
        | (refine wp_store_agg rfl (.tmp 4) (.tmp 22) 23 32 rfl Tryd.sizeOf23 (w.heap.size + 1) 0 rfl z32 23 hz (hbs (chn k A)) rfl hRl (hbs_one _) (by decide) (hbs (chn k A)) (by rw [z32_drop]; simp) ?_; intro w4 j4 f4 z4)
      exact bodyPost_ret (results_cell_slot Tryd.results6 Tryd.isAgg23 Tryd.sizeOf23 rfl .nilIface rfl j4 hRl) rfl ⟨rfl, hnw.trans f4 (fun k hk q => by omega)⟩

set_option maxRecDepth 100000 in
set_option maxHeartbeats 1000000 in
theorem chain_out (V : Array Value) (hV : V.size = 32) (n : Int) (hn : n < 0 ∨ 255 < n) (w : World) {B : Nat} {a : Nat → Addr} (hS : Sent B w a) :
    Calls Tryd.prog 6 #[.agg V, .int .i64 n] w fun e w' => e = .returned (.tuple #[.agg (hbs (List.replicate 32 0)), sen (a 1)]) ∧ Nw w w' := by
  have hc := hS.c1
  have hlt := hS.hsz
  have hlB := hS.hB
  clear hS
  rw [← z32_hbs]
  have hcb : decide (n < 0) = true ∨ (decide (n < 0) = false ∧ decide (n > 255) = true) := by
    rcases hn with h | h
    · exact .inl (by simp [h])
    · by_cases h0 : n < 0
      · exact .inl (by simp [h0])
      · exact .inr ⟨by simp [h0], by simp; omega⟩
  rcases hcb with h0 | ⟨h0, h1⟩
  all_goals
    go_enter Tryd.func6, Tryd.ntmps6
    go_wp2
    rw [z32_h]
    obtain ⟨w1, hw1⟩ : ∃ w1, w1 = (w.alloc (.cells V 23)).alloc (.cells z32 23) := ⟨_, rfl⟩
    have n1 : Nw w w1 := by rw [hw1]; exact ((Fr.refl _ _).alloc _).alloc _
    have jz : w1.heap[w.heap.size + 1]? = some (.cells z32 23) := by rw [hw1]; exact heap_next w _ _
    rw [← hw1]
    clear hw1
    have hc1 := n1.cellOf hc
    refine wp_region_held_drew (S := fun W => W.cell? ⟨0, 0, none⟩ = some (sen (a 1))) (by kernel_rfl) (Nw.cellOf (Fr.refl (fun _ => False) w1).drew hc1) ?_
    intro hS0
    refine wpAnyH_take (i := 0) (v := .agg z32) rfl (by kernel_rfl) (by kernel_rfl) (by kernel_rfl) (fun _ _ _ h => h) (Or.inl ⟨by rfl, by intro w _; rw [← z32_h]; go_simp⟩) hS0 ?_
    try simp only [Act.put, List.setIfInBounds_toArray, List.set_cons_zero, List.set_cons_succ]
    refine wpAnyH_take (i := 1) (v := sen (a 1)) rfl (by kernel_rfl) (by kernel_rfl) (by kernel_rfl) (fun _ _ _ h => h) (Or.inl ⟨by rfl, by intro w hw; go_simp⟩) hS0 ?_
    try simp only [Act.put, List.setIfInBounds_toArray, List.set_cons_zero, List.set_cons_succ]
    refine wpAnyH_ready (rs := [2]) (by kernel_rfl) (by simp) ?_
    refine AllReadyH.cons rfl (fun K' hK => ?_) AllReadyH.nil
    refine step_store_agg rfl (.tmp 4) (.tmp 12) 23 32 rfl Tryd.sizeOf23 (w.heap.size + 1) 0 rfl z32 23 jz z32 rfl (by simp [z32]) (by rw [z32_hbs]; exact hbs_one _) (by decide) z32 (by rw [z32_drop]; simp) ?_
    intro w4 j4 f4 z4
    have n4 : Nw w w4 := n1.drew.trans f4 (fun k hk q => by omega)
    refine hK.out _ _ (n4.cellOf hc) (fun hS2 => ?_)
    try simp only [Act.put, List.setIfInBounds_toArray, List.set_cons_zero, List.set_cons_succ]
    refine wpAnyH_ready (rs := [3]) (by kernel_rfl) (by simp) ?_
    refine AllReadyH.cons rfl (fun K' hK => ?_) AllReadyH.nil
    go_simp
    refine hK.out _ _ (n4.cellOf hc) (fun hS3 => ?_)
    refine wpAnyH_done (by kernel_rfl) ?_ _
    go_wp2_with fail
    exact bodyPost_ret (results_cell_slot Tryd.results6 Tryd.isAgg23 Tryd.sizeOf23 rfl (sen (a 1)) rfl j4 (by simp [z32])) rfl ⟨rfl, n4⟩
end Go.Proofs.YtambfmohhflimabDoor
