/- What a step answers, in memory; round and same of the law's package. -/
import Derived.Test.YtdhlmpjoggnkkaaGreatDoorD6
import Derived.Test.YtdhlmpjoggnkkaaGreatDoorG2
namespace Go.Proofs.YtdhlmpjoggnkkaaGreatDoor
open Go.RowKit
set_option linter.unusedVariables false
set_option linter.unusedSimpArgs false

set_option maxHeartbeats 1000000 in
theorem round_any (k n : Int) (h1 : -9223372036854775808 ≤ k) (h2 : k ≤ 9223372036854775807) (hn : 0 < n) (hn2 : n ≤ 7) (w : World) : Calls Tryz.prog 6 #[.int .i64 k, .int .i64 n] w fun e w' => e = .returned (.int .i64 (k % n)) ∧ w' = w := by
  have hne : (n == 0) = false := by simp; omega
  have hn0 : ¬ n = 0 := by omega
  have hm1 : ¬ n = -1 := by omega
  have hr := Int.emod_nonneg k hn0
  have hr2 := Int.emod_lt_of_pos k hn
  by_cases hk : k.tmod n < 0
  · have he : k.tmod n + n = k % n := by
      rw [Int.tmod_eq_emod] at hk ⊢
      split at hk
      · omega
      · rename_i h
        rw [if_neg h]
        have : (n.natAbs : Int) = n := by omega
        omega
    have hw : IntKind.i64.wrap (k.tmod n) = k.tmod n := by rw [IntKind.wrap_i64]; omega
    generalize hx : k.tmod n = x at hk he hw
    go_enter Tryz.func6, Tryz.ntmps6
    go_wp2
    go_ret
    exact ⟨by rw [← he]; rfl, rfl⟩
  · have he : k.tmod n = k % n := by
      rw [Int.tmod_eq_emod] at hk ⊢
      split
      · omega
      · rename_i h
        rw [if_neg h] at hk
        have : (n.natAbs : Int) = n := by omega
        omega
    have hw : IntKind.i64.wrap (k.tmod n) = k.tmod n := by rw [IntKind.wrap_i64]; omega
    generalize hx : k.tmod n = x at hk he hw
    go_enter Tryz.func6, Tryz.ntmps6
    go_wp2
    go_ret
    exact ⟨by rw [← he]; rfl, rfl⟩
/-- What a step answers, as cells. -/
def tcs (n : Int) (s : ByteArray) (h : List UInt8) (v : Value) : Array Value := ([Value.int .u64 n, .string s] ++ ((hbs h).toList ++ [v])).toArray
theorem tcs_size (n : Int) (s : ByteArray) (h : List UInt8) (hh : h.length = 32) (v : Value) : (tcs n s h v).size = 35 := by simp [tcs, hbs_size, hh]
theorem tcs_0 (n : Int) (s : ByteArray) (h : List UInt8) (v : Value) : (tcs n s h v)[0]? = some (.int .u64 n) := by simp [tcs]
theorem tcs_1 (n : Int) (s : ByteArray) (h : List UInt8) (v : Value) : (tcs n s h v)[1]? = some (.string s) := by simp [tcs]
theorem tcs_34 (n : Int) (s : ByteArray) (h : List UInt8) (hh : h.length = 32) (v : Value) : (tcs n s h v)[34]? = some v := by
  simp only [tcs, List.getElem?_toArray]
  rw [List.getElem?_append_right (by simp), List.getElem?_append_right (by simp [hbs_size, hh])]
  simp [hbs_size, hh]
theorem tcs_h (n : Int) (s : ByteArray) (h : List UInt8) (hh : h.length = 32) (v : Value) (j : Nat) (hj : j < 32) : (tcs n s h v)[2 + j]? = (hbs h)[j]? := by
  simp only [tcs, List.getElem?_toArray]
  rw [List.getElem?_append_right (by simp), List.getElem?_append_left (by simp [hbs_size, hh]; exact hj)]
  simp
theorem tcs_set0 (n m : Int) (s : ByteArray) (h : List UInt8) (v : Value) : (tcs n s h v).setIfInBounds 0 (.int .u64 m) = tcs m s h v := by
  apply Array.ext'; simp [tcs]
theorem tcs_set1 (n : Int) (s t : ByteArray) (h : List UInt8) (v : Value) : (tcs n s h v).setIfInBounds 1 (.string t) = tcs n t h v := by
  apply Array.ext'; simp [tcs]
theorem tcs_set34 (n : Int) (s : ByteArray) (h : List UInt8) (hh : h.length = 32) (v u : Value) : (tcs n s h v).setIfInBounds 34 u = tcs n s h u := by
  apply Array.ext'
  simp only [tcs, Array.toList_setIfInBounds]
  rw [List.set_append_right _ _ (by simp), List.set_append_right _ _ (by simp [hbs_size, hh])]
  simp [hbs_size, hh]
theorem tcs_one (n : Int) (s : ByteArray) (h : List UInt8) (ad : Option Addr) (l c : Nat) : ∀ u ∈ (tcs n s h (.slice ad l c)).toList, u.oneCell' = true := by
  intro u hu
  simp only [tcs, List.mem_append, List.mem_cons, List.not_mem_nil, or_false] at hu
  rcases hu with (rfl | rfl) | hu | rfl
  · rfl
  · rfl
  · exact hbs_one h u hu
  · rfl
theorem tcs_seth (n : Int) (s : ByteArray) (h g : List UInt8) (hh : h.length = 32) (hg : g.length = 32) (v : Value) : (tcs n s g v).toList = (tcs n s h v).toList.take 2 ++ (hbs g).toList ++ (tcs n s h v).toList.drop (2 + 32) := by
  simp only [tcs]
  rw [List.take_append_of_le_length (by simp)]
  simp only [List.take_succ_cons, List.take_zero, List.append_assoc]
  congr 2
  rw [List.drop_append, List.drop_append]
  simp [hbs_size, hh]
theorem tz_h : (#[.int .u64 0, .string ⟨#[]⟩, .int .u8 0, .int .u8 0, .int .u8 0, .int .u8 0, .int .u8 0, .int .u8 0, .int .u8 0, .int .u8 0, .int .u8 0, .int .u8 0, .int .u8 0, .int .u8 0, .int .u8 0, .int .u8 0, .int .u8 0, .int .u8 0, .int .u8 0, .int .u8 0, .int .u8 0, .int .u8 0, .int .u8 0, .int .u8 0, .int .u8 0, .int .u8 0, .int .u8 0, .int .u8 0, .int .u8 0, .int .u8 0, .int .u8 0, .int .u8 0, .int .u8 0, .int .u8 0, .slice none 0 0] : Array Value) = tcs 0 ⟨#[]⟩ zh (.slice none 0 0) := by kernel_rfl
set_option maxRecDepth 100000 in
set_option maxHeartbeats 2000000 in
theorem same_told (n : Nat) (s : ByteArray) (h : List UInt8) (hh : h.length = 32) (l : List (List UInt8)) (hl32 : ∀ x ∈ l, x.length = 32) (hl : l.length ≤ 1000) (u v : Value) (w : World) (hu : Hss w u l) (hv : Hss w v l) :
    Calls Tryz.prog 11 #[.agg (tcs (n : Int) s h u), .agg (tcs (n : Int) s h v)] w fun e w' => e = .returned (.bool true) ∧ Nw w w' := by
  have Q : Hid (∀ W, Nw w W → Calls Tryz.prog 38 #[u, v] W fun e w' => e = .returned (.bool true) ∧ Nw W w') := fun W hW => sameh_yes u v l hl32 W (hu.nw hl32 hW) (hv.nw hl32 hW) (by omega)
  obtain ⟨ua, uc, rfl⟩ := hu.form
  obtain ⟨va, vc, rfl⟩ := hv.form
  have HH : Hid (h.length = 32) := hh
  have a0 := tcs_0 (n : Int) s h (.slice ua l.length uc)
  have a1 := tcs_1 (n : Int) s h (.slice ua l.length uc)
  have a3 := tcs_34 (n : Int) s h hh (.slice ua l.length uc)
  have b0 := tcs_0 (n : Int) s h (.slice va l.length vc)
  have b1 := tcs_1 (n : Int) s h (.slice va l.length vc)
  have b3 := tcs_34 (n : Int) s h hh (.slice va l.length vc)
  have HA : Hid (∀ j, j < 32 → (tcs (n : Int) s h (.slice ua l.length uc))[2 + j]? = (hbs h)[j]?) := fun j hj => tcs_h _ _ _ hh _ j hj
  have HB : Hid (∀ j, j < 32 → (tcs (n : Int) s h (.slice va l.length vc))[2 + j]? = (hbs h)[j]?) := fun j hj => tcs_h _ _ _ hh _ j hj
  obtain ⟨A, hA⟩ : ∃ A, A = tcs (n : Int) s h (.slice ua l.length uc) := ⟨_, rfl⟩
  obtain ⟨Bv, hB⟩ : ∃ Bv, Bv = tcs (n : Int) s h (.slice va l.length vc) := ⟨_, rfl⟩
  rw [← hA] at a0 a1 a3 HA ⊢
  rw [← hB] at b0 b1 b3 HB ⊢
  clear hA hB hh hu hv hl32
  have hnn : ((n : Int) == (n : Int)) = true := by simp
  have e0 : ((w.alloc (.cells A 59)).alloc (.cells Bv 59)).heap[w.heap.size]? = some (.cells A 59) := hp_al (by simp) (heap_new _ _)
  have e1 : ((w.alloc (.cells A 59)).alloc (.cells Bv 59)).heap[w.heap.size + 1]? = some (.cells Bv 59) := heap_next _ _ _
  have x0 := (cell_of e0 0).trans a0
  have x1 := (cell_of e0 1).trans a1
  have x3 := (cell_of e0 34).trans a3
  have y0 := (cell_of e1 0).trans b0
  have y1 := (cell_of e1 1).trans b1
  have y3 := (cell_of e1 34).trans b3
  have E0 : Hid (∀ j, j < 32 → ((w.alloc (.cells A 59)).alloc (.cells Bv 59)).cell? ⟨w.heap.size, 2 + j, none⟩ = (hbs h)[j]?) := fun j hj => (cell_of e0 _).trans (HA.out j hj)
  have E1 : Hid (∀ j, j < 32 → ((w.alloc (.cells A 59)).alloc (.cells Bv 59)).cell? ⟨w.heap.size + 1, 2 + j, none⟩ = (hbs h)[j]?) := fun j hj => (cell_of e1 _).trans (HB.out j hj)
  have hse : ∀ W : World, (Op.stringOp .eql s s).run Tryz.prog W = .ok (.bool true) W := fun W => by simp [Op.stringOp]
  clear a0 a1 a3 b0 b1 b3 HA HB e0 e1
  go_enter Tryz.func11, Tryz.ntmps11
  go_wp2_with first
    | (refine wpl_load rfl (.tmp 18) rfl w.heap.size 2 rfl h HH.out E0.out ?_)
    | (refine wpl_load rfl (.tmp 20) rfl (w.heap.size + 1) 2 rfl h HH.out E1.out ?_)
    | (refine wpl_eql rfl (.tmp 19) (.tmp 21) rfl h HH.out rfl rfl ?_)
  refine (Q.out _ ((nwa w _).alloc _)).mono ?_
  rintro e w1 ⟨rfl, n1⟩
  go_wp2
  go_ret
  exact ⟨rfl, Nw.tr ((nwa w _).alloc _) n1⟩
end Go.Proofs.YtdhlmpjoggnkkaaGreatDoor
