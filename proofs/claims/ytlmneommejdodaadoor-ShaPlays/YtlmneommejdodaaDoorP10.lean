/- Bytes that were handed in, their twins, and whether they are beyond what is looked at. -/
import Derived.Test.YtlmneommejdodaaDoorP9
import Derived.Laws.MakeOwn
namespace Go.Proofs.YtlmneommejdodaaDoor
open Go.RowKit
set_option linter.unusedVariables false
set_option linter.unusedSimpArgs false

/-- Bytes in memory. -/
def Bys (w : World) (p : Option Addr) (L : List UInt8) : Prop := ∀ j, j < L.length → ∃ g o, p = some ⟨g, o, none⟩ ∧ w.cell? ⟨g, o + j, none⟩ = some (.int .u8 ((L.getD j 0).toNat : Nat))
theorem Bys.nw {w w' : World} {p : Option Addr} {L : List UInt8} (h : Bys w p L) (k : Nw w w') : Bys w' p L := fun j hj => by
  obtain ⟨g, o, hp, hc⟩ := h j hj
  exact ⟨g, o, hp, k.cellOf hc⟩
theorem conv_none (c : Nat) (w : World) : (convert 39 9 (.slice none 0 c)).run Tryd.prog w = .ok (.string ⟨#[]⟩) w := by kernel_rfl
theorem conv_bys {w : World} {p : Option Addr} {L : List UInt8} (h : Bys w p L) (c : Nat) : (convert 39 9 (.slice p L.length c)).run Tryd.prog w = .ok (.string ⟨L.toArray⟩) w := by
  rcases p with _ | a
  · rcases L with _ | ⟨x, L⟩
    · exact conv_none c w
    · obtain ⟨g, o, hp, _⟩ := h 0 (by simp)
      cases hp
  · refine run_convert_bytes_back w _ _ _ _ _ _ Tryd.underlying39 Tryd.underlying5 Tryd.underlying9 (fun j hj => ?_)
    obtain ⟨g, o, hp, hc⟩ := h j hj
    cases hp
    rw [addO, hc, List.getD_eq_getElem?_getD, List.getElem?_eq_getElem hj]
    rfl
/-- A row of bytes, the first t of them laid. -/
def rcs (T : List UInt8) (t : Nat) : Array Value := Array.ofFn (n := T.length) fun i => .int .u8 ((if i.val < t then (T.getD i.val 0).toNat else 0 : Nat) : Int)
theorem rcs_get (T : List UInt8) (t i : Nat) (hi : i < t) (hT : i < T.length) : (rcs T t)[i]? = some (.int .u8 ((T.getD i 0).toNat : Nat)) := by
  rw [rcs, Array.getElem?_ofFn, dif_pos hT, if_pos hi]
theorem rcs_out (T : List UInt8) (t i : Nat) (hi : ¬ i < t) (hT : i < T.length) : (rcs T t)[i]? = some (.int .u8 0) := by
  rw [rcs, Array.getElem?_ofFn, dif_pos hT, if_neg hi]; rfl
theorem rcs_set (T : List UInt8) (t : Nat) (x : Int) (hx : x = ((T.getD t 0).toNat : Nat)) : (rcs T t).setIfInBounds t (.int .u8 x) = rcs T (t + 1) := by
  subst hx
  apply Array.ext
  · simp [rcs]
  · intro i h1 h2
    rw [Array.getElem_setIfInBounds (by simpa using h1)]
    simp only [rcs, Array.getElem_ofFn]
    by_cases h : t = i
    · subst h; simp
    · rw [if_neg h]
      have : (i < t + 1) = (i < t) := by apply propext; omega
      simp only [this]
theorem info8 : (Tryd.prog.info? 5).map (fun i => (i.zero, i.size, i.bytes)) = some (some (.int .u8 0), 1, 1) := by kernel_rfl
theorem make_bytes (T : List UInt8) (n : Int) (hn : n = (T.length : Int)) (w : World) (hl : T.length ≤ 281474976710656) : (Instr.makeSlice 39 (.int .i64 n) (.int .i64 n)).run Tryd.prog w = .ok (.slice (some ⟨w.heap.size, 0, none⟩) T.length T.length) (w.alloc (.cells (rcs T 0) 5)) := by
  obtain ⟨i, hi, he⟩ := Option.map_eq_some_iff.1 info8
  simp only [Prod.mk.injEq] at he
  subst hn
  rw [run_make w 39 5 i (.int .u8 0) Tryd.underlying39 hi he.1 .i64 .i64 _ _ (by omega) (by omega) (by rw [he.2.2]; omega) (by omega), he.2.1]
  have : madeCells (Value.int .u8 0).cells ((T.length : Int).toNat * 1) = rcs T 0 := by
    apply Array.ext
    · simp [madeCells, rcs]
    · intro j h1 h2
      simp [madeCells, rcs, Value.cells, Nat.mod_one]
  rw [this]
  rfl
theorem mark_any (w : World) : Calls Tryd.prog 37 #[.int .i64 7777] w fun e w' => e = .returned (.int .u8 128) ∧ w' = w := by
  go_enter Tryd.func37, Tryd.ntmps37
  go_wp2
  go_ret
  exact ⟨rfl, rfl⟩
theorem getD_l (L M : List UInt8) (k : Nat) (h : k < L.length) : (L ++ M).getD k 0 = L.getD k 0 := by
  rw [List.getD_eq_getElem?_getD, List.getElem?_append_left h, List.getD_eq_getElem?_getD]
theorem getD_r (L : List UInt8) (x : UInt8) : (L ++ [x]).getD L.length 0 = x := by
  rw [List.getD_eq_getElem?_getD, List.getElem?_append_right (Nat.le_refl _), Nat.sub_self]; rfl

set_option maxRecDepth 100000 in
set_option maxHeartbeats 1000000 in
theorem twin_any (p : Option Addr) (c : Nat) (L : List UInt8) (w : World) (hb : Bys w p L) (hl : L.length ≤ 1048576) :
    Calls Tryd.prog 22 #[.slice p L.length c] w fun e w' => e = .returned (.slice (some ⟨w.heap.size, 0, none⟩) L.length (L.length + 1)) ∧ w'.heap[w.heap.size]? = some (.cells (rcs (L ++ [128]) (L.length + 1)) 5 (0, 0)) ∧ Nw w w' := by
  have HB : Hid (Bys w p L) := hb
  clear hb
  obtain ⟨T, hT⟩ : ∃ T, T = L ++ [128] := ⟨_, rfl⟩
  have hTl : T.length = L.length + 1 := by rw [hT]; simp
  have HT : Hid (T = L ++ [128]) := hT
  rw [← hT]
  clear hT
  have HG : Hid (∀ k, k < L.length → T.getD k 0 = L.getD k 0) := fun k hk => by rw [HT.out]; exact getD_l L _ k hk
  have HG2 : Hid (T.getD L.length 0 = 128) := by unfold Hid; rw [HT.out]; exact getD_r L 128
  obtain ⟨n, hn⟩ : ∃ n, n = L.length := ⟨_, rfl⟩
  have hmk := make_bytes T ((n : Int) + 1) (by omega) w (by omega)
  rw [hTl] at hmk
  rw [← hn] at hmk HG HG2 hl hTl ⊢
  have Hn : Hid (n = L.length) := hn
  have HTl : Hid (T.length = n + 1) := hTl
  clear hn hTl
  go_enter Tryd.func22, Tryd.ntmps22
  go_wp2
  go_loopw [4] (fun i wr => ∃ k : Nat, k ≤ n ∧ i = .int .i64 k ∧ Nw w wr ∧ wr.heap[w.heap.size]? = some (.cells (rcs T k) 5 (0, 0))) (fun i _ => n - (intOf i).toNat)
  case atStart => exact ⟨0, by omega, rfl, (Fr.refl _ _).alloc _, heap_new w _⟩
  case round =>
    obtain ⟨k, hk, rfl, hnw, hc⟩ := hrel
    by_cases hlt : k < n
    · obtain ⟨g, o, rfl, hcell⟩ := HB.out k (by have := Hn.out; omega)
      have hcell2 := hnw.cellOf hcell
      have hx := HG.out k hlt
      generalize L.getD k 0 = x at hcell2 hx
      have HX : Hid (T.getD k 0 = x) := hx
      clear hx hcell
      have hcs : wr.cell? ⟨w.heap.size, k, none⟩ = some (.int .u8 0) := (cell_of hc k).trans (rcs_out T k k (by omega) (by have := HTl.out; omega))
      have hfz : wr.frozen? ⟨w.heap.size, k, none⟩ = false := frozen_of hc k
      have hki : (k : Int) < (n : Int) := by omega
      have hki2 : (k : Int) < (n : Int) + 1 := by omega
      go_wp2
      refine ⟨⟨k + 1, by omega, by go_num, hnw.setCell _ _ (fun h => absurd h (by simp)), ?_⟩, by simp [intOf]; omega⟩
      rw [← rcs_set T k _ (show ((x.toNat : Nat) : Int) = _ by rw [HX.out])]
      exact heap_set hc _
    · have HK : Hid (k = n) := by unfold Hid; omega
      have hge : ¬ (k : Int) < (n : Int) := by omega
      have hc' : wr.heap[w.heap.size]? = some (.cells (rcs T n) 5 (0, 0)) := by rw [← HK.out]; exact hc
      have hcs : wr.cell? ⟨w.heap.size, n, none⟩ = some (.int .u8 0) := (cell_of hc' n).trans (rcs_out T n n (by omega) (by have := HTl.out; omega))
      have hfz : wr.frozen? ⟨w.heap.size, n, none⟩ = false := frozen_of hc' n
      clear hlt hc hmk
      go_wp2_with (go_at_call 37; refine (mark_any _).mono ?_; rintro e1 w1 ⟨rfl, rfl⟩)
      go_ret
      refine ⟨rfl, ?_, hnw.setCell _ _ (fun h => absurd h (by simp))⟩
      rw [← rcs_set T n 128 (by rw [HG2.out]; rfl)]
      exact heap_set hc' _
theorem twin_bys {w : World} {g : Nat} {L : List UInt8} (h : w.heap[g]? = some (.cells (rcs (L ++ [128]) (L.length + 1)) 5 (0, 0))) : Bys w (some ⟨g, 0, none⟩) L := fun j hj => by
  refine ⟨g, 0, rfl, ?_⟩
  rw [Nat.zero_add, cell_of h, rcs_get _ _ _ (by omega) (by simp; omega), getD_l L _ j hj]

/-- Numbers in memory. -/
def Ints (w : World) (p : Option Addr) (l : List Nat) : Prop := ∀ j, j < l.length → ∃ g o, p = some ⟨g, o, none⟩ ∧ w.cell? ⟨g, o + j, none⟩ = some (.int .i64 ((l.getD j 0 : Nat) : Int))
theorem sum_step (l : List Nat) (k : Nat) (h : k < l.length) : (l.take (k + 1)).sum = (l.take k).sum + l.getD k 0 := by
  have e : l.take (k + 1) = l.take k ++ [l[k]] := List.take_succ_eq_append_getElem h
  rw [e, List.sum_append, List.getD_eq_getElem?_getD, List.getElem?_eq_getElem h, Option.getD_some]
  simp
theorem sum_le (l : List Nat) (k : Nat) : (l.take k).sum ≤ l.sum := by
  have h : l.sum = (l.take k).sum + (l.drop k).sum := by rw [← List.sum_append, List.take_append_drop]
  omega
set_option maxRecDepth 100000 in
set_option maxHeartbeats 1000000 in
theorem beyond_any (p : Option Addr) (c : Nat) (l : List Nat) (w : World) (hi : Ints w p l) (hx : ∀ j, l.getD j 0 < 4611686018427387904) (hl : l.length < 4611686018427387904) :
    Calls Tryd.prog 16 #[.slice p l.length c] w fun e w' => e = .returned (.bool (decide (1048576 < l.sum))) ∧ w' = w := by
  have HI : Hid (Ints w p l) := hi
  have HX : Hid (∀ j, l.getD j 0 < 4611686018427387904) := hx
  clear hi hx
  obtain ⟨n, hn⟩ : ∃ n, n = l.length := ⟨_, rfl⟩
  rw [← hn] at hl ⊢
  have Hn : Hid (n = l.length) := hn
  clear hn
  obtain ⟨R, hR⟩ : ∃ R, R = decide (1048576 < l.sum) := ⟨_, rfl⟩
  have HR : Hid (R = decide (1048576 < l.sum)) := hR
  rw [← hR]
  clear hR
  go_enter Tryd.func16, Tryd.ntmps16
  go_wp2
  go_loop [3, 4] (fun s i => ∃ k m : Nat, k ≤ n ∧ i = .int .i64 k ∧ s = .int .i64 m ∧ m = (l.take k).sum ∧ m ≤ 1048576) (fun _ i => n - (intOf i).toNat)
  case atStart => exact ⟨0, 0, by omega, rfl, rfl, rfl, by omega⟩
  case round =>
    obtain ⟨k, m, hk, rfl, rfl, hm, hm2⟩ := hrel
    have HM : Hid (m = (l.take k).sum) := hm
    clear hm
    by_cases hlt : k < n
    · obtain ⟨g, o, rfl, hc⟩ := HI.out k (by have := Hn.out; omega)
      have hx := HX.out k
      have hst : Hid ((l.take (k + 1)).sum = (l.take k).sum + l.getD k 0) := sum_step l k (by have := Hn.out; omega)
      generalize l.getD k 0 = x at hc hx hst
      have hki : (k : Int) < (n : Int) := by omega
      by_cases hbig : 1048576 < m + x
      · have hb : (1048576 : Int) < (m : Int) + (x : Int) := by omega
        go_wp2
        go_ret
        refine ⟨?_, rfl⟩
        have : R = true := by
          rw [HR.out]
          have h1 := sum_le l (k + 1)
          rw [hst.out, ← HM.out] at h1
          exact decide_eq_true (by omega)
        rw [this]; rfl
      · have hb : ¬ (1048576 : Int) < (m : Int) + (x : Int) := by omega
        go_wp2
        exact ⟨⟨k + 1, m + x, by omega, by go_num, by go_num, by rw [hst.out, ← HM.out], by omega⟩, by simp [intOf]; omega⟩
    · have hge : ¬ (k : Int) < (n : Int) := by omega
      have : R = false := by
        rw [HR.out]
        have h1 := HM.out
        rw [List.take_of_length_le (by have := Hn.out; omega)] at h1
        exact decide_eq_false (by omega)
      have HRF : Hid (R = false) := this
      clear this hlt
      go_wp2
      go_ret
      exact ⟨by rw [HRF.out]; rfl, rfl⟩
end Go.Proofs.YtlmneommejdodaaDoor
