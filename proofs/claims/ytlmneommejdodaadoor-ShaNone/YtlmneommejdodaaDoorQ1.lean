/- ShaNone: a digest that is not there, and one that no call made. -/
import Derived.Test.YtlmneommejdodaaDoorP11
namespace Go.Proofs.YtlmneommejdodaaDoor
open Go.RowKit
set_option linter.unusedVariables false
set_option linter.unusedSimpArgs false

theorem one_int (w : World) (n : Nat) : Ints (w.alloc (.cells #[.int .i64 (n : Int)] 3)) (some ⟨w.heap.size, 0, none⟩) [n] := fun j hj => by
  match j, hj with
  | 0, _ => exact ⟨_, _, rfl, (cell_of (heap_new w _) 0).trans rfl⟩
theorem getD_one (n : Nat) (h : n < 4611686018427387904) : ∀ j, [n].getD j 0 < 4611686018427387904 := fun j => by
  rcases j with _ | j
  · exact h
  · simp
theorem z32_get (i : Nat) (h : i < 32) : z32[i]? = some (.int .u8 0) := by
  rw [z32, Array.getElem?_replicate, if_pos h]
theorem zero_eq (w : World) : (Op.equalIn 10000 26 (.agg z32) (.agg #[.int .u8 0, .int .u8 0, .int .u8 0, .int .u8 0, .int .u8 0, .int .u8 0, .int .u8 0, .int .u8 0, .int .u8 0, .int .u8 0, .int .u8 0, .int .u8 0, .int .u8 0, .int .u8 0, .int .u8 0, .int .u8 0, .int .u8 0, .int .u8 0, .int .u8 0, .int .u8 0, .int .u8 0, .int .u8 0, .int .u8 0, .int .u8 0, .int .u8 0, .int .u8 0, .int .u8 0, .int .u8 0, .int .u8 0, .int .u8 0, .int .u8 0, .int .u8 0])).run Tryd.prog w = .ok true w := by
  have h : (#[.int .u8 0, .int .u8 0, .int .u8 0, .int .u8 0, .int .u8 0, .int .u8 0, .int .u8 0, .int .u8 0, .int .u8 0, .int .u8 0, .int .u8 0, .int .u8 0, .int .u8 0, .int .u8 0, .int .u8 0, .int .u8 0, .int .u8 0, .int .u8 0, .int .u8 0, .int .u8 0, .int .u8 0, .int .u8 0, .int .u8 0, .int .u8 0, .int .u8 0, .int .u8 0, .int .u8 0, .int .u8 0, .int .u8 0, .int .u8 0, .int .u8 0, .int .u8 0] : Array Value) = z32 := z32_eq
  rw [h]
  exact arr_eq _ (fun i hi => ⟨_, z32_get i hi⟩) w
theorem zd_0 : (Tryd.zeroCells59)[0]? = some (.bool false) := by kernel_rfl
set_option maxRecDepth 100000 in
set_option maxHeartbeats 1000000 in
theorem none_any (p : Option Addr) (c : Nat) (L : List UInt8) (w : World) (hb : Bys w p L) (hl : L.length ≤ 140737488355328) (hL : Laid w) :
    Calls Tryd.prog 8 #[.slice p L.length c] w fun e w' => e = .returned (.bool true) ∧ Nw w w' := by
  have HL : Hid (Laid w) := hL
  have hs2 := hL.lt
  have HB : Hid (Bys w p L) := hb
  clear hL hb
  obtain ⟨n, hn⟩ : ∃ n, n = L.length := ⟨_, rfl⟩
  rw [← hn] at hl ⊢
  have Hn : Hid (n = L.length) := hn
  clear hn
  go_enter Tryd.func8, Tryd.ntmps8
  go_wp2_with fail
  refine (alive_any w HL.out).mono ?_
  rintro e1 w1 ⟨rfl, n1⟩
  go_wp2_with fail
  have q2 := beyond_any (some ⟨w1.heap.size, 0, none⟩) 1 [n] _ (one_int w1 n) (getD_one n (by omega)) (by simp)
  refine q2.mono ?_
  rintro e2 w2 ⟨rfl, rfl⟩
  have n2 : Nw w (w1.alloc (.cells #[.int .i64 (n : Int)] 3)) := n1.alloc _
  generalize (w1.alloc (.cells #[.int .i64 (n : Int)] 3)) = w2 at n2 ⊢
  clear q2
  by_cases hbig : 1048576 < n
  · have hd : decide (1048576 < [n].sum) = true := decide_eq_true (by simpa using hbig)
    rw [hd]
    go_wp2_with fail
    refine (alive_any w2 (HL.out.nw n2)).mono ?_
    rintro e3 w3 ⟨rfl, n3⟩
    go_wp2
    go_ret
    exact ⟨rfl, n2.tr n3⟩
  · have hd : decide (1048576 < [n].sum) = false := decide_eq_false (by simpa using hbig)
    rw [hd]
    have n2s := n2.size
    go_wp2
    go_loopw [5] (fun i wr => ∃ k : Nat, k ≤ 2 ∧ i = .int .i64 k ∧ Nw w wr ∧ wr.heap[w2.heap.size]? = some (.cells Tryd.zeroCells59 59 (0, 0)) ∧ wr.heap[w2.heap.size + 1]? = some (.cells #[.pointer none, .pointer (some ⟨w2.heap.size, 0, none⟩)] 60 (0, 0))) (fun i _ => 2 - (intOf i).toNat)
    case atStart => exact ⟨0, by omega, rfl, (n2.alloc _).alloc _, (Below.heap_alloc _ _ _ (by simp)).trans (heap_new w2 _), heap_next w2 _ _⟩
    case round =>
      obtain ⟨k, hk, rfl, hnw, hz, ha⟩ := hrel
      by_cases hlt : k < 2
      · obtain ⟨q, hq, hN⟩ : ∃ q, wr.cell? ⟨w2.heap.size + 1, k, none⟩ = some (.pointer q) ∧ ∀ W, Nw wr W → Non W q := by
          have hk2 : k = 0 ∨ k = 1 := by omega
          rcases hk2 with rfl | rfl
          · exact ⟨none, cell_of ha 0, fun W _ => .inl rfl⟩
          · exact ⟨some ⟨w2.heap.size, 0, none⟩, cell_of ha 1, fun W hW => .inr ⟨_, rfl, hW.cellOf ((cell_of hz 0).trans zd_0)⟩⟩
        have HN : Hid (∀ W, Nw wr W → Non W q) := hN
        clear hN
        have hki : (k : Int) < 2 := by omega
        have nd : Nw wr wr.drew := (Fr.refl _ wr).drew
        have HB2 : Hid (Bys wr.drew p L) := HB.out.nw (hnw.tr nd)
        have q5 := twin_any p c L wr.drew HB2.out (by have := Hn.out; omega)
        rw [← Hn.out] at q5
        have he := zero_eq
        go_wp2
        go_region_held3 (fun w' => w'.cell? ⟨w2.heap.size + 1, k, none⟩ = some (.pointer q)) (first | exact hq | exact n5.cellOf hq) (first
          | (go_at_call 22; refine q5.mono ?_; rintro e5 w5 ⟨rfl, j5, n5⟩)
          | (go_at_call 19; refine (write_non q _ w5 (HN.out _ (nd.tr n5))).mono ?_; rintro e6 w6 ⟨rfl, rfl⟩))
        have n6 : Nw wr w6 := nd.tr n5
        have hq6 := n6.cellOf hq
        clear q5 j5 hd
        go_wp2_with fail
        refine (sum_non q w6 (HN.out _ n6)).mono ?_
        rintro e7 w7 ⟨rfl, n7⟩
        have hq7 := n7.cellOf hq6
        go_wp2_with fail
        refine (len_non q w7 (HN.out _ (n6.tr n7))).mono ?_
        rintro e8 w8 ⟨rfl, rfl⟩
        go_wp2_with fail
        refine (copy_non q w8 (HN.out _ (n6.tr n7))).mono ?_
        rintro e9 w9 ⟨rfl, rfl⟩
        have n9 : Nw wr w9 := n6.tr n7
        go_wp2
        exact ⟨⟨k + 1, by omega, by go_num, hnw.tr n9, (n9.block _ (heap_lt hz) (fun f => f)).trans hz, (n9.block _ (heap_lt ha) (fun f => f)).trans ha⟩, by simp [intOf]; omega⟩
      · obtain rfl : k = 2 := by omega
        go_wp2
        go_ret
        exact ⟨rfl, hnw⟩
end Go.Proofs.YtlmneommejdodaaDoor
