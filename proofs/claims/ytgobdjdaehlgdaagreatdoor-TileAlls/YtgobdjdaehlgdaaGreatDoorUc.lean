/- tile: lives. -/
import Derived.Test.YtgobdjdaehlgdaaGreatDoorUb
import Derived.Test.YtgobdjdaehlgdaaGreatDoorEg
namespace Go.Proofs.YtgobdjdaehlgdaaGreatDoor
open Go.RowKit
open Go.Lib (decDigits nDigits)
set_option linter.unusedVariables false
set_option linter.unusedSimpArgs false
theorem isjT {w : World} {B : Nat} {a : Nat → Addr} (hS : Sent B w a) (j : Nat) (hj : j < 16) (m : Int) (hm : m = ((j + 1 : Nat) : Int)) (W : World) (hW : Nw w W) : Calls Tryz.prog 29 #[sen (a j), .int .i64 m] W fun e w' => e = .returned (.bool true) ∧ Nw W w' := by
  subst hm
  have hsb : sameB (j + 1) none ((j + 1 : Nat) : Int) (-1) = true := by simp [sameB]
  have q := isE_any (hS.fr hW (fun _ _ f => f)) (show EV W a (sen (a j)) (j + 1) none from .inr (.inl ⟨j, hj, rfl, rfl, rfl⟩)) ((j + 1 : Nat) : Int)
  rw [hsb] at q
  exact q
set_option maxHeartbeats 1000000 in
theorem enc_arg (p : Option Addr) (n c : Nat) (h : n < 1 ∨ 256 < n) (w : World) {B : Nat} {a : Nat → Addr} (hS : Sent B w a) :
    Calls Tryz.prog 19 #[.slice p n c] w fun e w' => e = .returned (.tuple #[.string ⟨#[]⟩, sen (a 1)]) ∧ Nw w w' := by
  have e1 := hS.c1
  clear hS
  rcases h with h | h
  · obtain rfl : n = 0 := by omega
    go_enter Tryz.func19, Tryz.ntmps19
    go_wp2_with fail
    go_quiet (fail)
    go_wp2
    go_ret2
    exact ⟨rfl, (nwr w).drewN nq⟩
  · have h1 : ¬ (n : Int) < 1 := by omega
    have h2 : (256 : Int) < (n : Int) := by omega
    go_enter Tryz.func19, Tryz.ntmps19
    go_wp2_with fail
    go_quiet (fail)
    go_wp2
    go_ret2
    exact ⟨rfl, (nwr w).drewN nq⟩
set_option maxRecDepth 100000 in
set_option maxHeartbeats 2000000 in
theorem lives_any (w : World) (hP : TX.Pow w) (hM : MaxL w) {B : Nat} {a : Nat → Addr} (hS : Sent B w a) :
    Calls Tryz.prog 12 #[] w fun e w' => e = .returned (.bool true) ∧ Nw w w' := by
  have HP : Hid (TX.Pow w) := hP
  have HM : Hid (MaxL w) := hM
  have SS : Hid (∀ V, Nw w V → Sent B V a) := fun V nV => hS.fr nV (fun _ _ f => f)
  clear hP hM hS
  go_enter Tryz.func12, Tryz.ntmps12
  go_wp2_with fail
  refine (lit_of _).mono ?_
  rintro e w1 ⟨rfl, n1⟩
  have N1 : Hid (Nw w w1) := n1
  clear n1
  go_wp2_with fail
  obtain ⟨t1, ht1⟩ : ∃ q, q = w1.heap.size := ⟨_, rfl⟩
  have B1 : Hid ((w1.alloc (.cells #[.int .u8 1, .int .u64 0, .int .i64 256] 56)).heap[t1]? = some (.cells #[.int .u8 1, .int .u64 0, .int .i64 256] 56)) := by rw [ht1]; exact heap_new w1 _
  have N2 : Hid (Nw w (w1.alloc (.cells #[.int .u8 1, .int .u64 0, .int .i64 256] 56))) := N1.out.alloc _
  rw [← ht1]
  refine (lit_path _ (HP.out.fr N2.out)).mono ?_
  rintro e w3 ⟨rfl, n3⟩
  have N3 : Hid (Nw w w3) := N2.out.tr n3
  have B3 : Hid (w3.heap[t1]? = some (.cells #[.int .u8 1, .int .u64 0, .int .i64 256] 56)) := (n3.block _ (heap_lt B1.out) (fun f => f)).trans B1.out
  clear ht1 N2 B1 n3 N1
  go_wp2_with fail
  refine (lit_parse _ (HP.out.fr N3.out) (HM.out.nw N3.out) (SS.out _ N3.out)).mono ?_
  rintro e w4 ⟨rfl, n4⟩
  have N4 : Hid (Nw w w4) := N3.out.tr n4
  have B4 : Hid (w4.heap[t1]? = some (.cells #[.int .u8 1, .int .u64 0, .int .i64 256] 56)) := (n4.block _ (heap_lt B3.out) (fun f => f)).trans B3.out
  clear n4 N3 B3
  go_wp2_with fail
  obtain ⟨t7, ht7⟩ : ∃ q, q = w4.heap.size := ⟨_, rfl⟩
  have C5 : Hid ((w4.alloc (.cells #[.int .u8 0, .int .u64 1, .int .i64 44] 56)).heap[t7]? = some (.cells #[.int .u8 0, .int .u64 1, .int .i64 44] 56)) := by rw [ht7]; exact heap_new w4 _
  rw [← ht7]
  refine (lit_in _).mono ?_
  rintro e w5 ⟨rfl, n5⟩
  have N5 : Hid (Nw w w5) := N4.out.tr ((nwa w4 _).tr n5)
  have B5 : Hid (w5.heap[t1]? = some (.cells #[.int .u8 1, .int .u64 0, .int .i64 256] 56)) := (((nwa w4 _).tr n5).block _ (heap_lt B4.out) (fun f => f)).trans B4.out
  have C6 : Hid (w5.heap[t7]? = some (.cells #[.int .u8 0, .int .u64 1, .int .i64 44] 56)) := (n5.block _ (heap_lt C5.out) (fun f => f)).trans C5.out
  clear n5 N4 B4 C5 ht7
  go_wp2_with fail
  obtain ⟨t9, ht9⟩ : ∃ q, q = w5.heap.size := ⟨_, rfl⟩
  have D6 : Hid ((w5.alloc (.cells #[.int .u8 0, .int .u64 1, .int .i64 44] 56)).heap[t9]? = some (.cells #[.int .u8 0, .int .u64 1, .int .i64 44] 56)) := by rw [ht9]; exact heap_new w5 _
  rw [← ht9]
  refine (enc_arg none 0 0 (.inl (by decide)) _ (SS.out _ (N5.out.alloc _))).mono ?_
  rintro e w6 ⟨rfl, n6⟩
  have N6 : Hid (Nw w w6) := N5.out.tr ((nwa w5 _).tr n6)
  have b1 : w6.heap[t1]? = some (.cells #[.int .u8 1, .int .u64 0, .int .i64 256] 56) := (((nwa w5 _).tr n6).block _ (heap_lt B5.out) (fun f => f)).trans B5.out
  have b7 : w6.heap[t7]? = some (.cells #[.int .u8 0, .int .u64 1, .int .i64 44] 56) := (((nwa w5 _).tr n6).block _ (heap_lt C6.out) (fun f => f)).trans C6.out
  have b9 : w6.heap[t9]? = some (.cells #[.int .u8 0, .int .u64 1, .int .i64 44] 56) := (n6.block _ (heap_lt D6.out) (fun f => f)).trans D6.out
  obtain ⟨c0, c1, c2⟩ := cell3 b1
  obtain ⟨d0, d1, d2⟩ := cell3 b7
  obtain ⟨e0, e1, e2⟩ := cell3 b9
  clear n6 N5 B5 C6 D6 ht9
  have QI := isjT (SS.out _ N6.out) 1 (by decide) 2 rfl
  go_wp2_with fail
  refine (QI _ (nwr _)).mono ?_
  rintro e w7 ⟨rfl, n7⟩
  go_wp2
  go_ret
  exact ⟨rfl, N6.out.tr n7⟩
end Go.Proofs.YtgobdjdaehlgdaaGreatDoor
