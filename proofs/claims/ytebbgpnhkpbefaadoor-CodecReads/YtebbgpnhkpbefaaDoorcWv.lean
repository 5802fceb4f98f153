import Derived.Test.YtebbgpnhkpbefaaDoorcBase
import Derived.Lib.AppendStr
import Derived.Laws.Bits64b
namespace Go.Proofs.YtebbgpnhkpbefaaDoor
open Go.RowKit
set_option linter.unusedVariables false
set_option linter.unusedSimpArgs false
theorem newW (w : World) : Calls Tryd.prog 34 #[] w fun e w' => e = .returned (.pointer (some ⟨w.heap.size, 0, none⟩)) ∧ Wr w' w.heap.size (.slice none 0 0) [] ∧ Fr (fun _ => False) w w' ∧ w'.heap.size = w.heap.size + 1 := by
  go_enter Tryd.func34, Tryd.ntmps34
  go_wp2
  go_ret
  exact ⟨rfl, ⟨heap_alloc_new w _, World.ownsRow_nil _ _ _ _⟩, (Fr.refl _ _).alloc _, by simp⟩
theorem there_yes (b : Nat) (w : World) (h0 : w.cell? ⟨b, 0, none⟩ = some (.bool true)) : Calls Tryd.prog 58 #[.pointer (some ⟨b, 0, none⟩)] w fun e w' => e = .returned (.bool true) ∧ w' = w := by
  go_enter Tryd.func58, Tryd.ntmps58
  go_wp2
  go_ret
  exact ⟨rfl, rfl⟩
theorem there_nil (w : World) : Calls Tryd.prog 58 #[.pointer none] w fun e w' => e = .returned (.bool false) ∧ w' = w := by
  go_enter Tryd.func58, Tryd.ntmps58
  go_wp2
  go_ret
  exact ⟨rfl, rfl⟩
theorem info8 : (Tryd.prog.info? 5).map (fun i => (i.zero, i.size, i.bytes)) = some (some (.int .u8 0), 1, 1) := by kernel_rfl
theorem info_parts8 : ∃ i, Tryd.prog.info? 5 = some i ∧ i.zero = some (.int .u8 0) ∧ i.size = 1 ∧ i.bytes = 1 := by
  obtain ⟨i, hi, he⟩ := Option.map_eq_some_iff.1 info8
  simp only [Prod.mk.injEq] at he
  exact ⟨i, hi, he.1, he.2.1, he.2.2⟩

/-- Behind an append to its bytes, and the store. -/
theorem Wr.put {w w0 w1 : World} {b : Nat} {v v' : Value} {l xs : List UInt8} {n : Nat} (h : Wr w b v l) (hw : Fr (fun _ => False) w w0) (ho : w1.ownsRow (b + 1) 5 1 v' n (bc l ++ bc xs)) (hn : n = l.length + xs.length) (hg : w0.grownBy w1 v.ownBlock) :
    Wr (w1.setCell ⟨b, 1, none⟩ v') b v' (l ++ xs) ∧ Fr (WS b) w (w1.setCell ⟨b, 1, none⟩ v') := by
  have hb0 : w0.heap[b]? = some (.cells #[.bool true, v] 98 (0, 0)) := (hw.block b (heap_lt h.blk) (fun f => f)).trans h.blk
  have hb1 : w1.heap[b]? = some (.cells #[.bool true, v] 98 (0, 0)) := (hg.block b (heap_lt hb0) (fun e => by have := h.gt b e.symm; omega)).trans hb0
  refine ⟨⟨?_, ?_⟩, ?_⟩
  · rw [heap_set hb1]; rfl
  · rw [List.length_append, ← hn, bc_app]
    exact ownsRow_keep ho (fun g e => heap_set_ne (by have := ho.lt g e; omega) _)
  · exact ((hw.mono (fun _ _ f => f.elim)).grown hg (fun k e _ => Nat.le_of_lt (h.gt k e).1)).setCell _ _ (fun _ => Nat.le_refl _)
theorem Wr.at1 {w w0 w1 : World} {b : Nat} {v : Value} {l : List UInt8} (h : Wr w b v l) (hw : Fr (fun _ => False) w w0) (hg : w0.grownBy w1 v.ownBlock) : w1.cell? ⟨b, 1, none⟩ = some v ∧ w1.frozen? ⟨b, 1, none⟩ = false := by
  have hb0 : w0.heap[b]? = some (.cells #[.bool true, v] 98 (0, 0)) := (hw.block b (heap_lt h.blk) (fun f => f)).trans h.blk
  have hb1 : w1.heap[b]? = some (.cells #[.bool true, v] 98 (0, 0)) := (hg.block b (heap_lt hb0) (fun e => by have := h.gt b e.symm; omega)).trans hb0
  exact ⟨cell_of hb1 1, frozen_of hb1 1⟩

theorem ownsRow_form {w : World} {base : Nat} {e : TypeId} {size : Nat} {v : Value} {n : Nat} {xs : List Value} (h : w.ownsRow base e size v n xs) : ∃ a k c, v = .slice a k c := by
  rcases h.2 with ⟨rfl, _⟩ | ⟨g, cap, cur, rfl, _⟩
  · exact ⟨_, _, _, rfl⟩
  · exact ⟨_, _, _, rfl⟩
theorem var_byte (m : Nat) (h : m < 18446744073709551616) : (Value.int .u8 (bits .or .u64 (bits .and .u64 (m : Int) 127) 128 % 256)) = .int .u8 ((UInt8.ofNat (m % 128 + 128)).toNat : Nat) := by
  have h1 : m &&& 127 = m % 128 := Nat.and_two_pow_sub_one_eq_mod m 7
  have h2 : (m % 128) ||| 128 = m % 128 + 128 := by
    rw [Nat.or_comm, Nat.add_comm]
    exact (Nat.two_pow_add_eq_or_of_lt (i := 7) (by omega) 1).symm
  have e1 : bits .and .u64 (m : Int) 127 = ((m &&& 127 : Nat) : Int) := bits_and_u64_nat m 127 h (by omega)
  rw [e1, h1]
  have e2 : bits .or .u64 ((m % 128 : Nat) : Int) 128 = ((m % 128 ||| 128 : Nat) : Int) := bits_or_u64_nat (m % 128) 128 (by omega) (by omega)
  rw [e2, h2, UInt8.toNat_ofNat']
  congr 1
theorem one_new (w : World) (x : Value) (t : TypeId) : ∀ j u, [x][j]? = some u → (w.alloc (.cells #[x] t)).cell? ((⟨w.heap.size, 0, none⟩ : Addr).add j) = some u := by
  intro j u hj
  match j, hj with
  | 0, hj => simp at hj; subst hj; simp [Addr.add]
theorem u8_of (m : Nat) (h : m < 256) : (Value.int .u8 (m : Int)) = .int .u8 ((UInt8.ofNat m).toNat : Nat) := by
  rw [UInt8.toNat_ofNat', Nat.mod_eq_of_lt (by omega)]

set_option maxRecDepth 100000 in
set_option maxHeartbeats 1000000 in
theorem wvar (b : Nat) (v : Value) (l : List UInt8) (N : Nat) (w : World) (h : Wr w b v l) (hN : N < 18446744073709551616) (hl : l.length ≤ 1000000000000) :
    Calls Tryd.prog 35 #[.pointer (some ⟨b, 0, none⟩), .int .u64 N] w fun e w' => e = .returned (.tuple #[]) ∧ ∃ v', Wr w' b v' (l ++ varB N) ∧ Fr (WS b) w w' := by
  have h0 := (cell_of h.blk 0).trans (show _ = some (Value.bool true) from rfl)
  have hten := varB_ten N hN
  obtain ⟨i0, hi, hz0, hz1, hz2⟩ := info_parts8
  go_enter Tryd.func35, Tryd.ntmps35
  go_wp2_with (go_at_call 58; refine (there_yes b _ h0).mono ?_; rintro e w' ⟨rfl, rfl⟩)
  go_loopw [1] (fun n w1 => ∃ (m : Nat) (v1 : Value) (l1 : List UInt8), n = .int .u64 m ∧ m ≤ N ∧ Wr w1 b v1 l1 ∧ l1 ++ varB m = l ++ varB N ∧ Fr (WS b) w' w1) (fun n _ => (intOf n).toNat)
  case atStart => exact ⟨N, v, l, rfl, Nat.le_refl _, h, rfl, Fr.refl _ _⟩
  case round =>
    obtain ⟨m, v1, l1, rfl, hm, h1, hll, hf⟩ := hrel
    have HL : Hid (l1 ++ varB m = l ++ varB N) := hll
    have hlen : l1.length ≤ 1000000000010 := by have := congrArg List.length hll; simp only [List.length_append] at this; omega
    clear hll
    have c1 := (cell_of h1.blk 1).trans (show _ = some v1 from rfl)
    have hbs := h1.blk
    have hsz := heap_lt hbs
    clear hbs
    by_cases hlt : m < 128
    · have HB : Hid (varB m = [UInt8.ofNat m]) := varB_lt hlt
      go_wp2_with (at_builtin; refine wpList_append_own _ rfl _ _ 53 rfl (b + 1) 5 i0 (.int .u8 0) 1 1 Tryd.underlying53 hi hz0 hz1 hz2 rfl (by decide) _ _ _ rfl (h1.own.alloc _) ⟨wr.heap.size, 0, none⟩ 1 1 [.int .u8 (m : Int)] rfl rfl (one_new _ _ _) (by simp [Value.oneCell']) (by unfold maxLen; omega) (by omega) (by simp; omega) ?_; intro v' w1 hown' hgrow _; obtain ⟨ga, gk, gc, rfl⟩ := ownsRow_form hown'; obtain ⟨hq1, hq2⟩ := h1.at1 ((Fr.refl _ _).alloc _) hgrow)
      obtain ⟨hw, hfr⟩ := h1.put (xs := [UInt8.ofNat m]) ((Fr.refl _ _).alloc _) (by rw [u8_of m (by omega)] at hown'; exact hown') rfl hgrow
      go_end0
      exact ⟨rfl, _, by rw [← HL.out, HB.out]; exact hw, hf.trans hfr (fun _ _ q => q)⟩
    · go_wp2_with (at_builtin; refine wpList_append_own _ rfl _ _ 53 rfl (b + 1) 5 i0 (.int .u8 0) 1 1 Tryd.underlying53 hi hz0 hz1 hz2 rfl (by decide) _ _ _ rfl (h1.own.alloc _) ⟨wr.heap.size, 0, none⟩ 1 1 [.int .u8 _] rfl rfl (one_new _ _ _) (by simp [Value.oneCell']) (by unfold maxLen; omega) (by omega) (by simp; omega) ?_; intro v' w1 hown' hgrow _; obtain ⟨ga, gk, gc, rfl⟩ := ownsRow_form hown'; obtain ⟨hq1, hq2⟩ := h1.at1 ((Fr.refl _ _).alloc _) hgrow)
      go_roundw
      case rel =>
        have e8 := var_byte m (by omega)
        rw [e8] at hown'
        obtain ⟨hw, hfr⟩ := h1.put (xs := [UInt8.ofNat (m % 128 + 128)]) ((Fr.refl _ _).alloc _) hown' rfl hgrow
        exact ⟨m / 128, _, _, by go_num, by omega, hw, by rw [List.append_assoc, ← HL.out, varB_ge hlt]; rfl, hf.trans hfr (fun _ _ q => q)⟩
      case measure => simp [intOf]; omega
end Go.Proofs.YtebbgpnhkpbefaaDoor
