/- The document's own digits of bytes. -/
import Derived.Test.YtdcnoepgnncjoaaDoorC2
import Derived.Deep.RegionHeld3
import Derived.Deep.AppendLies
import Derived.Deep.DrawnRows
namespace Go.Proofs.YtdcnoepgnncjoaaDoor
open Go.RowKit
set_option linter.unusedVariables false
set_option linter.unusedSimpArgs false
attribute [local go_sem ↓] Go.wp_at_zero Go.wp_at_succ

theorem own_grown {B : Nat} {W w w1 : World} {v : Value} {n : Nat} {xs : List Value} (hw : Below B W w) (h : w.ownsRow B 5 1 v n xs) (hg : w.grownBy w1 v.ownBlock) (hB : B ≤ W.heap.size) : Below B W w1 := by
  refine ⟨hg.os.trans hw.os, hg.tape.trans hw.tape, hg.output.trans hw.output, ?_, fun k hk => ?_⟩
  · have := hg.size; have := hw.size; omega
  · rw [hg.block k (by have := hw.size; omega) (fun e => by have := h.lt k e.symm; omega)]
    exact hw.block k hk
theorem own_more {B : Nat} {w1 : World} {v' : Value} {l l' : List UInt8} {vs : List Value} {n : Nat} (hx : vs = bc l') (ho : w1.ownsRow B 5 1 v' n (bc l ++ vs)) (hn : n = l.length + l'.length) : Own B w1 v' (l ++ l') := by
  subst hn hx
  unfold Own
  rw [List.length_append, bc_app]
  exact ho
theorem hexs_val (x : Int) (n : Nat) (hxn : x = n) (hn : n < 16) (h : x.toNat < hexsB.size) : (Value.int .u8 ((hexsB[x.toNat]'h).toNat : Int)) = .int .u8 ((hx n).toNat : Int) := by
  subst hxn
  rw [hexsB_get]
  rfl
set_option maxRecDepth 100000 in
set_option maxHeartbeats 4000000 in
theorem refhex_any (s : ByteArray) (w : World) (hs : s.size ≤ 1048576) :
    Calls Tryd.prog 17 #[.string s] w fun e w' => e = .returned (.string ⟨(hex s.data.toList).toArray⟩) ∧ Nw w w' := by
  obtain ⟨L, hL⟩ : ∃ L, L = s.data.toList := ⟨_, rfl⟩
  have hlen : L.length = s.size := by rw [hL, Array.length_toList]; rfl
  have hC : Hid (∀ k (h : k < s.size), s[k]'h = C L k) := fun k h => by rw [hL]; exact C_get s k h
  rw [← hL]
  clear hL
  obtain ⟨i0, hi, hz0, hz1, hz2⟩ := info_parts8
  have hz2i := hz2
  clear hz2
  go_enter Tryd.func17, Tryd.ntmps17
  go_wp2
  go_loopw [3, 4] (fun b i wr => ∃ k : Nat, k ≤ s.size ∧ i = .int .i64 k ∧ Own w.heap.size wr b (hex (L.take k)) ∧ Below w.heap.size w wr) (fun _ i _ => s.size - (intOf i).toNat)
  case atStart => exact ⟨0, by omega, rfl, World.ownsRow_nil _ _ _ _, Below.refl _ _⟩
  case round =>
    obtain ⟨k, hk, rfl, ho, hb⟩ := hrel
    by_cases hlt : k < s.size
    · have hck := hC.out k hlt
      have hsz : w.heap.size ≤ wr.heap.size := hb.size
      have hmore := hex_more L k (by omega)
      have hll : (hex (L.take k)).length ≤ 2097152 := by rw [hex_length, List.length_take]; omega
      obtain ⟨c, hc⟩ : ∃ c, C L k = c := ⟨_, rfl⟩
      have hc256 : c.toNat < 256 := c.toNat_lt
      rw [hc] at hck hmore
      have HM : Hid (hex (L.take (k + 1)) = hex (L.take k) ++ [hx (c.toNat / 16)] ++ [hx (c.toNat % 16)]) := hmore
      clear hmore hc
      generalize hex (L.take k) = A at ho hll HM
      obtain ⟨ca, cc, rfl⟩ := ownsRow_form ho
      have b0 : (0 : Int) ≤ (k : Int) := by omega
      have b1 : (k : Int) < (s.size : Int) := by omega
      have q0 : (0 : Int) ≤ (c.toNat : Int) / 16 := by omega
      have q1 : (c.toNat : Int) / 16 < 16 := by omega
      have r0 : (0 : Int) ≤ (c.toNat : Int) % 16 := by omega
      have r1 : (c.toNat : Int) % 16 < 16 := by omega
      have e1 : IntKind.u8.wrap ((c.toNat : Int) / 16) = (c.toNat : Int) / 16 := wraps_u8 _ q0 (by omega)
      have e2 : ((c.toNat : Int)).tmod 16 = (c.toNat : Int) % 16 := Int.tmod_eq_emod_of_nonneg (by omega)
      go_wp2_with fail
      go_region_held3 (fun w' => True) (trivial) ((refine step_append_lies _ (by rfl) _ _ _ (by rfl) w.heap.size 5 i0 (.int .u8 0) 1 1 Tryd.underlying43 hi hz0 hz1 hz2i rfl (by omega) (.slice ca A.length cc) A.length (bc A) (by rfl) ((ho.alloc _).drew) ⟨wr.heap.size, 0, none⟩ 2 2 [_, _] (by rfl) (by rfl) (World.news_of_block (cs := #[_, _]) (t := 5) (fr := (0, 0)) (heap_alloc_new wr _)) (by simp [Value.oneCell']) (by omega) (by unfold maxLen; omega) (by omega) (by simp; omega) (wr.heap.size + 1) (by simp) ?_; intro gg cap w1 hown1 hgrow hat hlt2))
      all_goals go_wp2
      all_goals
        refine ⟨⟨k + 1, by omega, by go_num, ?_, own_grown ((hb.alloc hsz _).drew) ((ho.alloc _).drew) hgrow (Nat.le_refl _)⟩, by simp [intOf]; omega⟩
        rw [HM.out, List.append_assoc]
        refine own_more ?_ hown1 rfl
        show _ = [Value.int .u8 _, Value.int .u8 _]
        rw [hexs_val _ (c.toNat / 16) (by omega) (by omega), hexs_val _ (c.toNat % 16) (by omega) (by omega)]
    · obtain rfl : k = s.size := by omega
      rw [← hlen, List.take_length] at ho
      obtain ⟨R, hR⟩ : ∃ R, R = hex L := ⟨_, rfl⟩
      have HR : Hid (R = hex L) := hR
      rw [← hR] at ho
      clear hR
      have hcv := conv_own ho
      obtain ⟨ca, cc, rfl⟩ := ownsRow_form ho
      go_wp2
      go_ret
      exact ⟨by rw [← HR.out]; rfl, Fr.ofBelow hb⟩
end Go.Proofs.YtdcnoepgnncjoaaDoor
