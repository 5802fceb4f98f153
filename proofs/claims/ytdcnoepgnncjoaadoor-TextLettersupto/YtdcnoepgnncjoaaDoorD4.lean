/- The document's own letters of bytes. -/
import Derived.Test.YtdcnoepgnncjoaaDoorD3
namespace Go.Proofs.YtdcnoepgnncjoaaDoor
open Go.RowKit
set_option linter.unusedVariables false
set_option linter.unusedSimpArgs false
attribute [local go_sem ↓] Go.wp_at_zero Go.wp_at_succ

/-- The number of the first j bytes. -/
def mJ (l : List UInt8) : Nat → Nat
  | 0 => 0
  | j + 1 => mJ l j * 256 + (C l j).toNat
theorem mJ_le (l : List UInt8) (j : Nat) (h : j ≤ 3) : mJ l j < 16777216 := by
  have h0 := (C l 0).toNat_lt; have h1 := (C l 1).toNat_lt; have h2 := (C l 2).toNat_lt
  have hj : j = 0 ∨ j = 1 ∨ j = 2 ∨ j = 3 := by omega
  rcases hj with rfl | rfl | rfl | rfl <;> simp only [mJ] <;> omega
theorem b64_three (l : List UInt8) (hl : l ≠ []) : b64 (l.take 3) = [lt (mJ l 3 / 262144), lt (mJ l 3 / 4096 % 64), if 1 < l.length then lt (mJ l 3 / 64 % 64) else 61, if 2 < l.length then lt (mJ l 3 % 64) else 61] := by
  have e : mJ l 3 = n3 (C l 0) (C l 1) (C l 2) := by simp only [mJ, n3]; omega
  rw [e]
  rcases l with _ | ⟨a, _ | ⟨b, _ | ⟨c, r⟩⟩⟩
  · exact absurd rfl hl
  · simp [b64, C]
  · simp [b64, C]
  · simp [b64, C]
theorem b64_more3 (L : List UInt8) (p : Nat) (h3 : p % 3 = 0) (hp : p < L.length) : b64 (L.take (p + 3)) = b64 (L.take p) ++ b64 ((L.drop p).take 3) := by
  rw [← b64_append _ _ (by rw [List.length_take]; omega), List.take_add]
theorem abc_val (x : Int) (n : Nat) (hxn : x = n) (hn : n < 64) (h : x.toNat < abcB.size) : (((abcB[x.toNat]'h).toNat : Nat) : Int) = ((lt n).toNat : Int) := by
  subst hxn
  have : (n : Int).toNat = n := rfl
  unfold lt
  rw [List.getD_eq_getElem?_getD, List.getElem?_eq_getElem (show n < abc.length from hn)]
  rfl
set_option maxRecDepth 100000 in
set_option maxHeartbeats 2000000 in
theorem ref64_any (s : ByteArray) (w : World) (hs : s.size ≤ 1048576) :
    Calls Tryd.prog 11 #[.string s] w fun e w' => e = .returned (.string ⟨(b64 s.data.toList).toArray⟩) ∧ Nw w w' := by
  obtain ⟨L, hL⟩ : ∃ L, L = s.data.toList := ⟨_, rfl⟩
  have hlen : L.length = s.size := by rw [hL, Array.length_toList]; rfl
  have hC : Hid (∀ k (h : k < s.size), s[k]'h = C L k) := fun k h => by rw [hL]; exact C_get s k h
  rw [← hL]
  clear hL
  obtain ⟨i0, hi, hz0, hz1, hz2⟩ := info_parts8
  have hz2i := hz2
  clear hz2
  go_enter Tryd.func11, Tryd.ntmps11
  go_wp2
  go_loopw [3, 4] (fun b i wr => ∃ p : Nat, p % 3 = 0 ∧ p ≤ s.size + 2 ∧ i = .int .i64 p ∧ Own w.heap.size wr b (b64 (L.take p)) ∧ Below w.heap.size w wr) (fun _ i _ => s.size + 3 - (intOf i).toNat)
  case atStart => exact ⟨0, rfl, by omega, rfl, World.ownsRow_nil _ _ _ _, Below.refl _ _⟩
  case round =>
    obtain ⟨p, hp3, hp, rfl, ho, hb⟩ := hrel
    obtain ⟨wo, hwo⟩ : ∃ x, x = wr := ⟨_, rfl⟩
    subst hwo
    have HP3 : Hid (p % 3 = 0) := hp3
    clear hp3
    have hsz : w.heap.size ≤ wo.heap.size := hb.size
    by_cases hlt : p < s.size
    · have hne : L.drop p ≠ [] := by rw [Ne, List.drop_eq_nil_iff]; omega
      have HM : Hid (b64 (L.take (p + 3)) = b64 (L.take p) ++ [lt (mJ (L.drop p) 3 / 262144), lt (mJ (L.drop p) 3 / 4096 % 64), if 1 < (L.drop p).length then lt (mJ (L.drop p) 3 / 64 % 64) else 61, if 2 < (L.drop p).length then lt (mJ (L.drop p) 3 % 64) else 61]) := by
        unfold Hid
        rw [b64_more3 L p HP3.out (by omega), b64_three _ hne]
      have HDL : Hid ((L.drop p).length = s.size - p) := by unfold Hid; rw [List.length_drop, hlen]
      have hal : (b64 (L.take p)).length ≤ 2097152 := by rw [b64_length, List.length_take]; omega
      have HCC : Hid (∀ q j (_ : q = p + j) (hq : q < s.size), s[q]'hq = C (L.drop p) j) := fun q j h hq => by rw [hC.out q hq, C_drop_add, h]
      have HC0 : Hid (∀ j, s.size ≤ p + j → C (L.drop p) j = 0) := fun j h => by
        rw [C_drop_add]; unfold C
        rw [List.getD_eq_getElem?_getD, List.getElem?_eq_none (by omega)]; rfl
      have HNB : Hid (∀ j, j ≤ 3 → mJ (L.drop p) j < 16777216) := mJ_le _
      clear hne
      generalize L.drop p = l at HM HDL HCC HC0 HNB
      generalize b64 (L.take p) = A at ho HM hal
      obtain ⟨ca, cc, rfl⟩ := ownsRow_form ho
      go_wp2
      go_loopw [5, 6] (fun n k wq => ∃ q j N : Nat, q = p + j ∧ j ≤ 3 ∧ k = .int .i64 (q : Int) ∧ n = .int .i64 (N : Int) ∧ N = mJ l j ∧ wq = wo) (fun _ k _ => p + 3 - (intOf k).toNat)
      case atStart => exact ⟨p, 0, 0, rfl, by omega, rfl, rfl, rfl, rfl⟩
      case round =>
        obtain ⟨q, j, N, hqj, hj, rfl, rfl, hN, rfl⟩ := hrel
        have HQ : Hid (q = p + j) := hqj
        have HN : Hid (N = mJ l j) := hN
        have hNb : N < 16777216 := by rw [hN]; exact HNB.out j hj
        have hqb : q ≤ s.size + 8 := by omega
        clear hN hqj
        by_cases hjl : j < 3
        · have hjz : (q : Int) < (p : Int) + 3 := by have := HQ.out; omega
          by_cases hqs : q < s.size
          · have hcj := HCC.out q j HQ.out hqs
            have hjs : (q : Int) < (s.size : Int) := by omega
            have HN2 : Hid (N * 256 + (C l j).toNat = mJ l (j + 1)) := by unfold Hid; rw [HN.out]; rfl
            generalize C l j = c at hcj HN2
            have hc256 : c.toNat < 256 := c.toNat_lt
            go_wp2
            exact ⟨⟨q + 1, j + 1, N * 256 + c.toNat, by have := HQ.out; omega, by omega, by go_num, by go_num, HN2.out, trivial⟩, by simp [intOf]; omega⟩
          · have hjs : ¬ (q : Int) < (s.size : Int) := by omega
            have HN2 : Hid (N * 256 = mJ l (j + 1)) := by unfold Hid; rw [HN.out]; simp only [mJ]; rw [HC0.out j (by have := HQ.out; omega)]; rfl
            go_wp2
            exact ⟨⟨q + 1, j + 1, N * 256, by have := HQ.out; omega, by omega, by go_num, by go_num, HN2.out, trivial⟩, by simp [intOf]; omega⟩
        · have hj3 : j = 3 := by omega
          have HN3 : Hid (mJ l 3 = N) := by unfold Hid; rw [HN.out, hj3]
          have hjz : ¬ (q : Int) < (p : Int) + 3 := by have := HQ.out; omega
          clear HN
          have HM2 : Hid (b64 (L.take (p + 3)) = A ++ [lt (N / 262144), lt (N / 4096 % 64), if 1 < s.size - p then lt (N / 64 % 64) else 61, if 2 < s.size - p then lt (N % 64) else 61]) := by unfold Hid; rw [HM.out, HN3.out, HDL.out]
          clear HM HN3 HDL
          have q0 : (0 : Int) ≤ (N : Int) / 262144 := by omega
          have q1 : (N : Int) / 262144 < 64 := by omega
          have r0 : (0 : Int) ≤ (N : Int) / 4096 % 64 := by omega
          have r1 : (N : Int) / 4096 % 64 < 64 := by omega
          have e1 : IntKind.i64.wrap ((N : Int) / 262144) = (N : Int) / 262144 := wrap_i64_in _ (by omega)
          have e2 : IntKind.i64.wrap ((N : Int) / 4096) = (N : Int) / 4096 := wrap_i64_in _ (by omega)
          have e3 : ((N : Int) / 4096).tmod 64 = (N : Int) / 4096 % 64 := Int.tmod_eq_emod_of_nonneg (by omega)
          have hcs : (1 < s.size - p ∧ 2 < s.size - p) ∨ (1 < s.size - p ∧ ¬ 2 < s.size - p) ∨ (¬ 1 < s.size - p ∧ ¬ 2 < s.size - p) := by omega
          rcases hcs with ⟨s1, s2⟩ | ⟨s1, s2⟩ | ⟨s1, s2⟩
          · have HM3 : Hid (b64 (L.take (p + 3)) = A ++ [lt (N / 262144), lt (N / 4096 % 64)] ++ [lt (N / 64 % 64)] ++ [lt (N % 64)]) := by unfold Hid; rw [HM2.out, if_pos s1, if_pos s2]; simp
            have z1 : (p : Int) + 1 < (s.size : Int) := by omega
            have z2 : (p : Int) + 2 < (s.size : Int) := by omega
            clear HM2
            go_wp2_with fail
            go_region_held3 (fun w' => True) (trivial) ((refine step_append_lies _ (by rfl) _ _ _ (by rfl) w.heap.size 5 i0 (.int .u8 0) 1 1 Tryd.underlying43 hi hz0 hz1 hz2i rfl (by omega) (.slice ca A.length cc) A.length (bc A) (by rfl) ((ho.alloc _).drew) ⟨wr.heap.size, 0, none⟩ 2 2 [_, _] (by rfl) (by rfl) (World.news_of_block (cs := #[_, _]) (t := 5) (fr := (0, 0)) (heap_alloc_new wr _)) (by simp [Value.oneCell']) (by omega) (by unfold maxLen; omega) (by omega) (by simp; omega) (wr.heap.size + 1) (by simp) ?_; intro gg cap w1 hown1 hgrow hat hlt2))
            all_goals
              have b1 := own_grown ((hb.alloc hsz _).drew) ((ho.alloc _).drew) hgrow (Nat.le_refl _)
              obtain ⟨A2, hA2⟩ : ∃ A2, A2 = A ++ [lt (N / 262144), lt (N / 4096 % 64)] := ⟨_, rfl⟩
              have hl2 : A.length + 2 = A2.length := by rw [hA2, List.length_append]; rfl
              have o1 := own_more (l' := [lt (N / 262144), lt (N / 4096 % 64)]) (by show [Value.int .u8 _, Value.int .u8 _] = [Value.int .u8 _, Value.int .u8 _]; rw [abc_val ((N : Int) / 262144) (N / 262144) (by omega) (by omega), abc_val ((N : Int) / 4096 % 64) (N / 4096 % 64) (by omega) (by omega)]) hown1 rfl
              rw [← hA2, hl2] at o1
              have HM4 : Hid (b64 (L.take (p + 3)) = A2 ++ [lt (N / 64 % 64)] ++ [lt (N % 64)]) := by unfold Hid; rw [hA2]; exact HM3.out
              have hal2 : A2.length ≤ 2097154 := by omega
              rw [hl2]
              clear hl2 hA2
              clear hown1 hgrow hat
              go_wp2_with (first
                | (at_builtin; refine wpList_append_own _ rfl _ _ 43 rfl w.heap.size 5 i0 (.int .u8 0) 1 1 Tryd.underlying43 hi hz0 hz1 hz2i rfl (by decide) _ _ _ rfl (ow2.alloc _) ⟨w2.heap.size, 0, none⟩ 1 1 [.int .u8 _] rfl rfl (one_new _ _ _) (by simp [Value.oneCell']) (by unfold maxLen; simp; omega) (by simp; omega) (by have := bw2.size; simp; omega) ?_; intro v' w3 hown' hgrow' _; obtain ⟨ga, gc, rfl⟩ := ownsRow_form hown'; obtain ⟨ow3, bw3⟩ := own_put bw2 ow2 (abc_val ((N : Int) % 64) (N % 64) (by omega) (by omega) _) hown' rfl hgrow' (Nat.le_refl _); clear hown' hgrow')
                | (at_builtin; refine wpList_append_own _ rfl _ _ 43 rfl w.heap.size 5 i0 (.int .u8 0) 1 1 Tryd.underlying43 hi hz0 hz1 hz2i rfl (by decide) _ _ _ rfl (o1.alloc _) ⟨w1.heap.size, 0, none⟩ 1 1 [.int .u8 _] rfl rfl (one_new _ _ _) (by simp [Value.oneCell']) (by unfold maxLen; simp; omega) (by simp; omega) (by have := b1.size; simp; omega) ?_; intro v' w2 hown' hgrow' _; obtain ⟨ga, gc, rfl⟩ := ownsRow_form hown'; obtain ⟨ow2, bw2⟩ := own_put b1 o1 (abc_val ((N : Int) / 64 % 64) (N / 64 % 64) (by omega) (by omega) _) hown' rfl hgrow' (Nat.le_refl _); clear hown' hgrow'))
              refine ⟨⟨p + 3, by have := HP3.out; omega, by omega, by go_num, by rw [HM4.out]; have h := ow3; rw [List.length_append] at h; exact h, bw3⟩, by simp [intOf]; omega⟩
          · have HM3 : Hid (b64 (L.take (p + 3)) = A ++ [lt (N / 262144), lt (N / 4096 % 64)] ++ [lt (N / 64 % 64)] ++ [61]) := by unfold Hid; rw [HM2.out, if_pos s1, if_neg s2]; simp
            have z1 : (p : Int) + 1 < (s.size : Int) := by omega
            have z2 : ¬ (p : Int) + 2 < (s.size : Int) := by omega
            clear HM2
            go_wp2_with fail
            go_region_held3 (fun w' => True) (trivial) ((refine step_append_lies _ (by rfl) _ _ _ (by rfl) w.heap.size 5 i0 (.int .u8 0) 1 1 Tryd.underlying43 hi hz0 hz1 hz2i rfl (by omega) (.slice ca A.length cc) A.length (bc A) (by rfl) ((ho.alloc _).drew) ⟨wr.heap.size, 0, none⟩ 2 2 [_, _] (by rfl) (by rfl) (World.news_of_block (cs := #[_, _]) (t := 5) (fr := (0, 0)) (heap_alloc_new wr _)) (by simp [Value.oneCell']) (by omega) (by unfold maxLen; omega) (by omega) (by simp; omega) (wr.heap.size + 1) (by simp) ?_; intro gg cap w1 hown1 hgrow hat hlt2))
            all_goals
              have b1 := own_grown ((hb.alloc hsz _).drew) ((ho.alloc _).drew) hgrow (Nat.le_refl _)
              obtain ⟨A2, hA2⟩ : ∃ A2, A2 = A ++ [lt (N / 262144), lt (N / 4096 % 64)] := ⟨_, rfl⟩
              have hl2 : A.length + 2 = A2.length := by rw [hA2, List.length_append]; rfl
              have o1 := own_more (l' := [lt (N / 262144), lt (N / 4096 % 64)]) (by show [Value.int .u8 _, Value.int .u8 _] = [Value.int .u8 _, Value.int .u8 _]; rw [abc_val ((N : Int) / 262144) (N / 262144) (by omega) (by omega), abc_val ((N : Int) / 4096 % 64) (N / 4096 % 64) (by omega) (by omega)]) hown1 rfl
              rw [← hA2, hl2] at o1
              have HM4 : Hid (b64 (L.take (p + 3)) = A2 ++ [lt (N / 64 % 64)] ++ [61]) := by unfold Hid; rw [hA2]; exact HM3.out
              have hal2 : A2.length ≤ 2097154 := by omega
              rw [hl2]
              clear hl2 hA2
              clear hown1 hgrow hat
              go_wp2_with (first
                | (at_builtin; refine wpList_append_own _ rfl _ _ 43 rfl w.heap.size 5 i0 (.int .u8 0) 1 1 Tryd.underlying43 hi hz0 hz1 hz2i rfl (by decide) _ _ _ rfl (ow2.alloc _) ⟨w2.heap.size, 0, none⟩ 1 1 [.int .u8 _] rfl rfl (one_new _ _ _) (by simp [Value.oneCell']) (by unfold maxLen; simp; omega) (by simp; omega) (by have := bw2.size; simp; omega) ?_; intro v' w3 hown' hgrow' _; obtain ⟨ga, gc, rfl⟩ := ownsRow_form hown'; obtain ⟨ow3, bw3⟩ := own_put bw2 ow2 (show (61 : Int) = ((61 : UInt8).toNat : Int) from rfl) hown' rfl hgrow' (Nat.le_refl _); clear hown' hgrow')
                | (at_builtin; refine wpList_append_own _ rfl _ _ 43 rfl w.heap.size 5 i0 (.int .u8 0) 1 1 Tryd.underlying43 hi hz0 hz1 hz2i rfl (by decide) _ _ _ rfl (o1.alloc _) ⟨w1.heap.size, 0, none⟩ 1 1 [.int .u8 _] rfl rfl (one_new _ _ _) (by simp [Value.oneCell']) (by unfold maxLen; simp; omega) (by simp; omega) (by have := b1.size; simp; omega) ?_; intro v' w2 hown' hgrow' _; obtain ⟨ga, gc, rfl⟩ := ownsRow_form hown'; obtain ⟨ow2, bw2⟩ := own_put b1 o1 (abc_val ((N : Int) / 64 % 64) (N / 64 % 64) (by omega) (by omega) _) hown' rfl hgrow' (Nat.le_refl _); clear hown' hgrow'))
              refine ⟨⟨p + 3, by have := HP3.out; omega, by omega, by go_num, by rw [HM4.out]; have h := ow3; rw [List.length_append] at h; exact h, bw3⟩, by simp [intOf]; omega⟩
          · have HM3 : Hid (b64 (L.take (p + 3)) = A ++ [lt (N / 262144), lt (N / 4096 % 64)] ++ [61] ++ [61]) := by unfold Hid; rw [HM2.out, if_neg s1, if_neg s2]; simp
            have z1 : ¬ (p : Int) + 1 < (s.size : Int) := by omega
            have z2 : ¬ (p : Int) + 2 < (s.size : Int) := by omega
            clear HM2
            go_wp2_with fail
            go_region_held3 (fun w' => True) (trivial) ((refine step_append_lies _ (by rfl) _ _ _ (by rfl) w.heap.size 5 i0 (.int .u8 0) 1 1 Tryd.underlying43 hi hz0 hz1 hz2i rfl (by omega) (.slice ca A.length cc) A.length (bc A) (by rfl) ((ho.alloc _).drew) ⟨wr.heap.size, 0, none⟩ 2 2 [_, _] (by rfl) (by rfl) (World.news_of_block (cs := #[_, _]) (t := 5) (fr := (0, 0)) (heap_alloc_new wr _)) (by simp [Value.oneCell']) (by omega) (by unfold maxLen; omega) (by omega) (by simp; omega) (wr.heap.size + 1) (by simp) ?_; intro gg cap w1 hown1 hgrow hat hlt2))
            all_goals
              have b1 := own_grown ((hb.alloc hsz _).drew) ((ho.alloc _).drew) hgrow (Nat.le_refl _)
              obtain ⟨A2, hA2⟩ : ∃ A2, A2 = A ++ [lt (N / 262144), lt (N / 4096 % 64)] := ⟨_, rfl⟩
              have hl2 : A.length + 2 = A2.length := by rw [hA2, List.length_append]; rfl
              have o1 := own_more (l' := [lt (N / 262144), lt (N / 4096 % 64)]) (by show [Value.int .u8 _, Value.int .u8 _] = [Value.int .u8 _, Value.int .u8 _]; rw [abc_val ((N : Int) / 262144) (N / 262144) (by omega) (by omega), abc_val ((N : Int) / 4096 % 64) (N / 4096 % 64) (by omega) (by omega)]) hown1 rfl
              rw [← hA2, hl2] at o1
              have HM4 : Hid (b64 (L.take (p + 3)) = A2 ++ [61] ++ [61]) := by unfold Hid; rw [hA2]; exact HM3.out
              have hal2 : A2.length ≤ 2097154 := by omega
              rw [hl2]
              clear hl2 hA2
              clear hown1 hgrow hat
              go_wp2_with (first
                | (at_builtin; refine wpList_append_own _ rfl _ _ 43 rfl w.heap.size 5 i0 (.int .u8 0) 1 1 Tryd.underlying43 hi hz0 hz1 hz2i rfl (by decide) _ _ _ rfl (ow2.alloc _) ⟨w2.heap.size, 0, none⟩ 1 1 [.int .u8 _] rfl rfl (one_new _ _ _) (by simp [Value.oneCell']) (by unfold maxLen; simp; omega) (by simp; omega) (by have := bw2.size; simp; omega) ?_; intro v' w3 hown' hgrow' _; obtain ⟨ga, gc, rfl⟩ := ownsRow_form hown'; obtain ⟨ow3, bw3⟩ := own_put bw2 ow2 (show (61 : Int) = ((61 : UInt8).toNat : Int) from rfl) hown' rfl hgrow' (Nat.le_refl _); clear hown' hgrow')
                | (at_builtin; refine wpList_append_own _ rfl _ _ 43 rfl w.heap.size 5 i0 (.int .u8 0) 1 1 Tryd.underlying43 hi hz0 hz1 hz2i rfl (by decide) _ _ _ rfl (o1.alloc _) ⟨w1.heap.size, 0, none⟩ 1 1 [.int .u8 _] rfl rfl (one_new _ _ _) (by simp [Value.oneCell']) (by unfold maxLen; simp; omega) (by simp; omega) (by have := b1.size; simp; omega) ?_; intro v' w2 hown' hgrow' _; obtain ⟨ga, gc, rfl⟩ := ownsRow_form hown'; obtain ⟨ow2, bw2⟩ := own_put b1 o1 (show (61 : Int) = ((61 : UInt8).toNat : Int) from rfl) hown' rfl hgrow' (Nat.le_refl _); clear hown' hgrow'))
              refine ⟨⟨p + 3, by have := HP3.out; omega, by omega, by go_num, by rw [HM4.out]; have h := ow3; rw [List.length_append] at h; exact h, bw3⟩, by simp [intOf]; omega⟩
    · have hte : L.take p = L := List.take_of_length_le (by omega)
      rw [hte] at ho
      clear hte
      obtain ⟨R, hR⟩ : ∃ R, R = b64 L := ⟨_, rfl⟩
      have HR : Hid (R = b64 L) := hR
      rw [← hR] at ho
      clear hR
      have hcv := conv_own ho
      have hpz : ¬ (p : Int) < (s.size : Int) := by omega
      obtain ⟨ca, cc, rfl⟩ := ownsRow_form ho
      go_wp2
      go_ret
      exact ⟨by rw [← HR.out]; rfl, Fr.ofBelow hb⟩
end Go.Proofs.YtdcnoepgnncjoaaDoor
