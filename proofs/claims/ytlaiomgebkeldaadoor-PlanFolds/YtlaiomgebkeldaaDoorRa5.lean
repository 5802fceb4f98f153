/- The document's text with what comes behind it. -/
import Derived.Test.YtlaiomgebkeldaaDoorRa4
namespace Go.Proofs.YtlaiomgebkeldaaDoor.Rf
open Go.RowKit
set_option linter.unusedVariables false
set_option linter.unusedSimpArgs false

def lenV : Value → Nat
  | .slice _ n _ => n
  | _ => 0
theorem mkOm {w : World} (s : ByteArray) (cap : Nat) (hc : s.size ≤ cap) (C : Array Value) (hC : C = bytesRow s cap) (fz : Nat × Nat) (hf : C.size ≤ fz.1) (B g : Nat) (hB : B ≤ g) (hg : w.heap[g]? = some (.cells C 5 fz)) : Om B w (.slice (some ⟨g, 0, none⟩) s.size cap) s.data.toList := by
  have hl : s.data.toList.length = s.size := by rw [Array.length_toList]; rfl
  refine ⟨g, cap, C, fz, by rw [hl], hB, hg, .inr hf, by rw [hl]; exact hc, ?_, ?_⟩
  · rw [hC, bytesRow, Array.size_append, Array.size_map, Array.size_replicate]
    have : s.data.size = s.size := rfl
    omega
  · rw [hC, bytesRow, Array.toList_append, List.take_append_of_le_length (by simp), Array.toList_map, hl]
    exact List.take_of_length_le (by rw [List.length_map, hl]; exact Nat.le_refl _)

set_option maxRecDepth 100000 in
set_option maxHeartbeats 2000000 in
theorem padded_any (s : ByteArray) (hs : s.size ≤ 4194304) (w : World) :
    Calls Tryd.prog 71 #[.string s] w fun e w' => ∃ v, e = .returned v ∧ Om w.heap.size w' v (pad s.data.toList) ∧ Nw w w' := by
  obtain ⟨L, hL⟩ : ∃ L, L = s.data.toList := ⟨_, rfl⟩
  have hlen : L.length = s.size := by rw [hL, Array.length_toList]; rfl
  have HL : Hid (L = s.data.toList) := hL
  rw [← hL]
  clear hL
  have hcv := run_bytes_of_string (P := Tryd.prog) w 9 110 5 s Tryd.underlying9 Tryd.underlying110 Tryd.underlying5
  have hge := grownCap_ge w s.size 0 5
  obtain ⟨cap, hcap⟩ : ∃ cap, cap = grownCap w s.size 0 5 := ⟨_, rfl⟩
  rw [← hcap] at hcv hge
  clear hcap
  obtain ⟨w1, hw1⟩ : ∃ w1, w1 = w.drew.alloc (.cells (bytesRow s cap) 5 ((bytesRow s cap).size, (bytesRow s cap).size + 1)) := ⟨_, rfl⟩
  have o1 : Om w.heap.size w1 (.slice (some ⟨w.heap.size, 0, none⟩) s.size cap) L := by
    rw [hw1, HL.out]
    exact mkOm s cap hge _ rfl _ (Nat.le_refl _) _ _ (Nat.le_refl _) (heap_new w.drew _)
  have b1 : Below w.heap.size w w1 := by
    rw [hw1]
    exact ⟨rfl, rfl, rfl, by simp, fun k hk => Below.heap_alloc _ _ _ hk⟩
  rw [← hw1] at hcv
  have HW : Hid (w1.heap.size = w.heap.size + 1) := by unfold Hid; rw [hw1]; simp
  clear hw1
  obtain ⟨n, hn⟩ : ∃ n, n = s.size := ⟨_, rfl⟩
  have hb1 : w.heap.size ≤ w1.heap.size := b1.size
  go_enter Tryd.func71, Tryd.ntmps71
  go_wp2_with (at_builtin; refine wpList_app1 rfl _ _ rfl w.heap.size _ L 128 w1.heap.size rfl (o1.keep ((Fr.refl _ _).alloc _)) rfl (cell_of (heap_new w1 _) 0) (by omega) (by simp; omega) ?_; intro v2 w2 o2 b2)
  have bw2 : Below w.heap.size w w2 := (b1.alloc hb1 _).trans b2
  clear b1 b2 o1 hcv
  obtain ⟨M, hM⟩ : ∃ M, M = L ++ [128] := ⟨_, rfl⟩
  have hMl : M.length = s.size + 1 := by rw [hM, List.length_append, hlen]; rfl
  have HM : Hid (M = L ++ [128]) := hM
  rw [← hM] at o2
  clear hM
  have hzc : (s.size + 1 + zc s.size) % 64 = 56 := by unfold zc; omega
  have hz64 : zc s.size < 64 := by unfold zc; omega
  have HZ : Hid (∀ z, z ≤ zc s.size → (s.size + 1 + z) % 64 = 56 → z = zc s.size) := fun z h1 h2 => by unfold zc at h1 ⊢; omega
  obtain ⟨Z, hZ⟩ : ∃ Z, Z = zc s.size := ⟨_, rfl⟩
  rw [← hZ] at hzc hz64 HZ
  have HZZ : Hid (Z = zc s.size) := hZ
  clear hZ
  go_loopw [3] (fun b wr => ∃ z : Nat, z ≤ Z ∧ Om w.heap.size wr b (M ++ List.replicate z 0) ∧ Below w.heap.size w wr) (fun b _ => s.size + 1 + Z - lenV b)
  case atStart => exact ⟨0, by omega, by simpa using o2, bw2⟩
  case round =>
    clear o2 bw2
    obtain ⟨z, hz, o3, b3⟩ := hrel
    have hl3 : (M ++ List.replicate z 0).length = s.size + 1 + z := by rw [List.length_append, hMl, List.length_replicate]
    obtain ⟨g3, cap3, hv3⟩ := o3.form
    rw [hl3] at hv3
    subst hv3
    have hs3 : w.heap.size ≤ wr.heap.size := b3.size
    by_cases h56 : (s.size + 1 + z) % 64 = 56
    · obtain rfl := HZ.out z hz h56
      have h56i : ((s.size + 1 + z : Nat) : Int) % 64 = 56 := by omega
      obtain ⟨N, hN⟩ : ∃ N, N = M ++ List.replicate z 0 := ⟨_, rfl⟩
      rw [← hN] at o3 hl3
      have HN : Hid (N = M ++ List.replicate z 0) := hN
      clear hN
      have hn64 : (s.size + 1 + z) < 8388608 := by omega
      clear hzc hz64 HZ h56
      go_wp2_with fail
      clear h56i
      generalize (((s.size : Int) + 1 + (z : Int)) % 64 != 56) = bb
      go_loopw [3, 5] (fun b x wq => ∃ i : Nat, i ≤ 8 ∧ x = .int .i64 i ∧ Om w.heap.size wq b (N ++ (len8 (8 * s.size)).take i) ∧ Below w.heap.size w wq) (fun _ x _ => 8 - (intOf x).toNat)
      case atStart => exact ⟨0, by omega, rfl, by simpa [hl3] using o3, b3⟩
      case round =>
        clear o3 b3 hs3
        obtain ⟨i, hi8, rfl, o4, b4⟩ := hrel
        have hl4 : (N ++ (len8 (8 * s.size)).take i).length = s.size + 1 + z + i := by rw [List.length_append, hl3, List.length_take]; simp [len8]; omega
        obtain ⟨g4, cap4, hv4⟩ := o4.form
        rw [hl4] at hv4
        subst hv4
        have hs4 : w.heap.size ≤ wr.heap.size := b4.size
        by_cases hlt : i < 8
        · have hii : (i : Int) < 8 := by omega
          have HT : Hid ((len8 (8 * s.size)).take (i + 1) = (len8 (8 * s.size)).take i ++ [lby (8 * s.size) i]) := by
            unfold Hid
            have : i = 0 ∨ i = 1 ∨ i = 2 ∨ i = 3 ∨ i = 4 ∨ i = 5 ∨ i = 6 ∨ i = 7 := by omega
            rcases this with rfl | rfl | rfl | rfl | rfl | rfl | rfl | rfl <;> rfl
          have hval : (s.size : Int) * 8 / 2 ^ (56 - 8 * i) % 256 = (((lby (8 * s.size) i).toNat : Nat) : Int) := by
            rw [← lby_val (8 * s.size) i, show 8 * (7 - i) = 56 - 8 * i by omega, Int.natCast_mul, Int.mul_comm]
            rfl
          generalize hA : N ++ (len8 (8 * s.size)).take i = A at o4 hl4
          go_wp2_with (at_builtin; refine wpList_app1 rfl _ _ rfl w.heap.size _ A (lby (8 * s.size) i) wr.heap.size rfl (by rw [hl4] at *; exact o4.keep ((Fr.refl _ _).alloc _)) rfl (by rw [cell_of (heap_new wr _)]; first | rfl | exact congrArg (fun x => some (Value.int .u8 x)) hval) (by rw [hl4]; omega) (by simp; omega) ?_; intro v5 w5 o5 b5)
          refine ⟨⟨i + 1, by omega, by go_num, by rw [HT.out, ← List.append_assoc, hA]; exact o5, (b4.alloc hs4 _).trans b5⟩, by simp [intOf]; omega⟩
        · obtain rfl : i = 8 := by omega
          have h8 : (len8 (8 * s.size)).take 8 = len8 (8 * s.size) := rfl
          have HP : Hid (N ++ len8 (8 * s.size) = pad L) := by unfold Hid; rw [HN.out, HM.out, pad, hlen, HZZ.out]
          rw [h8, HP.out] at o4
          go_wp2
          go_ret
          exact ⟨_, rfl, o4, Fr.ofBelow b4⟩
    · have hlt : z < Z := by
        rcases Nat.lt_or_ge z Z with h | h
        · exact h
        · exact absurd (by rw [show z = Z by omega]; exact hzc) h56
      have h56i : ¬ ((s.size + 1 + z : Nat) : Int) % 64 = 56 := by omega
      go_wp2_with (at_builtin; refine wpList_app1 rfl _ _ rfl w.heap.size _ (M ++ List.replicate z 0) 0 wr.heap.size rfl (by rw [hl3] at *; exact o3.keep ((Fr.refl _ _).alloc _)) rfl (cell_of (heap_new wr _) 0) (by rw [hl3]; omega) (by simp; omega) ?_; intro v4 w4 o4 b4)
      have hl5 : ∀ l, Om w.heap.size w4 v4 l → lenV v4 = l.length := fun l h => by obtain ⟨g, c, e⟩ := h.form; rw [e]; rfl
      have e5 := hl5 _ o4
      rw [List.length_append, hl3] at e5
      refine ⟨⟨z + 1, by omega, by rw [List.replicate_succ', ← List.append_assoc]; exact o4, (b3.alloc hs3 _).trans b4⟩, ?_⟩
      rw [e5]
      show _ < s.size + 1 + Z - (s.size + 1 + z)
      simp
      omega
end Go.Proofs.YtlaiomgebkeldaaDoor.Rf
