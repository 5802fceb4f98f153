/- tile: the document's Parse of a text of eight bytes and more. -/
import Derived.Test.YtgobdjdaehlgdaaGreatDoorDe
namespace Go.Proofs.YtgobdjdaehlgdaaGreatDoor
open Go.RowKit
open Go.Lib (decDigits nDigits)
set_option linter.unusedVariables false
set_option linter.unusedSimpArgs false
theorem ext_mid (s : ByteArray) (a b : Nat) : (s.extract a b).data.toList = (s.data.toList.drop a).take (b - a) := by
  rw [ByteArray.data_extract, Array.toList_extract, List.extract_eq_take_drop]
/-- What lies in memory at the head of Parse's loop. -/
structure Pz (w wr : World) (c : Nat) (L I : Nat) (W : Int) : Prop where
  b2 : wr.heap[w.heap.size]? = some (.cells #[.int .u8 0, .int .u64 0, .int .i64 0] 56)
  b3 : wr.heap[w.heap.size + 1]? = some (.cells #[.int .i64 0, .int .i64 0] 29)
  b4 : wr.heap[c]? = some (.cells #[.int .i64 3, .int .i64 (-1)] 29)
  b5 : wr.heap[c + 1]? = some (.cells #[.int .u8 (L : Int), .int .u64 (I : Int), .int .i64 W] 56)
  lt : w.heap.size + 1 < c
  nw : Nw w wr
theorem Pz.go {w wr w' : World} {c L I : Nat} {W : Int} (h : Pz w wr c L I W) (n : Nw wr w') : Pz w w' c L I W :=
  ⟨(n.block _ (heap_lt h.b2) (fun f => f)).trans h.b2, (n.block _ (heap_lt h.b3) (fun f => f)).trans h.b3, (n.block _ (heap_lt h.b4) (fun f => f)).trans h.b4, (n.block _ (heap_lt h.b5) (fun f => f)).trans h.b5, h.lt, h.nw.tr n⟩
set_option maxRecDepth 100000 in
set_option maxHeartbeats 2000000 in
theorem rparse_any (s : ByteArray) (hs8 : 8 ≤ s.size) (hsb : s.size ≤ 4611686018427387904) (L I W : Nat) (ok : Bool) (hL : roL s.data.toList = L) (hI : roI s.data.toList = I) (hW : roW s.data.toList = W) (hok : ok = true ↔ mayT L I (W : Int) ∧ nm L I W = s.data.toList) (w : World) :
    Calls Tryz.prog 16 #[.string s] w fun e w' => e = .returned (.tuple #[if ok = true then tl L I W else tl 0 0 0, if ok = true then flt 0 0 else flt 3 (-1)]) ∧ Nw w w' := by
  have h8i : ¬ (s.size : Int) < 8 := by omega
  have QP : Hid (∀ V, Calls Tryz.prog 27 #[.int .i64 3] V fun e w' => e = .returned (.agg #[.int .i64 3, .int .i64 (-1)]) ∧ Nw V w') := fun V => plain_any 3 V (by decide)
  have HOK : Hid (ok = true ↔ mayT L I (W : Int) ∧ nm L I W = s.data.toList) := hok
  have HI : Hid (roI s.data.toList = I) := hI
  have HW : Hid (roW s.data.toList = W) := hW
  have hIb : I < 18446744073709551616 := by rw [← hI]; exact dgs_lt _ _ (by decide)
  have hLb : L ≤ 255 := by rw [← hL]; unfold roL; omega
  obtain ⟨D5, hD5⟩ : ∃ D, D = dgs 0 ((s.data.toList.drop 5).take 1) := ⟨_, rfl⟩
  have hD5b : D5 < 18446744073709551616 := by rw [hD5]; exact dgs_lt _ _ (by decide)
  have q5 := rdig_any (s.extract 5 6) (by rw [← bytes_len, ext_mid, List.length_take]; omega)
  rw [ext_mid, ← hD5] at q5
  have hLn : D5 % 256 = L := by rw [← hL, hD5]; rfl
  have hLm : (D5 : Int) % 256 = (L : Int) := by omega
  clear hLn
  obtain ⟨R, hR⟩ : ∃ R, R = s.data.toList.drop 7 := ⟨_, rfl⟩
  have hRl : R.length = s.size - 7 := by rw [hR, List.length_drop, bytes_len]
  have HR : Hid (R = s.data.toList.drop 7) := hR
  have QG : Hid (∀ (x : ByteArray) (V : World), x.size ≤ 4611686018427387904 → Calls Tryz.prog 86 #[.string x] V fun e w' => e = .returned (.int .u64 ((dgs 0 x.data.toList : Nat) : Int)) ∧ w' = V) := fun x V hx => rdig_any x (by omega) V
  have HWI : Hid (∀ (x : ByteArray) (Z : Nat), (x.data.toList = R ∧ Z = 256 ∧ (112 : UInt8) ∉ R) ∨ (x.data.toList = R.takeWhile (fun c => c != 112) ∧ Z = dgs 0 (R.dropWhile (fun c => c != 112)) % 1000 ∧ R.dropWhile (fun c => c != 112) ≠ []) → dgs 0 x.data.toList = I ∧ Z = W) := fun x Z h => by
    rw [← HI.out, ← HW.out]
    unfold roI roW roA roB
    rw [← hR]
    rcases h with ⟨h1, h2, h3⟩ | ⟨h1, h2, h3⟩
    · rw [(ro_none h3).1, (ro_none h3).2, if_pos rfl, h1]; exact ⟨rfl, h2⟩
    · rw [if_neg h3, h1]; exact ⟨rfl, h2⟩
  clear hok hL hI hW hD5 hR HI HW
  go_enter Tryz.func16, Tryz.ntmps16
  go_wp2_with fail
  refine (QP.out _).mono ?_
  rintro e w1 ⟨rfl, n1⟩
  obtain ⟨⟨l0, l1⟩, b0, b1, n2⟩ := two_made n1
  have N2 : Hid (Nw w w1) := n2
  have B0 : Hid (w1.heap[w.heap.size]? = some (.cells #[.int .u8 0, .int .u64 0, .int .i64 0] 56)) := b0
  have B1 : Hid (w1.heap[w.heap.size + 1]? = some (.cells #[.int .i64 0, .int .i64 0] 29)) := b1
  clear n1 n2 b0 b1
  go_wp2_with fail
  refine (q5 _).mono ?_
  rintro e w2 ⟨rfl, rfl⟩
  clear q5
  go_wp2_with fail
  obtain ⟨c, hc⟩ : ∃ c, c = w1.heap.size := ⟨_, rfl⟩
  rw [← hc]
  have HC : Hid (c = w1.heap.size) := hc
  clear hc
  rw [hLm]
  clear hLm
  go_loopw [6, 7] (fun u v wr => ∃ (k : Nat) (x : ByteArray) (Z : Nat), u = .string x ∧ v = .int .i64 (k : Int) ∧ Pz w wr c L 0 (Z : Int) ∧ x.size ≤ R.length ∧ k ≤ R.length + 1 ∧ ((k ≤ x.size ∧ x.data.toList = R ∧ Z = 256 ∧ (112 : UInt8) ∉ R.take k) ∨ (x.size < k ∧ x.data.toList = R.takeWhile (fun c => c != 112) ∧ Z = dgs 0 (R.dropWhile (fun c => c != 112)) % 1000 ∧ R.dropWhile (fun c => c != 112) ≠ []))) (fun _ v _ => R.length + 1 - (intOf v).toNat)
  case atStart =>
    have hc := HC.out
    subst hc
    refine ⟨0, s.extract 7 s.size, 256, rfl, rfl, ?_, ?_, by omega, .inl ⟨by omega, ?_, rfl, by simp⟩⟩
    · refine ⟨?_, ?_, ?_, ?_, by omega, (by repeat first | with_reducible exact N2.out | with_reducible refine Fr.alloc ?_ _ | with_reducible refine Fr.drew ?_ | (with_reducible refine Fr.setCell ?_ _ _ (fun h => ?_); rotate_left; focus (simp only at h; omega)))⟩
      · (repeat first | with_reducible exact B0.out | with_reducible exact heap_new _ _ | with_reducible exact heap_next _ _ _ | with_reducible exact heap_third _ _ _ _ | with_reducible refine hp_dr ?_ | (with_reducible refine hp_ne ?_ ?_; focus omega) | (with_reducible refine hp_al ?_ ?_; focus (first | omega | (simp <;> omega))) | with_reducible apply hp_set) <;> rfl
      · (repeat first | with_reducible exact B1.out | with_reducible exact heap_new _ _ | with_reducible exact heap_next _ _ _ | with_reducible exact heap_third _ _ _ _ | with_reducible refine hp_dr ?_ | (with_reducible refine hp_ne ?_ ?_; focus omega) | (with_reducible refine hp_al ?_ ?_; focus (first | omega | (simp <;> omega))) | with_reducible apply hp_set) <;> rfl
      · (repeat first | with_reducible exact heap_new _ _ | with_reducible exact heap_new _ _ | with_reducible exact heap_next _ _ _ | with_reducible exact heap_third _ _ _ _ | with_reducible refine hp_dr ?_ | (with_reducible refine hp_ne ?_ ?_; focus omega) | (with_reducible refine hp_al ?_ ?_; focus (first | omega | (simp <;> omega))) | with_reducible apply hp_set) <;> rfl
      · exact heap_next _ _ _
    · rw [← bytes_len, ext_drop, ← HR.out]; exact Nat.le_refl _
    · rw [ext_drop, ← HR.out]
  case round =>
    obtain ⟨k, x, Z, rfl, rfl, hp, hxR, hkR, hd⟩ := hrel
    have HP : Hid (Pz w wr c L 0 (Z : Int)) := hp
    have HD : Hid ((k ≤ x.size ∧ x.data.toList = R ∧ Z = 256 ∧ (112 : UInt8) ∉ R.take k) ∨ (x.size < k ∧ x.data.toList = R.takeWhile (fun c => c != 112) ∧ Z = dgs 0 (R.dropWhile (fun c => c != 112)) % 1000 ∧ R.dropWhile (fun c => c != 112) ≠ [])) := hd
    have hxb : x.size ≤ 4611686018427387904 := by omega
    have hcl := HP.out.lt
    have hc5 := heap_lt HP.out.b5
    have hZb : Z < 1000 := by rcases hd with h | h <;> omega
    clear hp hd
    by_cases hlt : k < x.size
    · have hli : (k : Int) < (x.size : Int) := by omega
      have hA : x.data.toList = R ∧ Z = 256 ∧ (112 : UInt8) ∉ R.take k := by
        rcases HD.out with h | h
        · exact h.2
        · omega
      have HA : Hid (x.data.toList = R ∧ Z = 256 ∧ (112 : UInt8) ∉ R.take k) := hA
      have hck : x[k]'hlt = TX.C R k := by rw [TX.C_get x k hlt, HA.out.1]
      have hdr := TX.drop_C R k (by rw [← HA.out.1, bytes_len]; exact hlt)
      have HDR : Hid (R.drop k = TX.C R k :: R.drop (k + 1)) := hdr
      have htk : R.take (k + 1) = R.take k ++ [TX.C R k] := by
        have h1 := List.take_append_drop k R
        rw [List.take_add, hdr]; rfl
      have HTK : Hid (R.take (k + 1) = R.take k ++ [TX.C R k]) := htk
      clear hdr htk hA HD
      obtain ⟨h2, h3⟩ : wr.heap[c + 1]? = some (.cells #[.int .u8 (L : Int), .int .u64 ((0 : Nat) : Int), .int .i64 (Z : Int)] 56) ∧ True := ⟨HP.out.b5, trivial⟩
      have z2 := frozen_of h2 2
      obtain ⟨g0, g1, g2⟩ := cell3 h2
      generalize TX.C R k = ch at hck HDR HTK
      by_cases hc112 : ch = 112
      · subst hc112
        have hz : ((((112 : UInt8).toNat : Int)) == 112) = true := rfl
        have q := QG.out (x.extract k x.size) wr (by rw [← bytes_len, ext_drop, List.length_drop, bytes_len]; omega)
        obtain ⟨N, hN⟩ : ∃ N, N = dgs 0 (x.extract k x.size).data.toList := ⟨_, rfl⟩
        have hNb : N < 18446744073709551616 := by rw [hN]; exact dgs_lt _ _ (by decide)
        rw [← hN] at q
        have hst := ro_stop HA.out.2.2 ⟨_, HDR.out⟩
        have HN : Hid (N = dgs 0 (R.dropWhile (fun c => c != 112))) := by show _ = _; rw [hN, ext_drop, HA.out.1, hst.2]
        have HX : Hid ((x.extract 0 k).data.toList = R.takeWhile (fun c => c != 112)) := by show _ = _; rw [ext_take, HA.out.1, hst.1]
        have HNE : Hid (R.dropWhile (fun c => c != 112) ≠ []) := by show _ ≠ _; rw [hst.2, HDR.out]; simp
        clear hN hst
        go_wp2_with fail
        refine q.mono ?_
        rintro e w3 ⟨rfl, rfl⟩
        go_wp2
        refine ⟨⟨k + 1, x.extract 0 k, N % 1000, rfl, by go_num, ?_, ?_, by omega, .inr ⟨?_, HX.out, by rw [HN.out], HNE.out⟩⟩, by simp [intOf]; omega⟩
        · refine ⟨?_, ?_, ?_, ?_, HP.out.lt, ?_⟩
          · (repeat first | with_reducible exact HP.out.b2 | with_reducible exact heap_new _ _ | with_reducible exact heap_next _ _ _ | with_reducible exact heap_third _ _ _ _ | with_reducible refine hp_dr ?_ | (with_reducible refine hp_ne ?_ ?_; focus omega) | (with_reducible refine hp_al ?_ ?_; focus (first | omega | (simp <;> omega))) | with_reducible apply hp_set) <;> rfl
          · (repeat first | with_reducible exact HP.out.b3 | with_reducible exact heap_new _ _ | with_reducible exact heap_next _ _ _ | with_reducible exact heap_third _ _ _ _ | with_reducible refine hp_dr ?_ | (with_reducible refine hp_ne ?_ ?_; focus omega) | (with_reducible refine hp_al ?_ ?_; focus (first | omega | (simp <;> omega))) | with_reducible apply hp_set) <;> rfl
          · (repeat first | with_reducible exact HP.out.b4 | with_reducible exact heap_new _ _ | with_reducible exact heap_next _ _ _ | with_reducible exact heap_third _ _ _ _ | with_reducible refine hp_dr ?_ | (with_reducible refine hp_ne ?_ ?_; focus omega) | (with_reducible refine hp_al ?_ ?_; focus (first | omega | (simp <;> omega))) | with_reducible apply hp_set) <;> rfl
          · (repeat first | with_reducible exact HP.out.b5 | with_reducible exact heap_new _ _ | with_reducible exact heap_next _ _ _ | with_reducible exact heap_third _ _ _ _ | with_reducible refine hp_dr ?_ | (with_reducible refine hp_ne ?_ ?_; focus omega) | (with_reducible refine hp_al ?_ ?_; focus (first | omega | (simp <;> omega))) | with_reducible apply hp_set) <;> rfl
          · exact (by repeat first | with_reducible exact HP.out.nw | with_reducible refine Fr.alloc ?_ _ | with_reducible refine Fr.drew ?_ | (with_reducible refine Fr.setCell ?_ _ _ (fun h => ?_); rotate_left; focus (simp only at h; omega)))
        · rw [← bytes_len, ext_take, List.length_take, bytes_len]; omega
        · rw [← bytes_len, ext_take, List.length_take, bytes_len]; omega
      · have hz : ((ch.toNat : Int) == 112) = false := by
          rw [beq_eq_false_iff_ne]
          intro e
          exact hc112 (UInt8.toNat_inj.1 (by show ch.toNat = 112; omega))
        have HNI : Hid ((112 : UInt8) ∉ R.take (k + 1)) := by
          show ¬ _
          rw [HTK.out, List.mem_append]
          rintro (h | h)
          · exact HA.out.2.2 h
          · simp at h; exact hc112 h.symm
        clear hc112
        go_wp2
        exact ⟨⟨k + 1, x, Z, rfl, by go_num, HP.out, hxR, by omega, .inl ⟨by omega, HA.out.1, HA.out.2.1, HNI.out⟩⟩, by simp [intOf]; omega⟩
    · have hli : ¬ (k : Int) < (x.size : Int) := by omega
      have hfin := HWI.out x Z (by
        rcases HD.out with ⟨h1, h2, h3, h4⟩ | ⟨h1, h2⟩
        · refine .inl ⟨h2, h3, ?_⟩
          rwa [List.take_of_length_le (by rw [← h2, bytes_len]; omega)] at h4
        · exact .inr h2)
      obtain ⟨hfI, rfl⟩ := hfin
      have q := QG.out x wr hxb
      rw [hfI] at q
      clear hfI HD hlt
      obtain ⟨g0, g1, g2⟩ := cell3 HP.out.b5
      have z1 := frozen_of HP.out.b5 1
      go_wp2_with fail
      refine q.mono ?_
      rintro e w3 ⟨rfl, rfl⟩
      clear q
      have P4 : Hid (Pz w (w3.setCell ⟨c + 1, 1, none⟩ (.int .u64 (I : Int))) c L I (Z : Int)) := by
        refine ⟨?_, ?_, ?_, ?_, hcl, ?_⟩
        · (repeat first | with_reducible exact HP.out.b2 | with_reducible exact heap_new _ _ | with_reducible exact heap_next _ _ _ | with_reducible exact heap_third _ _ _ _ | with_reducible refine hp_dr ?_ | (with_reducible refine hp_ne ?_ ?_; focus omega) | (with_reducible refine hp_al ?_ ?_; focus (first | omega | (simp <;> omega))) | with_reducible apply hp_set) <;> rfl
        · (repeat first | with_reducible exact HP.out.b3 | with_reducible exact heap_new _ _ | with_reducible exact heap_next _ _ _ | with_reducible exact heap_third _ _ _ _ | with_reducible refine hp_dr ?_ | (with_reducible refine hp_ne ?_ ?_; focus omega) | (with_reducible refine hp_al ?_ ?_; focus (first | omega | (simp <;> omega))) | with_reducible apply hp_set) <;> rfl
        · (repeat first | with_reducible exact HP.out.b4 | with_reducible exact heap_new _ _ | with_reducible exact heap_next _ _ _ | with_reducible exact heap_third _ _ _ _ | with_reducible refine hp_dr ?_ | (with_reducible refine hp_ne ?_ ?_; focus omega) | (with_reducible refine hp_al ?_ ?_; focus (first | omega | (simp <;> omega))) | with_reducible apply hp_set) <;> rfl
        · (repeat first | with_reducible exact HP.out.b5 | with_reducible exact heap_new _ _ | with_reducible exact heap_next _ _ _ | with_reducible exact heap_third _ _ _ _ | with_reducible refine hp_dr ?_ | (with_reducible refine hp_ne ?_ ?_; focus omega) | (with_reducible refine hp_al ?_ ?_; focus (first | omega | (simp <;> omega))) | with_reducible apply hp_set) <;> rfl
        · exact (by repeat first | with_reducible exact HP.out.nw | with_reducible refine Fr.alloc ?_ _ | with_reducible refine Fr.drew ?_ | (with_reducible refine Fr.setCell ?_ _ _ (fun h => ?_); rotate_left; focus (simp only at h; omega)))
      obtain ⟨w4, hw4⟩ : ∃ q, q = w3.setCell ⟨c + 1, 1, none⟩ (.int .u64 (I : Int)) := ⟨_, rfl⟩
      rw [← hw4] at P4
      by_cases hm : mayT L I (Z : Int)
      · have hnl := nm_len hm
        have q1 := rmay_any L I (Z : Int) hLb hIb true (by simp [hm]) w4
        have q2 := fun V : World => rname_any L I Z hLb hIb hnl.2.2.2.2 V
        obtain ⟨y, hy⟩ : ∃ y, y = (⟨(nm L I Z).toArray⟩ : ByteArray) := ⟨_, rfl⟩
        have HY : Hid (y.data.toList = nm L I Z) := by show _ = _; rw [hy, bx]
        rw [← hy] at q2
        rw [hw4] at q1
        clear hy hnl
        go_wp2_with fail
        refine q1.mono ?_
        rintro e w5 ⟨rfl, n5⟩
        rw [← hw4] at n5
        clear g0 g1 g2 z1
        have P5 : Hid (Pz w w5 c L I (Z : Int)) := P4.out.go n5
        obtain ⟨g0, g1, g2⟩ := cell3 P5.out.b5
        clear n5 q1 hw4 P4
        go_wp2_with fail
        refine (q2 _).mono ?_
        rintro e w6 ⟨rfl, n6⟩
        have P6 : Hid (Pz w w6 c L I (Z : Int)) := P5.out.go n6
        clear n6 q2 P5 g0 g1 g2
        obtain ⟨g0, g1, g2⟩ := cell3 P6.out.b5
        obtain ⟨d0, d1, d2⟩ := cell3 P6.out.b2
        obtain ⟨z0, z1, z2⟩ : _ ∧ _ ∧ _ := ⟨frozen_of P6.out.b2 0, frozen_of P6.out.b2 1, frozen_of P6.out.b2 2⟩
        obtain ⟨y0, y1⟩ : _ ∧ _ := ⟨frozen_of P6.out.b3 0, frozen_of P6.out.b3 1⟩
        obtain ⟨x0, x1⟩ : w6.cell? ⟨w.heap.size + 1, 0, none⟩ = some (.int .i64 0) ∧ w6.cell? ⟨w.heap.size + 1, 1, none⟩ = some (.int .i64 0) := ⟨(cell_of P6.out.b3 0).trans rfl, (cell_of P6.out.b3 1).trans rfl⟩
        obtain ⟨t0, t1⟩ : w6.cell? ⟨c, 0, none⟩ = some (.int .i64 3) ∧ w6.cell? ⟨c, 1, none⟩ = some (.int .i64 (-1)) := ⟨(cell_of P6.out.b4 0).trans rfl, (cell_of P6.out.b4 1).trans rfl⟩
        have l2 := heap_lt P6.out.b2
        have l3 := heap_lt P6.out.b3
        have n6 := P6.out.nw
        have b2 := P6.out.b2
        have b3 := P6.out.b3
        by_cases hys : y = s
        · subst hys
          obtain rfl : ok = true := HOK.out.2 ⟨hm, HY.out.symm⟩
          go_wp2
          refine bodyPost_ret (res_cells (V := #[.int .u8 (L : Int), .int .u64 (I : Int), .int .i64 (Z : Int)]) (ty := 56) (f := (0, 0)) (U := #[.int .i64 0, .int .i64 0]) (tz := 29) (f2 := (0, 0)) Tryz.results16 Tryz.isAgg56 Tryz.sizeOf56 Tryz.isAgg29 Tryz.sizeOf29 rfl rfl ?hg rfl ?hk rfl) rfl ⟨rfl, (by repeat first | with_reducible exact n6 | with_reducible refine Fr.alloc ?_ _ | with_reducible refine Fr.drew ?_ | (with_reducible refine Fr.setCell ?_ _ _ (fun h => ?_); rotate_left; focus (simp only at h; omega)))⟩
          case hg => (repeat first | with_reducible exact b2 | with_reducible exact heap_new _ _ | with_reducible exact heap_next _ _ _ | with_reducible exact heap_third _ _ _ _ | with_reducible refine hp_dr ?_ | (with_reducible refine hp_ne ?_ ?_; focus omega) | (with_reducible refine hp_al ?_ ?_; focus (first | omega | (simp <;> omega))) | with_reducible apply hp_set) <;> rfl
          case hk => (repeat first | with_reducible exact b3 | with_reducible exact heap_new _ _ | with_reducible exact heap_next _ _ _ | with_reducible exact heap_third _ _ _ _ | with_reducible refine hp_dr ?_ | (with_reducible refine hp_ne ?_ ?_; focus omega) | (with_reducible refine hp_al ?_ ?_; focus (first | omega | (simp <;> omega))) | with_reducible apply hp_set) <;> rfl
        · have hok : ok = false := by
            cases ok with
            | false => rfl
            | true =>
              have := (HOK.out.1 rfl).2
              rw [← HY.out] at this
              exact absurd (ByteArray.ext (Array.ext' this)) hys
          subst hok
          have hq : (y.toList == s.toList) = false := by
            rw [beq_eq_false_iff_ne]
            intro e
            rw [ByteArray.toList_eq, ByteArray.toList_eq] at e
            exact hys (ByteArray.ext (Array.ext' e))
          clear hys g0 g1 g2
          go_wp2
          go_region
          all_goals
            go_wp2
            refine bodyPost_ret (res_cells (V := #[.int .u8 0, .int .u64 0, .int .i64 0]) (ty := 56) (f := (0, 0)) (U := #[.int .i64 3, .int .i64 (-1)]) (tz := 29) (f2 := (0, 0)) Tryz.results16 Tryz.isAgg56 Tryz.sizeOf56 Tryz.isAgg29 Tryz.sizeOf29 rfl rfl ?hg rfl ?hk rfl) rfl ⟨rfl, (by repeat first | with_reducible exact n6 | with_reducible refine Fr.alloc ?_ _ | with_reducible refine Fr.drew ?_ | (with_reducible refine Fr.setCell ?_ _ _ (fun h => ?_); rotate_left; focus (simp only at h; omega)))⟩
            case hg => (repeat first | with_reducible exact b2 | with_reducible exact heap_new _ _ | with_reducible exact heap_next _ _ _ | with_reducible exact heap_third _ _ _ _ | with_reducible refine hp_dr ?_ | (with_reducible refine hp_ne ?_ ?_; focus omega) | (with_reducible refine hp_al ?_ ?_; focus (first | omega | (simp <;> omega))) | with_reducible apply hp_set) <;> rfl
            case hk => (repeat first | with_reducible exact b3 | with_reducible exact heap_new _ _ | with_reducible exact heap_next _ _ _ | with_reducible exact heap_third _ _ _ _ | with_reducible refine hp_dr ?_ | (with_reducible refine hp_ne ?_ ?_; focus omega) | (with_reducible refine hp_al ?_ ?_; focus (first | omega | (simp <;> omega))) | with_reducible apply hp_set) <;> rfl
      · have q1 := rmay_any L I (Z : Int) hLb hIb false (by simp [hm]) w4
        obtain rfl : ok = false := by
          cases ok with
          | false => rfl
          | true => exact absurd (HOK.out.1 rfl).1 hm
        rw [hw4] at q1
        go_wp2_with fail
        refine q1.mono ?_
        rintro e w6 ⟨rfl, n5⟩
        rw [← hw4] at n5
        clear g0 g1 g2 z1
        have P6 : Hid (Pz w w6 c L I (Z : Int)) := P4.out.go n5
        clear n5 q1 hw4 P4 hm
        obtain ⟨d0, d1, d2⟩ := cell3 P6.out.b2
        obtain ⟨z0, z1, z2⟩ : _ ∧ _ ∧ _ := ⟨frozen_of P6.out.b2 0, frozen_of P6.out.b2 1, frozen_of P6.out.b2 2⟩
        obtain ⟨y0, y1⟩ : _ ∧ _ := ⟨frozen_of P6.out.b3 0, frozen_of P6.out.b3 1⟩
        obtain ⟨x0, x1⟩ : w6.cell? ⟨w.heap.size + 1, 0, none⟩ = some (.int .i64 0) ∧ w6.cell? ⟨w.heap.size + 1, 1, none⟩ = some (.int .i64 0) := ⟨(cell_of P6.out.b3 0).trans rfl, (cell_of P6.out.b3 1).trans rfl⟩
        obtain ⟨t0, t1⟩ : w6.cell? ⟨c, 0, none⟩ = some (.int .i64 3) ∧ w6.cell? ⟨c, 1, none⟩ = some (.int .i64 (-1)) := ⟨(cell_of P6.out.b4 0).trans rfl, (cell_of P6.out.b4 1).trans rfl⟩
        have l2 := heap_lt P6.out.b2
        have l3 := heap_lt P6.out.b3
        have n6 := P6.out.nw
        have b2 := P6.out.b2
        have b3 := P6.out.b3
        go_wp2
        go_region
        all_goals
          go_wp2
          refine bodyPost_ret (res_cells (V := #[.int .u8 0, .int .u64 0, .int .i64 0]) (ty := 56) (f := (0, 0)) (U := #[.int .i64 3, .int .i64 (-1)]) (tz := 29) (f2 := (0, 0)) Tryz.results16 Tryz.isAgg56 Tryz.sizeOf56 Tryz.isAgg29 Tryz.sizeOf29 rfl rfl ?hg rfl ?hk rfl) rfl ⟨rfl, (by repeat first | with_reducible exact n6 | with_reducible refine Fr.alloc ?_ _ | with_reducible refine Fr.drew ?_ | (with_reducible refine Fr.setCell ?_ _ _ (fun h => ?_); rotate_left; focus (simp only at h; omega)))⟩
          case hg => (repeat first | with_reducible exact b2 | with_reducible exact heap_new _ _ | with_reducible exact heap_next _ _ _ | with_reducible exact heap_third _ _ _ _ | with_reducible refine hp_dr ?_ | (with_reducible refine hp_ne ?_ ?_; focus omega) | (with_reducible refine hp_al ?_ ?_; focus (first | omega | (simp <;> omega))) | with_reducible apply hp_set) <;> rfl
          case hk => (repeat first | with_reducible exact b3 | with_reducible exact heap_new _ _ | with_reducible exact heap_next _ _ _ | with_reducible exact heap_third _ _ _ _ | with_reducible refine hp_dr ?_ | (with_reducible refine hp_ne ?_ ?_; focus omega) | (with_reducible refine hp_al ?_ ?_; focus (first | omega | (simp <;> omega))) | with_reducible apply hp_set) <;> rfl
end Go.Proofs.YtgobdjdaehlgdaaGreatDoor
