/- tile: a number by threes. -/
import Derived.Test.YtgobdjdaehlgdaaGreatDoorU4
import Derived.Test.YtgobdjdaehlgdaaGreatDoorU1
namespace Go.Proofs.YtgobdjdaehlgdaaGreatDoor
open Go.RowKit
set_option linter.unusedVariables false
set_option linter.unusedSimpArgs false
/-- Digits by threes. -/
def thrL (l : List UInt8) : List UInt8 := if h : l.length ≤ 3 then l else 120 :: (l.take 3 ++ 47 :: thrL (l.drop 3))
termination_by l.length
decreasing_by simp; omega
/-- Filled up with noughts ahead. -/
def pad3 (l : List UInt8) : List UInt8 := List.replicate ((3 - l.length % 3) % 3) 48 ++ l
theorem thrL_le (l : List UInt8) (h : l.length ≤ 3) : thrL l = l := by rw [thrL]; simp [h]
theorem thrL_gt (l : List UInt8) (h : 3 < l.length) : thrL l = [120] ++ l.take 3 ++ [47] ++ thrL (l.drop 3) := by
  conv => lhs; rw [thrL]
  rw [dif_neg (by omega)]; simp
theorem thrL_len : ∀ (k : Nat) (l : List UInt8), l.length = 3 * k + 3 → (thrL l).length = 5 * k + 3
  | 0, l, h => by rw [thrL_le l (by omega)]; omega
  | k + 1, l, h => by
    rw [thrL_gt l (by omega)]
    have ih := thrL_len k (l.drop 3) (by simp; omega)
    simp only [List.length_append, List.length_cons, List.length_nil, List.length_take, ih]
    omega
theorem pad3_len (l : List UInt8) : (pad3 l).length = l.length + (3 - l.length % 3) % 3 := by simp [pad3]; omega
theorem bx (l : List UInt8) : (⟨l.toArray⟩ : ByteArray).data.toList = l := by simp
theorem bxs (l : List UInt8) : (⟨l.toArray⟩ : ByteArray).size = l.length := by simp [ByteArray.size]
theorem ext_take (s : ByteArray) (k : Nat) : (s.extract 0 k).data.toList = s.data.toList.take k := by simp
theorem ext_drop (s : ByteArray) (k : Nat) : (s.extract k s.size).data.toList = s.data.toList.drop k := by
  rw [ByteArray.data_extract, Array.toList_extract, List.extract_eq_take_drop]
  exact List.take_of_length_le (by rw [List.length_drop, bytes_len]; exact Nat.le_refl _)
set_option maxRecDepth 100000 in
set_option maxHeartbeats 400000 in
theorem threes_any (g cap : Nat) (hcap : cap ≤ 1000000) (T : List UInt8) (d : ByteArray) (hd0 : 1 ≤ d.size) (w : World) (hT : Lay w g cap T) (hfit : T.length + (thrL (pad3 d.data.toList)).length ≤ cap) (hdb : d.size ≤ 1000000)
    (QP : ∀ (c : Nat) (V : World), c < 3 → Calls Tryz.prog 139 #[.string ⟨#[48]⟩, .int .i64 (c : Int)] V fun e w' => e = .returned (.string ⟨(List.replicate c 48).toArray⟩) ∧ Nw V w') :
    Calls Tryz.prog 126 #[.slice (some ⟨g, 0, none⟩) T.length cap, .string d] w fun e w' => e = .returned (.slice (some ⟨g, 0, none⟩) (T ++ thrL (pad3 d.data.toList)).length cap) ∧ Lay w' g cap (T ++ thrL (pad3 d.data.toList)) ∧ Fr (fun k => k = g) w w' := by
  have HT : Hid (Lay w g cap T) := hT
  have HF : Hid (T.length + (thrL (pad3 d.data.toList)).length ≤ cap) := hfit
  have hql := bytes_len d
  obtain ⟨n, hn⟩ : ∃ n, n = d.size := ⟨_, rfl⟩
  have HQ : Hid (∀ (V : World), Calls Tryz.prog 139 #[.string ⟨#[48]⟩, .int .i64 (-((n : Int) % 3) % 3)] V fun e w' => e = .returned (.string ⟨(List.replicate ((3 - n % 3) % 3) 48).toArray⟩) ∧ Nw V w') := fun V => by
    have e : (-((n : Int) % 3) % 3) = (((3 - n % 3) % 3 : Nat) : Int) := by omega
    rw [e]
    exact QP _ V (Nat.mod_lt _ (by decide))
  have HN : Hid (d.size = n) := hn.symm
  have hsz : (d.size : Int) = (n : Int) := by rw [hn]
  have hn1 : 1 ≤ n := by omega
  have hnb : n ≤ 1000000 := by omega
  obtain ⟨Z, hZ⟩ : ∃ Z, Z = (⟨(List.replicate ((3 - n % 3) % 3) 48).toArray⟩ : ByteArray) := ⟨_, rfl⟩
  have HZ : Hid (Z.data.toList ++ d.data.toList = pad3 d.data.toList) := by show _ = _; rw [hZ, bx, pad3, hql, ← hn]
  have hzb : Z.size ≤ 2 := by rw [hZ, bxs, List.length_replicate]; omega
  have hdb2 : d.size ≤ 1000000 := hdb
  rw [← hZ] at HQ
  obtain ⟨t0, ht0⟩ : ∃ t, t = T.length := ⟨_, rfl⟩
  have HT0 : Hid (T.length = t0) := ht0.symm
  rw [← ht0]
  clear hT hfit hql hn hZ ht0 hd0 hdb QP
  go_enter Tryz.func126, Tryz.ntmps126
  go_wp2_with fail
  refine (HQ.out _).mono ?_
  rintro e w1 ⟨rfl, n1⟩
  have N1 : Hid (Nw w w1) := n1
  clear n1
  go_wp2
  have HR : Hid (T.length + (thrL (pad3 d.data.toList)).length ≤ cap) := HF.out
  go_loopw [0, 1] (fun v u wr => ∃ (n : Nat) (U : List UInt8) (s : ByteArray), v = .slice (some ⟨g, 0, none⟩) n cap ∧ n = U.length ∧ u = .string s ∧ U ++ thrL s.data.toList = T ++ thrL (pad3 d.data.toList) ∧ 1 ≤ s.size ∧ s.size ≤ 1000002 ∧ Lay wr g cap U ∧ Fr (fun q => q = g) w wr) (fun _ u _ => strLen u)
  case atStart =>
    refine ⟨t0, T, Z ++ d, rfl, HT0.out.symm, rfl, ?_, ?_, ?_, HT.out.fr N1.out (fun f => f), N1.out.mono (fun _ _ f => f.elim)⟩
    · rw [← HZ.out]; congr 2
    · rw [ByteArray.size_append, HN.out]; omega
    · rw [ByteArray.size_append]; omega
  case round =>
    obtain ⟨n2, U, s, rfl, hn2, rfl, he, hs1, hs2, hl, hf⟩ := hrel
    have HE : Hid (U ++ thrL s.data.toList = T ++ thrL (pad3 d.data.toList)) := he
    have HN2 : Hid (n2 = U.length) := hn2
    have HLa : Hid (Lay wr g cap U) := hl
    have HFR : Hid (Fr (fun q => q = g) w wr) := hf
    have hsl := bytes_len s
    have hle : U.length + (thrL s.data.toList).length ≤ cap := by
      have := congrArg List.length he
      rw [List.length_append, List.length_append] at this
      have := HF.out
      omega
    by_cases hlt : 3 < s.size
    · have hli : (3 : Int) < (s.size : Int) := by omega
      have e3 := thrL_gt s.data.toList (by omega)
      have x3 : (⟨#[120]⟩ : ByteArray).data.toList = [120] := rfl
      have s3 : (⟨#[47]⟩ : ByteArray).data.toList = [47] := rfl
      have hcat : cat [⟨#[120]⟩, s.extract 0 3, ⟨#[47]⟩] = [120] ++ s.data.toList.take 3 ++ [47] := by
        simp only [cat, List.flatMap_cons, List.flatMap_nil, List.append_nil, ext_take, List.append_assoc]
      have QL : Hid (Calls Tryz.prog 124 #[.slice (some ⟨g, 0, none⟩) n2 cap, .slice (some ⟨wr.heap.size, 0, none⟩) 3 3] (wr.alloc (.cells #[.string ⟨#[120]⟩, .string (s.extract 0 3), .string ⟨#[47]⟩] 9)) fun e w' => e = .returned (.slice (some ⟨g, 0, none⟩) (U ++ ([120] ++ s.data.toList.take 3 ++ [47])).length cap) ∧ Lay w' g cap (U ++ ([120] ++ s.data.toList.take 3 ++ [47])) ∧ Fr (fun k => k = g) (wr.alloc (.cells #[.string ⟨#[120]⟩, .string (s.extract 0 3), .string ⟨#[47]⟩] 9)) w') := by
        have q := lay_any g cap 3 hcap U (some ⟨wr.heap.size, 0, none⟩) [⟨#[120]⟩, s.extract 0 3, ⟨#[47]⟩] _ (hl.fr (nwa wr _) (fun f => f)) (strs3 wr _ _ _) (fun a ha => by cases ha; have := hl.lt; show wr.heap.size ≠ g; omega) (by
          rw [hcat]; rw [e3] at hle; simp only [List.length_append] at hle ⊢; omega) (by simp) (by
          intro x hx
          simp only [List.mem_cons, List.not_mem_nil, or_false] at hx
          rcases hx with rfl | rfl | rfl
          · decide
          · have := ext_take s 3
            have := congrArg List.length this
            rw [bytes_len, List.length_take] at this
            omega
          · decide)
        rw [hcat, ← hn2] at q
        exact q
      have HE3 : Hid ((U ++ ([120] ++ s.data.toList.take 3 ++ [47])) ++ thrL (s.extract 3 s.size).data.toList = T ++ thrL (pad3 d.data.toList)) := by
        show _ = _
        rw [ext_drop, ← he, e3]; simp only [List.append_assoc]
      have hx1 : (s.extract 3 s.size).size = s.size - 3 := by rw [← bytes_len, ext_drop, List.length_drop, bytes_len]
      have HX1 : Hid ((s.extract 3 s.size).size = s.size - 3) := hx1
      clear he hn2 hl hf hle e3 hcat hsl hx1 x3 s3
      go_wp2_with fail
      refine QL.out.mono ?_
      rintro e w2 ⟨rfl, l2, f2⟩
      have L2 : Hid (Lay w2 g cap (U ++ ([120] ++ s.data.toList.take 3 ++ [47]))) := l2
      have F2 : Hid (Fr (fun q => q = g) w w2) := (HFR.out.alloc _).trans f2 (fun _ _ q => q)
      clear l2 f2
      go_wp2
      refine ⟨⟨_, _, s.extract 3 s.size, rfl, by simp only [List.length_append, List.length_take, List.length_cons, List.length_nil, bytes_len]; omega, rfl, HE3.out, by rw [HX1.out]; omega, by rw [HX1.out]; omega, L2.out, F2.out⟩, ?_⟩
      show (s.extract 3 s.size).size < s.size
      rw [HX1.out]; omega
    · have hli : ¬ (3 : Int) < (s.size : Int) := by omega
      have e3 := thrL_le s.data.toList (by omega)
      have QL : Hid (Calls Tryz.prog 124 #[.slice (some ⟨g, 0, none⟩) n2 cap, .slice (some ⟨wr.heap.size, 0, none⟩) 1 1] (wr.alloc (.cells #[.string s] 9)) fun e w' => e = .returned (.slice (some ⟨g, 0, none⟩) (T ++ thrL (pad3 d.data.toList)).length cap) ∧ Lay w' g cap (T ++ thrL (pad3 d.data.toList)) ∧ Fr (fun k => k = g) (wr.alloc (.cells #[.string s] 9)) w') := by
        have hcat : cat [s] = s.data.toList := by simp [cat]
        have q := lay_any g cap 1 hcap U (some ⟨wr.heap.size, 0, none⟩) [s] _ (hl.fr (nwa wr _) (fun f => f)) (strs1 wr _) (fun a ha => by cases ha; have := hl.lt; show wr.heap.size ≠ g; omega) (by rw [hcat]; rw [e3] at hle; exact hle) (by simp) (by
          intro x hx
          rw [List.mem_singleton.1 hx]; omega)
        rw [e3] at he
        rw [hcat, ← hn2, he] at q
        exact q
      clear he hn2 hl hf hle e3 hsl
      go_wp2_with fail
      refine QL.out.mono ?_
      rintro e w2 ⟨rfl, l2, f2⟩
      have L2 : Hid (Lay w2 g cap (T ++ thrL (pad3 d.data.toList))) := l2
      have F2 : Hid (Fr (fun q => q = g) w w2) := (HFR.out.alloc _).trans f2 (fun _ _ q => q)
      clear l2 f2
      obtain ⟨N2, hN2⟩ : ∃ N2, N2 = (T ++ thrL (pad3 d.data.toList)).length := ⟨_, rfl⟩
      rw [← hN2]
      have HN3 : Hid (N2 = (T ++ thrL (pad3 d.data.toList)).length) := hN2
      clear hN2
      go_wp2
      go_ret
      exact ⟨by have h := HN3.out; rw [List.length_append] at h; first | (rw [← h]; rfl) | (rw [← HN3.out]; rfl), L2.out, F2.out⟩
end Go.Proofs.YtgobdjdaehlgdaaGreatDoor
