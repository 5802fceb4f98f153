/- Hashes compared; the sum of abc; alive. -/
import Derived.Test.YtlmneommejdodaaDoorP10
import Derived.ChangeKeysEq
namespace Go.Proofs.YtlmneommejdodaaDoor
open Go.RowKit
set_option linter.unusedVariables false
set_option linter.unusedSimpArgs false

theorem abc_0 : hby (sha [97, 98, 99]) 0 = 186 := by decide +kernel
theorem abc_1 : hby (sha [97, 98, 99]) 1 = 120 := by decide +kernel
theorem abc_31 : hby (sha [97, 98, 99]) 31 = 173 := by decide +kernel
theorem hcs_get (s : V8) (i : Nat) (h : i < 32) : (hcs s 32)[i]? = some (.int .u8 ((hby s i : Nat) : Int)) := by
  rw [hcs, Array.getElem?_ofFn, dif_pos h, if_pos h]
theorem plain8 : Tryd.prog.plainKey 5 = true := by kernel_rfl
theorem cells5 : Tryd.prog.cellsOf 5 = 1 := by kernel_rfl
theorem eqItems_self (w : World) (A : Array Value) (hA : ∀ i, i < 32 → ∃ x : Int, A[i]? = some (.int .u8 x)) : ∀ (is : List Nat), (∀ i ∈ is, i < 32) → (Op.eqItems 9999 5 1 A A is).run Tryd.prog w = .ok true w
  | [], _ => by simp [Op.eqItems]
  | i :: is, h => by
    obtain ⟨x, hx⟩ := hA i (h i (by simp))
    have hg : A[i * 1]? = some (.int .u8 x) := by rw [Nat.mul_one]; exact hx
    have hp := run_part_plain w plain8 hg
    have ih := eqItems_self w A hA is (fun j hj => h j (by simp [hj]))
    have he : (Op.equalIn 9999 5 (.int .u8 x) (.int .u8 x)).run Tryd.prog w = .ok true w := by
      rw [run_equalIn_int w 9998 5 .u8 .u8 _ _ Tryd.underlying5]; simp
    simp only [Op.eqItems, Sem.run_bind, hp, he, Result.andThen_ok, Bool.not_true, Bool.false_eq_true, if_false, ih]
theorem arr_eq (A : Array Value) (hA : ∀ i, i < 32 → ∃ x : Int, A[i]? = some (.int .u8 x)) (w : World) : (Op.equalIn 10000 26 (.agg A) (.agg A)).run Tryd.prog w = .ok true w := by
  obtain ⟨i0, hi, _⟩ := Option.map_eq_some_iff.1 info8
  rw [run_equalIn_array w 9999 _ _ Tryd.underlying26 hi, cells5]
  exact eqItems_self w A hA _ (fun i hi => List.mem_range.1 hi)
theorem hash_eq (s : V8) (w : World) : (Op.equalIn 10000 26 (.agg (hcs s 32)) (.agg (hcs s 32))).run Tryd.prog w = .ok true w :=
  arr_eq _ (fun i hi => ⟨_, hcs_get s i hi⟩) w
theorem run_mark {P : Program} (w : World) (T e : TypeId) (C : Array Value) (n c : Nat) (hT : P.underlying T = some (.slice e)) (he : P.underlying e = some (.int .u8)) :
    (convert T T (.slice (some ⟨w.heap.size, 0, none⟩) n c)).run P (w.alloc (.cells C e)) = .ok (.slice (some ⟨w.heap.size, 0, none⟩) n c) (w.alloc (.cells C e (C.size, C.size + 1))) := by
  have hsh : (w.alloc (.cells C e)).shape? w.heap.size = some (e, C.size) := by
    have : (w.alloc (.cells C e)).heap[w.heap.size]? = some (.cells C e) := heap_alloc_new w _
    unfold World.shape?
    rw [this]
  have hfr : ∀ (n : Nat), (w.alloc (.cells C e)).freeze ⟨w.heap.size, n, none⟩ 1 = w.alloc (.cells C e (n, n + 1)) := fun n => by
    have hm : ∀ (a : Array Obj) (x : Obj) (f : Obj → Obj), (a.push x).modify a.size f = a.push (f x) := by
      intro a x f
      apply Array.ext
      · simp
      · intro i h1 h2
        simp only [Array.getElem_modify, Array.getElem_push]
        by_cases h : a.size = i
        · subst h
          simp
        · have hi : i < a.size := by simp at h1; omega
          simp [h, hi]
    unfold World.freeze
    rw [if_neg (by decide)]
    show ({ w.alloc (.cells C e) with heap := (w.heap.push (.cells C e)).modify w.heap.size _ } : World) = _
    rw [hm]
    rfl
  simp [convert, run_underlying hT, run_underlying he, markStringish, hsh]
  exact hfr _
set_option maxRecDepth 100000 in
set_option maxHeartbeats 1000000 in
theorem alive_any (w : World) (hL : Laid w) : Calls Tryd.prog 21 #[] w fun e w' => e = .returned (.bool true) ∧ Nw w w' := by
  have HL : Hid (Laid w) := hL
  have hs2 := hL.lt
  clear hL
  go_enter Tryd.func21, Tryd.ntmps21
  go_wp2_with fail
  have n0 : Nw w (w.alloc (.cells #[.string ⟨#[97, 98, 99]⟩] 9)) := (Fr.refl _ _).alloc _
  have hst : Strs (w.alloc (.cells #[.string ⟨#[97, 98, 99]⟩] 9)) (some ⟨w.heap.size, 0, none⟩) [⟨#[97, 98, 99]⟩] := fun j x hx => by
    match j, hx with
    | 0, hx => cases hx; exact ⟨_, _, rfl, cell_of (heap_new w _) 0⟩
  refine (sums_any (some ⟨w.heap.size, 0, none⟩) 1 [⟨#[97, 98, 99]⟩] _ hst (HL.out.nw n0) (by decide) (by decide)).mono ?_
  rintro e1 w1 ⟨rfl, n1⟩
  have n1 : Nw w w1 := n0.tr n1
  have hcat : cat [⟨#[97, 98, 99]⟩] = [97, 98, 99] := rfl
  rw [hcat]
  obtain ⟨T, hT⟩ : ∃ T, T = sha [97, 98, 99] := ⟨_, rfl⟩
  rw [← hT]
  have t0 : hby T 0 = 186 := by rw [hT]; exact abc_0
  have t1 : hby T 1 = 120 := by rw [hT]; exact abc_1
  have t31 : hby T 31 = 173 := by rw [hT]; exact abc_31
  have HT : Hid (T = sha [97, 98, 99]) := hT
  clear hT hcat hst n0
  unfold hsh
  have hs1 := n1.size
  go_wp2_with (refine wp_store_agg rfl (.tmp 1) (.tmp 4) 26 32 rfl Tryd.sizeOf26 w1.heap.size 0 rfl _ 26 (heap_new _ _) (hcs T 32) rfl (hcs_size _ _) (hcs_one T 32) (by decide) (hcs T 32) (by simp) ?_; intro w2 j2 f2 z2; have n2 : Nw w w2 := (n1.alloc _).trans f2 (fun k hk q => by omega); have hl2 := heap_lt j2; clear z2 f2)
  have q3 := new_any w2 (HL.out.nw n2)
  refine q3.mono ?_
  rintro e3 w3 ⟨rfl, D3, n3⟩
  have j3 := (n3.block w1.heap.size hl2 (fun f => f)).trans j2
  have n3' : Nw w w3 := n2.tr n3
  have hd2 : 2 ≤ w2.heap.size := by omega
  have hdb : ¬ w1.heap.size = w2.heap.size := by omega
  clear q3 n3 j2
  have hs3 : w2.heap.size < w3.heap.size := D3.lt
  obtain ⟨d, hd⟩ : ∃ d, d = w2.heap.size := ⟨_, rfl⟩
  obtain ⟨b, hb⟩ : ∃ b, b = w1.heap.size := ⟨_, rfl⟩
  rw [← hd] at D3 hd2 hdb hs3 ⊢
  rw [← hb] at hdb j3 ⊢
  have hbb : w.heap.size ≤ b := by omega
  have hdd : w.heap.size ≤ d := by have := n2.size; omega
  clear hd hb hl2 hs1 n1 n2
  have hid := fun C n c => run_mark (P := Tryd.prog) w3 39 5 C n c Tryd.underlying39 Tryd.underlying5
  have HD3 : Hid (Dig w3 d []) := D3
  clear D3
  go_wp2_with fail
  have n4 : Nw w3 (w3.alloc (.cells #[.int .u8 97, .int .u8 98, .int .u8 99] 5 (3, 4))) := (Fr.refl _ _).alloc _
  have hby : Bys (w3.alloc (.cells #[.int .u8 97, .int .u8 98, .int .u8 99] 5 (3, 4))) (some ⟨w3.heap.size, 0, none⟩) [97, 98, 99] := fun j hj => by
    refine ⟨_, _, rfl, ?_⟩
    rw [cell_of (heap_new w3 _)]
    match j, hj with
    | 0, _ => rfl
    | 1, _ => rfl
    | 2, _ => rfl
  have q4 := write_dig d [] _ ⟨#[97, 98, 99]⟩ _ (HD3.out.keep n4 (fun f => f)) (HL.out.nw (n3'.tr n4)) hd2 (conv_bys hby 3) (by decide)
  refine q4.mono ?_
  rintro e5 w5 ⟨rfl, D5, f5⟩
  have j5 := (f5.block b (by have := heap_lt j3; simp; omega) (fun e => hdb e)).trans ((n4.block b (heap_lt j3) (fun f => f)).trans j3)
  have n5 : Nw w w5 := (n3'.tr n4).trans f5 (fun k hk q => by have := n3'.size; omega)
  clear hid q4 HD3 f5 hby n4 n3'
  have D5' : Dig w5 d [97, 98, 99] := D5
  have HD5 : Hid (Dig w5 d [97, 98, 99]) := D5'
  clear D5 D5'
  have he := fun W => hash_eq T W
  have HT2 : Hid (hsh (sha [97, 98, 99]) = .agg (hcs T 32)) := by unfold Hid; rw [← HT.out]; rfl
  have hkp : Hid (∀ W, Nw w5 W → W.cell? ⟨b, 0, none⟩ = some (.int .u8 186) ∧ W.cell? ⟨b, 1, none⟩ = some (.int .u8 120) ∧ W.cell? ⟨b, 31, none⟩ = some (.int .u8 173) ∧ W.rangeAt b 0 (hcs T 32).toList) := fun W hW => by
    have jW := (hW.block b (heap_lt j5) (fun f => f)).trans j5
    refine ⟨?_, ?_, ?_, fun j v hv => by rw [Nat.zero_add, cell_of jW]; simpa using hv⟩
    · rw [cell_of jW, hcs_get T 0 (by decide), t0]; rfl
    · rw [cell_of jW, hcs_get T 1 (by decide), t1]; rfl
    · rw [cell_of jW, hcs_get T 31 (by decide), t31]; rfl
  have hu26 := Tryd.underlying26
  have hi26 : (Tryd.prog.info? 26).map (·.size) = some (hcs T 32).toList.length := by rw [Array.length_toList, hcs_size]; kernel_rfl
  have nd : Nw w5 w5.drew := (Fr.refl _ w5).drew
  have q6 := sum_dig d [97, 98, 99] w5.drew (HD5.out.keep nd (fun f => f)) (HL.out.nw n5.drew) (by decide)
  rw [HT2.out] at q6
  clear t0 t1 t31
  go_wp2
  go_region_held3 (fun w' => w'.cell? ⟨b, 0, none⟩ = some (.int .u8 186) ∧ w'.cell? ⟨b, 1, none⟩ = some (.int .u8 120) ∧ w'.cell? ⟨b, 31, none⟩ = some (.int .u8 173) ∧ w'.rangeAt b 0 (hcs T 32).toList) (first | exact hkp.out _ nd | exact hkp.out _ (nd.tr n6)) (first
    | (go_at_call 20; refine q6.mono ?_; rintro e6 w6 ⟨rfl, n6⟩)
    | (go_at_call 23; refine (len_dig d [97, 98, 99] w6 (HD5.out.keep (nd.tr n6) (fun f => f))).mono ?_; rintro e7 w7 ⟨rfl, rfl⟩))
  go_wp2
  go_ret
  exact ⟨rfl, n5.tr (nd.tr n6)⟩
end Go.Proofs.YtlmneommejdodaaDoor
