/- ShaKnown: the walk. -/
import Derived.Test.YtebbgpnhkpbefaaDoorKd
import Derived.Test.YtebbgpnhkpbefaaDoorR6
import Derived.Laws.Concat
namespace Go.Proofs.YtebbgpnhkpbefaaDoor
open Go.RowKit
set_option linter.unusedVariables false
set_option linter.unusedSimpArgs false

abbrev twoL : List UInt8 := [97, 98, 99, 100, 98, 99, 100, 101, 99, 100, 101, 102, 100, 101, 102, 103, 101, 102, 103, 104, 102, 103, 104, 105, 103, 104, 105, 106, 104, 105, 106, 107, 105, 106, 107, 108, 106, 107, 108, 109, 107, 108, 109, 110, 108, 109, 110, 111, 109, 110, 111, 112, 110, 111, 112, 113]
theorem two_sha : sha twoL = ⟨613247585, 3523623096, 3854575251, 205414457, 2738676825, 1694441831, 4142722516, 433784513⟩ := KE.eq8_eq _ _ (by decide +kernel)
/-- The two sums, as values. -/
def v2 : Array Value := #[.int .u8 36, .int .u8 141, .int .u8 106, .int .u8 97, .int .u8 210, .int .u8 6, .int .u8 56, .int .u8 184, .int .u8 229, .int .u8 192, .int .u8 38, .int .u8 147, .int .u8 12, .int .u8 62, .int .u8 96, .int .u8 57, .int .u8 163, .int .u8 60, .int .u8 228, .int .u8 89, .int .u8 100, .int .u8 255, .int .u8 33, .int .u8 103, .int .u8 246, .int .u8 236, .int .u8 237, .int .u8 212, .int .u8 25, .int .u8 219, .int .u8 6, .int .u8 193]
def vm : Array Value := #[.int .u8 205, .int .u8 199, .int .u8 110, .int .u8 92, .int .u8 153, .int .u8 20, .int .u8 251, .int .u8 146, .int .u8 129, .int .u8 161, .int .u8 199, .int .u8 226, .int .u8 132, .int .u8 215, .int .u8 62, .int .u8 103, .int .u8 241, .int .u8 128, .int .u8 154, .int .u8 72, .int .u8 164, .int .u8 151, .int .u8 32, .int .u8 14, .int .u8 4, .int .u8 109, .int .u8 57, .int .u8 204, .int .u8 199, .int .u8 17, .int .u8 44, .int .u8 208]
theorem two_v : hcs (sha twoL) 32 = v2 := by rw [two_sha]; kernel_rfl
theorem mil_v : hcs (sha (List.replicate (64 * 15625) 97)) 32 = vm := by rw [KE.million]; kernel_rfl
theorem non_0 : hby (sha []) 0 = 227 := by decide +kernel
theorem non_31 : hby (sha []) 31 = 85 := by decide +kernel
theorem v2_at : ∀ i, i < 32 → ∃ x : Int, v2[i]? = some (.int .u8 x) := fun i hi => ⟨_, by rw [← two_v]; exact hcs_get _ i hi⟩
theorem vm_at : ∀ i, i < 32 → ∃ x : Int, vm[i]? = some (.int .u8 x) := fun i hi => ⟨_, by rw [← mil_v]; exact hcs_get _ i hi⟩
theorem v2_size : v2.size = 32 := by rw [← two_v]; exact hcs_size _ _
theorem vm_size : vm.size = 32 := by rw [← mil_v]; exact hcs_size _ _
theorem v2_one : ∀ u ∈ v2.toList, u.oneCell' = true := by rw [← two_v]; exact hcs_one _ _
theorem vm_one : ∀ u ∈ vm.toList, u.oneCell' = true := by rw [← mil_v]; exact hcs_one _ _
theorem v2_eq (W : World) : (Op.equalIn 10000 38 (.agg v2) (.agg #[.int .u8 36, .int .u8 141, .int .u8 106, .int .u8 97, .int .u8 210, .int .u8 6, .int .u8 56, .int .u8 184, .int .u8 229, .int .u8 192, .int .u8 38, .int .u8 147, .int .u8 12, .int .u8 62, .int .u8 96, .int .u8 57, .int .u8 163, .int .u8 60, .int .u8 228, .int .u8 89, .int .u8 100, .int .u8 255, .int .u8 33, .int .u8 103, .int .u8 246, .int .u8 236, .int .u8 237, .int .u8 212, .int .u8 25, .int .u8 219, .int .u8 6, .int .u8 193])).run Tryd.prog W = .ok true W := arr_eq v2 v2_at W
theorem vm_eq (W : World) : (Op.equalIn 10000 38 (.agg vm) (.agg #[.int .u8 205, .int .u8 199, .int .u8 110, .int .u8 92, .int .u8 153, .int .u8 20, .int .u8 251, .int .u8 146, .int .u8 129, .int .u8 161, .int .u8 199, .int .u8 226, .int .u8 132, .int .u8 215, .int .u8 62, .int .u8 103, .int .u8 241, .int .u8 128, .int .u8 154, .int .u8 72, .int .u8 164, .int .u8 151, .int .u8 32, .int .u8 14, .int .u8 4, .int .u8 109, .int .u8 57, .int .u8 204, .int .u8 199, .int .u8 17, .int .u8 44, .int .u8 208])).run Tryd.prog W = .ok true W := arr_eq vm vm_at W
theorem wp_load_g {P : Program} {w : World} {ops : Array Oper} {rest : List Oper} {o : Oper} {a : Act} {Q : Exit → Act → World → Prop} (hwant : Region.wanted o (yielded ops a.tmps) = true) (x : Operand) (t : TypeId) (n : Nat) (ho : o.op = .load t x)
    (hagg : ∀ W : World, (isAgg t).run P W = .ok true W) (hsz : ∀ W : World, (sizeOf t).run P W = .ok n W) (g off : Nat) (hx : a.eval x = .pointer (some ⟨g, off, none⟩)) (cur : Array Value) (ty : TypeId) (f : Nat × Nat) (hg : w.heap[g]? = some (.cells cur ty f))
    (V : Array Value) (hV : V.size = n) (hc : ∀ j, j < n → cur[off + j]? = V[j]?)
    (h : wpList P ops Q rest (a.put o.dst (.agg V)) w) : wpList P ops Q (o :: rest) a w := by
  refine wpList_step fun K hK => ?_
  rw [if_pos hwant]
  have hl : (loadCells ⟨g, off, none⟩ n).run P w = .ok V w := by
    have := run_loadCells_list (P := P) w ⟨g, off, none⟩ V.toList (fun j v hv => by
      have hj : j < n := by
        have := (List.getElem?_eq_some_iff.1 hv).1
        simpa [hV] using this
      rw [addO, cell_of hg, hc j hj]
      simpa using hv)
    simpa [hV] using this
  unfold Oper.wp execOp
  simp only [ho, hx, Instr.loadAt, sure, loadVar, Sem.run_bind, Sem.run_pure, hagg, hsz, hl, Result.andThen_ok, if_true]
  exact hK _ _ h
theorem strs3 (w : World) (a b c : ByteArray) : Strs (w.alloc (.cells #[.string a, .string b, .string c] 9)) (some ⟨w.heap.size, 0, none⟩) [a, b, c] := fun j x hx => by
  match j, hx with
  | 0, hx => cases hx; exact ⟨_, _, rfl, cell_of (heap_new w _) 0⟩
  | 1, hx => cases hx; exact ⟨_, _, rfl, cell_of (heap_new w _) 1⟩
  | 2, hx => cases hx; exact ⟨_, _, rfl, cell_of (heap_new w _) 2⟩
theorem strs2 (w : World) (a b : ByteArray) : Strs (w.alloc (.cells #[.string a, .string b] 9)) (some ⟨w.heap.size, 0, none⟩) [a, b] := fun j x hx => by
  match j, hx with
  | 0, hx => cases hx; exact ⟨_, _, rfl, cell_of (heap_new w _) 0⟩
  | 1, hx => cases hx; exact ⟨_, _, rfl, cell_of (heap_new w _) 1⟩
theorem sum_a3 (w : World) (hL : Laid w) : Calls Tryd.prog 16 #[.slice (some ⟨w.heap.size, 0, none⟩) 3 3] (w.alloc (.cells #[.string ⟨#[97]⟩, .string ⟨#[]⟩, .string ⟨#[98, 99]⟩] 9)) fun e w' => e = .returned (.agg (hcs (sha [97, 98, 99]) 32)) ∧ Nw (w.alloc (.cells #[.string ⟨#[97]⟩, .string ⟨#[]⟩, .string ⟨#[98, 99]⟩] 9)) w' :=
  sums_any (some ⟨w.heap.size, 0, none⟩) 3 [⟨#[97]⟩, ⟨#[]⟩, ⟨#[98, 99]⟩] _ (strs3 w _ _ _) (hL.nw ((Fr.refl _ _).alloc _)) (by decide) (by decide)
theorem sum_n2 (w : World) (hL : Laid w) : Calls Tryd.prog 16 #[.slice (some ⟨w.heap.size, 0, none⟩) 2 2] (w.alloc (.cells #[.string ⟨#[]⟩, .string ⟨#[]⟩] 9)) fun e w' => e = .returned (.agg (hcs (sha []) 32)) ∧ Nw (w.alloc (.cells #[.string ⟨#[]⟩, .string ⟨#[]⟩] 9)) w' :=
  sums_any (some ⟨w.heap.size, 0, none⟩) 2 [⟨#[]⟩, ⟨#[]⟩] _ (strs2 w _ _) (hL.nw ((Fr.refl _ _).alloc _)) (by decide) (by decide)
theorem sum_1 (x : ByteArray) (w : World) (hL : Laid w) (hx : x.size < 576460752303423488) : Calls Tryd.prog 16 #[.slice (some ⟨w.heap.size, 0, none⟩) 1 1] (w.alloc (.cells #[.string x] 9)) fun e w' => e = .returned (.agg (hcs (sha x.data.toList) 32)) ∧ Nw (w.alloc (.cells #[.string x] 9)) w' := by
  have hc : cat [x] = x.data.toList := by simp [cat]
  have q := sums_any (some ⟨w.heap.size, 0, none⟩) 1 [x] _ (strs1 w x) (hL.nw ((Fr.refl _ _).alloc _)) (by rw [hc]; show x.data.toList.length < _; rw [Array.length_toList]; exact hx) (by simp)
  rw [hc] at q
  exact q
theorem sum_0 (w : World) (hL : Laid w) : Calls Tryd.prog 16 #[.slice none 0 0] w fun e w' => e = .returned (.agg (hcs (sha []) 32)) ∧ Nw w w' :=
  sums_any none 0 [] _ (fun j x hx => by simp at hx) hL (by decide) (by decide)
/-- One byte as a text. -/
theorem conv_one (w : World) (m : Nat) (hm : m < 256) : (convert 53 9 (.slice (some ⟨w.heap.size, 0, none⟩) 1 1)).run Tryd.prog (w.alloc (.cells #[.int .u8 (m : Int)] 5)) = .ok (.string ⟨#[UInt8.ofNat m]⟩) (w.alloc (.cells #[.int .u8 (m : Int)] 5)) := by
  have hb : Bys (w.alloc (.cells #[.int .u8 (m : Int)] 5)) (some ⟨w.heap.size, 0, none⟩) [UInt8.ofNat m] := fun j hj => by
    obtain rfl : j = 0 := by simp at hj; exact hj
    refine ⟨_, _, rfl, ?_⟩
    rw [cell_of (heap_new w _)]
    have : (UInt8.ofNat m).toNat = m := by simp; omega
    show some (Value.int .u8 (m : Int)) = some (.int .u8 (((UInt8.ofNat m).toNat : Nat) : Int))
    rw [this]
  exact conv_bys hb 1
/-- A thousand letters. -/
abbrev aL : List UInt8 := List.replicate 1000 97
theorem a_len : aL.length = 1000 := List.length_replicate
theorem a_get (k : Nat) (h : k < 1000) : aL.getD k 0 = 97 := by
  rw [List.getD_eq_getElem?_getD, List.getElem?_replicate, if_pos h]
  rfl
theorem a_bys {w : World} {b : Nat} (h : w.heap[b]? = some (.cells (rcs aL 1000) 5 (0, 0))) : Bys w (some ⟨b, 0, none⟩) aL := fun j hj => by
  refine ⟨_, _, rfl, ?_⟩
  rw [Nat.zero_add, cell_of h]
  exact rcs_get aL 1000 j (by rw [a_len] at hj; exact hj) hj
theorem rep_add (k : Nat) : List.replicate (1000 * k) (97 : UInt8) ++ aL = List.replicate (1000 * (k + 1)) 97 := by
  rw [List.replicate_append_replicate]
  congr 1

set_option maxRecDepth 100000 in
set_option maxHeartbeats 4000000 in
theorem known_any (w : World) (hL : Laid w) : Calls Tryd.prog 4 #[] w fun e w' => e = .returned (.bool true) ∧ Nw w w' := by
  have HL : Hid (Laid w) := hL
  clear hL
  go_enter Tryd.func4, Tryd.ntmps4
  go_wp2_with fail
  refine (sum_1 ⟨#[97, 98, 99]⟩ w HL.out (by decide)).mono ?_
  rintro e1 w1 ⟨rfl, n1⟩
  have hd1 : (⟨#[97, 98, 99]⟩ : ByteArray).data.toList = [97, 98, 99] := rfl
  rw [hd1]
  have N1 : Hid (Nw w w1) := Nw.tr ((Fr.refl _ _).alloc _) n1
  clear n1 hd1
  obtain ⟨T, hT⟩ : ∃ T, T = sha [97, 98, 99] := ⟨_, rfl⟩
  rw [← hT]
  have HT : Hid (T = sha [97, 98, 99]) := hT
  clear hT
  go_wp2_with (refine wp_store_agg rfl (.tmp 1) (.tmp 12) 38 32 rfl Tryd.sizeOf38 w1.heap.size 0 rfl _ 38 (heap_new _ _) (hcs T 32) rfl (hcs_size _ _) (hcs_one T 32) (by decide) (hcs T 32) (by simp) ?_; intro w2 j2 f2 z2; have N2 : Hid (Nw w w2) := (N1.out.alloc _).trans f2 (fun k hk q => by have := N1.out.size; omega); have J2 : Hid (w2.heap[w1.heap.size]? = some (.cells (hcs T 32) 38 (0, 0))) := j2; clear z2 f2 j2)
  obtain ⟨b1, hb1⟩ : ∃ b, b = w1.heap.size := ⟨_, rfl⟩
  rw [← hb1] at J2 ⊢
  clear hb1
  refine (sum_0 w2 (HL.out.nw N2.out)).mono ?_
  rintro e3 w3 ⟨rfl, n3⟩
  obtain ⟨U, hU⟩ : ∃ U, U = sha [] := ⟨_, rfl⟩
  rw [← hU]
  have HU : Hid (U = sha []) := hU
  clear hU
  have N3 : Hid (Nw w w3) := N2.out.tr n3
  have J3 : Hid (w3.heap[b1]? = some (.cells (hcs T 32) 38 (0, 0))) := (n3.block _ (heap_lt J2.out) (fun f => f)).trans J2.out
  clear n3
  go_wp2_with (refine wp_store_agg rfl (.tmp 2) (.tmp 13) 38 32 rfl Tryd.sizeOf38 w3.heap.size 0 rfl _ 38 (heap_new _ _) (hcs U 32) rfl (hcs_size _ _) (hcs_one U 32) (by decide) (hcs U 32) (by simp) ?_; intro w4 j4 f4 z4; have N34 : Hid (Nw w3 w4) := ((Fr.refl _ _).alloc _).trans f4 (fun k hk q => by omega); have J4 : Hid (w4.heap[w3.heap.size]? = some (.cells (hcs U 32) 38 (0, 0))) := j4; clear z4 f4 j4)
  obtain ⟨b0, hb0⟩ : ∃ b, b = w3.heap.size := ⟨_, rfl⟩
  rw [← hb0] at J4 ⊢
  clear hb0
  have N4 : Hid (Nw w w4) := N3.out.tr N34.out
  have K4 : Hid (w4.heap[b1]? = some (.cells (hcs T 32) 38 (0, 0))) := (N34.out.block _ (heap_lt J3.out) (fun f => f)).trans J3.out
  have HLT : Hid (Laid w4) := HL.out.nw N4.out
  clear J2 J3 N34
  -- REGION 3
  have QA : Hid (∀ W p, Laid W → Strs W p [⟨#[97]⟩, ⟨#[]⟩, ⟨#[98, 99]⟩] → Calls Tryd.prog 16 #[.slice p 3 3] W fun e w' => e = .returned (.agg (hcs T 32)) ∧ Nw W w') := fun W p hl hs => by
    have q := sums_any p 3 [⟨#[97]⟩, ⟨#[]⟩, ⟨#[98, 99]⟩] W hs hl (by decide) (by decide)
    rw [show cat [⟨#[97]⟩, ⟨#[]⟩, ⟨#[98, 99]⟩] = [97, 98, 99] from rfl, ← HT.out] at q
    exact q
  have QB : Hid (∀ W p, Laid W → Strs W p [⟨#[]⟩, ⟨#[]⟩] → Calls Tryd.prog 16 #[.slice p 2 2] W fun e w' => e = .returned (.agg (hcs U 32)) ∧ Nw W w') := fun W p hl hs => by
    have q := sums_any p 2 [⟨#[]⟩, ⟨#[]⟩] W hs hl (by decide) (by decide)
    rw [show cat [⟨#[]⟩, ⟨#[]⟩] = [] from rfl, ← HU.out] at q
    exact q
  have hkp : Hid (∀ W, Nw w4 W → W.heap[b1]? = some (.cells (hcs T 32) 38 (0, 0)) ∧ W.heap[b0]? = some (.cells (hcs U 32) 38 (0, 0)) ∧ W.cell? ⟨b1, 0, none⟩ = some (.int .u8 186) ∧ W.cell? ⟨b1, 31, none⟩ = some (.int .u8 173) ∧ W.cell? ⟨b0, 0, none⟩ = some (.int .u8 227) ∧ W.cell? ⟨b0, 31, none⟩ = some (.int .u8 85)) := fun W hW => by
    have jT := (hW.block b1 (heap_lt K4.out) (fun f => f)).trans K4.out
    have jU := (hW.block b0 (heap_lt J4.out) (fun f => f)).trans J4.out
    refine ⟨jT, jU, ?_, ?_, ?_, ?_⟩
    · rw [cell_of jT, hcs_get T 0 (by decide), HT.out, abc_0]; rfl
    · rw [cell_of jT, hcs_get T 31 (by decide), HT.out, abc_31]; rfl
    · rw [cell_of jU, hcs_get U 0 (by decide), HU.out, non_0]; rfl
    · rw [cell_of jU, hcs_get U 31 (by decide), HU.out, non_31]; rfl
  have heT := fun W => hash_eq T W
  have heU := fun W => hash_eq U W
  have nb : Nw w4 w4.drew := (Fr.refl _ _).drew
  refine wp_region_held_drew (S := fun W => W.heap[b1]? = some (.cells (hcs T 32) 38 (0, 0)) ∧ W.heap[b0]? = some (.cells (hcs U 32) 38 (0, 0)) ∧ W.cell? ⟨b1, 0, none⟩ = some (.int .u8 186) ∧ W.cell? ⟨b1, 31, none⟩ = some (.int .u8 173) ∧ W.cell? ⟨b0, 0, none⟩ = some (.int .u8 227) ∧ W.cell? ⟨b0, 31, none⟩ = some (.int .u8 85)) (by kernel_rfl) (hkp.out _ nb) ?_
  intro hS0
  refine wpAnyH_take (i := 0) (oi := ({ dst := some 14, op := Op.load 38 (Operand.tmp 1), type := 38, pos := "law.go:106", after := #[], guard := none } : Oper)) (v := .agg (hcs T 32)) rfl (by kernel_rfl) (by kernel_rfl) (by kernel_rfl) (fun _ _ _ h => h) (yields_load_g (by rfl) (.tmp 1) 38 32 rfl Tryd.isAgg38 Tryd.sizeOf38 b1 rfl 38 (hcs T 32) (hcs_size _ _) (fun w hw => hw.1)) hS0 ?_
  try simp only [Act.put, List.setIfInBounds_toArray, List.set_cons_zero, List.set_cons_succ]
  refine wpAnyH_ready (rs := [1]) (by kernel_rfl) (by simp) ?_
  refine (AllReadyH.cons (o := ({ dst := some 15, op := Op.buildSlice 73 3 #[(0, Operand.const (Value.string { data := #[97] })), (1, Operand.const (Value.string { data := #[] })), (2, Operand.const (Value.string { data := #[98, 99] }))], type := 73, pos := "law.go:106", after := #[], guard := none } : Oper)) rfl (fun K' hK => ?_) AllReadyH.nil)
  go_simp
  have nb : Nw w4 (w4.alloc (.cells #[.string ⟨#[97]⟩, .string ⟨#[]⟩, .string ⟨#[98, 99]⟩] 9)).drew := ((Fr.refl _ _).alloc _).drew
  refine hK.out _ _ (hkp.out _ nb) (fun hS0 => ?_)
  try simp only [Act.put, List.setIfInBounds_toArray, List.set_cons_zero, List.set_cons_succ]
  refine wpAnyH_ready (rs := [2]) (by kernel_rfl) (by simp) ?_
  refine (AllReadyH.cons (o := ({ dst := some 16, op := Op.call { callee := Callee.value (Operand.func 16), args := #[Operand.tmp 15], argTypes := #[73] }, type := 38, pos := "law.go:106", after := #[{ on := 1, ground := Ground.data }], guard := none } : Oper)) rfl (fun K' hK => ?_) AllReadyH.nil)
  go_simp
  go_wp2_with (go_at_call 16; refine (QA.out _ _ (HLT.out.nw nb) ((strs3 _ _ _ _).nw (Fr.refl _ _).drew)).mono ?_; rintro ex w101 ⟨rfl, nw101⟩)
  have nb := nb.tr nw101
  refine hK.out _ _ (hkp.out _ nb) (fun hS0 => ?_)
  try simp only [Act.put, List.setIfInBounds_toArray, List.set_cons_zero, List.set_cons_succ]
  refine wpAnyH_take (i := 3) (oi := ({ dst := some 17, op := Op.binOp BinOp.neq 38 (Operand.tmp 14) (Operand.tmp 16) 38, type := 4, pos := "law.go:106", after := #[{ on := 0, ground := Ground.data }, { on := 2, ground := Ground.data }], guard := none } : Oper)) (v := .bool false) rfl (by kernel_rfl) (by kernel_rfl) (by kernel_rfl) (fun _ _ _ h => h) (Or.inl ⟨by rfl, by intro w hw; go_simp⟩) hS0 ?_
  try simp only [Act.put, List.setIfInBounds_toArray, List.set_cons_zero, List.set_cons_succ]
  refine wpAnyH_take (i := 4) (oi := ({ dst := some 18, op := Op.move (Operand.tmp 17), type := 4, pos := "law.go:106", after := #[{ on := 3, ground := Ground.data }, { on := 2, ground := Ground.chain }], guard := none } : Oper)) (v := .bool false) rfl (by kernel_rfl) (by kernel_rfl) (by kernel_rfl) (fun _ _ _ h => h) (Or.inl ⟨by rfl, by intro w hw; go_simp⟩) hS0 ?_
  try simp only [Act.put, List.setIfInBounds_toArray, List.set_cons_zero, List.set_cons_succ]
  refine wpAnyH_take (i := 5) (oi := ({ dst := some 19, op := Op.load 38 (Operand.tmp 2), type := 38, pos := "law.go:106", after := #[{ on := 4, ground := Ground.guard }], guard := some (4, false) } : Oper)) (v := .agg (hcs U 32)) rfl (by kernel_rfl) (by kernel_rfl) (by kernel_rfl) (fun _ _ _ h => h) (yields_load_g (by rfl) (.tmp 2) 38 32 rfl Tryd.isAgg38 Tryd.sizeOf38 b0 rfl 38 (hcs U 32) (hcs_size _ _) (fun w hw => hw.2.1)) hS0 ?_
  try simp only [Act.put, List.setIfInBounds_toArray, List.set_cons_zero, List.set_cons_succ]
  refine wpAnyH_ready (rs := [6]) (by kernel_rfl) (by simp) ?_
  refine (AllReadyH.cons (o := ({ dst := some 20, op := Op.buildSlice 73 2 #[(0, Operand.const (Value.string { data := #[] })), (1, Operand.const (Value.string { data := #[] }))], type := 73, pos := "law.go:106", after := #[{ on := 4, ground := Ground.guard }], guard := some (4, false) } : Oper)) rfl (fun K' hK => ?_) AllReadyH.nil)
  go_simp
  have nb : Nw w4 (w101.alloc (.cells #[.string { data := #[] }, .string { data := #[] }] 9)) := nb.alloc _
  refine hK.out _ _ (hkp.out _ nb) (fun hS0 => ?_)
  try simp only [Act.put, List.setIfInBounds_toArray, List.set_cons_zero, List.set_cons_succ]
  refine wpAnyH_ready (rs := [7]) (by kernel_rfl) (by simp) ?_
  refine (AllReadyH.cons (o := ({ dst := some 21, op := Op.call { callee := Callee.value (Operand.func 16), args := #[Operand.tmp 20], argTypes := #[73] }, type := 38, pos := "law.go:106", after := #[{ on := 6, ground := Ground.data }, { on := 4, ground := Ground.chain }, { on := 4, ground := Ground.guard }], guard := some (4, false) } : Oper)) rfl (fun K' hK => ?_) AllReadyH.nil)
  go_simp
  go_wp2_with (go_at_call 16; refine (QB.out _ _ (HLT.out.nw nb) (strs2 _ _ _)).mono ?_; rintro ex w102 ⟨rfl, nw102⟩)
  have nb := nb.tr nw102
  refine hK.out _ _ (hkp.out _ nb) (fun hS0 => ?_)
  try simp only [Act.put, List.setIfInBounds_toArray, List.set_cons_zero, List.set_cons_succ]
  refine wpAnyH_take (i := 8) (oi := ({ dst := some 22, op := Op.binOp BinOp.neq 38 (Operand.tmp 19) (Operand.tmp 21) 38, type := 4, pos := "law.go:106", after := #[{ on := 5, ground := Ground.data }, { on := 7, ground := Ground.data }, { on := 4, ground := Ground.guard }], guard := some (4, false) } : Oper)) (v := .bool false) rfl (by kernel_rfl) (by kernel_rfl) (by kernel_rfl) (fun _ _ _ h => h) (Or.inl ⟨by rfl, by intro w hw; go_simp⟩) hS0 ?_
  try simp only [Act.put, List.setIfInBounds_toArray, List.set_cons_zero, List.set_cons_succ]
  refine wpAnyH_take (i := 9) (oi := ({ dst := some 23, op := Op.pick (Operand.tmp 18) (Operand.const (Value.bool true)) (Operand.tmp 22), type := 4, pos := "law.go:106", after := #[{ on := 4, ground := Ground.data }, { on := 8, ground := Ground.data }], guard := none } : Oper)) (v := .bool false) rfl (by kernel_rfl) (by kernel_rfl) (by kernel_rfl) (fun _ _ _ h => h) (Or.inl ⟨by rfl, by intro w hw; go_simp⟩) hS0 ?_
  try simp only [Act.put, List.setIfInBounds_toArray, List.set_cons_zero, List.set_cons_succ]
  refine wpAnyH_take (i := 10) (oi := ({ dst := some 24, op := Op.move (Operand.tmp 23), type := 4, pos := "law.go:106", after := #[{ on := 9, ground := Ground.data }, { on := 7, ground := Ground.chain }], guard := none } : Oper)) (v := .bool false) rfl (by kernel_rfl) (by kernel_rfl) (by kernel_rfl) (fun _ _ _ h => h) (Or.inl ⟨by rfl, by intro w hw; go_simp⟩) hS0 ?_
  try simp only [Act.put, List.setIfInBounds_toArray, List.set_cons_zero, List.set_cons_succ]
  refine wpAnyH_take (i := 11) (oi := ({ dst := some 25, op := Op.indexAddr 38 (Operand.tmp 1) (Operand.const (Value.int IntKind.i64 0)), type := 0, pos := "law.go:106", after := #[{ on := 10, ground := Ground.guard }], guard := some (10, false) } : Oper)) (v := .pointer (some ⟨b1, 0, none⟩)) rfl (by kernel_rfl) (by kernel_rfl) (by kernel_rfl) (fun _ _ _ h => h) (Or.inl ⟨by rfl, by intro w hw; go_simp⟩) hS0 ?_
  try simp only [Act.put, List.setIfInBounds_toArray, List.set_cons_zero, List.set_cons_succ]
  refine wpAnyH_take (i := 12) (oi := ({ dst := some 26, op := Op.load 5 (Operand.tmp 25), type := 5, pos := "law.go:106", after := #[{ on := 11, ground := Ground.data }, { on := 10, ground := Ground.guard }], guard := some (10, false) } : Oper)) (v := .int .u8 186) rfl (by kernel_rfl) (by kernel_rfl) (by kernel_rfl) (fun _ _ _ h => h) (Or.inl ⟨by rfl, by intro w hw; have hc := hw.2.2.1; clear hw; go_simp⟩) hS0 ?_
  try simp only [Act.put, List.setIfInBounds_toArray, List.set_cons_zero, List.set_cons_succ]
  refine wpAnyH_take (i := 13) (oi := ({ dst := some 27, op := Op.binOp BinOp.neq 5 (Operand.tmp 26) (Operand.const (Value.int IntKind.u8 186)) 5, type := 4, pos := "law.go:106", after := #[{ on := 12, ground := Ground.data }, { on := 10, ground := Ground.guard }], guard := some (10, false) } : Oper)) (v := .bool false) rfl (by kernel_rfl) (by kernel_rfl) (by kernel_rfl) (fun _ _ _ h => h) (Or.inl ⟨by rfl, by intro w hw; go_simp⟩) hS0 ?_
  try simp only [Act.put, List.setIfInBounds_toArray, List.set_cons_zero, List.set_cons_succ]
  refine wpAnyH_take (i := 14) (oi := ({ dst := some 28, op := Op.pick (Operand.tmp 24) (Operand.const (Value.bool true)) (Operand.tmp 27), type := 4, pos := "law.go:106", after := #[{ on := 10, ground := Ground.data }, { on := 13, ground := Ground.data }], guard := none } : Oper)) (v := .bool false) rfl (by kernel_rfl) (by kernel_rfl) (by kernel_rfl) (fun _ _ _ h => h) (Or.inl ⟨by rfl, by intro w hw; go_simp⟩) hS0 ?_
  try simp only [Act.put, List.setIfInBounds_toArray, List.set_cons_zero, List.set_cons_succ]
  refine wpAnyH_take (i := 15) (oi := ({ dst := some 29, op := Op.move (Operand.tmp 28), type := 4, pos := "law.go:106", after := #[{ on := 14, ground := Ground.data }, { on := 10, ground := Ground.chain }], guard := none } : Oper)) (v := .bool false) rfl (by kernel_rfl) (by kernel_rfl) (by kernel_rfl) (fun _ _ _ h => h) (Or.inl ⟨by rfl, by intro w hw; go_simp⟩) hS0 ?_
  try simp only [Act.put, List.setIfInBounds_toArray, List.set_cons_zero, List.set_cons_succ]
  refine wpAnyH_take (i := 16) (oi := ({ dst := some 30, op := Op.indexAddr 38 (Operand.tmp 1) (Operand.const (Value.int IntKind.i64 31)), type := 0, pos := "law.go:106", after := #[{ on := 15, ground := Ground.guard }], guard := some (15, false) } : Oper)) (v := .pointer (some ⟨b1, 31, none⟩)) rfl (by kernel_rfl) (by kernel_rfl) (by kernel_rfl) (fun _ _ _ h => h) (Or.inl ⟨by rfl, by intro w hw; go_simp⟩) hS0 ?_
  try simp only [Act.put, List.setIfInBounds_toArray, List.set_cons_zero, List.set_cons_succ]
  refine wpAnyH_take (i := 17) (oi := ({ dst := some 31, op := Op.load 5 (Operand.tmp 30), type := 5, pos := "law.go:106", after := #[{ on := 16, ground := Ground.data }, { on := 15, ground := Ground.guard }], guard := some (15, false) } : Oper)) (v := .int .u8 173) rfl (by kernel_rfl) (by kernel_rfl) (by kernel_rfl) (fun _ _ _ h => h) (Or.inl ⟨by rfl, by intro w hw; have hc := hw.2.2.2.1; clear hw; go_simp⟩) hS0 ?_
  try simp only [Act.put, List.setIfInBounds_toArray, List.set_cons_zero, List.set_cons_succ]
  refine wpAnyH_take (i := 18) (oi := ({ dst := some 32, op := Op.binOp BinOp.neq 5 (Operand.tmp 31) (Operand.const (Value.int IntKind.u8 173)) 5, type := 4, pos := "law.go:106", after := #[{ on := 17, ground := Ground.data }, { on := 15, ground := Ground.guard }], guard := some (15, false) } : Oper)) (v := .bool false) rfl (by kernel_rfl) (by kernel_rfl) (by kernel_rfl) (fun _ _ _ h => h) (Or.inl ⟨by rfl, by intro w hw; go_simp⟩) hS0 ?_
  try simp only [Act.put, List.setIfInBounds_toArray, List.set_cons_zero, List.set_cons_succ]
  refine wpAnyH_take (i := 19) (oi := ({ dst := some 33, op := Op.pick (Operand.tmp 29) (Operand.const (Value.bool true)) (Operand.tmp 32), type := 4, pos := "law.go:106", after := #[{ on := 15, ground := Ground.data }, { on := 18, ground := Ground.data }], guard := none } : Oper)) (v := .bool false) rfl (by kernel_rfl) (by kernel_rfl) (by kernel_rfl) (fun _ _ _ h => h) (Or.inl ⟨by rfl, by intro w hw; go_simp⟩) hS0 ?_
  try simp only [Act.put, List.setIfInBounds_toArray, List.set_cons_zero, List.set_cons_succ]
  refine wpAnyH_take (i := 20) (oi := ({ dst := some 34, op := Op.move (Operand.tmp 33), type := 4, pos := "law.go:106", after := #[{ on := 19, ground := Ground.data }, { on := 15, ground := Ground.chain }], guard := none } : Oper)) (v := .bool false) rfl (by kernel_rfl) (by kernel_rfl) (by kernel_rfl) (fun _ _ _ h => h) (Or.inl ⟨by rfl, by intro w hw; go_simp⟩) hS0 ?_
  try simp only [Act.put, List.setIfInBounds_toArray, List.set_cons_zero, List.set_cons_succ]
  refine wpAnyH_take (i := 21) (oi := ({ dst := some 35, op := Op.indexAddr 38 (Operand.tmp 2) (Operand.const (Value.int IntKind.i64 0)), type := 0, pos := "law.go:106", after := #[{ on := 20, ground := Ground.guard }], guard := some (20, false) } : Oper)) (v := .pointer (some ⟨b0, 0, none⟩)) rfl (by kernel_rfl) (by kernel_rfl) (by kernel_rfl) (fun _ _ _ h => h) (Or.inl ⟨by rfl, by intro w hw; go_simp⟩) hS0 ?_
  try simp only [Act.put, List.setIfInBounds_toArray, List.set_cons_zero, List.set_cons_succ]
  refine wpAnyH_take (i := 22) (oi := ({ dst := some 36, op := Op.load 5 (Operand.tmp 35), type := 5, pos := "law.go:106", after := #[{ on := 21, ground := Ground.data }, { on := 20, ground := Ground.guard }], guard := some (20, false) } : Oper)) (v := .int .u8 227) rfl (by kernel_rfl) (by kernel_rfl) (by kernel_rfl) (fun _ _ _ h => h) (Or.inl ⟨by rfl, by intro w hw; have hc := hw.2.2.2.2.1; clear hw; go_simp⟩) hS0 ?_
  try simp only [Act.put, List.setIfInBounds_toArray, List.set_cons_zero, List.set_cons_succ]
  refine wpAnyH_take (i := 23) (oi := ({ dst := some 37, op := Op.binOp BinOp.neq 5 (Operand.tmp 36) (Operand.const (Value.int IntKind.u8 227)) 5, type := 4, pos := "law.go:106", after := #[{ on := 22, ground := Ground.data }, { on := 20, ground := Ground.guard }], guard := some (20, false) } : Oper)) (v := .bool false) rfl (by kernel_rfl) (by kernel_rfl) (by kernel_rfl) (fun _ _ _ h => h) (Or.inl ⟨by rfl, by intro w hw; go_simp⟩) hS0 ?_
  try simp only [Act.put, List.setIfInBounds_toArray, List.set_cons_zero, List.set_cons_succ]
  refine wpAnyH_take (i := 24) (oi := ({ dst := some 38, op := Op.pick (Operand.tmp 34) (Operand.const (Value.bool true)) (Operand.tmp 37), type := 4, pos := "law.go:106", after := #[{ on := 20, ground := Ground.data }, { on := 23, ground := Ground.data }], guard := none } : Oper)) (v := .bool false) rfl (by kernel_rfl) (by kernel_rfl) (by kernel_rfl) (fun _ _ _ h => h) (Or.inl ⟨by rfl, by intro w hw; go_simp⟩) hS0 ?_
  try simp only [Act.put, List.setIfInBounds_toArray, List.set_cons_zero, List.set_cons_succ]
  refine wpAnyH_take (i := 25) (oi := ({ dst := some 39, op := Op.move (Operand.tmp 38), type := 4, pos := "law.go:106", after := #[{ on := 24, ground := Ground.data }, { on := 20, ground := Ground.chain }], guard := none } : Oper)) (v := .bool false) rfl (by kernel_rfl) (by kernel_rfl) (by kernel_rfl) (fun _ _ _ h => h) (Or.inl ⟨by rfl, by intro w hw; go_simp⟩) hS0 ?_
  try simp only [Act.put, List.setIfInBounds_toArray, List.set_cons_zero, List.set_cons_succ]
  refine wpAnyH_take (i := 26) (oi := ({ dst := some 40, op := Op.indexAddr 38 (Operand.tmp 2) (Operand.const (Value.int IntKind.i64 31)), type := 0, pos := "law.go:106", after := #[{ on := 25, ground := Ground.guard }], guard := some (25, false) } : Oper)) (v := .pointer (some ⟨b0, 31, none⟩)) rfl (by kernel_rfl) (by kernel_rfl) (by kernel_rfl) (fun _ _ _ h => h) (Or.inl ⟨by rfl, by intro w hw; go_simp⟩) hS0 ?_
  try simp only [Act.put, List.setIfInBounds_toArray, List.set_cons_zero, List.set_cons_succ]
  refine wpAnyH_take (i := 27) (oi := ({ dst := some 41, op := Op.load 5 (Operand.tmp 40), type := 5, pos := "law.go:106", after := #[{ on := 26, ground := Ground.data }, { on := 25, ground := Ground.guard }], guard := some (25, false) } : Oper)) (v := .int .u8 85) rfl (by kernel_rfl) (by kernel_rfl) (by kernel_rfl) (fun _ _ _ h => h) (Or.inl ⟨by rfl, by intro w hw; have hc := hw.2.2.2.2.2; clear hw; go_simp⟩) hS0 ?_
  try simp only [Act.put, List.setIfInBounds_toArray, List.set_cons_zero, List.set_cons_succ]
  refine wpAnyH_take (i := 28) (oi := ({ dst := some 42, op := Op.binOp BinOp.neq 5 (Operand.tmp 41) (Operand.const (Value.int IntKind.u8 85)) 5, type := 4, pos := "law.go:106", after := #[{ on := 27, ground := Ground.data }, { on := 25, ground := Ground.guard }], guard := some (25, false) } : Oper)) (v := .bool false) rfl (by kernel_rfl) (by kernel_rfl) (by kernel_rfl) (fun _ _ _ h => h) (Or.inl ⟨by rfl, by intro w hw; go_simp⟩) hS0 ?_
  try simp only [Act.put, List.setIfInBounds_toArray, List.set_cons_zero, List.set_cons_succ]
  refine wpAnyH_take (i := 29) (oi := ({ dst := some 43, op := Op.pick (Operand.tmp 39) (Operand.const (Value.bool true)) (Operand.tmp 42), type := 4, pos := "law.go:106", after := #[{ on := 25, ground := Ground.data }, { on := 28, ground := Ground.data }], guard := none } : Oper)) (v := .bool false) rfl (by kernel_rfl) (by kernel_rfl) (by kernel_rfl) (fun _ _ _ h => h) (Or.inl ⟨by rfl, by intro w hw; go_simp⟩) hS0 ?_
  try simp only [Act.put, List.setIfInBounds_toArray, List.set_cons_zero, List.set_cons_succ]
  refine wpAnyH_done (by kernel_rfl) ?_ _
  have N5 : Hid (Nw w w102) := N4.out.tr nb
  clear heT heU hkp QA QB hS0 hK nb
  go_wp2
  go_loopw [3, 4] (fun s i wr => ∃ (k : Nat) (x : ByteArray), k ≤ 301 ∧ i = .int .i64 k ∧ s = .string x ∧ x.size = k ∧ Nw w wr) (fun _ i _ => 301 - (intOf i).toNat)
  case atStart => exact ⟨0, ⟨#[]⟩, by omega, rfl, rfl, rfl, N5.out⟩
  case round =>
    obtain ⟨k, x, hk, rfl, rfl, hx, hnw⟩ := hrel
    have HX : Hid (x.size = k) := hx
    have HNW : Hid (Nw w wr) := hnw
    by_cases hlt : k ≤ 300
    · have hki : (k : Int) ≤ 300 := by omega
      obtain ⟨V, hV⟩ : ∃ V, V = hcs (sha x.data.toList) 32 := ⟨_, rfl⟩
      have q1 := sum_1 x wr (HL.out.nw hnw) (by omega)
      have q2 : Hid (∀ W, Calls Tryd.prog 17 #[.string x] W fun e w' => e = .returned (.agg V) ∧ Nw W w') := fun W => by rw [hV]; exact refsum_any x (by omega) W
      rw [← hV] at q1
      have he : ∀ W, (Op.equalIn 10000 38 (.agg V) (.agg V)).run Tryd.prog W = .ok true W := by rw [hV]; exact fun W => hash_eq _ W
      obtain ⟨m, hm⟩ : ∃ m, m = k * 7 % 256 := ⟨_, rfl⟩
      have hm2 : m < 256 := by omega
      have hmz : (k : Int) * 7 % 256 = (m : Int) := by omega
      have hcv := fun W => conv_one W m hm2
      have hadd := fun W => run_string_add_sum (P := Tryd.prog) W x ⟨#[UInt8.ofNat m]⟩ (by rw [hx]; show k + 1 ≤ _; omega)
      clear hV hm hx hnw
      go_wp2_with fail
      refine q1.mono ?_
      rintro e1 w1 ⟨rfl, n1⟩
      go_wp2_with fail
      refine (q2.out w1).mono ?_
      rintro e2 w2 ⟨rfl, n2⟩
      have N2 : Hid (Nw w w2) := HNW.out.tr ((Nw.tr ((Fr.refl _ _).alloc _) n1).tr n2)
      clear q1 q2 n1 n2
      go_wp2
      exact ⟨⟨k + 1, x ++ ⟨#[UInt8.ofNat m]⟩, by omega, by go_num, rfl, by rw [ByteArray.size_append, HX.out]; rfl, N2.out.alloc _⟩, by simp [intOf]; omega⟩
    · have hki : ¬ (k : Int) ≤ 300 := by omega
      clear hx hnw HX
      go_wp2_with fail
      clear hki hlt
      refine (sum_1 ⟨#[97, 98, 99, 100, 98, 99, 100, 101, 99, 100, 101, 102, 100, 101, 102, 103, 101, 102, 103, 104, 102, 103, 104, 105, 103, 104, 105, 106, 104, 105, 106, 107, 105, 106, 107, 108, 106, 107, 108, 109, 107, 108, 109, 110, 108, 109, 110, 111, 109, 110, 111, 112, 110, 111, 112, 113]⟩ wr (HL.out.nw HNW.out) (by decide)).mono ?_
      rintro e6 w6 ⟨rfl, n6⟩
      have hd6 : (⟨#[97, 98, 99, 100, 98, 99, 100, 101, 99, 100, 101, 102, 100, 101, 102, 103, 101, 102, 103, 104, 102, 103, 104, 105, 103, 104, 105, 106, 104, 105, 106, 107, 105, 106, 107, 108, 106, 107, 108, 109, 107, 108, 109, 110, 108, 109, 110, 111, 109, 110, 111, 112, 110, 111, 112, 113]⟩ : ByteArray).data.toList = twoL := rfl
      rw [hd6, two_v]
      have N6 : Hid (Nw w w6) := HNW.out.tr (Nw.tr ((Fr.refl _ _).alloc _) n6)
      clear n6 hd6
      have hu2 : Hid (∀ W, (Op.equalIn 10000 38 (.agg v2) (.agg #[.int .u8 36, .int .u8 141, .int .u8 106, .int .u8 97, .int .u8 210, .int .u8 6, .int .u8 56, .int .u8 184, .int .u8 229, .int .u8 192, .int .u8 38, .int .u8 147, .int .u8 12, .int .u8 62, .int .u8 96, .int .u8 57, .int .u8 163, .int .u8 60, .int .u8 228, .int .u8 89, .int .u8 100, .int .u8 255, .int .u8 33, .int .u8 103, .int .u8 246, .int .u8 236, .int .u8 237, .int .u8 212, .int .u8 25, .int .u8 219, .int .u8 6, .int .u8 193])).run Tryd.prog W = .ok true W) := v2_eq
      have s2 : Hid (v2.size = 32) := v2_size
      have o2 : Hid (∀ u ∈ v2.toList, u.oneCell' = true) := v2_one
      generalize v2 = A at hu2 s2 o2 ⊢
      go_wp2_with (refine wp_store_agg rfl (.tmp 5) (.tmp 62) 38 32 rfl Tryd.sizeOf38 w6.heap.size 0 rfl _ 38 (heap_new _ _) A rfl s2.out o2.out (by decide) A (by simp) ?_; intro w7 j7 f7 z7; have N7 : Hid (Nw w w7) := (N6.out.alloc _).trans f7 (fun k hk q => by have := N6.out.size; omega); have J7 : Hid (w7.heap[w6.heap.size]? = some (.cells A 38 (0, 0))) := j7; clear z7 f7 j7)
      obtain ⟨b2, hb2⟩ : ∃ b, b = w6.heap.size := ⟨_, rfl⟩
      rw [← hb2] at J7 ⊢
      clear hb2
      refine (new_any w7 (HL.out.nw N7.out)).mono ?_
      rintro e8 w8 ⟨rfl, D8, n8⟩
      have N8 : Hid (Nw w w8) := N7.out.tr n8
      have J8 : Hid (w8.heap[b2]? = some (.cells A 38 (0, 0))) := (n8.block _ (heap_lt J7.out) (fun f => f)).trans J7.out
      have hb2d : b2 < w7.heap.size := heap_lt J7.out
      have hd8 := D8.lt
      have hnb : 19 ≤ w7.heap.size := Nat.le_trans HL.out.lt N7.out.size
      have hwd : w.heap.size ≤ w7.heap.size := N7.out.size
      obtain ⟨d, hd⟩ : ∃ d, d = w7.heap.size := ⟨_, rfl⟩
      rw [← hd] at D8 hd8 hb2d hnb hwd ⊢
      have HD8 : Hid (Dig w8 d []) := D8
      clear hd D8 n8
      have hmk := make_bytes aL 1000 (by rw [a_len]; rfl) w8 (by rw [a_len]; omega)
      rw [a_len] at hmk
      have HG : Hid (∀ k, k < 1000 → aL.getD k 0 = 97) := a_get
      have HAL : Hid (aL.length = 1000) := a_len
      have HRB : Hid (∀ k : Nat, List.replicate (1000 * k) (97 : UInt8) ++ aL = List.replicate (1000 * (k + 1)) 97) := rep_add
      have HBY : Hid (∀ (W : World) (b : Nat), W.heap[b]? = some (.cells (rcs aL 1000) 5 (0, 0)) → Bys W (some ⟨b, 0, none⟩) aL) := fun W b h => a_bys h
      generalize aL = a at hmk HG HAL HRB HBY
      go_wp2
      obtain ⟨ab, hab⟩ : ∃ b, b = w8.heap.size := ⟨_, rfl⟩
      obtain ⟨w9, hw9⟩ : ∃ W, W = w8.alloc (.cells (rcs a 0) 5) := ⟨_, rfl⟩
      have k9 : w9.heap[ab]? = some (.cells (rcs a 0) 5 (0, 0)) := by rw [hw9, hab]; exact heap_new _ _
      have n89 : Hid (Nw w8 w9) := by unfold Hid; rw [hw9]; exact (Fr.refl _ _).alloc _
      have habd : d < ab := by omega
      rw [← hab, ← hw9]
      have HAB : Hid (ab = w8.heap.size) := hab
      clear hab hw9 hmk
      go_loopw [8] (fun i wr => ∃ k : Nat, k ≤ 1000 ∧ i = .int .i64 k ∧ Fr (fun q => q = ab) w9 wr ∧ wr.heap[ab]? = some (.cells (rcs a k) 5 (0, 0))) (fun i _ => 1000 - (intOf i).toNat)
      case atStart => exact ⟨0, by omega, rfl, Fr.refl _ _, k9⟩
      case round =>
        obtain ⟨k, hk, rfl, hfr, hc⟩ := hrel
        have HFR : Hid (Fr (fun q => q = ab) w9 wr) := hfr
        have HC : Hid (wr.heap[ab]? = some (.cells (rcs a k) 5 (0, 0))) := hc
        clear hfr
        by_cases hlt : k < 1000
        · have hcs : wr.cell? ⟨ab, k, none⟩ = some (.int .u8 0) := (cell_of hc k).trans (rcs_out a k k (by omega) (by have := HAL.out; omega))
          have hfz : wr.frozen? ⟨ab, k, none⟩ = false := frozen_of hc k
          have hki : (k : Int) < 1000 := by omega
          clear hc
          go_wp2
          refine ⟨⟨k + 1, by omega, by go_num, HFR.out.setCell _ _ (fun _ => rfl), ?_⟩, by simp [intOf]; omega⟩
          rw [← rcs_set a k _ (show (97 : Int) = _ by rw [HG.out k hlt]; rfl)]
          exact heap_set HC.out _
        · obtain rfl : k = 1000 := by omega
          have NA : Hid (Nw w wr) := (N8.out.tr n89.out).trans HFR.out (fun q hq e => by have := N8.out.size; have := HAB.out; omega)
          have JA : Hid (wr.heap[b2]? = some (.cells A 38 (0, 0))) := (HFR.out.block b2 (Nat.lt_of_lt_of_le (heap_lt J8.out) n89.out.size) (by omega)).trans ((n89.out.block _ (heap_lt J8.out) (fun f => f)).trans J8.out)
          have DA : Hid (Dig wr d []) := ((HD8.out.keep n89.out (fun f => f))).keep HFR.out (by omega)
          clear hc hlt HD8 J8 k9
          obtain ⟨wA, hwA⟩ : ∃ W, W = wr := ⟨_, rfl⟩
          rw [← hwA] at HC NA JA DA HFR ⊢
          clear hwA
          go_wp2
          rw [show ((1000 : Nat) : Int) = 1000 from rfl]
          go_loopw [9] (fun i wr => ∃ k : Nat, k ≤ 1000 ∧ i = .int .i64 k ∧ Dig wr d (List.replicate (1000 * k) 97) ∧ Fr (fun q => q = d) wA wr) (fun i _ => 1000 - (intOf i).toNat)
          case atStart => exact ⟨0, by omega, rfl, DA.out, Fr.refl _ _⟩
          case round =>
            obtain ⟨k, hk, rfl, hdg, hfr⟩ := hrel
            have HDG : Hid (Dig wr d (List.replicate (1000 * k) 97)) := hdg
            have HF2 : Hid (Fr (fun q => q = d) wA wr) := hfr
            clear hdg hfr
            have JC : Hid (wr.heap[ab]? = some (.cells (rcs a 1000) 5 (0, 0))) := (HF2.out.block ab (heap_lt HC.out) (by omega)).trans HC.out
            have LD : Hid (Laid wr) := (HL.out.nw NA.out).fr HF2.out hnb
            by_cases hlt : k < 1000
            · have hki : (k : Int) < 1000 := by omega
              have hcv := conv_bys (HBY.out wr ab JC.out) 1000
              rw [HAL.out] at hcv
              have q := write_dig d (List.replicate (1000 * k) 97) _ ⟨a.toArray⟩ wr HDG.out LD.out hnb hcv (by rw [List.length_replicate]; show _ + a.toArray.size < _; have := HAL.out; simp; omega)
              have hre : (List.replicate (1000 * k) (97 : UInt8) ++ (⟨a.toArray⟩ : ByteArray).data.toList) = List.replicate (1000 * (k + 1)) 97 := HRB.out k
              rw [hre] at q
              clear hre hcv
              go_wp2_with fail
              refine q.mono ?_
              rintro e9 wB ⟨rfl, DB, fB⟩
              clear q
              go_wp2
              exact ⟨⟨k + 1, by omega, by go_num, DB, HF2.out.trans fB (fun _ _ h => h)⟩, by simp [intOf]; omega⟩
            · obtain rfl : k = 1000 := by omega
              have q := sum_dig d (List.replicate (1000 * 1000) 97) wr HDG.out LD.out (by rw [List.length_replicate]; decide)
              rw [show 1000 * 1000 = 64 * 15625 from rfl] at q
              unfold hsh at q
              rw [mil_v] at q
              have hum : Hid (∀ W, (Op.equalIn 10000 38 (.agg vm) (.agg #[.int .u8 205, .int .u8 199, .int .u8 110, .int .u8 92, .int .u8 153, .int .u8 20, .int .u8 251, .int .u8 146, .int .u8 129, .int .u8 161, .int .u8 199, .int .u8 226, .int .u8 132, .int .u8 215, .int .u8 62, .int .u8 103, .int .u8 241, .int .u8 128, .int .u8 154, .int .u8 72, .int .u8 164, .int .u8 151, .int .u8 32, .int .u8 14, .int .u8 4, .int .u8 109, .int .u8 57, .int .u8 204, .int .u8 199, .int .u8 17, .int .u8 44, .int .u8 208])).run Tryd.prog W = .ok true W) := vm_eq
              have sm : Hid (vm.size = 32) := vm_size
              have om : Hid (∀ u ∈ vm.toList, u.oneCell' = true) := vm_one
              generalize vm = Z at hum sm om q
              have NB : Hid (Nw w wr) := NA.out.trans HF2.out (fun q' hq e => by have := hwd; omega)
              have JB : Hid (wr.heap[b2]? = some (.cells A 38 (0, 0))) := (HF2.out.block b2 (heap_lt JA.out) (by omega)).trans JA.out
              clear hlt HDG LD JC
              go_wp2_with fail
              refine q.mono ?_
              rintro e10 wB ⟨rfl, nB⟩
              have N10 : Hid (Nw w wB) := NB.out.tr nB
              have J10 : Hid (wB.heap[b2]? = some (.cells A 38 (0, 0))) := (nB.block _ (heap_lt JB.out) (fun f => f)).trans JB.out
              clear q nB
              have hA := hu2.out
              have hZ := hum.out
              go_wp2_with (first
                | (refine wp_store_agg rfl (.tmp 10) (.tmp 82) 38 32 rfl Tryd.sizeOf38 wB.heap.size 0 rfl _ 38 (heap_new _ _) Z rfl sm.out om.out (by decide) Z (by simp) ?_; intro wC jC fC zC; have NC : Hid (Nw w wC) := (N10.out.alloc _).trans fC (fun k hk q => by have := N10.out.size; omega); have kC : wC.heap[b2]? = some (.cells A 38 (0, 0)) := (fC.block b2 (by have := heap_lt J10.out; simp; omega) (by have := heap_lt J10.out; omega)).trans ((Below.heap_alloc _ _ _ (heap_lt J10.out)).trans J10.out); clear zC fC)
                | (refine wp_load_g rfl (.tmp 5) 38 32 rfl Tryd.isAgg38 Tryd.sizeOf38 b2 0 rfl A 38 (0, 0) kC A s2.out (fun j _ => by rw [Nat.zero_add]) ?_)
                | (refine wp_load_g rfl (.tmp 10) 38 32 rfl Tryd.isAgg38 Tryd.sizeOf38 wB.heap.size 0 rfl Z 38 (0, 0) jC Z sm.out (fun j _ => by rw [Nat.zero_add]) ?_))
              go_ret
              exact ⟨rfl, NC.out⟩
end Go.Proofs.YtebbgpnhkpbefaaDoor
