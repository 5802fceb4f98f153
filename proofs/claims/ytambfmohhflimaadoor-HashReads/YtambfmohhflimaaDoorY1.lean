/- HashBySha. -/
import Derived.Test.YtambfmohhflimaaDoorH5
import Derived.Deep.RegionHeld3
import Derived.ChangeKeysEq
namespace Go.Proofs.YtambfmohhflimaaDoor
open Go.RowKit
set_option linter.unusedVariables false
set_option linter.unusedSimpArgs false

theorem plain8 : Tryd.prog.plainKey 5 = true := by kernel_rfl
theorem cells5 : Tryd.prog.cellsOf 5 = 1 := by kernel_rfl
theorem infoH : (Tryd.prog.info? 24).map (·.size) = some 32 := by kernel_rfl
theorem eqItems_self (w : World) (A : Array Value) (hA : ∀ i, i < 32 → ∃ x : Int, A[i]? = some (.int .u8 x)) : ∀ (is : List Nat), (∀ i ∈ is, i < 32) → (Op.eqItems 9999 5 1 A A is).run Tryd.prog w = .ok true w
  | [], _ => by simp [Op.eqItems]
  | i :: is, h => by
    obtain ⟨x, hx⟩ := hA i (h i (by simp))
    have hg : A[i * 1]? = some (.int .u8 x) := by rw [Nat.mul_one]; exact hx
    have hp := run_part_plain w plain8 hg
    have ih := eqItems_self w A hA is (fun j hj => h j (by simp [hj]))
    have he : (Op.equalIn 9999 5 (.int .u8 x) (.int .u8 x)).run Tryd.prog w = .ok true w := by
      rw [run_equalIn_int w 9998 5 .u8 .u8 _ _ Tryd.underlying5]; simp
    simp only [Op.eqItems, Sem.run_bind, hp, he, Result.andThen_ok, Bool.not_true, Bool.false_eq_true, if_false, ih]
theorem arr_eq (A : Array Value) (hA : ∀ i, i < 32 → ∃ x : Int, A[i]? = some (.int .u8 x)) (w : World) : (Op.equalIn 10000 24 (.agg A) (.agg A)).run Tryd.prog w = .ok true w := by
  obtain ⟨i0, hi, _⟩ := Option.map_eq_some_iff.1 info8
  rw [run_equalIn_array w 9999 _ _ Tryd.underlying24 hi, cells5]
  exact eqItems_self w A hA _ (fun i hi => List.mem_range.1 hi)
theorem hbs_eq (A : List UInt8) (hA : A.length = 32) (w : World) : (Op.equalIn 10000 24 (.agg (hbs A)) (.agg (hbs A))).run Tryd.prog w = .ok true w :=
  arr_eq _ (fun i hi => ⟨_, hbs_get A i (by omega)⟩) w
/-- A thing loaded whole, guarded or not, yields it wherever its block is as it was. -/
theorem yields_load_g {P : Program} {ops : Array Oper} {S : World → Prop} {o : Oper} {a : Act} (hgd : Region.wanted o (yielded ops a.tmps) = true) (x : Operand) (t : TypeId) (n : Nat) (ho : o.op = .load t x)
    (hagg : ∀ W : World, (isAgg t).run P W = .ok true W) (hsz : ∀ W : World, (sizeOf t).run P W = .ok n W) (g : Nat) (hx : a.eval x = .pointer (some ⟨g, 0, none⟩)) (ty : TypeId)
    (V : Array Value) (hV : V.size = n) (hg : ∀ w, S w → w.heap[g]? = some (.cells V ty (0, 0))) : YieldsIf P ops S o (.agg V) a := by
  refine .inl ⟨hgd, fun w hw => ?_⟩
  have hl : (loadCells ⟨g, 0, none⟩ n).run P w = .ok V w := by
    have := run_loadCells_list (P := P) w ⟨g, 0, none⟩ V.toList (fun j v hv => by
      rw [addZ, cell_of (hg w hw)]
      simpa using hv)
    simpa [hV] using this
  unfold execOp
  simp only [ho, hx, Instr.loadAt, sure, loadVar, Sem.run_bind, Sem.run_pure, hagg, hsz, hl, Result.andThen_ok, if_true]
theorem strs1n {w w' : World} {x : ByteArray} (n : Nw (w.alloc (.cells #[.string x] 9)) w') : Strs w' (some ⟨w.heap.size, 0, none⟩) [x] := (strs1 w x).nw n
theorem strs1d {w w' : World} {x : ByteArray} (n : Nw (w.alloc (.cells #[.string x] 9)).drew w') : Strs w' (some ⟨w.heap.size, 0, none⟩) [x] := (strs1 w x).nw (Nw.tr (Fr.refl _ _).drew n)

set_option maxRecDepth 100000 in
set_option maxHeartbeats 4000000 in
theorem bysha_any (s : ByteArray) (A B : List UInt8) (hs : s.size ≤ 140737488355328) (hA : A.length = 32) (hB : B.length = 32) (w : World) (hL : Laid w) {Bd : Nat} {a : Nat → Addr} (hS : Sent Bd w a) :
    Calls Tryd.prog 8 #[.string s, .agg (hbs A), .agg (hbs B)] w fun e w' => e = .returned (.bool true) ∧ Nw w w' := by
  have HL : Hid (Laid w) := hL
  have HS : Hid (Sent Bd w a) := hS
  have HA : Hid (A.length = 32) := hA
  have HB : Hid (B.length = 32) := hB
  have has : (hbs A).size = 32 := by rw [hbs_size, hA]
  have hbs' : (hbs B).size = 32 := by rw [hbs_size, hB]
  clear hL hS hA hB
  go_enter Tryd.func8, Tryd.ntmps8
  obtain ⟨w0, hw0⟩ : ∃ w0, w0 = (w.alloc (.cells (hbs A) 24)).alloc (.cells (hbs B) 24) := ⟨_, rfl⟩
  have n0 : Nw w w0 := by rw [hw0]; exact ((Fr.refl _ _).alloc _).alloc _
  have ja : w0.heap[w.heap.size]? = some (.cells (hbs A) 24) := by rw [hw0]; exact (Below.heap_alloc _ _ _ (by simp)).trans (heap_new w _)
  have jb : w0.heap[w.heap.size + 1]? = some (.cells (hbs B) 24) := by rw [hw0]; exact heap_next w _ _
  have ja' := ja
  rw [hw0] at ja'
  go_wp2_with (refine wp_load_agg rfl (.tmp 4) 24 32 rfl Tryd.isAgg24 Tryd.sizeOf24 w.heap.size 0 rfl (hbs A) 24 (0, 0) ja' (hbs A) has (fun j _ => by rw [Nat.zero_add]) ?_)
  rw [← hw0]
  clear ja' hw0
  refine (chain_in A HA.out 1 (by decide) w0 (HL.out.nw n0)).mono ?_
  rintro e1 w1 ⟨rfl, n1⟩
  have e1 : chn 1 A = Sh (2 :: A) := rfl
  rw [e1]
  clear e1
  obtain ⟨R2, hR2⟩ : ∃ R, R = Sh (2 :: A) := ⟨_, rfl⟩
  rw [← hR2]
  have l2 : R2.length = 32 := by rw [hR2]; exact Sh_len _
  have s2 : (hbs R2).size = 32 := by rw [hbs_size, l2]
  have HR2 : Hid (R2 = Sh (2 :: A)) := hR2
  clear hR2
  have ja1 := (n1.block _ (heap_lt ja) (fun f => f)).trans ja
  have jb1 := (n1.block _ (heap_lt jb) (fun f => f)).trans jb
  have nw1 : Nw w w1 := n0.tr n1
  clear ja jb n0 n1
  go_wp2_with (refine wp_store_agg rfl (.tmp 7) (.tmp 12) 24 32 rfl Tryd.sizeOf24 w1.heap.size 0 rfl _ 24 (heap_new _ _) (hbs R2) rfl s2 (hbs_one _) (by decide) (hbs R2) (by simp) ?_; intro w2 j2 f2 z2; have n2 : Nw w w2 := (nw1.alloc _).trans f2 (fun k hk q => by have := nw1.size; omega); have ja2 := (f2.block _ (by have := heap_lt ja1; simp; omega) (by have := heap_lt ja1; omega)).trans ((Below.heap_alloc _ _ _ (heap_lt ja1)).trans ja1); have jb2 := (f2.block _ (by have := heap_lt jb1; simp; omega) (by have := heap_lt jb1; omega)).trans ((Below.heap_alloc _ _ _ (heap_lt jb1)).trans jb1); clear z2 f2 ja1 jb1)
  obtain ⟨c, hc⟩ : ∃ c, c = w1.heap.size := ⟨_, rfl⟩
  rw [← hc] at j2 ⊢
  clear hc nw1
  obtain ⟨X0, hX0⟩ : ∃ X : ByteArray, X = ⟨#[0]⟩ ++ s := ⟨_, rfl⟩
  obtain ⟨X1, hX1⟩ : ∃ X : ByteArray, X = ⟨#[1]⟩ ++ ⟨A.toArray⟩ := ⟨_, rfl⟩
  obtain ⟨X2, hX2⟩ : ∃ X : ByteArray, X = X1 ++ ⟨B.toArray⟩ := ⟨_, rfl⟩
  obtain ⟨X3, hX3⟩ : ∃ X : ByteArray, X = ⟨#[2]⟩ ++ ⟨A.toArray⟩ := ⟨_, rfl⟩
  obtain ⟨R0, hR0⟩ : ∃ R, R = Sh (0 :: s.data.toList) := ⟨_, rfl⟩
  obtain ⟨R1, hR1⟩ : ∃ R, R = Sh (1 :: (A ++ B)) := ⟨_, rfl⟩
  obtain ⟨RE, hRE⟩ : ∃ R, R = Sh [] := ⟨_, rfl⟩
  have d0 : X0.data.toList = 0 :: s.data.toList := by rw [hX0]; simp
  have d2 : X2.data.toList = 1 :: (A ++ B) := by rw [hX2, hX1]; simp
  have d3 : X3.data.toList = 2 :: A := by rw [hX3]; simp
  have QS : Hid (∀ p x R W, Nw w2 W → Strs W p [x] → ((x = X0 ∧ R = R0) ∨ (x = X2 ∧ R = R1) ∨ (x = X3 ∧ R = R2)) → Calls Tryd.prog 26 #[.slice p 1 1] W fun e w' => e = .returned (.agg (hbs R)) ∧ Nw W w') := fun p x R W hW hs h => by
    have hcx : cat [x] = x.data.toList := by simp [cat]
    have hsl : s.data.toList.length = s.size := by rw [Array.length_toList]; rfl
    have := sumh_any p 1 [x] W hs (HL.out.nw (n2.tr hW)) (by
      rw [hcx]
      rcases h with ⟨rfl, _⟩ | ⟨rfl, _⟩ | ⟨rfl, _⟩
      · rw [d0, List.length_cons, hsl]; omega
      · rw [d2, List.length_cons, List.length_append, HA.out, HB.out]; decide
      · rw [d3, List.length_cons, HA.out]; decide) (by simp)
    rw [hcx] at this
    rcases h with ⟨rfl, rfl⟩ | ⟨rfl, rfl⟩ | ⟨rfl, rfl⟩
    · rw [hR0, ← d0]; exact this
    · rw [hR1, ← d2]; exact this
    · rw [HR2.out, ← d3]; exact this
  have Q0 : Hid (∀ W, Nw w2 W → Calls Tryd.prog 26 #[.slice none 0 0] W fun e w' => e = .returned (.agg (hbs RE)) ∧ Nw W w') := fun W hW => by
    rw [hRE]; exact sumh_any none 0 [] W (strs0 W) (HL.out.nw (n2.tr hW)) (by decide) (by decide)
  have QL : Hid (∀ W, Nw w2 W → Calls Tryd.prog 10 #[.string s] W fun e w' => e = .returned (.agg (hbs R0)) ∧ Nw W w') := fun W hW => by
    rw [hR0]; exact leaf_any s W (HL.out.nw (n2.tr hW)) (by omega)
  have QN : Hid (∀ W, Nw w2 W → Calls Tryd.prog 15 #[.agg (hbs A), .agg (hbs B)] W fun e w' => e = .returned (.agg (hbs R1)) ∧ Nw W w') := fun W hW => by
    rw [hR1]; exact node_any A B HA.out HB.out W (HL.out.nw (n2.tr hW))
  have QE : Hid (∀ W, Nw w2 W → Calls Tryd.prog 12 #[] W fun e w' => e = .returned (.agg (hbs RE)) ∧ Nw W w') := fun W hW => by
    rw [hRE]; exact empty_any W (HL.out.nw (n2.tr hW))
  have QT : Hid (∀ T W, (T = A ∨ T = B) → Calls Tryd.prog 27 #[.agg (hbs T)] W fun e w' => e = .returned (.string ⟨T.toArray⟩) ∧ Nw W w') := fun T W h => by
    rcases h with rfl | rfl
    · exact letters_any _ HA.out W
    · exact letters_any _ HB.out W
  have QV : Hid (∀ W, Nw w2 W → Calls Tryd.prog 14 #[] W fun e w' => e = .returned (.bool true) ∧ Nw W w') := fun W hW => lives_any W (HL.out.nw (n2.tr hW)) (HS.out.fr (n2.tr hW) (fun _ _ f => f))
  have eq0 := hbs_eq R0 (by rw [hR0]; exact Sh_len _)
  have eq1 := hbs_eq R1 (by rw [hR1]; exact Sh_len _)
  have eq2 := hbs_eq R2 l2
  have eqE := hbs_eq RE (by rw [hRE]; exact Sh_len _)
  have zA : (⟨A.toArray⟩ : ByteArray).size = 32 := by show A.toArray.size = 32; simpa using HA.out
  have zB : (⟨B.toArray⟩ : ByteArray).size = 32 := by show B.toArray.size = 32; simpa using HB.out
  have z1 : X1.size = 33 := by rw [hX1, ByteArray.size_append, zA]; rfl
  have x0 : ∀ W, (Op.stringOp .add ⟨#[0]⟩ s).run Tryd.prog W = .ok (.string X0) W := fun W => by rw [hX0]; exact run_string_add_sum W _ _ (by show 1 + s.size ≤ _; omega)
  have x1 : ∀ W, (Op.stringOp .add ⟨#[1]⟩ ⟨A.toArray⟩).run Tryd.prog W = .ok (.string X1) W := fun W => by rw [hX1]; exact run_string_add_sum W _ _ (by rw [zA]; decide)
  have x2 : ∀ W, (Op.stringOp .add X1 ⟨B.toArray⟩).run Tryd.prog W = .ok (.string X2) W := fun W => by rw [hX2]; exact run_string_add_sum W _ _ (by rw [zB, z1]; decide)
  have x3 : ∀ W, (Op.stringOp .add ⟨#[2]⟩ ⟨A.toArray⟩).run Tryd.prog W = .ok (.string X3) W := fun W => by rw [hX3]; exact run_string_add_sum W _ _ (by rw [zA]; decide)
  clear zA zB z1
  have hkp : Hid (∀ W, Nw w2 W → W.heap[w.heap.size]? = some (.cells (hbs A) 24 (0, 0)) ∧ W.heap[w.heap.size + 1]? = some (.cells (hbs B) 24 (0, 0)) ∧ W.heap[c]? = some (.cells (hbs R2) 24 (0, 0))) := fun W hW =>
    ⟨(hW.block _ (heap_lt ja2) (fun f => f)).trans ja2, (hW.block _ (heap_lt jb2) (fun f => f)).trans jb2, (hW.block _ (heap_lt j2) (fun f => f)).trans j2⟩
  clear hX0 hX1 hX2 hX3 hR0 hR1 hRE d0 d2 d3 hs l2 j2 ja2 jb2
  go_wp2
  have nb : Nw w2 w2.drew := (Fr.refl _ _).drew
  refine wp_region_held_drew (S := fun W => W.heap[w.heap.size]? = some (.cells (hbs A) 24 (0, 0)) ∧ W.heap[w.heap.size + 1]? = some (.cells (hbs B) 24 (0, 0)) ∧ W.heap[c]? = some (.cells (hbs R2) 24 (0, 0))) (by kernel_rfl) (hkp.out _ nb) ?_
  intro hS0
  refine wpAnyH_take (i := 0) (oi := ({ dst := some 14, op := Op.move (Operand.tmp 0), type := 9, pos := "outright.go:32", after := #[], guard := none } : Oper)) (v := .string s) rfl (by kernel_rfl) (by kernel_rfl) (by kernel_rfl) (fun _ _ _ h => h) (Or.inl ⟨by rfl, by intro w hw; go_simp⟩) hS0 ?_
  try simp only [Act.put, List.setIfInBounds_toArray, List.set_cons_zero, List.set_cons_succ]
  refine wpAnyH_take (i := 2) (oi := ({ dst := some 16, op := Op.move (Operand.tmp 0), type := 9, pos := "outright.go:32", after := #[], guard := none } : Oper)) (v := .string s) rfl (by kernel_rfl) (by kernel_rfl) (by kernel_rfl) (fun _ _ _ h => h) (Or.inl ⟨by rfl, by intro w hw; go_simp⟩) hS0 ?_
  try simp only [Act.put, List.setIfInBounds_toArray, List.set_cons_zero, List.set_cons_succ]
  refine wpAnyH_take (i := 3) (oi := ({ dst := some 17, op := Op.binOp BinOp.add 9 (Operand.const (Value.string { data := #[0] })) (Operand.tmp 16) 9, type := 9, pos := "outright.go:32", after := #[{ on := 2, ground := Ground.data }], guard := none } : Oper)) (v := .string X0) rfl (by kernel_rfl) (by kernel_rfl) (by kernel_rfl) (fun _ _ _ h => h) (Or.inl ⟨by rfl, by intro w hw; go_simp⟩) hS0 ?_
  try simp only [Act.put, List.setIfInBounds_toArray, List.set_cons_zero, List.set_cons_succ]
  refine wpAnyH_ready (rs := [1, 4]) (by kernel_rfl) (by simp) ?_
  refine (AllReadyH.cons (o := ({ dst := some 15, op := Op.call { callee := Callee.value (Operand.func 10), args := #[Operand.tmp 14], argTypes := #[9] }, type := 24, pos := "outright.go:32", after := #[{ on := 0, ground := Ground.data }], guard := none } : Oper)) rfl (fun K' hK => ?_) (AllReadyH.cons (o := ({ dst := some 18, op := Op.buildSlice 61 1 #[(0, Operand.tmp 17)], type := 61, pos := "outright.go:32", after := #[{ on := 3, ground := Ground.data }], guard := none } : Oper)) rfl (fun K' hK => ?_) AllReadyH.nil))
  · go_simp
    go_wp2_with (go_at_call 10; refine (QL.out _ nb).mono ?_; rintro ex w101 ⟨rfl, nw101⟩)
    have nb := nb.tr nw101
    refine hK.out _ _ (hkp.out _ nb) (fun hS0 => ?_)
    try simp only [Act.put, List.setIfInBounds_toArray, List.set_cons_zero, List.set_cons_succ]
    refine wpAnyH_ready (rs := [4]) (by kernel_rfl) (by simp) ?_
    refine (AllReadyH.cons (o := ({ dst := some 18, op := Op.buildSlice 61 1 #[(0, Operand.tmp 17)], type := 61, pos := "outright.go:32", after := #[{ on := 3, ground := Ground.data }], guard := none } : Oper)) rfl (fun K' hK => ?_) AllReadyH.nil)
    go_simp
    have nb : Nw w2 (w101.alloc (.cells #[.string X0] 9)) := nb.alloc _
    refine hK.out _ _ (hkp.out _ nb) (fun hS0 => ?_)
    try simp only [Act.put, List.setIfInBounds_toArray, List.set_cons_zero, List.set_cons_succ]
    refine wpAnyH_ready (rs := [5]) (by kernel_rfl) (by simp) ?_
    refine (AllReadyH.cons (o := ({ dst := some 19, op := Op.call { callee := Callee.value (Operand.func 26), args := #[Operand.tmp 18], argTypes := #[61] }, type := 24, pos := "outright.go:32", after := #[{ on := 4, ground := Ground.data }, { on := 1, ground := Ground.chain }], guard := none } : Oper)) rfl (fun K' hK => ?_) AllReadyH.nil)
    go_simp
    go_wp2_with (go_at_call 26; refine (QS.out _ _ _ _ nb (by first | exact strs1 _ _ | exact (strs1 _ _).nw nw101 | exact (strs1 _ _).nw (Nw.tr (Fr.refl _ _).drew nw101)) (by first | exact .inl ⟨rfl, rfl⟩ | exact .inr (.inl ⟨rfl, rfl⟩) | exact .inr (.inr ⟨rfl, rfl⟩))).mono ?_; rintro ex w102 ⟨rfl, nw102⟩)
    have nb := nb.tr nw102
    refine hK.out _ _ (hkp.out _ nb) (fun hS0 => ?_)
    try simp only [Act.put, List.setIfInBounds_toArray, List.set_cons_zero, List.set_cons_succ]
    refine wpAnyH_take (i := 6) (oi := ({ dst := some 20, op := Op.binOp BinOp.eql 24 (Operand.tmp 15) (Operand.tmp 19) 24, type := 4, pos := "outright.go:32", after := #[{ on := 1, ground := Ground.data }, { on := 5, ground := Ground.data }], guard := none } : Oper)) (v := .bool true) rfl (by kernel_rfl) (by kernel_rfl) (by kernel_rfl) (fun _ _ _ h => h) (Or.inl ⟨by rfl, by intro w hw; go_simp⟩) hS0 ?_
    try simp only [Act.put, List.setIfInBounds_toArray, List.set_cons_zero, List.set_cons_succ]
    refine wpAnyH_take (i := 7) (oi := ({ dst := some 21, op := Op.move (Operand.tmp 20), type := 4, pos := "outright.go:32", after := #[{ on := 6, ground := Ground.data }, { on := 5, ground := Ground.chain }], guard := none } : Oper)) (v := .bool true) rfl (by kernel_rfl) (by kernel_rfl) (by kernel_rfl) (fun _ _ _ h => h) (Or.inl ⟨by rfl, by intro w hw; go_simp⟩) hS0 ?_
    try simp only [Act.put, List.setIfInBounds_toArray, List.set_cons_zero, List.set_cons_succ]
    refine wpAnyH_take (i := 8) (oi := ({ dst := some 22, op := Op.load 24 (Operand.tmp 4), type := 24, pos := "outright.go:32", after := #[{ on := 7, ground := Ground.guard }], guard := some (7, true) } : Oper)) (v := .agg (hbs A)) rfl (by kernel_rfl) (by kernel_rfl) (by kernel_rfl) (fun _ _ _ h => h) (yields_load_g (by rfl) (.tmp 4) 24 32 rfl Tryd.isAgg24 Tryd.sizeOf24 w.heap.size rfl 24 (hbs A) has (fun w hw => hw.1)) hS0 ?_
    try simp only [Act.put, List.setIfInBounds_toArray, List.set_cons_zero, List.set_cons_succ]
    refine wpAnyH_take (i := 9) (oi := ({ dst := some 23, op := Op.load 24 (Operand.tmp 5), type := 24, pos := "outright.go:32", after := #[{ on := 7, ground := Ground.guard }], guard := some (7, true) } : Oper)) (v := .agg (hbs B)) rfl (by kernel_rfl) (by kernel_rfl) (by kernel_rfl) (fun _ _ _ h => h) (yields_load_g (by rfl) (.tmp 5) 24 32 rfl Tryd.isAgg24 Tryd.sizeOf24 (w.heap.size + 1) rfl 24 (hbs B) hbs' (fun w hw => hw.2.1)) hS0 ?_
    try simp only [Act.put, List.setIfInBounds_toArray, List.set_cons_zero, List.set_cons_succ]
    refine wpAnyH_take (i := 11) (oi := ({ dst := some 25, op := Op.load 24 (Operand.tmp 4), type := 24, pos := "outright.go:32", after := #[{ on := 7, ground := Ground.guard }], guard := some (7, true) } : Oper)) (v := .agg (hbs A)) rfl (by kernel_rfl) (by kernel_rfl) (by kernel_rfl) (fun _ _ _ h => h) (yields_load_g (by rfl) (.tmp 4) 24 32 rfl Tryd.isAgg24 Tryd.sizeOf24 w.heap.size rfl 24 (hbs A) has (fun w hw => hw.1)) hS0 ?_
    try simp only [Act.put, List.setIfInBounds_toArray, List.set_cons_zero, List.set_cons_succ]
    refine wpAnyH_take (i := 14) (oi := ({ dst := some 28, op := Op.load 24 (Operand.tmp 5), type := 24, pos := "outright.go:32", after := #[{ on := 7, ground := Ground.guard }], guard := some (7, true) } : Oper)) (v := .agg (hbs B)) rfl (by kernel_rfl) (by kernel_rfl) (by kernel_rfl) (fun _ _ _ h => h) (yields_load_g (by rfl) (.tmp 5) 24 32 rfl Tryd.isAgg24 Tryd.sizeOf24 (w.heap.size + 1) rfl 24 (hbs B) hbs' (fun w hw => hw.2.1)) hS0 ?_
    try simp only [Act.put, List.setIfInBounds_toArray, List.set_cons_zero, List.set_cons_succ]
    refine wpAnyH_ready (rs := [10]) (by kernel_rfl) (by simp) ?_
    refine (AllReadyH.cons (o := ({ dst := some 24, op := Op.call { callee := Callee.value (Operand.func 15), args := #[Operand.tmp 22, Operand.tmp 23], argTypes := #[24, 24] }, type := 24, pos := "outright.go:32", after := #[{ on := 8, ground := Ground.data }, { on := 9, ground := Ground.data }, { on := 7, ground := Ground.chain }, { on := 7, ground := Ground.guard }], guard := some (7, true) } : Oper)) rfl (fun K' hK => ?_) AllReadyH.nil)
    go_simp
    go_wp2_with (go_at_call 15; refine (QN.out _ nb).mono ?_; rintro ex w103 ⟨rfl, nw103⟩)
    have nb := nb.tr nw103
    refine hK.out _ _ (hkp.out _ nb) (fun hS0 => ?_)
    try simp only [Act.put, List.setIfInBounds_toArray, List.set_cons_zero, List.set_cons_succ]
    refine wpAnyH_ready (rs := [12]) (by kernel_rfl) (by simp) ?_
    refine (AllReadyH.cons (o := ({ dst := some 26, op := Op.call { callee := Callee.value (Operand.func 27), args := #[Operand.tmp 25], argTypes := #[24] }, type := 9, pos := "outright.go:32", after := #[{ on := 11, ground := Ground.data }, { on := 10, ground := Ground.chain }, { on := 7, ground := Ground.guard }], guard := some (7, true) } : Oper)) rfl (fun K' hK => ?_) AllReadyH.nil)
    go_simp
    go_wp2_with (go_at_call 27; refine (QT.out A _ (.inl rfl)).mono ?_; rintro ex w104 ⟨rfl, nw104⟩)
    have nb := nb.tr nw104
    refine hK.out _ _ (hkp.out _ nb) (fun hS0 => ?_)
    try simp only [Act.put, List.setIfInBounds_toArray, List.set_cons_zero, List.set_cons_succ]
    refine wpAnyH_take (i := 13) (oi := ({ dst := some 27, op := Op.binOp BinOp.add 9 (Operand.const (Value.string { data := #[1] })) (Operand.tmp 26) 9, type := 9, pos := "outright.go:32", after := #[{ on := 12, ground := Ground.data }, { on := 7, ground := Ground.guard }], guard := some (7, true) } : Oper)) (v := .string X1) rfl (by kernel_rfl) (by kernel_rfl) (by kernel_rfl) (fun _ _ _ h => h) (Or.inl ⟨by rfl, by intro w hw; go_simp⟩) hS0 ?_
    try simp only [Act.put, List.setIfInBounds_toArray, List.set_cons_zero, List.set_cons_succ]
    refine wpAnyH_ready (rs := [15]) (by kernel_rfl) (by simp) ?_
    refine (AllReadyH.cons (o := ({ dst := some 29, op := Op.call { callee := Callee.value (Operand.func 27), args := #[Operand.tmp 28], argTypes := #[24] }, type := 9, pos := "outright.go:32", after := #[{ on := 14, ground := Ground.data }, { on := 12, ground := Ground.chain }, { on := 7, ground := Ground.guard }], guard := some (7, true) } : Oper)) rfl (fun K' hK => ?_) AllReadyH.nil)
    go_simp
    go_wp2_with (go_at_call 27; refine (QT.out B _ (.inr rfl)).mono ?_; rintro ex w105 ⟨rfl, nw105⟩)
    have nb := nb.tr nw105
    refine hK.out _ _ (hkp.out _ nb) (fun hS0 => ?_)
    try simp only [Act.put, List.setIfInBounds_toArray, List.set_cons_zero, List.set_cons_succ]
    refine wpAnyH_take (i := 16) (oi := ({ dst := some 30, op := Op.binOp BinOp.add 9 (Operand.tmp 27) (Operand.tmp 29) 9, type := 9, pos := "outright.go:32", after := #[{ on := 13, ground := Ground.data }, { on := 15, ground := Ground.data }, { on := 7, ground := Ground.guard }], guard := some (7, true) } : Oper)) (v := .string X2) rfl (by kernel_rfl) (by kernel_rfl) (by kernel_rfl) (fun _ _ _ h => h) (Or.inl ⟨by rfl, by intro w hw; go_simp⟩) hS0 ?_
    try simp only [Act.put, List.setIfInBounds_toArray, List.set_cons_zero, List.set_cons_succ]
    refine wpAnyH_ready (rs := [17]) (by kernel_rfl) (by simp) ?_
    refine (AllReadyH.cons (o := ({ dst := some 31, op := Op.buildSlice 61 1 #[(0, Operand.tmp 30)], type := 61, pos := "outright.go:32", after := #[{ on := 16, ground := Ground.data }, { on := 7, ground := Ground.guard }], guard := some (7, true) } : Oper)) rfl (fun K' hK => ?_) AllReadyH.nil)
    go_simp
    have nb : Nw w2 (w105.alloc (.cells #[.string X2] 9)) := nb.alloc _
    refine hK.out _ _ (hkp.out _ nb) (fun hS0 => ?_)
    try simp only [Act.put, List.setIfInBounds_toArray, List.set_cons_zero, List.set_cons_succ]
    refine wpAnyH_ready (rs := [18]) (by kernel_rfl) (by simp) ?_
    refine (AllReadyH.cons (o := ({ dst := some 32, op := Op.call { callee := Callee.value (Operand.func 26), args := #[Operand.tmp 31], argTypes := #[61] }, type := 24, pos := "outright.go:32", after := #[{ on := 17, ground := Ground.data }, { on := 15, ground := Ground.chain }, { on := 7, ground := Ground.guard }], guard := some (7, true) } : Oper)) rfl (fun K' hK => ?_) AllReadyH.nil)
    go_simp
    go_wp2_with (go_at_call 26; refine (QS.out _ _ _ _ nb (by first | exact strs1 _ _ | exact (strs1 _ _).nw nw105 | exact (strs1 _ _).nw (Nw.tr (Fr.refl _ _).drew nw105)) (by first | exact .inl ⟨rfl, rfl⟩ | exact .inr (.inl ⟨rfl, rfl⟩) | exact .inr (.inr ⟨rfl, rfl⟩))).mono ?_; rintro ex w106 ⟨rfl, nw106⟩)
    have nb := nb.tr nw106
    refine hK.out _ _ (hkp.out _ nb) (fun hS0 => ?_)
    try simp only [Act.put, List.setIfInBounds_toArray, List.set_cons_zero, List.set_cons_succ]
    refine wpAnyH_take (i := 19) (oi := ({ dst := some 33, op := Op.binOp BinOp.eql 24 (Operand.tmp 24) (Operand.tmp 32) 24, type := 4, pos := "outright.go:32", after := #[{ on := 10, ground := Ground.data }, { on := 18, ground := Ground.data }, { on := 7, ground := Ground.guard }], guard := some (7, true) } : Oper)) (v := .bool true) rfl (by kernel_rfl) (by kernel_rfl) (by kernel_rfl) (fun _ _ _ h => h) (Or.inl ⟨by rfl, by intro w hw; go_simp⟩) hS0 ?_
    try simp only [Act.put, List.setIfInBounds_toArray, List.set_cons_zero, List.set_cons_succ]
    refine wpAnyH_take (i := 20) (oi := ({ dst := some 34, op := Op.pick (Operand.tmp 21) (Operand.tmp 33) (Operand.const (Value.bool false)), type := 4, pos := "outright.go:32", after := #[{ on := 7, ground := Ground.data }, { on := 19, ground := Ground.data }], guard := none } : Oper)) (v := .bool true) rfl (by kernel_rfl) (by kernel_rfl) (by kernel_rfl) (fun _ _ _ h => h) (Or.inl ⟨by rfl, by intro w hw; go_simp⟩) hS0 ?_
    try simp only [Act.put, List.setIfInBounds_toArray, List.set_cons_zero, List.set_cons_succ]
    refine wpAnyH_take (i := 21) (oi := ({ dst := some 35, op := Op.move (Operand.tmp 34), type := 4, pos := "outright.go:32", after := #[{ on := 20, ground := Ground.data }, { on := 18, ground := Ground.chain }], guard := none } : Oper)) (v := .bool true) rfl (by kernel_rfl) (by kernel_rfl) (by kernel_rfl) (fun _ _ _ h => h) (Or.inl ⟨by rfl, by intro w hw; go_simp⟩) hS0 ?_
    try simp only [Act.put, List.setIfInBounds_toArray, List.set_cons_zero, List.set_cons_succ]
    refine wpAnyH_take (i := 22) (oi := ({ dst := some 36, op := Op.move (Operand.tmp 8), type := 32, pos := "outright.go:32", after := #[{ on := 21, ground := Ground.guard }], guard := some (21, true) } : Oper)) (v := .nilIface) rfl (by kernel_rfl) (by kernel_rfl) (by kernel_rfl) (fun _ _ _ h => h) (Or.inl ⟨by rfl, by intro w hw; go_simp⟩) hS0 ?_
    try simp only [Act.put, List.setIfInBounds_toArray, List.set_cons_zero, List.set_cons_succ]
    refine wpAnyH_take (i := 23) (oi := ({ dst := some 37, op := Op.binOp BinOp.eql 32 (Operand.tmp 36) (Operand.const Value.nilIface) 32, type := 4, pos := "outright.go:32", after := #[{ on := 22, ground := Ground.data }, { on := 21, ground := Ground.guard }], guard := some (21, true) } : Oper)) (v := .bool true) rfl (by kernel_rfl) (by kernel_rfl) (by kernel_rfl) (fun _ _ _ h => h) (Or.inl ⟨by rfl, by intro w hw; go_simp⟩) hS0 ?_
    try simp only [Act.put, List.setIfInBounds_toArray, List.set_cons_zero, List.set_cons_succ]
    refine wpAnyH_take (i := 24) (oi := ({ dst := some 38, op := Op.pick (Operand.tmp 35) (Operand.tmp 37) (Operand.const (Value.bool false)), type := 4, pos := "outright.go:32", after := #[{ on := 21, ground := Ground.data }, { on := 23, ground := Ground.data }], guard := none } : Oper)) (v := .bool true) rfl (by kernel_rfl) (by kernel_rfl) (by kernel_rfl) (fun _ _ _ h => h) (Or.inl ⟨by rfl, by intro w hw; go_simp⟩) hS0 ?_
    try simp only [Act.put, List.setIfInBounds_toArray, List.set_cons_zero, List.set_cons_succ]
    refine wpAnyH_take (i := 25) (oi := ({ dst := some 39, op := Op.move (Operand.tmp 38), type := 4, pos := "outright.go:32", after := #[{ on := 24, ground := Ground.data }, { on := 21, ground := Ground.chain }], guard := none } : Oper)) (v := .bool true) rfl (by kernel_rfl) (by kernel_rfl) (by kernel_rfl) (fun _ _ _ h => h) (Or.inl ⟨by rfl, by intro w hw; go_simp⟩) hS0 ?_
    try simp only [Act.put, List.setIfInBounds_toArray, List.set_cons_zero, List.set_cons_succ]
    refine wpAnyH_take (i := 26) (oi := ({ dst := some 40, op := Op.load 24 (Operand.tmp 7), type := 24, pos := "outright.go:32", after := #[{ on := 25, ground := Ground.guard }], guard := some (25, true) } : Oper)) (v := .agg (hbs R2)) rfl (by kernel_rfl) (by kernel_rfl) (by kernel_rfl) (fun _ _ _ h => h) (yields_load_g (by rfl) (.tmp 7) 24 32 rfl Tryd.isAgg24 Tryd.sizeOf24 c rfl 24 (hbs R2) s2 (fun w hw => hw.2.2)) hS0 ?_
    try simp only [Act.put, List.setIfInBounds_toArray, List.set_cons_zero, List.set_cons_succ]
    refine wpAnyH_take (i := 27) (oi := ({ dst := some 41, op := Op.load 24 (Operand.tmp 4), type := 24, pos := "outright.go:32", after := #[{ on := 25, ground := Ground.guard }], guard := some (25, true) } : Oper)) (v := .agg (hbs A)) rfl (by kernel_rfl) (by kernel_rfl) (by kernel_rfl) (fun _ _ _ h => h) (yields_load_g (by rfl) (.tmp 4) 24 32 rfl Tryd.isAgg24 Tryd.sizeOf24 w.heap.size rfl 24 (hbs A) has (fun w hw => hw.1)) hS0 ?_
    try simp only [Act.put, List.setIfInBounds_toArray, List.set_cons_zero, List.set_cons_succ]
    refine wpAnyH_ready (rs := [28]) (by kernel_rfl) (by simp) ?_
    refine (AllReadyH.cons (o := ({ dst := some 42, op := Op.call { callee := Callee.value (Operand.func 27), args := #[Operand.tmp 41], argTypes := #[24] }, type := 9, pos := "outright.go:32", after := #[{ on := 27, ground := Ground.data }, { on := 25, ground := Ground.chain }, { on := 25, ground := Ground.guard }], guard := some (25, true) } : Oper)) rfl (fun K' hK => ?_) AllReadyH.nil)
    go_simp
    go_wp2_with (go_at_call 27; refine (QT.out A _ (.inl rfl)).mono ?_; rintro ex w107 ⟨rfl, nw107⟩)
    have nb := nb.tr nw107
    refine hK.out _ _ (hkp.out _ nb) (fun hS0 => ?_)
    try simp only [Act.put, List.setIfInBounds_toArray, List.set_cons_zero, List.set_cons_succ]
    refine wpAnyH_take (i := 29) (oi := ({ dst := some 43, op := Op.binOp BinOp.add 9 (Operand.const (Value.string { data := #[2] })) (Operand.tmp 42) 9, type := 9, pos := "outright.go:32", after := #[{ on := 28, ground := Ground.data }, { on := 25, ground := Ground.guard }], guard := some (25, true) } : Oper)) (v := .string X3) rfl (by kernel_rfl) (by kernel_rfl) (by kernel_rfl) (fun _ _ _ h => h) (Or.inl ⟨by rfl, by intro w hw; go_simp⟩) hS0 ?_
    try simp only [Act.put, List.setIfInBounds_toArray, List.set_cons_zero, List.set_cons_succ]
    refine wpAnyH_ready (rs := [30]) (by kernel_rfl) (by simp) ?_
    refine (AllReadyH.cons (o := ({ dst := some 44, op := Op.buildSlice 61 1 #[(0, Operand.tmp 43)], type := 61, pos := "outright.go:32", after := #[{ on := 29, ground := Ground.data }, { on := 25, ground := Ground.guard }], guard := some (25, true) } : Oper)) rfl (fun K' hK => ?_) AllReadyH.nil)
    go_simp
    have nb : Nw w2 (w107.alloc (.cells #[.string X3] 9)) := nb.alloc _
    refine hK.out _ _ (hkp.out _ nb) (fun hS0 => ?_)
    try simp only [Act.put, List.setIfInBounds_toArray, List.set_cons_zero, List.set_cons_succ]
    refine wpAnyH_ready (rs := [31]) (by kernel_rfl) (by simp) ?_
    refine (AllReadyH.cons (o := ({ dst := some 45, op := Op.call { callee := Callee.value (Operand.func 26), args := #[Operand.tmp 44], argTypes := #[61] }, type := 24, pos := "outright.go:32", after := #[{ on := 30, ground := Ground.data }, { on := 28, ground := Ground.chain }, { on := 25, ground := Ground.guard }], guard := some (25, true) } : Oper)) rfl (fun K' hK => ?_) AllReadyH.nil)
    go_simp
    go_wp2_with (go_at_call 26; refine (QS.out _ _ _ _ nb (by first | exact strs1 _ _ | exact (strs1 _ _).nw nw107 | exact (strs1 _ _).nw (Nw.tr (Fr.refl _ _).drew nw107)) (by first | exact .inl ⟨rfl, rfl⟩ | exact .inr (.inl ⟨rfl, rfl⟩) | exact .inr (.inr ⟨rfl, rfl⟩))).mono ?_; rintro ex w108 ⟨rfl, nw108⟩)
    have nb := nb.tr nw108
    refine hK.out _ _ (hkp.out _ nb) (fun hS0 => ?_)
    try simp only [Act.put, List.setIfInBounds_toArray, List.set_cons_zero, List.set_cons_succ]
    refine wpAnyH_take (i := 32) (oi := ({ dst := some 46, op := Op.binOp BinOp.eql 24 (Operand.tmp 40) (Operand.tmp 45) 24, type := 4, pos := "outright.go:32", after := #[{ on := 26, ground := Ground.data }, { on := 31, ground := Ground.data }, { on := 25, ground := Ground.guard }], guard := some (25, true) } : Oper)) (v := .bool true) rfl (by kernel_rfl) (by kernel_rfl) (by kernel_rfl) (fun _ _ _ h => h) (Or.inl ⟨by rfl, by intro w hw; go_simp⟩) hS0 ?_
    try simp only [Act.put, List.setIfInBounds_toArray, List.set_cons_zero, List.set_cons_succ]
    refine wpAnyH_take (i := 33) (oi := ({ dst := some 47, op := Op.pick (Operand.tmp 39) (Operand.tmp 46) (Operand.const (Value.bool false)), type := 4, pos := "outright.go:32", after := #[{ on := 25, ground := Ground.data }, { on := 32, ground := Ground.data }], guard := none } : Oper)) (v := .bool true) rfl (by kernel_rfl) (by kernel_rfl) (by kernel_rfl) (fun _ _ _ h => h) (Or.inl ⟨by rfl, by intro w hw; go_simp⟩) hS0 ?_
    try simp only [Act.put, List.setIfInBounds_toArray, List.set_cons_zero, List.set_cons_succ]
    refine wpAnyH_take (i := 34) (oi := ({ dst := some 48, op := Op.move (Operand.tmp 47), type := 4, pos := "outright.go:32", after := #[{ on := 33, ground := Ground.data }, { on := 31, ground := Ground.chain }], guard := none } : Oper)) (v := .bool true) rfl (by kernel_rfl) (by kernel_rfl) (by kernel_rfl) (fun _ _ _ h => h) (Or.inl ⟨by rfl, by intro w hw; go_simp⟩) hS0 ?_
    try simp only [Act.put, List.setIfInBounds_toArray, List.set_cons_zero, List.set_cons_succ]
    refine wpAnyH_ready (rs := [35]) (by kernel_rfl) (by simp) ?_
    refine (AllReadyH.cons (o := ({ dst := some 49, op := Op.call { callee := Callee.value (Operand.func 12), args := #[], argTypes := #[] }, type := 24, pos := "outright.go:32", after := #[{ on := 34, ground := Ground.chain }, { on := 34, ground := Ground.guard }], guard := some (34, true) } : Oper)) rfl (fun K' hK => ?_) AllReadyH.nil)
    go_simp
    go_wp2_with (go_at_call 12; refine (QE.out _ nb).mono ?_; rintro ex w109 ⟨rfl, nw109⟩)
    have nb := nb.tr nw109
    refine hK.out _ _ (hkp.out _ nb) (fun hS0 => ?_)
    try simp only [Act.put, List.setIfInBounds_toArray, List.set_cons_zero, List.set_cons_succ]
    refine wpAnyH_ready (rs := [36]) (by kernel_rfl) (by simp) ?_
    refine (AllReadyH.cons (o := ({ dst := some 50, op := Op.call { callee := Callee.value (Operand.func 26), args := #[Operand.const (Value.slice none 0 0)], argTypes := #[61] }, type := 24, pos := "outright.go:32", after := #[{ on := 35, ground := Ground.chain }, { on := 34, ground := Ground.guard }], guard := some (34, true) } : Oper)) rfl (fun K' hK => ?_) AllReadyH.nil)
    go_simp
    go_wp2_with (go_at_call 26; refine (Q0.out _ nb).mono ?_; rintro ex w110 ⟨rfl, nw110⟩)
    have nb := nb.tr nw110
    refine hK.out _ _ (hkp.out _ nb) (fun hS0 => ?_)
    try simp only [Act.put, List.setIfInBounds_toArray, List.set_cons_zero, List.set_cons_succ]
    refine wpAnyH_take (i := 37) (oi := ({ dst := some 51, op := Op.binOp BinOp.eql 24 (Operand.tmp 49) (Operand.tmp 50) 24, type := 4, pos := "outright.go:32", after := #[{ on := 35, ground := Ground.data }, { on := 36, ground := Ground.data }, { on := 34, ground := Ground.guard }], guard := some (34, true) } : Oper)) (v := .bool true) rfl (by kernel_rfl) (by kernel_rfl) (by kernel_rfl) (fun _ _ _ h => h) (Or.inl ⟨by rfl, by intro w hw; go_simp⟩) hS0 ?_
    try simp only [Act.put, List.setIfInBounds_toArray, List.set_cons_zero, List.set_cons_succ]
    refine wpAnyH_take (i := 38) (oi := ({ dst := some 52, op := Op.pick (Operand.tmp 48) (Operand.tmp 51) (Operand.const (Value.bool false)), type := 4, pos := "outright.go:32", after := #[{ on := 34, ground := Ground.data }, { on := 37, ground := Ground.data }], guard := none } : Oper)) (v := .bool true) rfl (by kernel_rfl) (by kernel_rfl) (by kernel_rfl) (fun _ _ _ h => h) (Or.inl ⟨by rfl, by intro w hw; go_simp⟩) hS0 ?_
    try simp only [Act.put, List.setIfInBounds_toArray, List.set_cons_zero, List.set_cons_succ]
    refine wpAnyH_take (i := 39) (oi := ({ dst := some 53, op := Op.move (Operand.tmp 52), type := 4, pos := "outright.go:32", after := #[{ on := 38, ground := Ground.data }, { on := 36, ground := Ground.chain }], guard := none } : Oper)) (v := .bool true) rfl (by kernel_rfl) (by kernel_rfl) (by kernel_rfl) (fun _ _ _ h => h) (Or.inl ⟨by rfl, by intro w hw; go_simp⟩) hS0 ?_
    try simp only [Act.put, List.setIfInBounds_toArray, List.set_cons_zero, List.set_cons_succ]
    refine wpAnyH_ready (rs := [40]) (by kernel_rfl) (by simp) ?_
    refine (AllReadyH.cons (o := ({ dst := some 54, op := Op.call { callee := Callee.value (Operand.func 14), args := #[], argTypes := #[] }, type := 4, pos := "outright.go:32", after := #[{ on := 39, ground := Ground.chain }, { on := 39, ground := Ground.guard }], guard := some (39, true) } : Oper)) rfl (fun K' hK => ?_) AllReadyH.nil)
    go_simp
    go_wp2_with (go_at_call 14; refine (QV.out _ nb).mono ?_; rintro ex w111 ⟨rfl, nw111⟩)
    have nb := nb.tr nw111
    refine hK.out _ _ (hkp.out _ nb) (fun hS0 => ?_)
    try simp only [Act.put, List.setIfInBounds_toArray, List.set_cons_zero, List.set_cons_succ]
    refine wpAnyH_take (i := 41) (oi := ({ dst := some 55, op := Op.pick (Operand.tmp 53) (Operand.tmp 54) (Operand.const (Value.bool false)), type := 4, pos := "outright.go:32", after := #[{ on := 39, ground := Ground.data }, { on := 40, ground := Ground.data }], guard := none } : Oper)) (v := .bool true) rfl (by kernel_rfl) (by kernel_rfl) (by kernel_rfl) (fun _ _ _ h => h) (Or.inl ⟨by rfl, by intro w hw; go_simp⟩) hS0 ?_
    try simp only [Act.put, List.setIfInBounds_toArray, List.set_cons_zero, List.set_cons_succ]
    refine wpAnyH_ready (rs := [42]) (by kernel_rfl) (by simp) ?_
    refine (AllReadyH.cons (o := ({ dst := some 6, op := Op.assign (Operand.tmp 55), type := 4, pos := "outright.go:32", after := #[{ on := 41, ground := Ground.data }, { on := 40, ground := Ground.chain }, { on := 0, ground := Ground.phase }, { on := 1, ground := Ground.phase }, { on := 2, ground := Ground.phase }, { on := 3, ground := Ground.phase }, { on := 4, ground := Ground.phase }, { on := 5, ground := Ground.phase }, { on := 6, ground := Ground.phase }, { on := 7, ground := Ground.phase }, { on := 8, ground := Ground.phase }, { on := 9, ground := Ground.phase }, { on := 10, ground := Ground.phase }, { on := 11, ground := Ground.phase }, { on := 12, ground := Ground.phase }, { on := 13, ground := Ground.phase }, { on := 14, ground := Ground.phase }, { on := 15, ground := Ground.phase }, { on := 16, ground := Ground.phase }, { on := 17, ground := Ground.phase }, { on := 18, ground := Ground.phase }, { on := 19, ground := Ground.phase }, { on := 20, ground := Ground.phase }, { on := 21, ground := Ground.phase }, { on := 22, ground := Ground.phase }, { on := 23, ground := Ground.phase }, { on := 24, ground := Ground.phase }, { on := 25, ground := Ground.phase }, { on := 26, ground := Ground.phase }, { on := 27, ground := Ground.phase }, { on := 28, ground := Ground.phase }, { on := 29, ground := Ground.phase }, { on := 30, ground := Ground.phase }, { on := 31, ground := Ground.phase }, { on := 32, ground := Ground.phase }, { on := 33, ground := Ground.phase }, { on := 34, ground := Ground.phase }, { on := 35, ground := Ground.phase }, { on := 36, ground := Ground.phase }, { on := 37, ground := Ground.phase }, { on := 38, ground := Ground.phase }, { on := 39, ground := Ground.phase }, { on := 40, ground := Ground.phase }, { on := 41, ground := Ground.phase }], guard := none } : Oper)) rfl (fun K' hK => ?_) AllReadyH.nil)
    go_simp
    refine hK.out _ _ (hkp.out _ nb) (fun hS0 => ?_)
    try simp only [Act.put, List.setIfInBounds_toArray, List.set_cons_zero, List.set_cons_succ]
    refine wpAnyH_done (by kernel_rfl) ?_ _
    go_wp2
    go_ret
    exact ⟨rfl, n2.tr nb⟩
  · go_simp
    have nb : Nw w2 (w2.alloc (.cells #[.string X0] 9)).drew := ((Fr.refl _ _).alloc _).drew
    refine hK.out _ _ (hkp.out _ nb) (fun hS0 => ?_)
    try simp only [Act.put, List.setIfInBounds_toArray, List.set_cons_zero, List.set_cons_succ]
    refine wpAnyH_ready (rs := [1]) (by kernel_rfl) (by simp) ?_
    refine (AllReadyH.cons (o := ({ dst := some 15, op := Op.call { callee := Callee.value (Operand.func 10), args := #[Operand.tmp 14], argTypes := #[9] }, type := 24, pos := "outright.go:32", after := #[{ on := 0, ground := Ground.data }], guard := none } : Oper)) rfl (fun K' hK => ?_) AllReadyH.nil)
    go_simp
    go_wp2_with (go_at_call 10; refine (QL.out _ nb).mono ?_; rintro ex w112 ⟨rfl, nw112⟩)
    have nb := nb.tr nw112
    refine hK.out _ _ (hkp.out _ nb) (fun hS0 => ?_)
    try simp only [Act.put, List.setIfInBounds_toArray, List.set_cons_zero, List.set_cons_succ]
    refine wpAnyH_ready (rs := [5]) (by kernel_rfl) (by simp) ?_
    refine (AllReadyH.cons (o := ({ dst := some 19, op := Op.call { callee := Callee.value (Operand.func 26), args := #[Operand.tmp 18], argTypes := #[61] }, type := 24, pos := "outright.go:32", after := #[{ on := 4, ground := Ground.data }, { on := 1, ground := Ground.chain }], guard := none } : Oper)) rfl (fun K' hK => ?_) AllReadyH.nil)
    go_simp
    go_wp2_with (go_at_call 26; refine (QS.out _ _ _ _ nb (by first | exact strs1 _ _ | exact (strs1 _ _).nw nw112 | exact (strs1 _ _).nw (Nw.tr (Fr.refl _ _).drew nw112)) (by first | exact .inl ⟨rfl, rfl⟩ | exact .inr (.inl ⟨rfl, rfl⟩) | exact .inr (.inr ⟨rfl, rfl⟩))).mono ?_; rintro ex w113 ⟨rfl, nw113⟩)
    have nb := nb.tr nw113
    refine hK.out _ _ (hkp.out _ nb) (fun hS0 => ?_)
    try simp only [Act.put, List.setIfInBounds_toArray, List.set_cons_zero, List.set_cons_succ]
    refine wpAnyH_take (i := 6) (oi := ({ dst := some 20, op := Op.binOp BinOp.eql 24 (Operand.tmp 15) (Operand.tmp 19) 24, type := 4, pos := "outright.go:32", after := #[{ on := 1, ground := Ground.data }, { on := 5, ground := Ground.data }], guard := none } : Oper)) (v := .bool true) rfl (by kernel_rfl) (by kernel_rfl) (by kernel_rfl) (fun _ _ _ h => h) (Or.inl ⟨by rfl, by intro w hw; go_simp⟩) hS0 ?_
    try simp only [Act.put, List.setIfInBounds_toArray, List.set_cons_zero, List.set_cons_succ]
    refine wpAnyH_take (i := 7) (oi := ({ dst := some 21, op := Op.move (Operand.tmp 20), type := 4, pos := "outright.go:32", after := #[{ on := 6, ground := Ground.data }, { on := 5, ground := Ground.chain }], guard := none } : Oper)) (v := .bool true) rfl (by kernel_rfl) (by kernel_rfl) (by kernel_rfl) (fun _ _ _ h => h) (Or.inl ⟨by rfl, by intro w hw; go_simp⟩) hS0 ?_
    try simp only [Act.put, List.setIfInBounds_toArray, List.set_cons_zero, List.set_cons_succ]
    refine wpAnyH_take (i := 8) (oi := ({ dst := some 22, op := Op.load 24 (Operand.tmp 4), type := 24, pos := "outright.go:32", after := #[{ on := 7, ground := Ground.guard }], guard := some (7, true) } : Oper)) (v := .agg (hbs A)) rfl (by kernel_rfl) (by kernel_rfl) (by kernel_rfl) (fun _ _ _ h => h) (yields_load_g (by rfl) (.tmp 4) 24 32 rfl Tryd.isAgg24 Tryd.sizeOf24 w.heap.size rfl 24 (hbs A) has (fun w hw => hw.1)) hS0 ?_
    try simp only [Act.put, List.setIfInBounds_toArray, List.set_cons_zero, List.set_cons_succ]
    refine wpAnyH_take (i := 9) (oi := ({ dst := some 23, op := Op.load 24 (Operand.tmp 5), type := 24, pos := "outright.go:32", after := #[{ on := 7, ground := Ground.guard }], guard := some (7, true) } : Oper)) (v := .agg (hbs B)) rfl (by kernel_rfl) (by kernel_rfl) (by kernel_rfl) (fun _ _ _ h => h) (yields_load_g (by rfl) (.tmp 5) 24 32 rfl Tryd.isAgg24 Tryd.sizeOf24 (w.heap.size + 1) rfl 24 (hbs B) hbs' (fun w hw => hw.2.1)) hS0 ?_
    try simp only [Act.put, List.setIfInBounds_toArray, List.set_cons_zero, List.set_cons_succ]
    refine wpAnyH_take (i := 11) (oi := ({ dst := some 25, op := Op.load 24 (Operand.tmp 4), type := 24, pos := "outright.go:32", after := #[{ on := 7, ground := Ground.guard }], guard := some (7, true) } : Oper)) (v := .agg (hbs A)) rfl (by kernel_rfl) (by kernel_rfl) (by kernel_rfl) (fun _ _ _ h => h) (yields_load_g (by rfl) (.tmp 4) 24 32 rfl Tryd.isAgg24 Tryd.sizeOf24 w.heap.size rfl 24 (hbs A) has (fun w hw => hw.1)) hS0 ?_
    try simp only [Act.put, List.setIfInBounds_toArray, List.set_cons_zero, List.set_cons_succ]
    refine wpAnyH_take (i := 14) (oi := ({ dst := some 28, op := Op.load 24 (Operand.tmp 5), type := 24, pos := "outright.go:32", after := #[{ on := 7, ground := Ground.guard }], guard := some (7, true) } : Oper)) (v := .agg (hbs B)) rfl (by kernel_rfl) (by kernel_rfl) (by kernel_rfl) (fun _ _ _ h => h) (yields_load_g (by rfl) (.tmp 5) 24 32 rfl Tryd.isAgg24 Tryd.sizeOf24 (w.heap.size + 1) rfl 24 (hbs B) hbs' (fun w hw => hw.2.1)) hS0 ?_
    try simp only [Act.put, List.setIfInBounds_toArray, List.set_cons_zero, List.set_cons_succ]
    refine wpAnyH_ready (rs := [10]) (by kernel_rfl) (by simp) ?_
    refine (AllReadyH.cons (o := ({ dst := some 24, op := Op.call { callee := Callee.value (Operand.func 15), args := #[Operand.tmp 22, Operand.tmp 23], argTypes := #[24, 24] }, type := 24, pos := "outright.go:32", after := #[{ on := 8, ground := Ground.data }, { on := 9, ground := Ground.data }, { on := 7, ground := Ground.chain }, { on := 7, ground := Ground.guard }], guard := some (7, true) } : Oper)) rfl (fun K' hK => ?_) AllReadyH.nil)
    go_simp
    go_wp2_with (go_at_call 15; refine (QN.out _ nb).mono ?_; rintro ex w114 ⟨rfl, nw114⟩)
    have nb := nb.tr nw114
    refine hK.out _ _ (hkp.out _ nb) (fun hS0 => ?_)
    try simp only [Act.put, List.setIfInBounds_toArray, List.set_cons_zero, List.set_cons_succ]
    refine wpAnyH_ready (rs := [12]) (by kernel_rfl) (by simp) ?_
    refine (AllReadyH.cons (o := ({ dst := some 26, op := Op.call { callee := Callee.value (Operand.func 27), args := #[Operand.tmp 25], argTypes := #[24] }, type := 9, pos := "outright.go:32", after := #[{ on := 11, ground := Ground.data }, { on := 10, ground := Ground.chain }, { on := 7, ground := Ground.guard }], guard := some (7, true) } : Oper)) rfl (fun K' hK => ?_) AllReadyH.nil)
    go_simp
    go_wp2_with (go_at_call 27; refine (QT.out A _ (.inl rfl)).mono ?_; rintro ex w115 ⟨rfl, nw115⟩)
    have nb := nb.tr nw115
    refine hK.out _ _ (hkp.out _ nb) (fun hS0 => ?_)
    try simp only [Act.put, List.setIfInBounds_toArray, List.set_cons_zero, List.set_cons_succ]
    refine wpAnyH_take (i := 13) (oi := ({ dst := some 27, op := Op.binOp BinOp.add 9 (Operand.const (Value.string { data := #[1] })) (Operand.tmp 26) 9, type := 9, pos := "outright.go:32", after := #[{ on := 12, ground := Ground.data }, { on := 7, ground := Ground.guard }], guard := some (7, true) } : Oper)) (v := .string X1) rfl (by kernel_rfl) (by kernel_rfl) (by kernel_rfl) (fun _ _ _ h => h) (Or.inl ⟨by rfl, by intro w hw; go_simp⟩) hS0 ?_
    try simp only [Act.put, List.setIfInBounds_toArray, List.set_cons_zero, List.set_cons_succ]
    refine wpAnyH_ready (rs := [15]) (by kernel_rfl) (by simp) ?_
    refine (AllReadyH.cons (o := ({ dst := some 29, op := Op.call { callee := Callee.value (Operand.func 27), args := #[Operand.tmp 28], argTypes := #[24] }, type := 9, pos := "outright.go:32", after := #[{ on := 14, ground := Ground.data }, { on := 12, ground := Ground.chain }, { on := 7, ground := Ground.guard }], guard := some (7, true) } : Oper)) rfl (fun K' hK => ?_) AllReadyH.nil)
    go_simp
    go_wp2_with (go_at_call 27; refine (QT.out B _ (.inr rfl)).mono ?_; rintro ex w116 ⟨rfl, nw116⟩)
    have nb := nb.tr nw116
    refine hK.out _ _ (hkp.out _ nb) (fun hS0 => ?_)
    try simp only [Act.put, List.setIfInBounds_toArray, List.set_cons_zero, List.set_cons_succ]
    refine wpAnyH_take (i := 16) (oi := ({ dst := some 30, op := Op.binOp BinOp.add 9 (Operand.tmp 27) (Operand.tmp 29) 9, type := 9, pos := "outright.go:32", after := #[{ on := 13, ground := Ground.data }, { on := 15, ground := Ground.data }, { on := 7, ground := Ground.guard }], guard := some (7, true) } : Oper)) (v := .string X2) rfl (by kernel_rfl) (by kernel_rfl) (by kernel_rfl) (fun _ _ _ h => h) (Or.inl ⟨by rfl, by intro w hw; go_simp⟩) hS0 ?_
    try simp only [Act.put, List.setIfInBounds_toArray, List.set_cons_zero, List.set_cons_succ]
    refine wpAnyH_ready (rs := [17]) (by kernel_rfl) (by simp) ?_
    refine (AllReadyH.cons (o := ({ dst := some 31, op := Op.buildSlice 61 1 #[(0, Operand.tmp 30)], type := 61, pos := "outright.go:32", after := #[{ on := 16, ground := Ground.data }, { on := 7, ground := Ground.guard }], guard := some (7, true) } : Oper)) rfl (fun K' hK => ?_) AllReadyH.nil)
    go_simp
    have nb : Nw w2 (w116.alloc (.cells #[.string X2] 9)) := nb.alloc _
    refine hK.out _ _ (hkp.out _ nb) (fun hS0 => ?_)
    try simp only [Act.put, List.setIfInBounds_toArray, List.set_cons_zero, List.set_cons_succ]
    refine wpAnyH_ready (rs := [18]) (by kernel_rfl) (by simp) ?_
    refine (AllReadyH.cons (o := ({ dst := some 32, op := Op.call { callee := Callee.value (Operand.func 26), args := #[Operand.tmp 31], argTypes := #[61] }, type := 24, pos := "outright.go:32", after := #[{ on := 17, ground := Ground.data }, { on := 15, ground := Ground.chain }, { on := 7, ground := Ground.guard }], guard := some (7, true) } : Oper)) rfl (fun K' hK => ?_) AllReadyH.nil)
    go_simp
    go_wp2_with (go_at_call 26; refine (QS.out _ _ _ _ nb (by first | exact strs1 _ _ | exact (strs1 _ _).nw nw116 | exact (strs1 _ _).nw (Nw.tr (Fr.refl _ _).drew nw116)) (by first | exact .inl ⟨rfl, rfl⟩ | exact .inr (.inl ⟨rfl, rfl⟩) | exact .inr (.inr ⟨rfl, rfl⟩))).mono ?_; rintro ex w117 ⟨rfl, nw117⟩)
    have nb := nb.tr nw117
    refine hK.out _ _ (hkp.out _ nb) (fun hS0 => ?_)
    try simp only [Act.put, List.setIfInBounds_toArray, List.set_cons_zero, List.set_cons_succ]
    refine wpAnyH_take (i := 19) (oi := ({ dst := some 33, op := Op.binOp BinOp.eql 24 (Operand.tmp 24) (Operand.tmp 32) 24, type := 4, pos := "outright.go:32", after := #[{ on := 10, ground := Ground.data }, { on := 18, ground := Ground.data }, { on := 7, ground := Ground.guard }], guard := some (7, true) } : Oper)) (v := .bool true) rfl (by kernel_rfl) (by kernel_rfl) (by kernel_rfl) (fun _ _ _ h => h) (Or.inl ⟨by rfl, by intro w hw; go_simp⟩) hS0 ?_
    try simp only [Act.put, List.setIfInBounds_toArray, List.set_cons_zero, List.set_cons_succ]
    refine wpAnyH_take (i := 20) (oi := ({ dst := some 34, op := Op.pick (Operand.tmp 21) (Operand.tmp 33) (Operand.const (Value.bool false)), type := 4, pos := "outright.go:32", after := #[{ on := 7, ground := Ground.data }, { on := 19, ground := Ground.data }], guard := none } : Oper)) (v := .bool true) rfl (by kernel_rfl) (by kernel_rfl) (by kernel_rfl) (fun _ _ _ h => h) (Or.inl ⟨by rfl, by intro w hw; go_simp⟩) hS0 ?_
    try simp only [Act.put, List.setIfInBounds_toArray, List.set_cons_zero, List.set_cons_succ]
    refine wpAnyH_take (i := 21) (oi := ({ dst := some 35, op := Op.move (Operand.tmp 34), type := 4, pos := "outright.go:32", after := #[{ on := 20, ground := Ground.data }, { on := 18, ground := Ground.chain }], guard := none } : Oper)) (v := .bool true) rfl (by kernel_rfl) (by kernel_rfl) (by kernel_rfl) (fun _ _ _ h => h) (Or.inl ⟨by rfl, by intro w hw; go_simp⟩) hS0 ?_
    try simp only [Act.put, List.setIfInBounds_toArray, List.set_cons_zero, List.set_cons_succ]
    refine wpAnyH_take (i := 22) (oi := ({ dst := some 36, op := Op.move (Operand.tmp 8), type := 32, pos := "outright.go:32", after := #[{ on := 21, ground := Ground.guard }], guard := some (21, true) } : Oper)) (v := .nilIface) rfl (by kernel_rfl) (by kernel_rfl) (by kernel_rfl) (fun _ _ _ h => h) (Or.inl ⟨by rfl, by intro w hw; go_simp⟩) hS0 ?_
    try simp only [Act.put, List.setIfInBounds_toArray, List.set_cons_zero, List.set_cons_succ]
    refine wpAnyH_take (i := 23) (oi := ({ dst := some 37, op := Op.binOp BinOp.eql 32 (Operand.tmp 36) (Operand.const Value.nilIface) 32, type := 4, pos := "outright.go:32", after := #[{ on := 22, ground := Ground.data }, { on := 21, ground := Ground.guard }], guard := some (21, true) } : Oper)) (v := .bool true) rfl (by kernel_rfl) (by kernel_rfl) (by kernel_rfl) (fun _ _ _ h => h) (Or.inl ⟨by rfl, by intro w hw; go_simp⟩) hS0 ?_
    try simp only [Act.put, List.setIfInBounds_toArray, List.set_cons_zero, List.set_cons_succ]
    refine wpAnyH_take (i := 24) (oi := ({ dst := some 38, op := Op.pick (Operand.tmp 35) (Operand.tmp 37) (Operand.const (Value.bool false)), type := 4, pos := "outright.go:32", after := #[{ on := 21, ground := Ground.data }, { on := 23, ground := Ground.data }], guard := none } : Oper)) (v := .bool true) rfl (by kernel_rfl) (by kernel_rfl) (by kernel_rfl) (fun _ _ _ h => h) (Or.inl ⟨by rfl, by intro w hw; go_simp⟩) hS0 ?_
    try simp only [Act.put, List.setIfInBounds_toArray, List.set_cons_zero, List.set_cons_succ]
    refine wpAnyH_take (i := 25) (oi := ({ dst := some 39, op := Op.move (Operand.tmp 38), type := 4, pos := "outright.go:32", after := #[{ on := 24, ground := Ground.data }, { on := 21, ground := Ground.chain }], guard := none } : Oper)) (v := .bool true) rfl (by kernel_rfl) (by kernel_rfl) (by kernel_rfl) (fun _ _ _ h => h) (Or.inl ⟨by rfl, by intro w hw; go_simp⟩) hS0 ?_
    try simp only [Act.put, List.setIfInBounds_toArray, List.set_cons_zero, List.set_cons_succ]
    refine wpAnyH_take (i := 26) (oi := ({ dst := some 40, op := Op.load 24 (Operand.tmp 7), type := 24, pos := "outright.go:32", after := #[{ on := 25, ground := Ground.guard }], guard := some (25, true) } : Oper)) (v := .agg (hbs R2)) rfl (by kernel_rfl) (by kernel_rfl) (by kernel_rfl) (fun _ _ _ h => h) (yields_load_g (by rfl) (.tmp 7) 24 32 rfl Tryd.isAgg24 Tryd.sizeOf24 c rfl 24 (hbs R2) s2 (fun w hw => hw.2.2)) hS0 ?_
    try simp only [Act.put, List.setIfInBounds_toArray, List.set_cons_zero, List.set_cons_succ]
    refine wpAnyH_take (i := 27) (oi := ({ dst := some 41, op := Op.load 24 (Operand.tmp 4), type := 24, pos := "outright.go:32", after := #[{ on := 25, ground := Ground.guard }], guard := some (25, true) } : Oper)) (v := .agg (hbs A)) rfl (by kernel_rfl) (by kernel_rfl) (by kernel_rfl) (fun _ _ _ h => h) (yields_load_g (by rfl) (.tmp 4) 24 32 rfl Tryd.isAgg24 Tryd.sizeOf24 w.heap.size rfl 24 (hbs A) has (fun w hw => hw.1)) hS0 ?_
    try simp only [Act.put, List.setIfInBounds_toArray, List.set_cons_zero, List.set_cons_succ]
    refine wpAnyH_ready (rs := [28]) (by kernel_rfl) (by simp) ?_
    refine (AllReadyH.cons (o := ({ dst := some 42, op := Op.call { callee := Callee.value (Operand.func 27), args := #[Operand.tmp 41], argTypes := #[24] }, type := 9, pos := "outright.go:32", after := #[{ on := 27, ground := Ground.data }, { on := 25, ground := Ground.chain }, { on := 25, ground := Ground.guard }], guard := some (25, true) } : Oper)) rfl (fun K' hK => ?_) AllReadyH.nil)
    go_simp
    go_wp2_with (go_at_call 27; refine (QT.out A _ (.inl rfl)).mono ?_; rintro ex w118 ⟨rfl, nw118⟩)
    have nb := nb.tr nw118
    refine hK.out _ _ (hkp.out _ nb) (fun hS0 => ?_)
    try simp only [Act.put, List.setIfInBounds_toArray, List.set_cons_zero, List.set_cons_succ]
    refine wpAnyH_take (i := 29) (oi := ({ dst := some 43, op := Op.binOp BinOp.add 9 (Operand.const (Value.string { data := #[2] })) (Operand.tmp 42) 9, type := 9, pos := "outright.go:32", after := #[{ on := 28, ground := Ground.data }, { on := 25, ground := Ground.guard }], guard := some (25, true) } : Oper)) (v := .string X3) rfl (by kernel_rfl) (by kernel_rfl) (by kernel_rfl) (fun _ _ _ h => h) (Or.inl ⟨by rfl, by intro w hw; go_simp⟩) hS0 ?_
    try simp only [Act.put, List.setIfInBounds_toArray, List.set_cons_zero, List.set_cons_succ]
    refine wpAnyH_ready (rs := [30]) (by kernel_rfl) (by simp) ?_
    refine (AllReadyH.cons (o := ({ dst := some 44, op := Op.buildSlice 61 1 #[(0, Operand.tmp 43)], type := 61, pos := "outright.go:32", after := #[{ on := 29, ground := Ground.data }, { on := 25, ground := Ground.guard }], guard := some (25, true) } : Oper)) rfl (fun K' hK => ?_) AllReadyH.nil)
    go_simp
    have nb : Nw w2 (w118.alloc (.cells #[.string X3] 9)) := nb.alloc _
    refine hK.out _ _ (hkp.out _ nb) (fun hS0 => ?_)
    try simp only [Act.put, List.setIfInBounds_toArray, List.set_cons_zero, List.set_cons_succ]
    refine wpAnyH_ready (rs := [31]) (by kernel_rfl) (by simp) ?_
    refine (AllReadyH.cons (o := ({ dst := some 45, op := Op.call { callee := Callee.value (Operand.func 26), args := #[Operand.tmp 44], argTypes := #[61] }, type := 24, pos := "outright.go:32", after := #[{ on := 30, ground := Ground.data }, { on := 28, ground := Ground.chain }, { on := 25, ground := Ground.guard }], guard := some (25, true) } : Oper)) rfl (fun K' hK => ?_) AllReadyH.nil)
    go_simp
    go_wp2_with (go_at_call 26; refine (QS.out _ _ _ _ nb (by first | exact strs1 _ _ | exact (strs1 _ _).nw nw118 | exact (strs1 _ _).nw (Nw.tr (Fr.refl _ _).drew nw118)) (by first | exact .inl ⟨rfl, rfl⟩ | exact .inr (.inl ⟨rfl, rfl⟩) | exact .inr (.inr ⟨rfl, rfl⟩))).mono ?_; rintro ex w119 ⟨rfl, nw119⟩)
    have nb := nb.tr nw119
    refine hK.out _ _ (hkp.out _ nb) (fun hS0 => ?_)
    try simp only [Act.put, List.setIfInBounds_toArray, List.set_cons_zero, List.set_cons_succ]
    refine wpAnyH_take (i := 32) (oi := ({ dst := some 46, op := Op.binOp BinOp.eql 24 (Operand.tmp 40) (Operand.tmp 45) 24, type := 4, pos := "outright.go:32", after := #[{ on := 26, ground := Ground.data }, { on := 31, ground := Ground.data }, { on := 25, ground := Ground.guard }], guard := some (25, true) } : Oper)) (v := .bool true) rfl (by kernel_rfl) (by kernel_rfl) (by kernel_rfl) (fun _ _ _ h => h) (Or.inl ⟨by rfl, by intro w hw; go_simp⟩) hS0 ?_
    try simp only [Act.put, List.setIfInBounds_toArray, List.set_cons_zero, List.set_cons_succ]
    refine wpAnyH_take (i := 33) (oi := ({ dst := some 47, op := Op.pick (Operand.tmp 39) (Operand.tmp 46) (Operand.const (Value.bool false)), type := 4, pos := "outright.go:32", after := #[{ on := 25, ground := Ground.data }, { on := 32, ground := Ground.data }], guard := none } : Oper)) (v := .bool true) rfl (by kernel_rfl) (by kernel_rfl) (by kernel_rfl) (fun _ _ _ h => h) (Or.inl ⟨by rfl, by intro w hw; go_simp⟩) hS0 ?_
    try simp only [Act.put, List.setIfInBounds_toArray, List.set_cons_zero, List.set_cons_succ]
    refine wpAnyH_take (i := 34) (oi := ({ dst := some 48, op := Op.move (Operand.tmp 47), type := 4, pos := "outright.go:32", after := #[{ on := 33, ground := Ground.data }, { on := 31, ground := Ground.chain }], guard := none } : Oper)) (v := .bool true) rfl (by kernel_rfl) (by kernel_rfl) (by kernel_rfl) (fun _ _ _ h => h) (Or.inl ⟨by rfl, by intro w hw; go_simp⟩) hS0 ?_
    try simp only [Act.put, List.setIfInBounds_toArray, List.set_cons_zero, List.set_cons_succ]
    refine wpAnyH_ready (rs := [35]) (by kernel_rfl) (by simp) ?_
    refine (AllReadyH.cons (o := ({ dst := some 49, op := Op.call { callee := Callee.value (Operand.func 12), args := #[], argTypes := #[] }, type := 24, pos := "outright.go:32", after := #[{ on := 34, ground := Ground.chain }, { on := 34, ground := Ground.guard }], guard := some (34, true) } : Oper)) rfl (fun K' hK => ?_) AllReadyH.nil)
    go_simp
    go_wp2_with (go_at_call 12; refine (QE.out _ nb).mono ?_; rintro ex w120 ⟨rfl, nw120⟩)
    have nb := nb.tr nw120
    refine hK.out _ _ (hkp.out _ nb) (fun hS0 => ?_)
    try simp only [Act.put, List.setIfInBounds_toArray, List.set_cons_zero, List.set_cons_succ]
    refine wpAnyH_ready (rs := [36]) (by kernel_rfl) (by simp) ?_
    refine (AllReadyH.cons (o := ({ dst := some 50, op := Op.call { callee := Callee.value (Operand.func 26), args := #[Operand.const (Value.slice none 0 0)], argTypes := #[61] }, type := 24, pos := "outright.go:32", after := #[{ on := 35, ground := Ground.chain }, { on := 34, ground := Ground.guard }], guard := some (34, true) } : Oper)) rfl (fun K' hK => ?_) AllReadyH.nil)
    go_simp
    go_wp2_with (go_at_call 26; refine (Q0.out _ nb).mono ?_; rintro ex w121 ⟨rfl, nw121⟩)
    have nb := nb.tr nw121
    refine hK.out _ _ (hkp.out _ nb) (fun hS0 => ?_)
    try simp only [Act.put, List.setIfInBounds_toArray, List.set_cons_zero, List.set_cons_succ]
    refine wpAnyH_take (i := 37) (oi := ({ dst := some 51, op := Op.binOp BinOp.eql 24 (Operand.tmp 49) (Operand.tmp 50) 24, type := 4, pos := "outright.go:32", after := #[{ on := 35, ground := Ground.data }, { on := 36, ground := Ground.data }, { on := 34, ground := Ground.guard }], guard := some (34, true) } : Oper)) (v := .bool true) rfl (by kernel_rfl) (by kernel_rfl) (by kernel_rfl) (fun _ _ _ h => h) (Or.inl ⟨by rfl, by intro w hw; go_simp⟩) hS0 ?_
    try simp only [Act.put, List.setIfInBounds_toArray, List.set_cons_zero, List.set_cons_succ]
    refine wpAnyH_take (i := 38) (oi := ({ dst := some 52, op := Op.pick (Operand.tmp 48) (Operand.tmp 51) (Operand.const (Value.bool false)), type := 4, pos := "outright.go:32", after := #[{ on := 34, ground := Ground.data }, { on := 37, ground := Ground.data }], guard := none } : Oper)) (v := .bool true) rfl (by kernel_rfl) (by kernel_rfl) (by kernel_rfl) (fun _ _ _ h => h) (Or.inl ⟨by rfl, by intro w hw; go_simp⟩) hS0 ?_
    try simp only [Act.put, List.setIfInBounds_toArray, List.set_cons_zero, List.set_cons_succ]
    refine wpAnyH_take (i := 39) (oi := ({ dst := some 53, op := Op.move (Operand.tmp 52), type := 4, pos := "outright.go:32", after := #[{ on := 38, ground := Ground.data }, { on := 36, ground := Ground.chain }], guard := none } : Oper)) (v := .bool true) rfl (by kernel_rfl) (by kernel_rfl) (by kernel_rfl) (fun _ _ _ h => h) (Or.inl ⟨by rfl, by intro w hw; go_simp⟩) hS0 ?_
    try simp only [Act.put, List.setIfInBounds_toArray, List.set_cons_zero, List.set_cons_succ]
    refine wpAnyH_ready (rs := [40]) (by kernel_rfl) (by simp) ?_
    refine (AllReadyH.cons (o := ({ dst := some 54, op := Op.call { callee := Callee.value (Operand.func 14), args := #[], argTypes := #[] }, type := 4, pos := "outright.go:32", after := #[{ on := 39, ground := Ground.chain }, { on := 39, ground := Ground.guard }], guard := some (39, true) } : Oper)) rfl (fun K' hK => ?_) AllReadyH.nil)
    go_simp
    go_wp2_with (go_at_call 14; refine (QV.out _ nb).mono ?_; rintro ex w122 ⟨rfl, nw122⟩)
    have nb := nb.tr nw122
    refine hK.out _ _ (hkp.out _ nb) (fun hS0 => ?_)
    try simp only [Act.put, List.setIfInBounds_toArray, List.set_cons_zero, List.set_cons_succ]
    refine wpAnyH_take (i := 41) (oi := ({ dst := some 55, op := Op.pick (Operand.tmp 53) (Operand.tmp 54) (Operand.const (Value.bool false)), type := 4, pos := "outright.go:32", after := #[{ on := 39, ground := Ground.data }, { on := 40, ground := Ground.data }], guard := none } : Oper)) (v := .bool true) rfl (by kernel_rfl) (by kernel_rfl) (by kernel_rfl) (fun _ _ _ h => h) (Or.inl ⟨by rfl, by intro w hw; go_simp⟩) hS0 ?_
    try simp only [Act.put, List.setIfInBounds_toArray, List.set_cons_zero, List.set_cons_succ]
    refine wpAnyH_ready (rs := [42]) (by kernel_rfl) (by simp) ?_
    refine (AllReadyH.cons (o := ({ dst := some 6, op := Op.assign (Operand.tmp 55), type := 4, pos := "outright.go:32", after := #[{ on := 41, ground := Ground.data }, { on := 40, ground := Ground.chain }, { on := 0, ground := Ground.phase }, { on := 1, ground := Ground.phase }, { on := 2, ground := Ground.phase }, { on := 3, ground := Ground.phase }, { on := 4, ground := Ground.phase }, { on := 5, ground := Ground.phase }, { on := 6, ground := Ground.phase }, { on := 7, ground := Ground.phase }, { on := 8, ground := Ground.phase }, { on := 9, ground := Ground.phase }, { on := 10, ground := Ground.phase }, { on := 11, ground := Ground.phase }, { on := 12, ground := Ground.phase }, { on := 13, ground := Ground.phase }, { on := 14, ground := Ground.phase }, { on := 15, ground := Ground.phase }, { on := 16, ground := Ground.phase }, { on := 17, ground := Ground.phase }, { on := 18, ground := Ground.phase }, { on := 19, ground := Ground.phase }, { on := 20, ground := Ground.phase }, { on := 21, ground := Ground.phase }, { on := 22, ground := Ground.phase }, { on := 23, ground := Ground.phase }, { on := 24, ground := Ground.phase }, { on := 25, ground := Ground.phase }, { on := 26, ground := Ground.phase }, { on := 27, ground := Ground.phase }, { on := 28, ground := Ground.phase }, { on := 29, ground := Ground.phase }, { on := 30, ground := Ground.phase }, { on := 31, ground := Ground.phase }, { on := 32, ground := Ground.phase }, { on := 33, ground := Ground.phase }, { on := 34, ground := Ground.phase }, { on := 35, ground := Ground.phase }, { on := 36, ground := Ground.phase }, { on := 37, ground := Ground.phase }, { on := 38, ground := Ground.phase }, { on := 39, ground := Ground.phase }, { on := 40, ground := Ground.phase }, { on := 41, ground := Ground.phase }], guard := none } : Oper)) rfl (fun K' hK => ?_) AllReadyH.nil)
    go_simp
    refine hK.out _ _ (hkp.out _ nb) (fun hS0 => ?_)
    try simp only [Act.put, List.setIfInBounds_toArray, List.set_cons_zero, List.set_cons_succ]
    refine wpAnyH_done (by kernel_rfl) ?_ _
    go_wp2
    go_ret
    exact ⟨rfl, n2.tr nb⟩
end Go.Proofs.YtambfmohhflimaaDoor
