/- HashShows. -/
import Derived.Test.YtambfmohhflimaaDoorS3
import Derived.Test.YtambfmohhflimaaDoorY1
namespace Go.Proofs.YtambfmohhflimaaDoor
open Go.RowKit
set_option linter.unusedVariables false
set_option linter.unusedSimpArgs false

set_option maxRecDepth 100000 in
set_option maxHeartbeats 4000000 in
theorem shows_any (A B : List UInt8) (hA : A.length = 32) (hB : B.length = 32) (w : World) (hL : Laid w) {Bd : Nat} {a : Nat → Addr} (hS : Sent Bd w a) :
    Calls Tryd.prog 6 #[.agg (hbs A), .agg (hbs B)] w fun e w' => e = .returned (.bool true) ∧ Nw w w' := by
  have HL : Hid (Laid w) := hL
  have HS : Hid (Sent Bd w a) := hS
  have HA : Hid (A.length = 32) := hA
  have HB : Hid (B.length = 32) := hB
  have has : (hbs A).size = 32 := by rw [hbs_size, hA]
  have hbs' : (hbs B).size = 32 := by rw [hbs_size, hB]
  clear hL hS hA hB
  obtain ⟨c1, hc1⟩ : ∃ c, c = cmpH A B := ⟨_, rfl⟩
  obtain ⟨c2, hc2⟩ : ∃ c, c = cmpH B A := ⟨_, rfl⟩
  obtain ⟨H, hH⟩ : ∃ X : ByteArray, X = ⟨(hex A).toArray⟩ := ⟨_, rfl⟩
  have QC : Hid (∀ X Y c W, ((X = A ∧ Y = B ∧ c = c1) ∨ (X = B ∧ Y = A ∧ c = c2) ∨ (X = A ∧ Y = A ∧ c = 0)) → Calls Tryd.prog 20 #[.agg (hbs X), .agg (hbs Y)] W fun e w' => e = .returned (.int .i64 c) ∧ Nw W w') := fun X Y c W h => by
    rcases h with ⟨rfl, rfl, rfl⟩ | ⟨rfl, rfl, rfl⟩ | ⟨rfl, rfl, rfl⟩
    · rw [hc1]; exact cmp_any _ _ HA.out HB.out W
    · rw [hc2]; exact cmp_any _ _ HB.out HA.out W
    · have := cmp_any _ _ HA.out HA.out W
      rw [cmp_all _ _ (fun _ _ => rfl)] at this
      exact this
  have QD : Hid (∀ X Y c W, ((X = A ∧ Y = B ∧ c = c1) ∨ (X = B ∧ Y = A ∧ c = c2) ∨ (X = A ∧ Y = A ∧ c = 0)) → Calls Tryd.prog 21 #[.agg (hbs X), .agg (hbs Y)] W fun e w' => e = .returned (.int .i64 c) ∧ Nw W w') := fun X Y c W h => by
    rcases h with ⟨rfl, rfl, rfl⟩ | ⟨rfl, rfl, rfl⟩ | ⟨rfl, rfl, rfl⟩
    · rw [hc1]; exact refcmp_any _ _ HA.out HB.out W
    · rw [hc2]; exact refcmp_any _ _ HB.out HA.out W
    · have := refcmp_any _ _ HA.out HA.out W
      rw [cmp_all _ _ (fun _ _ => rfl)] at this
      exact this
  have QS : Hid (∀ W, Calls Tryd.prog 22 #[.agg (hbs A)] W fun e w' => e = .returned (.string H) ∧ Nw W w') := fun W => by rw [hH]; exact show_any A HA.out W
  have QT : Hid (∀ W, Calls Tryd.prog 23 #[.agg (hbs A)] W fun e w' => e = .returned (.string H) ∧ Nw W w') := fun W => by rw [hH]; exact refshow_any A HA.out W
  clear hc1 hc2 hH
  go_enter Tryd.func6, Tryd.ntmps6
  obtain ⟨w0, hw0⟩ : ∃ w0, w0 = (w.alloc (.cells (hbs A) 24)).alloc (.cells (hbs B) 24) := ⟨_, rfl⟩
  have n0 : Nw w w0 := by rw [hw0]; exact ((Fr.refl _ _).alloc _).alloc _
  have ja : w0.heap[w.heap.size]? = some (.cells (hbs A) 24) := by rw [hw0]; exact (Below.heap_alloc _ _ _ (by simp)).trans (heap_new w _)
  have jb : w0.heap[w.heap.size + 1]? = some (.cells (hbs B) 24) := by rw [hw0]; exact heap_next w _ _
  go_wp2
  rw [← hw0]
  clear hw0
  have QV : Hid (∀ W, Nw w0 W → Calls Tryd.prog 14 #[] W fun e w' => e = .returned (.bool true) ∧ Nw W w') := fun W hW => lives_any W (HL.out.nw (n0.tr hW)) (HS.out.fr (n0.tr hW) (fun _ _ f => f))
  have hkp : Hid (∀ W, Nw w0 W → W.heap[w.heap.size]? = some (.cells (hbs A) 24 (0, 0)) ∧ W.heap[w.heap.size + 1]? = some (.cells (hbs B) 24 (0, 0))) := fun W hW =>
    ⟨(hW.block _ (heap_lt ja) (fun f => f)).trans ja, (hW.block _ (heap_lt jb) (fun f => f)).trans jb⟩
  clear ja jb
  have nb : Nw w0 w0.drew := (Fr.refl _ _).drew
  refine wp_region_held_drew (S := fun W => W.heap[w.heap.size]? = some (.cells (hbs A) 24 (0, 0)) ∧ W.heap[w.heap.size + 1]? = some (.cells (hbs B) 24 (0, 0))) (by kernel_rfl) (hkp.out _ nb) ?_
  intro hS0
  refine wpAnyH_take (i := 0) (oi := ({ dst := some 5, op := Op.load 24 (Operand.tmp 2), type := 24, pos := "law.go:33", after := #[], guard := none } : Oper)) (v := .agg (hbs A)) rfl (by kernel_rfl) (by kernel_rfl) (by kernel_rfl) (fun _ _ _ h => h) (yields_load_g (by rfl) (.tmp 2) 24 32 rfl Tryd.isAgg24 Tryd.sizeOf24 w.heap.size rfl 24 (hbs A) has (fun w hw => hw.1)) hS0 ?_
  try simp only [Act.put, List.setIfInBounds_toArray, List.set_cons_zero, List.set_cons_succ]
  refine wpAnyH_take (i := 1) (oi := ({ dst := some 6, op := Op.load 24 (Operand.tmp 3), type := 24, pos := "law.go:33", after := #[], guard := none } : Oper)) (v := .agg (hbs B)) rfl (by kernel_rfl) (by kernel_rfl) (by kernel_rfl) (fun _ _ _ h => h) (yields_load_g (by rfl) (.tmp 3) 24 32 rfl Tryd.isAgg24 Tryd.sizeOf24 (w.heap.size + 1) rfl 24 (hbs B) hbs' (fun w hw => hw.2)) hS0 ?_
  try simp only [Act.put, List.setIfInBounds_toArray, List.set_cons_zero, List.set_cons_succ]
  refine wpAnyH_take (i := 3) (oi := ({ dst := some 8, op := Op.load 24 (Operand.tmp 2), type := 24, pos := "law.go:33", after := #[], guard := none } : Oper)) (v := .agg (hbs A)) rfl (by kernel_rfl) (by kernel_rfl) (by kernel_rfl) (fun _ _ _ h => h) (yields_load_g (by rfl) (.tmp 2) 24 32 rfl Tryd.isAgg24 Tryd.sizeOf24 w.heap.size rfl 24 (hbs A) has (fun w hw => hw.1)) hS0 ?_
  try simp only [Act.put, List.setIfInBounds_toArray, List.set_cons_zero, List.set_cons_succ]
  refine wpAnyH_take (i := 4) (oi := ({ dst := some 9, op := Op.load 24 (Operand.tmp 3), type := 24, pos := "law.go:33", after := #[], guard := none } : Oper)) (v := .agg (hbs B)) rfl (by kernel_rfl) (by kernel_rfl) (by kernel_rfl) (fun _ _ _ h => h) (yields_load_g (by rfl) (.tmp 3) 24 32 rfl Tryd.isAgg24 Tryd.sizeOf24 (w.heap.size + 1) rfl 24 (hbs B) hbs' (fun w hw => hw.2)) hS0 ?_
  try simp only [Act.put, List.setIfInBounds_toArray, List.set_cons_zero, List.set_cons_succ]
  refine wpAnyH_ready (rs := [2]) (by kernel_rfl) (by simp) ?_
  refine (AllReadyH.cons (o := ({ dst := some 7, op := Op.call { callee := Callee.value (Operand.func 20), args := #[Operand.tmp 5, Operand.tmp 6], argTypes := #[24, 24] }, type := 3, pos := "law.go:33", after := #[{ on := 0, ground := Ground.data }, { on := 1, ground := Ground.data }], guard := none } : Oper)) rfl (fun K' hK => ?_) AllReadyH.nil)
  go_simp
  go_wp2_with (go_at_call 20; refine (QC.out A B c1 _ (.inl ⟨rfl, rfl, rfl⟩)).mono ?_; rintro ex w101 ⟨rfl, nw101⟩)
  have nb := nb.tr nw101
  refine hK.out _ _ (hkp.out _ nb) (fun hS0 => ?_)
  try simp only [Act.put, List.setIfInBounds_toArray, List.set_cons_zero, List.set_cons_succ]
  refine wpAnyH_ready (rs := [5]) (by kernel_rfl) (by simp) ?_
  refine (AllReadyH.cons (o := ({ dst := some 10, op := Op.call { callee := Callee.value (Operand.func 21), args := #[Operand.tmp 8, Operand.tmp 9], argTypes := #[24, 24] }, type := 3, pos := "law.go:33", after := #[{ on := 3, ground := Ground.data }, { on := 4, ground := Ground.data }, { on := 2, ground := Ground.chain }], guard := none } : Oper)) rfl (fun K' hK => ?_) AllReadyH.nil)
  go_simp
  go_wp2_with (go_at_call 21; refine (QD.out A B c1 _ (.inl ⟨rfl, rfl, rfl⟩)).mono ?_; rintro ex w102 ⟨rfl, nw102⟩)
  have nb := nb.tr nw102
  refine hK.out _ _ (hkp.out _ nb) (fun hS0 => ?_)
  try simp only [Act.put, List.setIfInBounds_toArray, List.set_cons_zero, List.set_cons_succ]
  refine wpAnyH_take (i := 6) (oi := ({ dst := some 11, op := Op.binOp BinOp.eql 3 (Operand.tmp 7) (Operand.tmp 10) 3, type := 4, pos := "law.go:33", after := #[{ on := 2, ground := Ground.data }, { on := 5, ground := Ground.data }], guard := none } : Oper)) (v := .bool true) rfl (by kernel_rfl) (by kernel_rfl) (by kernel_rfl) (fun _ _ _ h => h) (Or.inl ⟨by rfl, by intro w hw; go_simp⟩) hS0 ?_
  try simp only [Act.put, List.setIfInBounds_toArray, List.set_cons_zero, List.set_cons_succ]
  refine wpAnyH_take (i := 7) (oi := ({ dst := some 12, op := Op.move (Operand.tmp 11), type := 4, pos := "law.go:33", after := #[{ on := 6, ground := Ground.data }, { on := 5, ground := Ground.chain }], guard := none } : Oper)) (v := .bool true) rfl (by kernel_rfl) (by kernel_rfl) (by kernel_rfl) (fun _ _ _ h => h) (Or.inl ⟨by rfl, by intro w hw; go_simp⟩) hS0 ?_
  try simp only [Act.put, List.setIfInBounds_toArray, List.set_cons_zero, List.set_cons_succ]
  refine wpAnyH_take (i := 8) (oi := ({ dst := some 13, op := Op.load 24 (Operand.tmp 3), type := 24, pos := "law.go:33", after := #[{ on := 7, ground := Ground.guard }], guard := some (7, true) } : Oper)) (v := .agg (hbs B)) rfl (by kernel_rfl) (by kernel_rfl) (by kernel_rfl) (fun _ _ _ h => h) (yields_load_g (by rfl) (.tmp 3) 24 32 rfl Tryd.isAgg24 Tryd.sizeOf24 (w.heap.size + 1) rfl 24 (hbs B) hbs' (fun w hw => hw.2)) hS0 ?_
  try simp only [Act.put, List.setIfInBounds_toArray, List.set_cons_zero, List.set_cons_succ]
  refine wpAnyH_take (i := 9) (oi := ({ dst := some 14, op := Op.load 24 (Operand.tmp 2), type := 24, pos := "law.go:33", after := #[{ on := 7, ground := Ground.guard }], guard := some (7, true) } : Oper)) (v := .agg (hbs A)) rfl (by kernel_rfl) (by kernel_rfl) (by kernel_rfl) (fun _ _ _ h => h) (yields_load_g (by rfl) (.tmp 2) 24 32 rfl Tryd.isAgg24 Tryd.sizeOf24 w.heap.size rfl 24 (hbs A) has (fun w hw => hw.1)) hS0 ?_
  try simp only [Act.put, List.setIfInBounds_toArray, List.set_cons_zero, List.set_cons_succ]
  refine wpAnyH_take (i := 11) (oi := ({ dst := some 16, op := Op.load 24 (Operand.tmp 3), type := 24, pos := "law.go:33", after := #[{ on := 7, ground := Ground.guard }], guard := some (7, true) } : Oper)) (v := .agg (hbs B)) rfl (by kernel_rfl) (by kernel_rfl) (by kernel_rfl) (fun _ _ _ h => h) (yields_load_g (by rfl) (.tmp 3) 24 32 rfl Tryd.isAgg24 Tryd.sizeOf24 (w.heap.size + 1) rfl 24 (hbs B) hbs' (fun w hw => hw.2)) hS0 ?_
  try simp only [Act.put, List.setIfInBounds_toArray, List.set_cons_zero, List.set_cons_succ]
  refine wpAnyH_take (i := 12) (oi := ({ dst := some 17, op := Op.load 24 (Operand.tmp 2), type := 24, pos := "law.go:33", after := #[{ on := 7, ground := Ground.guard }], guard := some (7, true) } : Oper)) (v := .agg (hbs A)) rfl (by kernel_rfl) (by kernel_rfl) (by kernel_rfl) (fun _ _ _ h => h) (yields_load_g (by rfl) (.tmp 2) 24 32 rfl Tryd.isAgg24 Tryd.sizeOf24 w.heap.size rfl 24 (hbs A) has (fun w hw => hw.1)) hS0 ?_
  try simp only [Act.put, List.setIfInBounds_toArray, List.set_cons_zero, List.set_cons_succ]
  refine wpAnyH_ready (rs := [10]) (by kernel_rfl) (by simp) ?_
  refine (AllReadyH.cons (o := ({ dst := some 15, op := Op.call { callee := Callee.value (Operand.func 20), args := #[Operand.tmp 13, Operand.tmp 14], argTypes := #[24, 24] }, type := 3, pos := "law.go:33", after := #[{ on := 8, ground := Ground.data }, { on := 9, ground := Ground.data }, { on := 7, ground := Ground.chain }, { on := 7, ground := Ground.guard }], guard := some (7, true) } : Oper)) rfl (fun K' hK => ?_) AllReadyH.nil)
  go_simp
  go_wp2_with (go_at_call 20; refine (QC.out B A c2 _ (.inr (.inl ⟨rfl, rfl, rfl⟩))).mono ?_; rintro ex w103 ⟨rfl, nw103⟩)
  have nb := nb.tr nw103
  refine hK.out _ _ (hkp.out _ nb) (fun hS0 => ?_)
  try simp only [Act.put, List.setIfInBounds_toArray, List.set_cons_zero, List.set_cons_succ]
  refine wpAnyH_ready (rs := [13]) (by kernel_rfl) (by simp) ?_
  refine (AllReadyH.cons (o := ({ dst := some 18, op := Op.call { callee := Callee.value (Operand.func 21), args := #[Operand.tmp 16, Operand.tmp 17], argTypes := #[24, 24] }, type := 3, pos := "law.go:33", after := #[{ on := 11, ground := Ground.data }, { on := 12, ground := Ground.data }, { on := 10, ground := Ground.chain }, { on := 7, ground := Ground.guard }], guard := some (7, true) } : Oper)) rfl (fun K' hK => ?_) AllReadyH.nil)
  go_simp
  go_wp2_with (go_at_call 21; refine (QD.out B A c2 _ (.inr (.inl ⟨rfl, rfl, rfl⟩))).mono ?_; rintro ex w104 ⟨rfl, nw104⟩)
  have nb := nb.tr nw104
  refine hK.out _ _ (hkp.out _ nb) (fun hS0 => ?_)
  try simp only [Act.put, List.setIfInBounds_toArray, List.set_cons_zero, List.set_cons_succ]
  refine wpAnyH_take (i := 14) (oi := ({ dst := some 19, op := Op.binOp BinOp.eql 3 (Operand.tmp 15) (Operand.tmp 18) 3, type := 4, pos := "law.go:33", after := #[{ on := 10, ground := Ground.data }, { on := 13, ground := Ground.data }, { on := 7, ground := Ground.guard }], guard := some (7, true) } : Oper)) (v := .bool true) rfl (by kernel_rfl) (by kernel_rfl) (by kernel_rfl) (fun _ _ _ h => h) (Or.inl ⟨by rfl, by intro w hw; go_simp⟩) hS0 ?_
  try simp only [Act.put, List.setIfInBounds_toArray, List.set_cons_zero, List.set_cons_succ]
  refine wpAnyH_take (i := 15) (oi := ({ dst := some 20, op := Op.pick (Operand.tmp 12) (Operand.tmp 19) (Operand.const (Value.bool false)), type := 4, pos := "law.go:33", after := #[{ on := 7, ground := Ground.data }, { on := 14, ground := Ground.data }], guard := none } : Oper)) (v := .bool true) rfl (by kernel_rfl) (by kernel_rfl) (by kernel_rfl) (fun _ _ _ h => h) (Or.inl ⟨by rfl, by intro w hw; go_simp⟩) hS0 ?_
  try simp only [Act.put, List.setIfInBounds_toArray, List.set_cons_zero, List.set_cons_succ]
  refine wpAnyH_take (i := 16) (oi := ({ dst := some 21, op := Op.move (Operand.tmp 20), type := 4, pos := "law.go:33", after := #[{ on := 15, ground := Ground.data }, { on := 13, ground := Ground.chain }], guard := none } : Oper)) (v := .bool true) rfl (by kernel_rfl) (by kernel_rfl) (by kernel_rfl) (fun _ _ _ h => h) (Or.inl ⟨by rfl, by intro w hw; go_simp⟩) hS0 ?_
  try simp only [Act.put, List.setIfInBounds_toArray, List.set_cons_zero, List.set_cons_succ]
  refine wpAnyH_take (i := 17) (oi := ({ dst := some 22, op := Op.load 24 (Operand.tmp 2), type := 24, pos := "law.go:33", after := #[{ on := 16, ground := Ground.guard }], guard := some (16, true) } : Oper)) (v := .agg (hbs A)) rfl (by kernel_rfl) (by kernel_rfl) (by kernel_rfl) (fun _ _ _ h => h) (yields_load_g (by rfl) (.tmp 2) 24 32 rfl Tryd.isAgg24 Tryd.sizeOf24 w.heap.size rfl 24 (hbs A) has (fun w hw => hw.1)) hS0 ?_
  try simp only [Act.put, List.setIfInBounds_toArray, List.set_cons_zero, List.set_cons_succ]
  refine wpAnyH_take (i := 18) (oi := ({ dst := some 23, op := Op.load 24 (Operand.tmp 2), type := 24, pos := "law.go:33", after := #[{ on := 16, ground := Ground.guard }], guard := some (16, true) } : Oper)) (v := .agg (hbs A)) rfl (by kernel_rfl) (by kernel_rfl) (by kernel_rfl) (fun _ _ _ h => h) (yields_load_g (by rfl) (.tmp 2) 24 32 rfl Tryd.isAgg24 Tryd.sizeOf24 w.heap.size rfl 24 (hbs A) has (fun w hw => hw.1)) hS0 ?_
  try simp only [Act.put, List.setIfInBounds_toArray, List.set_cons_zero, List.set_cons_succ]
  refine wpAnyH_ready (rs := [19]) (by kernel_rfl) (by simp) ?_
  refine (AllReadyH.cons (o := ({ dst := some 24, op := Op.call { callee := Callee.value (Operand.func 20), args := #[Operand.tmp 22, Operand.tmp 23], argTypes := #[24, 24] }, type := 3, pos := "law.go:33", after := #[{ on := 17, ground := Ground.data }, { on := 18, ground := Ground.data }, { on := 16, ground := Ground.chain }, { on := 16, ground := Ground.guard }], guard := some (16, true) } : Oper)) rfl (fun K' hK => ?_) AllReadyH.nil)
  go_simp
  go_wp2_with (go_at_call 20; refine (QC.out A A 0 _ (.inr (.inr ⟨rfl, rfl, rfl⟩))).mono ?_; rintro ex w105 ⟨rfl, nw105⟩)
  have nb := nb.tr nw105
  refine hK.out _ _ (hkp.out _ nb) (fun hS0 => ?_)
  try simp only [Act.put, List.setIfInBounds_toArray, List.set_cons_zero, List.set_cons_succ]
  refine wpAnyH_take (i := 20) (oi := ({ dst := some 25, op := Op.binOp BinOp.eql 3 (Operand.tmp 24) (Operand.const (Value.int IntKind.i64 0)) 3, type := 4, pos := "law.go:33", after := #[{ on := 19, ground := Ground.data }, { on := 16, ground := Ground.guard }], guard := some (16, true) } : Oper)) (v := .bool true) rfl (by kernel_rfl) (by kernel_rfl) (by kernel_rfl) (fun _ _ _ h => h) (Or.inl ⟨by rfl, by intro w hw; go_simp⟩) hS0 ?_
  try simp only [Act.put, List.setIfInBounds_toArray, List.set_cons_zero, List.set_cons_succ]
  refine wpAnyH_take (i := 21) (oi := ({ dst := some 26, op := Op.pick (Operand.tmp 21) (Operand.tmp 25) (Operand.const (Value.bool false)), type := 4, pos := "law.go:33", after := #[{ on := 16, ground := Ground.data }, { on := 20, ground := Ground.data }], guard := none } : Oper)) (v := .bool true) rfl (by kernel_rfl) (by kernel_rfl) (by kernel_rfl) (fun _ _ _ h => h) (Or.inl ⟨by rfl, by intro w hw; go_simp⟩) hS0 ?_
  try simp only [Act.put, List.setIfInBounds_toArray, List.set_cons_zero, List.set_cons_succ]
  refine wpAnyH_take (i := 22) (oi := ({ dst := some 27, op := Op.move (Operand.tmp 26), type := 4, pos := "law.go:33", after := #[{ on := 21, ground := Ground.data }, { on := 19, ground := Ground.chain }], guard := none } : Oper)) (v := .bool true) rfl (by kernel_rfl) (by kernel_rfl) (by kernel_rfl) (fun _ _ _ h => h) (Or.inl ⟨by rfl, by intro w hw; go_simp⟩) hS0 ?_
  try simp only [Act.put, List.setIfInBounds_toArray, List.set_cons_zero, List.set_cons_succ]
  refine wpAnyH_take (i := 23) (oi := ({ dst := some 28, op := Op.load 24 (Operand.tmp 2), type := 24, pos := "law.go:33", after := #[{ on := 22, ground := Ground.guard }], guard := some (22, true) } : Oper)) (v := .agg (hbs A)) rfl (by kernel_rfl) (by kernel_rfl) (by kernel_rfl) (fun _ _ _ h => h) (yields_load_g (by rfl) (.tmp 2) 24 32 rfl Tryd.isAgg24 Tryd.sizeOf24 w.heap.size rfl 24 (hbs A) has (fun w hw => hw.1)) hS0 ?_
  try simp only [Act.put, List.setIfInBounds_toArray, List.set_cons_zero, List.set_cons_succ]
  refine wpAnyH_take (i := 25) (oi := ({ dst := some 30, op := Op.load 24 (Operand.tmp 2), type := 24, pos := "law.go:33", after := #[{ on := 22, ground := Ground.guard }], guard := some (22, true) } : Oper)) (v := .agg (hbs A)) rfl (by kernel_rfl) (by kernel_rfl) (by kernel_rfl) (fun _ _ _ h => h) (yields_load_g (by rfl) (.tmp 2) 24 32 rfl Tryd.isAgg24 Tryd.sizeOf24 w.heap.size rfl 24 (hbs A) has (fun w hw => hw.1)) hS0 ?_
  try simp only [Act.put, List.setIfInBounds_toArray, List.set_cons_zero, List.set_cons_succ]
  refine wpAnyH_ready (rs := [24]) (by kernel_rfl) (by simp) ?_
  refine (AllReadyH.cons (o := ({ dst := some 29, op := Op.call { callee := Callee.value (Operand.func 22), args := #[Operand.tmp 28], argTypes := #[24] }, type := 9, pos := "law.go:33", after := #[{ on := 23, ground := Ground.data }, { on := 22, ground := Ground.chain }, { on := 22, ground := Ground.guard }], guard := some (22, true) } : Oper)) rfl (fun K' hK => ?_) AllReadyH.nil)
  go_simp
  go_wp2_with (go_at_call 22; refine (QS.out _).mono ?_; rintro ex w106 ⟨rfl, nw106⟩)
  have nb := nb.tr nw106
  refine hK.out _ _ (hkp.out _ nb) (fun hS0 => ?_)
  try simp only [Act.put, List.setIfInBounds_toArray, List.set_cons_zero, List.set_cons_succ]
  refine wpAnyH_ready (rs := [26]) (by kernel_rfl) (by simp) ?_
  refine (AllReadyH.cons (o := ({ dst := some 31, op := Op.call { callee := Callee.value (Operand.func 23), args := #[Operand.tmp 30], argTypes := #[24] }, type := 9, pos := "law.go:33", after := #[{ on := 25, ground := Ground.data }, { on := 24, ground := Ground.chain }, { on := 22, ground := Ground.guard }], guard := some (22, true) } : Oper)) rfl (fun K' hK => ?_) AllReadyH.nil)
  go_simp
  go_wp2_with (go_at_call 23; refine (QT.out _).mono ?_; rintro ex w107 ⟨rfl, nw107⟩)
  have nb := nb.tr nw107
  refine hK.out _ _ (hkp.out _ nb) (fun hS0 => ?_)
  try simp only [Act.put, List.setIfInBounds_toArray, List.set_cons_zero, List.set_cons_succ]
  refine wpAnyH_take (i := 27) (oi := ({ dst := some 32, op := Op.binOp BinOp.eql 9 (Operand.tmp 29) (Operand.tmp 31) 9, type := 4, pos := "law.go:33", after := #[{ on := 24, ground := Ground.data }, { on := 26, ground := Ground.data }, { on := 22, ground := Ground.guard }], guard := some (22, true) } : Oper)) (v := .bool true) rfl (by kernel_rfl) (by kernel_rfl) (by kernel_rfl) (fun _ _ _ h => h) (Or.inl ⟨by rfl, by intro w hw; go_simp⟩) hS0 ?_
  try simp only [Act.put, List.setIfInBounds_toArray, List.set_cons_zero, List.set_cons_succ]
  refine wpAnyH_take (i := 28) (oi := ({ dst := some 33, op := Op.pick (Operand.tmp 27) (Operand.tmp 32) (Operand.const (Value.bool false)), type := 4, pos := "law.go:33", after := #[{ on := 22, ground := Ground.data }, { on := 27, ground := Ground.data }], guard := none } : Oper)) (v := .bool true) rfl (by kernel_rfl) (by kernel_rfl) (by kernel_rfl) (fun _ _ _ h => h) (Or.inl ⟨by rfl, by intro w hw; go_simp⟩) hS0 ?_
  try simp only [Act.put, List.setIfInBounds_toArray, List.set_cons_zero, List.set_cons_succ]
  refine wpAnyH_take (i := 29) (oi := ({ dst := some 34, op := Op.move (Operand.tmp 33), type := 4, pos := "law.go:33", after := #[{ on := 28, ground := Ground.data }, { on := 26, ground := Ground.chain }], guard := none } : Oper)) (v := .bool true) rfl (by kernel_rfl) (by kernel_rfl) (by kernel_rfl) (fun _ _ _ h => h) (Or.inl ⟨by rfl, by intro w hw; go_simp⟩) hS0 ?_
  try simp only [Act.put, List.setIfInBounds_toArray, List.set_cons_zero, List.set_cons_succ]
  refine wpAnyH_ready (rs := [30]) (by kernel_rfl) (by simp) ?_
  refine (AllReadyH.cons (o := ({ dst := some 35, op := Op.call { callee := Callee.value (Operand.func 14), args := #[], argTypes := #[] }, type := 4, pos := "law.go:33", after := #[{ on := 29, ground := Ground.chain }, { on := 29, ground := Ground.guard }], guard := some (29, true) } : Oper)) rfl (fun K' hK => ?_) AllReadyH.nil)
  go_simp
  go_wp2_with (go_at_call 14; refine (QV.out _ nb).mono ?_; rintro ex w108 ⟨rfl, nw108⟩)
  have nb := nb.tr nw108
  refine hK.out _ _ (hkp.out _ nb) (fun hS0 => ?_)
  try simp only [Act.put, List.setIfInBounds_toArray, List.set_cons_zero, List.set_cons_succ]
  refine wpAnyH_take (i := 31) (oi := ({ dst := some 36, op := Op.pick (Operand.tmp 34) (Operand.tmp 35) (Operand.const (Value.bool false)), type := 4, pos := "law.go:33", after := #[{ on := 29, ground := Ground.data }, { on := 30, ground := Ground.data }], guard := none } : Oper)) (v := .bool true) rfl (by kernel_rfl) (by kernel_rfl) (by kernel_rfl) (fun _ _ _ h => h) (Or.inl ⟨by rfl, by intro w hw; go_simp⟩) hS0 ?_
  try simp only [Act.put, List.setIfInBounds_toArray, List.set_cons_zero, List.set_cons_succ]
  refine wpAnyH_ready (rs := [32]) (by kernel_rfl) (by simp) ?_
  refine (AllReadyH.cons (o := ({ dst := some 4, op := Op.assign (Operand.tmp 36), type := 4, pos := "law.go:33", after := #[{ on := 31, ground := Ground.data }, { on := 30, ground := Ground.chain }, { on := 0, ground := Ground.phase }, { on := 1, ground := Ground.phase }, { on := 2, ground := Ground.phase }, { on := 3, ground := Ground.phase }, { on := 4, ground := Ground.phase }, { on := 5, ground := Ground.phase }, { on := 6, ground := Ground.phase }, { on := 7, ground := Ground.phase }, { on := 8, ground := Ground.phase }, { on := 9, ground := Ground.phase }, { on := 10, ground := Ground.phase }, { on := 11, ground := Ground.phase }, { on := 12, ground := Ground.phase }, { on := 13, ground := Ground.phase }, { on := 14, ground := Ground.phase }, { on := 15, ground := Ground.phase }, { on := 16, ground := Ground.phase }, { on := 17, ground := Ground.phase }, { on := 18, ground := Ground.phase }, { on := 19, ground := Ground.phase }, { on := 20, ground := Ground.phase }, { on := 21, ground := Ground.phase }, { on := 22, ground := Ground.phase }, { on := 23, ground := Ground.phase }, { on := 24, ground := Ground.phase }, { on := 25, ground := Ground.phase }, { on := 26, ground := Ground.phase }, { on := 27, ground := Ground.phase }, { on := 28, ground := Ground.phase }, { on := 29, ground := Ground.phase }, { on := 30, ground := Ground.phase }, { on := 31, ground := Ground.phase }], guard := none } : Oper)) rfl (fun K' hK => ?_) AllReadyH.nil)
  go_simp
  refine hK.out _ _ (hkp.out _ nb) (fun hS0 => ?_)
  try simp only [Act.put, List.setIfInBounds_toArray, List.set_cons_zero, List.set_cons_succ]
  refine wpAnyH_done (by kernel_rfl) ?_ _
  go_wp2
  go_ret
  exact ⟨rfl, n0.tr nb⟩
end Go.Proofs.YtambfmohhflimaaDoor
