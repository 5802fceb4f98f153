/- The document's nodes; HashNodes. -/
import Derived.Test.YtlaiomgebkeldaaDoorRa7
namespace Go.Proofs.YtlaiomgebkeldaaDoor.Rf
open Go.RowKit
set_option linter.unusedVariables false
set_option linter.unusedSimpArgs false

set_option maxRecDepth 100000 in
set_option maxHeartbeats 2000000 in
theorem nodetext_any (A B : List UInt8) (hA : A.length = 32) (hB : B.length = 32) (w : World) :
    Calls Tryd.prog 58 #[.agg (hbs A), .agg (hbs B)] w fun e w' => e = .returned (.string ⟨(1 :: (A ++ B)).toArray⟩) ∧ Nw w w' := by
  have HA : Hid (A.length = 32) := hA
  have HB : Hid (B.length = 32) := hB
  have has : (hbs A).size = 32 := by rw [hbs_size, hA]
  have hbs' : (hbs B).size = 32 := by rw [hbs_size, hB]
  clear hA hB
  obtain ⟨X1, hX1⟩ : ∃ X : ByteArray, X = ⟨#[1]⟩ ++ ⟨A.toArray⟩ := ⟨_, rfl⟩
  obtain ⟨X2, hX2⟩ : ∃ X : ByteArray, X = X1 ++ ⟨B.toArray⟩ := ⟨_, rfl⟩
  have zA : (⟨A.toArray⟩ : ByteArray).size = 32 := by show A.toArray.size = 32; simpa using HA.out
  have zB : (⟨B.toArray⟩ : ByteArray).size = 32 := by show B.toArray.size = 32; simpa using HB.out
  have z1 : X1.size = 33 := by rw [hX1, ByteArray.size_append, zA]; rfl
  have x1 : ∀ W, (Op.stringOp .add ⟨#[1]⟩ ⟨A.toArray⟩).run Tryd.prog W = .ok (.string X1) W := fun W => by rw [hX1]; exact run_string_add_sum W _ _ (by rw [zA]; decide)
  have x2 : ∀ W, (Op.stringOp .add X1 ⟨B.toArray⟩).run Tryd.prog W = .ok (.string X2) W := fun W => by rw [hX2]; exact run_string_add_sum W _ _ (by rw [zB, z1]; decide)
  have HX : Hid (Ending.returned (.string X2) = .returned (.string ⟨(1 :: (A ++ B)).toArray⟩)) := by
    unfold Hid
    have : X2 = ⟨(1 :: (A ++ B)).toArray⟩ := by
      apply ByteArray.ext
      apply Array.toList_inj.1
      rw [hX2, hX1]; simp
    rw [this]
  have QT : Hid (∀ T W, (T = A ∨ T = B) → Calls Tryd.prog 75 #[.agg (hbs T)] W fun e w' => e = .returned (.string ⟨T.toArray⟩) ∧ Nw W w') := fun T W h => by
    rcases h with rfl | rfl
    · exact refbytes_any _ HA.out W
    · exact refbytes_any _ HB.out W
  clear zA zB z1 hX1 hX2
  go_enter Tryd.func58, Tryd.ntmps58
  obtain ⟨w0, hw0⟩ : ∃ w0, w0 = (w.alloc (.cells (hbs A) 26)).alloc (.cells (hbs B) 26) := ⟨_, rfl⟩
  have n0 : Nw w w0 := by rw [hw0]; exact ((Fr.refl _ _).alloc _).alloc _
  have ja : w0.heap[w.heap.size]? = some (.cells (hbs A) 26) := by rw [hw0]; exact (Below.heap_alloc _ _ _ (by simp)).trans (heap_new w _)
  have jb : w0.heap[w.heap.size + 1]? = some (.cells (hbs B) 26) := by rw [hw0]; exact heap_next w _ _
  go_wp2
  rw [← hw0]
  clear hw0
  have hkp : Hid (∀ W, Nw w0 W → W.heap[w.heap.size]? = some (.cells (hbs A) 26 (0, 0)) ∧ W.heap[w.heap.size + 1]? = some (.cells (hbs B) 26 (0, 0))) := fun W hW =>
    ⟨(hW.block _ (heap_lt ja) (fun f => f)).trans ja, (hW.block _ (heap_lt jb) (fun f => f)).trans jb⟩
  clear ja jb
  have nb : Nw w0 w0.drew := (Fr.refl _ _).drew
  refine wp_region_held_drew (S := fun W => W.heap[w.heap.size]? = some (.cells (hbs A) 26 (0, 0)) ∧ W.heap[w.heap.size + 1]? = some (.cells (hbs B) 26 (0, 0))) (by kernel_rfl) (hkp.out _ nb) ?_
  intro hS0
  refine wpAnyH_take (i := 0) (oi := ({ dst := some 5, op := Op.load 26 (Operand.tmp 2), type := 26, pos := "ref.go:29", after := #[], guard := none } : Oper)) (v := .agg (hbs A)) rfl (by kernel_rfl) (by kernel_rfl) (by kernel_rfl) (fun _ _ _ h => h) (yields_load_g (by rfl) (.tmp 2) 26 32 rfl Tryd.isAgg26 Tryd.sizeOf26 w.heap.size rfl 26 (hbs A) has (fun w hw => hw.1)) hS0 ?_
  try simp only [Act.put, List.setIfInBounds_toArray, List.set_cons_zero, List.set_cons_succ]
  refine wpAnyH_take (i := 3) (oi := ({ dst := some 8, op := Op.load 26 (Operand.tmp 3), type := 26, pos := "ref.go:29", after := #[], guard := none } : Oper)) (v := .agg (hbs B)) rfl (by kernel_rfl) (by kernel_rfl) (by kernel_rfl) (fun _ _ _ h => h) (yields_load_g (by rfl) (.tmp 3) 26 32 rfl Tryd.isAgg26 Tryd.sizeOf26 (w.heap.size + 1) rfl 26 (hbs B) hbs' (fun w hw => hw.2)) hS0 ?_
  try simp only [Act.put, List.setIfInBounds_toArray, List.set_cons_zero, List.set_cons_succ]
  refine wpAnyH_ready (rs := [1]) (by kernel_rfl) (by simp) ?_
  refine (AllReadyH.cons (o := ({ dst := some 6, op := Op.call { callee := Callee.value (Operand.func 75), args := #[Operand.tmp 5], argTypes := #[26] }, type := 9, pos := "ref.go:29", after := #[{ on := 0, ground := Ground.data }], guard := none } : Oper)) rfl (fun K' hK => ?_) AllReadyH.nil)
  go_simp
  go_wp2_with (go_at_call 75; refine (QT.out A _ (.inl rfl)).mono ?_; rintro ex w101 ⟨rfl, nw101⟩)
  have nb := nb.tr nw101
  refine hK.out _ _ (hkp.out _ nb) (fun hS0 => ?_)
  try simp only [Act.put, List.setIfInBounds_toArray, List.set_cons_zero, List.set_cons_succ]
  refine wpAnyH_take (i := 2) (oi := ({ dst := some 7, op := Op.binOp BinOp.add 9 (Operand.const (Value.string { data := #[1] })) (Operand.tmp 6) 9, type := 9, pos := "ref.go:29", after := #[{ on := 1, ground := Ground.data }], guard := none } : Oper)) (v := .string X1) rfl (by kernel_rfl) (by kernel_rfl) (by kernel_rfl) (fun _ _ _ h => h) (Or.inl ⟨by rfl, by intro w hw; go_simp⟩) hS0 ?_
  try simp only [Act.put, List.setIfInBounds_toArray, List.set_cons_zero, List.set_cons_succ]
  refine wpAnyH_ready (rs := [4]) (by kernel_rfl) (by simp) ?_
  refine (AllReadyH.cons (o := ({ dst := some 9, op := Op.call { callee := Callee.value (Operand.func 75), args := #[Operand.tmp 8], argTypes := #[26] }, type := 9, pos := "ref.go:29", after := #[{ on := 3, ground := Ground.data }, { on := 1, ground := Ground.chain }], guard := none } : Oper)) rfl (fun K' hK => ?_) AllReadyH.nil)
  go_simp
  go_wp2_with (go_at_call 75; refine (QT.out B _ (.inr rfl)).mono ?_; rintro ex w102 ⟨rfl, nw102⟩)
  have nb := nb.tr nw102
  refine hK.out _ _ (hkp.out _ nb) (fun hS0 => ?_)
  try simp only [Act.put, List.setIfInBounds_toArray, List.set_cons_zero, List.set_cons_succ]
  refine wpAnyH_take (i := 5) (oi := ({ dst := some 10, op := Op.binOp BinOp.add 9 (Operand.tmp 7) (Operand.tmp 9) 9, type := 9, pos := "ref.go:29", after := #[{ on := 2, ground := Ground.data }, { on := 4, ground := Ground.data }], guard := none } : Oper)) (v := .string X2) rfl (by kernel_rfl) (by kernel_rfl) (by kernel_rfl) (fun _ _ _ h => h) (Or.inl ⟨by rfl, by intro w hw; go_simp⟩) hS0 ?_
  try simp only [Act.put, List.setIfInBounds_toArray, List.set_cons_zero, List.set_cons_succ]
  refine wpAnyH_ready (rs := [6]) (by kernel_rfl) (by simp) ?_
  refine (AllReadyH.cons (o := ({ dst := some 4, op := Op.assign (Operand.tmp 10), type := 9, pos := "ref.go:29", after := #[{ on := 5, ground := Ground.data }, { on := 4, ground := Ground.chain }, { on := 0, ground := Ground.phase }, { on := 1, ground := Ground.phase }, { on := 2, ground := Ground.phase }, { on := 3, ground := Ground.phase }, { on := 4, ground := Ground.phase }, { on := 5, ground := Ground.phase }], guard := none } : Oper)) rfl (fun K' hK => ?_) AllReadyH.nil)
  go_simp
  refine hK.out _ _ (hkp.out _ nb) (fun hS0 => ?_)
  try simp only [Act.put, List.setIfInBounds_toArray, List.set_cons_zero, List.set_cons_succ]
  refine wpAnyH_done (by kernel_rfl) ?_ _
  go_wp2
  go_ret
  exact ⟨HX.out, n0.tr nb⟩
set_option maxRecDepth 100000 in
set_option maxHeartbeats 1000000 in
theorem refnode_any (A B : List UInt8) (hA : A.length = 32) (hB : B.length = 32) (w : World) :
    Calls Tryd.prog 33 #[.agg (hbs A), .agg (hbs B)] w fun e w' => e = .returned (.agg (hbs (Sh (1 :: (A ++ B))))) ∧ Nw w w' := by
  have q1 := fun W => nodetext_any A B hA hB W
  have q2 := fun W => refsum_any ⟨(1 :: (A ++ B)).toArray⟩ (by show (1 :: (A ++ B)).toArray.size ≤ _; simp [hA, hB]) W
  have e2 : (⟨(1 :: (A ++ B)).toArray⟩ : ByteArray).data.toList = 1 :: (A ++ B) := by simp
  rw [e2] at q2
  generalize (⟨(1 :: (A ++ B)).toArray⟩ : ByteArray) = X at q1 q2
  have HA : Hid (A.length = 32) := hA
  have HB : Hid (B.length = 32) := hB
  have has : (hbs A).size = 32 := by rw [hbs_size, hA]
  have hbs' : (hbs B).size = 32 := by rw [hbs_size, hB]
  clear hA hB
  have hRl : (hbs (Sh (1 :: (A ++ B)))).size = 32 := by rw [hbs_size, Sh_len]
  generalize Sh (1 :: (A ++ B)) = R at q2 hRl ⊢
  clear e2
  go_enter Tryd.func33, Tryd.ntmps33
  obtain ⟨w0, hw0⟩ : ∃ w0, w0 = ((w.alloc (.cells (hbs A) 26)).alloc (.cells (hbs B) 26)).alloc (.cells z32 26) := ⟨_, rfl⟩
  have n0 : Nw w w0 := by rw [hw0]; exact (((Fr.refl _ _).alloc _).alloc _).alloc _
  have ja : w0.heap[w.heap.size]? = some (.cells (hbs A) 26) := by rw [hw0]; exact (Below.heap_alloc _ _ _ (by simp; omega)).trans ((Below.heap_alloc _ _ _ (by simp)).trans (heap_new w _))
  have jb : w0.heap[w.heap.size + 1]? = some (.cells (hbs B) 26) := by rw [hw0]; exact (Below.heap_alloc _ _ _ (by simp)).trans (heap_next w _ _)
  have jz : w0.heap[w.heap.size + 1 + 1]? = some (.cells z32 26) := by
    rw [hw0]
    have := heap_next (w.alloc (.cells (hbs A) 26)) (.cells (hbs B) 26) (.cells z32 26)
    rw [World.size_alloc] at this
    exact this
  have ja' := ja
  have jb' := jb
  rw [hw0, ← z32_h] at ja' jb'
  go_wp2_with first
    | (refine wp_load_agg rfl (.tmp 2) 26 32 rfl Tryd.isAgg26 Tryd.sizeOf26 w.heap.size 0 rfl (hbs A) 26 (0, 0) ja' (hbs A) has (fun j _ => by rw [Nat.zero_add]) ?_)
    | (refine wp_load_agg rfl (.tmp 3) 26 32 rfl Tryd.isAgg26 Tryd.sizeOf26 (w.heap.size + 1) 0 rfl (hbs B) 26 (0, 0) jb' (hbs B) hbs' (fun j _ => by rw [Nat.zero_add]) ?_)
  rw [z32_h, ← hw0]
  clear ja' jb' hw0 ja jb
  refine (q1 _).mono ?_
  rintro e1 w1 ⟨rfl, n1⟩
  go_wp2_with fail
  refine (q2 _).mono ?_
  rintro e2 w2 ⟨rfl, n2⟩
  have nw2 : Nw w0 w2 := n1.tr n2
  have jz2 := (nw2.block _ (heap_lt jz) (fun f => f)).trans jz
  clear jz n1 n2 q1 q2
  go_wp2_with (refine wp_store_agg rfl (.tmp 4) (.tmp 8) 26 32 rfl Tryd.sizeOf26 (w.heap.size + 1 + 1) 0 rfl z32 26 jz2 (hbs R) rfl hRl (hbs_one _) (by decide) (hbs R) (by rw [z32_drop]; simp) ?_; intro w3 j3 f3 z3)
  exact bodyPost_ret (results_cell Tryd.results33 Tryd.isAgg26 Tryd.sizeOf26 rfl j3 hRl) rfl ⟨rfl, (n0.tr nw2).trans f3 (fun k hk q => by omega)⟩
end Go.Proofs.YtlaiomgebkeldaaDoor.Rf
