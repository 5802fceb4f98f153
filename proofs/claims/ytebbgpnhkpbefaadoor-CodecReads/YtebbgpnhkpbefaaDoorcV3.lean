/- The form of a thing; putting a thing to a writer that is not there, or that nobody made. -/
import Derived.Test.YtebbgpnhkpbefaaDoorcV2
namespace Go.Proofs.YtebbgpnhkpbefaaDoor
open Go.RowKit
set_option linter.unusedVariables false
set_option linter.unusedSimpArgs false

/-- Such a writer: there says false, now and behind whatever leaves what there is. -/
def Nt (w : World) (rp : Option Addr) : Prop := ∀ w1, Fr (fun _ => False) w w1 → Calls Tryd.prog 58 #[.pointer rp] w1 fun e w' => e = .returned (.bool false) ∧ w' = w1
theorem Nt.nil (w : World) : Nt w none := fun w1 _ => there_nil w1
theorem there_un (b : Nat) (w : World) (h0 : w.cell? ⟨b, 0, none⟩ = some (.bool false)) : Calls Tryd.prog 58 #[.pointer (some ⟨b, 0, none⟩)] w fun e w' => e = .returned (.bool false) ∧ w' = w := by
  go_enter Tryd.func58, Tryd.ntmps58
  go_wp2
  go_ret
  exact ⟨rfl, rfl⟩
theorem Nt.un {w : World} {b : Nat} (h : w.cell? ⟨b, 0, none⟩ = some (.bool false)) : Nt w (some ⟨b, 0, none⟩) := fun w1 f1 =>
  there_un b w1 ((f1.cell (p := ⟨b, 0, none⟩) (World.block_lt_of_cell? w ⟨b, 0, none⟩ h) (fun f => f)).trans h)
theorem Nt.fr {w w1 : World} {rp : Option Addr} (h : Nt w rp) (hf : Fr (fun _ => False) w w1) : Nt w1 rp := fun w2 f2 => h w2 (hf.trans f2 (fun _ _ q => q))

theorem nfixed {w : World} {rp : Option Addr} {x : Addr} (h : Nt w rp) (n wd : Int) (hc : w.cell? ⟨0, 0, none⟩ = some (sen x)) : Calls Tryd.prog 36 #[.pointer rp, .int .u64 n, .int .i64 wd] w fun e w' => e = .returned (sen x) ∧ w' = w := by
  have ht := h w (Fr.refl _ _)
  go_enter Tryd.func36, Tryd.ntmps36
  go_wp2_with (go_at_call 58; refine ht.mono ?_; rintro e w' ⟨rfl, rfl⟩)
  go_ret
  exact ⟨rfl, rfl⟩
theorem nvar {w : World} {rp : Option Addr} (h : Nt w rp) (n : Int) : Calls Tryd.prog 35 #[.pointer rp, .int .u64 n] w fun e w' => e = .returned (.tuple #[]) ∧ w' = w := by
  have ht := h w (Fr.refl _ _)
  go_enter Tryd.func35, Tryd.ntmps35
  go_wp2_with (go_at_call 58; refine ht.mono ?_; rintro e w' ⟨rfl, rfl⟩)
  refine bodyPost_ret (results_none rfl _ _ _) rfl ?_
  exact ⟨rfl, rfl⟩
theorem ntext {w : World} {rp : Option Addr} (h : Nt w rp) (s : ByteArray) : Calls Tryd.prog 37 #[.pointer rp, .string s] w fun e w' => e = .returned (.tuple #[]) ∧ w' = w := by
  have ht := h w (Fr.refl _ _)
  go_enter Tryd.func37, Tryd.ntmps37
  go_wp2_with (go_at_call 58; refine ht.mono ?_; rintro e w' ⟨rfl, rfl⟩)
  refine bodyPost_ret (results_none rfl _ _ _) rfl ?_
  exact ⟨rfl, rfl⟩
theorem ndone {w : World} {rp : Option Addr} (h : Nt w rp) : Calls Tryd.prog 38 #[.pointer rp] w fun e w' => e = .returned (.string ⟨#[]⟩) ∧ w' = w := by
  have ht := h w (Fr.refl _ _)
  go_enter Tryd.func38, Tryd.ntmps38
  go_wp2_with (go_at_call 58; refine ht.mono ?_; rintro e w' ⟨rfl, rfl⟩)
  go_ret
  exact ⟨rfl, rfl⟩

/-- The form and the fault of a thing, by the document. -/
def foR (kd n wd : Int) (t : ByteArray) (lh : List UInt8) : Value := match fmT kd n wd t lh with
  | some F => .tuple #[.string ⟨F.toArray⟩, .agg #[.int .i64 0, .int .i64 0]]
  | none => .tuple #[.string ⟨#[]⟩, .agg #[.int .i64 2, .int .i64 (-1)]]

/-- Where form keeps its result: the thing's block, the fault's block. -/
theorem two_blocks (w : World) (A : Array Value) : ∃ W, W = (w.alloc (.cells A 40)).alloc (.cells #[.int .i64 0, .int .i64 0] 32) ∧ W.heap[w.heap.size]? = some (.cells A 40 (0, 0)) ∧ W.heap[w.heap.size + 1]? = some (.cells #[.int .i64 0, .int .i64 0] 32 (0, 0)) ∧ Fr (fun _ => False) w W := by
  refine ⟨_, rfl, (Below.heap_alloc _ _ _ (by simp)).trans (heap_alloc_new w _), ?_, ((Fr.refl _ _).alloc _).alloc _⟩
  have := heap_alloc_new (w.alloc (.cells A 40)) (.cells #[.int .i64 0, .int .i64 0] 32)
  simpa using this

end Go.Proofs.YtebbgpnhkpbefaaDoor
