/- A Book that keeps rows of hashes: marks. -/
import Derived.Test.YtlaiomgebkeldaaGreatDoorHq
namespace Go.Proofs.YtlaiomgebkeldaaGreatDoor
namespace HB
open Go.RowKit
set_option linter.unusedVariables false
set_option linter.unusedSimpArgs false

/-- The mark of a number. -/
def mk (m : Nat) : List UInt8 := UInt8.ofNat m :: UInt8.ofNat (m / 256) :: UInt8.ofNat (m / 65536) :: (List.replicate 28 0 ++ [201])
theorem mk_len (m : Nat) : (mk m).length = 32 := by simp [mk]
theorem u8c (m : Nat) : Value.int .u8 ((m : Int) % 256) = .int .u8 ((UInt8.ofNat m).toNat : Nat) := by
  rw [UInt8.toNat_ofNat']; simp
theorem mk_lit (m : Nat) : (#[.int .u8 ((m : Int) % 256), .int .u8 ((m : Int) / 256 % 256), .int .u8 ((m : Int) / 65536 % 256), .int .u8 0, .int .u8 0, .int .u8 0, .int .u8 0, .int .u8 0, .int .u8 0, .int .u8 0, .int .u8 0, .int .u8 0, .int .u8 0, .int .u8 0, .int .u8 0, .int .u8 0, .int .u8 0, .int .u8 0, .int .u8 0, .int .u8 0, .int .u8 0, .int .u8 0, .int .u8 0, .int .u8 0, .int .u8 0, .int .u8 0, .int .u8 0, .int .u8 0, .int .u8 0, .int .u8 0, .int .u8 0, .int .u8 201] : Array Value) = hbs (mk m) := by
  have e1 : ((m : Int) / 256) = ((m / 256 : Nat) : Int) := by omega
  have e2 : ((m : Int) / 65536) = ((m / 65536 : Nat) : Int) := by omega
  rw [e1, e2, u8c, u8c, u8c]
  rfl
set_option maxRecDepth 100000 in
set_option maxHeartbeats 1000000 in
theorem mark_any (m : Nat) (hm : m < 9223372036854775807) (w : World) : Calls Tryz.prog 118 #[.int .i64 (m : Int)] w fun e w' => e = .returned (.agg (hbs (mk m))) ∧ Nw w w' := by
  have hs : (hbs (mk m)).size = 32 := by rw [hbs_size, mk_len]
  have hl := mk_lit m
  have HL : Hid _ := hl
  clear hl
  go_enter Tryz.func118, Tryz.ntmps118
  go_wp2_with (refine wp_store_agg rfl (.tmp 2) (.tmp 11) 99 32 rfl Tryz.sizeOf99 w.heap.size 0 rfl _ 99 (heap_new _ _) (hbs (mk m)) (congrArg Value.agg HL.out) hs (hbs_one _) (by decide) (hbs (mk m)) (by simp) ?_; intro w3 j3 f3 _)
  exact bodyPost_ret (results_cell Tryz.results118 Tryz.isAgg99 Tryz.sizeOf99 rfl j3 hs) rfl ⟨rfl, (nwa w _).trans f3 (fun k hk q => by omega)⟩
/-- A hash literal that is not written out, where the order is the text's. -/
theorem wpl_lit {w : World} {ops : Array Oper} {rest : List Oper} {o : Oper} {a : Act} {Q : Exit → Act → World → Prop} (hwant : Region.wanted o (yielded ops a.tmps) = true) (v : Value) (hr : (execOp a.eval o).run Tryz.prog w = .ok (.value v) w)
    (h : wpList Tryz.prog ops Q rest (a.put o.dst v) w) : wpList Tryz.prog ops Q (o :: rest) a w := by
  refine wpList_step fun K hK => ?_
  rw [if_pos hwant]
  unfold Oper.wp
  rw [hr]
  exact hK _ _ h
theorem wpl_eqm {w : World} {ops : Array Oper} {rest : List Oper} {o : Oper} {a : Act} {Q : Exit → Act → World → Prop} (hwant : Region.wanted o (yielded ops a.tmps) = true) (x y : Operand) (ho : o.op = .binOp .eql 99 x y 99) (A : List UInt8) (hA : A.length = 32) (V : Array Value) (hV : V = hbs A) (hx : a.eval x = .agg (hbs A)) (hy : a.eval y = .agg V)
    (h : wpList Tryz.prog ops Q rest (a.put o.dst (.bool true)) w) : wpList Tryz.prog ops Q (o :: rest) a w := wpl_eql hwant x y ho A hA hx (by rw [hy, hV]) h
set_option maxRecDepth 100000 in
set_option maxHeartbeats 1000000 in
theorem is_any (m : Nat) (hm : m < 9223372036854775807) (w : World) : Calls Tryz.prog 133 #[.agg (hbs (mk m)), .int .i64 (m : Int)] w fun e w' => e = .returned (.bool true) ∧ Nw w w' := by
  have hs : (hbs (mk m)).size = 32 := by rw [hbs_size, mk_len]
  have HL : Hid _ := mk_lit m
  have HM := show Hid _ from mk_len m
  have e0 : (w.alloc (.cells (hbs (mk m)) 99)).heap[w.heap.size]? = some (.cells (hbs (mk m)) 99) := heap_new _ _
  have E0 : Hid (∀ j, j < 32 → (w.alloc (.cells (hbs (mk m)) 99)).cell? ⟨w.heap.size, 0 + j, none⟩ = (hbs (mk m))[j]?) := hash_cells e0
  clear e0
  go_enter Tryz.func133, Tryz.ntmps133
  go_wp2_with first
    | (refine wpl_load rfl (.tmp 2) rfl w.heap.size 0 rfl (mk m) HM.out E0.out ?_)
    | (refine wpl_eqm rfl (.tmp 5) (.tmp 14) rfl (mk m) HM.out _ HL.out rfl rfl ?_)
  go_ret
  exact ⟨rfl, nwa w _⟩
end HB
end Go.Proofs.YtlaiomgebkeldaaGreatDoor
