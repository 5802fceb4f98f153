/- A Book that keeps rows of hashes: marks. -/
import Derived.Test.YtbkhdnceblgljaaGreatDoorHq
namespace Go.Proofs.YtbkhdnceblgljaaGreatDoor
namespace HB
open Go.RowKit
set_option linter.unusedVariables false
set_option linter.unusedSimpArgs false

/-- The mark of a number. -/
def mk (m : Nat) : List UInt8 := UInt8.ofNat m :: UInt8.ofNat (m / 256) :: UInt8.ofNat (m / 65536) :: (List.replicate 28 0 ++ [201])
theorem mk_len (m : Nat) : (mk m).length = 32 := by simp [mk]
theorem u8c (m : Nat) : Value.int .u8 ((m : Int) % 256) = .int .u8 ((UInt8.ofNat m).toNat : Nat) := by
  rw [UInt8.toNat_ofNat']; simp
theorem mk_lit (m : Nat) : (#[.int .u8 ((m : Int) % 256), .int .u8 ((m : Int) / 256 % 256), .int .u8 ((m : Int) / 65536 % 256), .int .u8 0, .int .u8 0, .int .u8 0, .int .u8 0, .int .u8 0, .int .u8 0, .int .u8 0, .int .u8 0, .int .u8 0, .int .u8 0, .int .u8 0, .int .u8 0, .int .u8 0, .int .u8 0, .int .u8 0, .int .u8 0, .int .u8 0, .int .u8 0, .int .u8 0, .int .u8 0, .int .u8 0, .int .u8 0, .int .u8 0, .int .u8 0, .int .u8 0, .int .u8 0, .int .u8 0, .int .u8 0, .int .u8 201] : Array Value) = hbs (mk m) := by
  have e1 : ((m : Int) / 256) = ((m / 256 : Nat) : Int) := by omega
  have e2 : ((m : Int) / 65536) = ((m / 65536 : Nat) : Int) := by omega
  rw [e1, e2, u8c, u8c, u8c]
  rfl
set_option maxRecDepth 100000 in
set_option maxHeartbeats 1000000 in
theorem mark_any (m : Nat) (hm : m < 9223372036854775807) (w : World) : Calls Tryz.prog 47 #[.int .i64 (m : Int)] w fun e w' => e = .returned (.agg (hbs (mk m))) ∧ Nw w w' := by
  have hs : (hbs (mk m)).size = 32 := by rw [hbs_size, mk_len]
  have hl := mk_lit m
  have HL : Hid _ := hl
  clear hl
  go_enter Tryz.func47, Tryz.ntmps47
  go_wp2_with (refine wp_store_agg rfl (.tmp 2) (.tmp 11) 42 32 rfl Tryz.sizeOf42 w.heap.size 0 rfl _ 42 (heap_new _ _) (hbs (mk m)) (congrArg Value.agg HL.out) hs (hbs_one _) (by decide) (hbs (mk m)) (by simp) ?_; intro w3 j3 f3 _)
  exact bodyPost_ret (results_cell Tryz.results47 Tryz.isAgg42 Tryz.sizeOf42 rfl j3 hs) rfl ⟨rfl, (nwa w _).trans f3 (fun k hk q => by omega)⟩
/-- A hash literal that is not written out, where the order is the text's. -/
theorem wpl_lit {w : World} {ops : Array Oper} {rest : List Oper} {o : Oper} {a : Act} {Q : Exit → Act → World → Prop} (hwant : Region.wanted o (yielded ops a.tmps) = true) (v : Value) (hr : (execOp a.eval o).run Tryz.prog w = .ok (.value v) w)
    (h : wpList Tryz.prog ops Q rest (a.put o.dst v) w) : wpList Tryz.prog ops Q (o :: rest) a w := by
  refine wpList_step fun K hK => ?_
  rw [if_pos hwant]
  unfold Oper.wp
  rw [hr]
  exact hK _ _ h
theorem wpl_eqm {w : World} {ops : Array Oper} {rest : List Oper} {o : Oper} {a : Act} {Q : Exit → Act → World → Prop} (hwant : Region.wanted o (yielded ops a.tmps) = true) (x y : Operand) (ho : o.op = .binOp .eql 42 x y 42) (A : List UInt8) (hA : A.length = 32) (V : Array Value) (hV : V = hbs A) (hx : a.eval x = .agg (hbs A)) (hy : a.eval y = .agg V)
    (h : wpList Tryz.prog ops Q rest (a.put o.dst (.bool true)) w) : wpList Tryz.prog ops Q (o :: rest) a w := wpl_eql hwant x y ho A hA hx (by rw [hy, hV]) h
end HB
end Go.Proofs.YtbkhdnceblgljaaGreatDoor
