/- The place of an error, and whether it is the one that is asked for. -/
import Derived.Test.YthkkjpefealdgaaDoorE4
namespace Go.Proofs.YthkkjpefealdgaaDoor
open Go.RowKit
set_option linter.unusedVariables false
set_option linter.unusedSimpArgs false

theorem as_hit' (e t : Addr) (old : Value) (w : World) (hg : w.cell? ⟨17, 0, none⟩ = some (.iface 121 (.agg #[.pointer (some ⟨19, 34, none⟩)]))) (hlt : 17 < w.heap.size) (ht0 : w.cell? t = some old) (hf0 : w.frozen? t = false) (hsp : t.spot = none) :
    Calls Tryd.prog 43 #[.iface 85 (.pointer (some e)), .iface 87 (.pointer (some t))] w fun ev w' => ev = .returned (.bool true) ∧ w'.cell? t = some (.pointer (some e)) ∧ Fr (fun k => k = t.block) w w' := by
  refine (as_hit e t old w hg hlt ht0 hf0).mono ?_
  rintro ev w' ⟨rfl, rfl⟩
  have htl : t.block < w.heap.size := World.block_lt_of_cell? w t ht0
  refine ⟨rfl, ?_, (((((Fr.refl _ _).alloc _).alloc _).alloc _).alloc _).setCell _ _ (fun _ => rfl)⟩
  have hc : ((((w.alloc (.cells #[.pointer (some t)] 87)).alloc (.cells #[.pointer (some ⟨19, 87, none⟩), .pointer (some ⟨w.heap.size, 0, none⟩), .int .u64 150] 103)).alloc (.cells #[.pointer (some ⟨19, 87, none⟩), .pointer (some ⟨w.heap.size, 0, none⟩), .int .u64 150] 103)).alloc (.cells #[.pointer (some e)] 85)).cell? t = some old := by
    rw [World.cell?_alloc_lt _ _ t (by simp; omega), World.cell?_alloc_lt _ _ t (by simp; omega), World.cell?_alloc_lt _ _ t (by simp; omega), World.cell?_alloc_lt _ _ t htl]; exact ht0
  generalize ((((w.alloc (.cells #[.pointer (some t)] 87)).alloc (.cells #[.pointer (some ⟨19, 87, none⟩), .pointer (some ⟨w.heap.size, 0, none⟩), .int .u64 150] 103)).alloc (.cells #[.pointer (some ⟨19, 87, none⟩), .pointer (some ⟨w.heap.size, 0, none⟩), .int .u64 150] 103)).alloc (.cells #[.pointer (some e)] 85)) = W at hc
  obtain ⟨tb, to, ts⟩ := t
  simp only at hsp
  subst hsp
  unfold World.cell? at hc
  rcases hh : W.heap[tb]? with _ | o
  · rw [hh] at hc; cases hc
  · rw [hh] at hc
    cases o with
    | cells c ty fr =>
      rw [cell_of (heap_set hh _)]
      simp at hc
      rw [Array.getElem?_setIfInBounds]
      obtain ⟨hl, _⟩ := Array.getElem?_eq_some_iff.1 hc
      simp [hl]
    | _ => simp at hc

theorem at_nil (w : World) : Calls Tryd.prog 32 #[.nilIface] w fun e w' => e = .returned (.tuple #[.int .i64 0, .bool false]) ∧ Fr (fun _ => False) w w' := by
  go_enter Tryd.func32, Tryd.ntmps32
  go_wp2_with (go_at_call 43; refine (as_nil _ _).mono ?_; rintro e w2 ⟨rfl, rfl⟩)
  go_ret2
  exact ⟨rfl, (Fr.refl _ _).alloc _⟩
set_option maxHeartbeats 1000000 in
theorem at_sen {B : Nat} {w : World} {a : Nat → Addr} (hS : Sent B w a) (x : Addr) : Calls Tryd.prog 32 #[sen x] w fun e w' => e = .returned (.tuple #[.int .i64 0, .bool false]) ∧ Fr (fun _ => False) w w' := by
  have hfr : Fr (fun _ => False) w (w.alloc (.cells #[.pointer none] 85)) := (Fr.refl _ _).alloc _
  have hS1 := hS.fr hfr (fun _ _ f => f)
  have het := hS1.et
  have hlt : 17 < (w.alloc (.cells #[.pointer none] 85)).heap.size := by have := hS1.hB; have := hS1.hsz; omega
  have has := as_miss x ⟨w.heap.size, 0, none⟩ _ het hlt
  clear het hlt
  go_enter Tryd.func32, Tryd.ntmps32
  go_wp2_with (go_at_call 43; refine has.mono ?_; rintro e w2 ⟨rfl, hf2⟩)
  go_ret2
  exact ⟨rfl, hfr.trans hf2 (fun _ _ q => q)⟩
set_option maxHeartbeats 1000000 in
theorem at_flt {B : Nat} {w : World} {a : Nat → Addr} (hS : Sent B w a) (x : Addr) (pb : Nat) (q : Int) (hF : Flt w pb x q) : Calls Tryd.prog 32 #[.iface 85 (.pointer (some ⟨pb, 0, none⟩))] w fun e w' => e = .returned (.tuple #[.int .i64 q, .bool true]) ∧ Fr (fun _ => False) w w' := by
  have hpl : pb < w.heap.size := World.block_lt_of_cell? w ⟨pb, 0, none⟩ hF.1
  have hfr : Fr (fun _ => False) w (w.alloc (.cells #[.pointer none] 85)) := (Fr.refl _ _).alloc _
  have hS1 := hS.fr hfr (fun _ _ f => f)
  have het := hS1.et
  have hlt : 17 < (w.alloc (.cells #[.pointer none] 85)).heap.size := by have := hS1.hB; have := hS1.hsz; omega
  have hc1 := (hfr.cell (p := ⟨pb, 1, none⟩) hpl (fun f => f)).trans hF.2
  have has := as_hit' ⟨pb, 0, none⟩ ⟨w.heap.size, 0, none⟩ (.pointer none) _ het hlt (by simp) (by simp) rfl
  clear het hlt
  go_enter Tryd.func32, Tryd.ntmps32
  go_wp2_with (go_at_call 43; refine has.mono ?_; rintro e w2 ⟨rfl, hct, hf2⟩; have hc2 := (hf2.cell (p := ⟨pb, 1, none⟩) (by simp; omega) (by intro (hh : pb = w.heap.size); omega)).trans hc1)
  go_ret2
  exact ⟨rfl, hfr.trans (hf2.mono (S' := fun k => k = w.heap.size) (fun _ _ q => q)) (fun k hk q => by omega)⟩

theorem at_any {B : Nat} {w : World} {a : Nat → Addr} {v : Value} {code : Nat} {pl : Option Int} (hS : Sent B w a) (hv : EV w a v code pl) :
    Calls Tryd.prog 32 #[v] w fun e w' => e = .returned (.tuple #[.int .i64 (pl.getD 0), .bool pl.isSome]) ∧ Fr (fun _ => False) w w' := by
  rcases hv with ⟨rfl, _, rfl⟩ | ⟨i, hi, rfl, rfl, rfl⟩ | ⟨i, pb, q, hi, rfl, hF, rfl, rfl⟩
  · exact at_nil w
  · exact at_sen hS (a i)
  · exact at_flt hS (a i) pb q hF
theorem code_any {B : Nat} {w : World} {a : Nat → Addr} {v : Value} {code : Nat} {pl : Option Int} (hS : Sent B w a) (hv : EV w a v code pl) :
    Calls Tryd.prog 33 #[v] w fun e w' => e = .returned (.int .i64 code) ∧ Fr (fun _ => False) w w' := by
  have hv' := hv
  rcases hv with ⟨rfl, rfl, rfl⟩ | ⟨i, hi, rfl, rfl, rfl⟩ | ⟨i, pb, q, hi, rfl, hF, rfl, rfl⟩
  · exact code_nil w
  · exact code_some hS hv' (by omega) (by omega)
  · exact code_some hS hv' (by omega) (by omega)

/-- What Same answers of such an error. -/
def sameB (code : Nat) (pl : Option Int) (c p : Int) : Bool := if p = -1 then decide ((code : Int) = c) && decide (pl.getD 0 = 0) else if c = 0 then decide (code = 0) else decide ((code : Int) = c) && (pl.isSome && decide (pl.getD 0 = p))

/-- What IsAt answers of such an error. -/
def atB (code : Nat) (pl : Option Int) (c p : Int) : Bool := if c = 0 then decide (code = 0) else decide ((code : Int) = c) && (pl.isSome && decide (pl.getD 0 = p))
theorem sameB_at (code : Nat) (pl : Option Int) (c p : Int) (h : p ≠ -1) : sameB code pl c p = atB code pl c p := by unfold sameB atB; rw [if_neg h]
theorem EV.form {w : World} {a : Nat → Addr} {v : Value} {code : Nat} {pl : Option Int} (hv : EV w a v code pl) : (v = .nilIface ∧ code = 0) ∨ (∃ t u, v = .iface t u ∧ code ≠ 0) := by
  rcases hv with ⟨rfl, rfl, _⟩ | ⟨i, hi, rfl, rfl, rfl⟩ | ⟨i, pb, q, hi, rfl, hF, rfl, rfl⟩
  · exact .inl ⟨rfl, rfl⟩
  · exact .inr ⟨_, _, rfl, by omega⟩
  · exact .inr ⟨_, _, rfl, by omega⟩

end Go.Proofs.YthkkjpefealdgaaDoor
