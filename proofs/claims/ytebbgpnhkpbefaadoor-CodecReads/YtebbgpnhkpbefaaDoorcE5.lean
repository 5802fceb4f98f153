/- The place of an error, and whether it is the one that is asked for. -/
import Derived.Test.YtebbgpnhkpbefaaDoorcE4
namespace Go.Proofs.YtebbgpnhkpbefaaDoor
open Go.RowKit
set_option linter.unusedVariables false
set_option linter.unusedSimpArgs false

theorem as_hit' (e t : Addr) (old : Value) (w : World) (hg : w.cell? ⟨17, 0, none⟩ = some (.iface 130 (.agg #[.pointer (some ⟨19, 26, none⟩)]))) (hlt : 17 < w.heap.size) (ht0 : w.cell? t = some old) (hf0 : w.frozen? t = false) (hsp : t.spot = none) :
    Calls Tryd.prog 66 #[.iface 64 (.pointer (some e)), .iface 106 (.pointer (some t))] w fun ev w' => ev = .returned (.bool true) ∧ w'.cell? t = some (.pointer (some e)) ∧ Fr (fun k => k = t.block) w w' := by
  refine (as_hit e t old w hg hlt ht0 hf0).mono ?_
  rintro ev w' ⟨rfl, rfl⟩
  have htl : t.block < w.heap.size := World.block_lt_of_cell? w t ht0
  refine ⟨rfl, ?_, (((((Fr.refl _ _).alloc _).alloc _).alloc _).alloc _).setCell _ _ (fun _ => rfl)⟩
  have hc : ((((w.alloc (.cells #[.pointer (some t)] 106)).alloc (.cells #[.pointer (some ⟨19, 106, none⟩), .pointer (some ⟨w.heap.size, 0, none⟩), .int .u64 150] 118)).alloc (.cells #[.pointer (some ⟨19, 106, none⟩), .pointer (some ⟨w.heap.size, 0, none⟩), .int .u64 150] 118)).alloc (.cells #[.pointer (some e)] 64)).cell? t = some old := by
    rw [World.cell?_alloc_lt _ _ t (by simp; omega), World.cell?_alloc_lt _ _ t (by simp; omega), World.cell?_alloc_lt _ _ t (by simp; omega), World.cell?_alloc_lt _ _ t htl]; exact ht0
  generalize ((((w.alloc (.cells #[.pointer (some t)] 106)).alloc (.cells #[.pointer (some ⟨19, 106, none⟩), .pointer (some ⟨w.heap.size, 0, none⟩), .int .u64 150] 118)).alloc (.cells #[.pointer (some ⟨19, 106, none⟩), .pointer (some ⟨w.heap.size, 0, none⟩), .int .u64 150] 118)).alloc (.cells #[.pointer (some e)] 64)) = W at hc
  obtain ⟨tb, to, ts⟩ := t
  simp only at hsp
  subst hsp
  unfold World.cell? at hc
  rcases hh : W.heap[tb]? with _ | o
  · rw [hh] at hc; cases hc
  · rw [hh] at hc
    cases o with
    | cells c ty fr =>
      rw [cell_of (heap_set hh _)]
      simp at hc
      rw [Array.getElem?_setIfInBounds]
      obtain ⟨hl, _⟩ := Array.getElem?_eq_some_iff.1 hc
      simp [hl]
    | _ => simp at hc

theorem at_nil (w : World) : Calls Tryd.prog 56 #[.nilIface] w fun e w' => e = .returned (.tuple #[.int .i64 0, .bool false]) ∧ Fr (fun _ => False) w w' := by
  go_enter Tryd.func56, Tryd.ntmps56
  go_wp2_with (go_at_call 66; refine (as_nil _ _).mono ?_; rintro e w2 ⟨rfl, rfl⟩)
  go_ret2
  exact ⟨rfl, (Fr.refl _ _).alloc _⟩
set_option maxHeartbeats 1000000 in
theorem at_sen {B : Nat} {w : World} {a : Nat → Addr} (hS : Sent B w a) (x : Addr) : Calls Tryd.prog 56 #[sen x] w fun e w' => e = .returned (.tuple #[.int .i64 0, .bool false]) ∧ Fr (fun _ => False) w w' := by
  have hfr : Fr (fun _ => False) w (w.alloc (.cells #[.pointer none] 64)) := (Fr.refl _ _).alloc _
  have hS1 := hS.fr hfr (fun _ _ f => f)
  have het := hS1.et
  have hlt : 17 < (w.alloc (.cells #[.pointer none] 64)).heap.size := by have := hS1.hB; have := hS1.hsz; omega
  have has := as_miss x ⟨w.heap.size, 0, none⟩ _ het hlt
  clear het hlt
  go_enter Tryd.func56, Tryd.ntmps56
  go_wp2_with (go_at_call 66; refine has.mono ?_; rintro e w2 ⟨rfl, hf2⟩)
  go_ret2
  exact ⟨rfl, hfr.trans hf2 (fun _ _ q => q)⟩
set_option maxHeartbeats 1000000 in
theorem at_flt {B : Nat} {w : World} {a : Nat → Addr} (hS : Sent B w a) (x : Addr) (pb : Nat) (q : Int) (hF : Flt w pb x q) : Calls Tryd.prog 56 #[.iface 64 (.pointer (some ⟨pb, 0, none⟩))] w fun e w' => e = .returned (.tuple #[.int .i64 q, .bool true]) ∧ Fr (fun _ => False) w w' := by
  have hpl : pb < w.heap.size := World.block_lt_of_cell? w ⟨pb, 0, none⟩ hF.1
  have hfr : Fr (fun _ => False) w (w.alloc (.cells #[.pointer none] 64)) := (Fr.refl _ _).alloc _
  have hS1 := hS.fr hfr (fun _ _ f => f)
  have het := hS1.et
  have hlt : 17 < (w.alloc (.cells #[.pointer none] 64)).heap.size := by have := hS1.hB; have := hS1.hsz; omega
  have hc1 := (hfr.cell (p := ⟨pb, 1, none⟩) hpl (fun f => f)).trans hF.2
  have has := as_hit' ⟨pb, 0, none⟩ ⟨w.heap.size, 0, none⟩ (.pointer none) _ het hlt (by simp) (by simp) rfl
  clear het hlt
  go_enter Tryd.func56, Tryd.ntmps56
  go_wp2_with (go_at_call 66; refine has.mono ?_; rintro e w2 ⟨rfl, hct, hf2⟩; have hc2 := (hf2.cell (p := ⟨pb, 1, none⟩) (by simp; omega) (by intro (hh : pb = w.heap.size); omega)).trans hc1)
  go_ret2
  exact ⟨rfl, hfr.trans (hf2.mono (S' := fun k => k = w.heap.size) (fun _ _ q => q)) (fun k hk q => by omega)⟩

theorem at_any {B : Nat} {w : World} {a : Nat → Addr} {v : Value} {code : Nat} {pl : Option Int} (hS : Sent B w a) (hv : EV w a v code pl) :
    Calls Tryd.prog 56 #[v] w fun e w' => e = .returned (.tuple #[.int .i64 (pl.getD 0), .bool pl.isSome]) ∧ Fr (fun _ => False) w w' := by
  rcases hv with ⟨rfl, _, rfl⟩ | ⟨i, hi, rfl, rfl, rfl⟩ | ⟨i, pb, q, hi, rfl, hF, rfl, rfl⟩
  · exact at_nil w
  · exact at_sen hS (a i)
  · exact at_flt hS (a i) pb q hF
theorem code_any {B : Nat} {w : World} {a : Nat → Addr} {v : Value} {code : Nat} {pl : Option Int} (hS : Sent B w a) (hv : EV w a v code pl) :
    Calls Tryd.prog 57 #[v] w fun e w' => e = .returned (.int .i64 code) ∧ Fr (fun _ => False) w w' := by
  have hv' := hv
  rcases hv with ⟨rfl, rfl, rfl⟩ | ⟨i, hi, rfl, rfl, rfl⟩ | ⟨i, pb, q, hi, rfl, hF, rfl, rfl⟩
  · exact code_nil w
  · exact code_some hS hv' (by omega) (by omega)
  · exact code_some hS hv' (by omega) (by omega)

/-- What Same answers of such an error. -/
def sameB (code : Nat) (pl : Option Int) (c p : Int) : Bool := if p = -1 then decide ((code : Int) = c) && decide (pl.getD 0 = 0) else if c = 0 then decide (code = 0) else decide ((code : Int) = c) && (pl.isSome && decide (pl.getD 0 = p))

set_option maxHeartbeats 1000000 in
theorem isE_any {B : Nat} {w : World} {a : Nat → Addr} {v : Value} {code : Nat} {pl : Option Int} (hS : Sent B w a) (hv : EV w a v code pl) (c : Int) :
    Calls Tryd.prog 32 #[v, .int .i64 c] w fun e w' => e = .returned (.bool (sameB code pl c (-1))) ∧ Fr (fun _ => False) w w' := by
  have hat := at_any hS hv
  obtain ⟨n, hn⟩ : ∃ n, n = pl.getD 0 := ⟨_, rfl⟩
  obtain ⟨o, ho⟩ : ∃ o, o = pl.isSome := ⟨_, rfl⟩
  have hno : o = false → n = 0 := by rw [hn, ho]; cases pl <;> simp
  have HS : Hid (sameB code pl c (-1) = (decide ((code : Int) = c) && decide (n = 0))) := by unfold Hid sameB; rw [if_pos rfl, hn]
  rw [← hn, ← ho] at hat
  clear hn ho
  have Hno : Hid (o = false → n = 0) := hno
  clear hno
  cases o
  all_goals
    by_cases hc : (code : Int) = c
    all_goals
      go_enter Tryd.func32, Tryd.ntmps32
      go_wp2_with (first
        | (go_at_call 56; refine hat.mono ?_; rintro e w2 ⟨rfl, hf2⟩; have hco := code_any (hS.fr hf2 (fun _ _ f => f)) (hv.fr hf2))
        | (go_at_call 57; refine hco.mono ?_; rintro e w3 ⟨rfl, hf3⟩))
      go_ret
      refine ⟨?_, hf2.trans hf3 (fun _ _ q => q)⟩
      rw [HS.out]
      first
        | (have h0 := Hno.out trivial; simp [hc, h0]; done)
        | (simp [hc]; done)
        | (simp [hc]; rw [Bool.eq_iff_iff]; simp)

/-- What IsAt answers of such an error. -/
def atB (code : Nat) (pl : Option Int) (c p : Int) : Bool := if c = 0 then decide (code = 0) else decide ((code : Int) = c) && (pl.isSome && decide (pl.getD 0 = p))
theorem sameB_at (code : Nat) (pl : Option Int) (c p : Int) (h : p ≠ -1) : sameB code pl c p = atB code pl c p := by unfold sameB atB; rw [if_neg h]
theorem EV.form {w : World} {a : Nat → Addr} {v : Value} {code : Nat} {pl : Option Int} (hv : EV w a v code pl) : (v = .nilIface ∧ code = 0) ∨ (∃ t u, v = .iface t u ∧ code ≠ 0) := by
  rcases hv with ⟨rfl, rfl, _⟩ | ⟨i, hi, rfl, rfl, rfl⟩ | ⟨i, pb, q, hi, rfl, hF, rfl, rfl⟩
  · exact .inl ⟨rfl, rfl⟩
  · exact .inr ⟨_, _, rfl, by omega⟩
  · exact .inr ⟨_, _, rfl, by omega⟩

set_option maxHeartbeats 1000000 in
theorem isAt_any {B : Nat} {w : World} {a : Nat → Addr} {v : Value} {code : Nat} {pl : Option Int} (hS : Sent B w a) (hv : EV w a v code pl) (c p : Int) :
    Calls Tryd.prog 33 #[v, .int .i64 c, .int .i64 p] w fun e w' => e = .returned (.bool (atB code pl c p)) ∧ Fr (fun _ => False) w w' := by
  by_cases hc0 : c = 0
  · subst hc0
    rcases hv.form with ⟨rfl, rfl⟩ | ⟨t, u, rfl, hne⟩
    all_goals
      go_enter Tryd.func33, Tryd.ntmps33
      go_wp2
      go_ret
      refine ⟨?_, Fr.refl _ _⟩
      first
        | rfl
        | (simp [atB, hne])
  · have hcode := code_any hS hv
    by_cases hc : (code : Int) = c
    · obtain ⟨n, hn⟩ : ∃ n, n = pl.getD 0 := ⟨_, rfl⟩
      obtain ⟨o, ho⟩ : ∃ o, o = pl.isSome := ⟨_, rfl⟩
      have HS : Hid (atB code pl c p = (o && decide (n = p))) := by unfold Hid atB; rw [if_neg hc0, hn, ho, decide_eq_true hc]; simp
      have HAT : Hid (∀ w2, Fr (fun _ => False) w w2 → Calls Tryd.prog 56 #[v] w2 fun e w' => e = .returned (.tuple #[.int .i64 n, .bool o]) ∧ Fr (fun _ => False) w2 w') := by
        intro w2 hf2; rw [hn, ho]; exact at_any (hS.fr hf2 (fun _ _ f => f)) (hv.fr hf2)
      clear hn ho
      cases o
      all_goals
        go_enter Tryd.func33, Tryd.ntmps33
        go_wp2_with (first
          | (go_at_call 57; refine hcode.mono ?_; rintro e w2 ⟨rfl, hf2⟩; have hat := HAT.out w2 hf2)
          | (go_at_call 56; refine hat.mono ?_; rintro e w3 ⟨rfl, hf3⟩))
        go_ret
        refine ⟨?_, hf2.trans hf3 (fun _ _ q => q)⟩
        rw [HS.out]
        first
          | rfl
          | (simp; done)
          | (simp; rw [Bool.eq_iff_iff]; simp)
    · have HS : Hid (atB code pl c p = false) := by unfold Hid atB; rw [if_neg hc0, decide_eq_false hc]; rfl
      have hne : (((code : Int)) != c) = true := by simp [hc]
      go_enter Tryd.func33, Tryd.ntmps33
      go_wp2_with (go_at_call 57; refine hcode.mono ?_; rintro e w2 ⟨rfl, hf2⟩)
      go_ret
      refine ⟨?_, hf2⟩
      rw [HS.out]
      first
        | rfl
        | (simp; done)
        | (simp [hc0])

set_option maxHeartbeats 1000000 in
theorem same_any {B : Nat} {w : World} {a : Nat → Addr} {v : Value} {code : Nat} {pl : Option Int} (hS : Sent B w a) (hv : EV w a v code pl) (c p : Int) :
    Calls Tryd.prog 13 #[v, .agg #[.int .i64 c, .int .i64 p]] w fun e w' => e = .returned (.bool (sameB code pl c p)) ∧ Fr (fun _ => False) w w' := by
  have hfr : Fr (fun _ => False) w (w.alloc (.cells #[.int .i64 c, .int .i64 p] 32)) := (Fr.refl _ _).alloc _
  have hS1 := hS.fr hfr (fun _ _ f => f)
  have hv1 := hv.fr hfr
  by_cases hp : p = -1
  · subst hp
    have h1 := isE_any hS1 hv1 c
    clear hS1 hv1
    go_enter Tryd.func13, Tryd.ntmps13
    go_wp2_with (go_at_call 32; refine h1.mono ?_; rintro e w2 ⟨rfl, hf2⟩)
    go_ret
    exact ⟨rfl, hfr.trans hf2 (fun _ _ q => q)⟩
  · have h1 := isAt_any hS1 hv1 c p
    rw [sameB_at code pl c p hp]
    clear hS1 hv1
    go_enter Tryd.func13, Tryd.ntmps13
    go_wp2_with (go_at_call 33; refine h1.mono ?_; rintro e w2 ⟨rfl, hf2⟩)
    go_ret
    exact ⟨rfl, hfr.trans hf2 (fun _ _ q => q)⟩

theorem placed_any (c p : Int) (w : World) : Calls Tryd.prog 30 #[.int .i64 c, .int .i64 p] w fun e w' => e = .returned (.agg #[.int .i64 c, .int .i64 p]) ∧ Fr (fun _ => False) w w' := by
  go_enter Tryd.func30, Tryd.ntmps30
  go_wp2
  exact bodyPost_ret (v := .agg #[.int .i64 c, .int .i64 p]) (by simp [results, Tryd.results30, go_sem]) rfl ⟨rfl, (Fr.refl _ _).alloc _⟩
theorem plain_any (c : Int) (w : World) (h : c ≠ 0) : Calls Tryd.prog 8 #[.int .i64 c] w fun e w' => e = .returned (.agg #[.int .i64 c, .int .i64 (-1)]) ∧ Fr (fun _ => False) w w' := by
  go_enter Tryd.func8, Tryd.ntmps8
  go_wp2
  exact bodyPost_ret (v := .agg #[.int .i64 c, .int .i64 (-1)]) (by simp [results, Tryd.results8, go_sem]) rfl ⟨rfl, (Fr.refl _ _).alloc _⟩

theorem lawAt_any {B : Nat} {w : World} {a : Nat → Addr} {v : Value} {code : Nat} {pl : Option Int} (hS : Sent B w a) (hv : EV w a v code pl) (c p : Int) :
    Calls Tryd.prog 40 #[v, .int .i64 c, .int .i64 p] w fun e w' => e = .returned (.bool (sameB code pl c p)) ∧ Fr (fun _ => False) w w' := by
  go_enter Tryd.func40, Tryd.ntmps40
  go_wp2_with (first
    | (go_at_call 30; refine (placed_any c p _).mono ?_; rintro e w2 ⟨rfl, hf2⟩; have h1 := same_any (hS.fr hf2 (fun _ _ f => f)) (hv.fr hf2) c p)
    | (go_at_call 13; refine h1.mono ?_; rintro e w3 ⟨rfl, hf3⟩))
  go_ret
  exact ⟨rfl, hf2.trans hf3 (fun _ _ q => q)⟩
theorem lawIs_any {B : Nat} {w : World} {a : Nat → Addr} {v : Value} {code : Nat} {pl : Option Int} (hS : Sent B w a) (hv : EV w a v code pl) (c : Int) (hc : c ≠ 0) :
    Calls Tryd.prog 39 #[v, .int .i64 c] w fun e w' => e = .returned (.bool (sameB code pl c (-1))) ∧ Fr (fun _ => False) w w' := by
  go_enter Tryd.func39, Tryd.ntmps39
  go_wp2_with (first
    | (go_at_call 8; refine (plain_any c _ hc).mono ?_; rintro e w2 ⟨rfl, hf2⟩; have h1 := same_any (hS.fr hf2 (fun _ _ f => f)) (hv.fr hf2) c (-1))
    | (go_at_call 13; refine h1.mono ?_; rintro e w3 ⟨rfl, hf3⟩))
  go_ret
  exact ⟨rfl, hf2.trans hf3 (fun _ _ q => q)⟩
end Go.Proofs.YtebbgpnhkpbefaaDoor
