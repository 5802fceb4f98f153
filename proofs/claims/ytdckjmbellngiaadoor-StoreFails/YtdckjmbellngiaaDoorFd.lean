/- store: what Restart refuses; New; Counts, Dead, what is refused of a store that is there; which reads fail. -/
import Derived.Test.YtdckjmbellngiaaDoorFc
namespace Go.Proofs.YtdckjmbellngiaaDoor
open Go.RowKit Go.Maps
set_option linter.unusedVariables false
set_option linter.unusedSimpArgs false
theorem heap_3 (w : World) (o p q : Obj) : (((w.alloc o).alloc p).alloc q).heap[w.heap.size + 2]? = some q := by
  have := heap_alloc_new ((w.alloc o).alloc p) q
  rw [World.size_alloc, World.size_alloc] at this
  exact this
set_option maxRecDepth 100000 in
set_option maxHeartbeats 2000000 in
theorem srestart_bad {w : World} {b bm : Nat} {rv : Value} {cr rn wn : Int} {dd : Bool} (h : w.heap[b]? = some (stc (.map (some bm)) rv cr rn wn dd)) (p : Option Addr) (c : Nat) (zs : List Int) (crash : Int) (hz : Iz w p zs) (hl : zs.length ≤ 1099511627776) (hok : okR 0 zs = false) {B : Nat} {a : Nat → Addr} (hS : Sent B w a) :
    Calls Tryd.prog 8 #[.pointer (some ⟨b, 0, none⟩), .agg #[.slice p zs.length c, .int .i64 crash]] w fun e w' => e = .returned (sen (a 1)) ∧ Nw w w' := by
  have n0 : Nw w (w.alloc (.cells #[.slice p zs.length c, .int .i64 crash] 24)) := (Fr.refl _ w).alloc _
  have q := sthere_any (b := b) ((n0.block _ (heap_lt h) (fun f => f)).trans h)
  have q2 := fun (W : World) (hW : Iz W p zs) => smay_any (w := W) p c zs (.int .i64 crash) hW (by omega)
  rw [hok] at q2
  have HZ : Hid (Iz w p zs) := hz
  have HC : Hid (w.cell? ⟨2, 0, none⟩ = some (sen (a 1))) := hS.c1
  clear h hok hz hS
  obtain ⟨n, hn⟩ : ∃ n, n = zs.length := ⟨_, rfl⟩
  rw [← hn] at hl q2 n0 q ⊢
  clear hn
  go_enter Tryd.func8, Tryd.ntmps8
  go_wp2_with fail
  refine q.mono ?_
  rintro e w1 ⟨rfl, h1⟩
  have N1 : Hid (Nw w w1) := by show Nw _ _; rw [h1]; exact n0
  have a0 : w1.cell? ⟨w.heap.size, 0, none⟩ = some (.slice p n c) := by rw [h1]; exact (cell_of (heap_new _ _) 0).trans rfl
  have a1 : w1.cell? ⟨w.heap.size, 1, none⟩ = some (.int .i64 crash) := by rw [h1]; exact (cell_of (heap_new _ _) 1).trans rfl
  have l1 : w.heap.size < w1.heap.size := by rw [h1]; simp
  clear h1 n0 q
  go_wp2_with fail
  refine (q2 w1 (HZ.out.nw N1.out)).mono ?_
  rintro e w2 ⟨rfl, n2⟩
  have N2 : Hid (Nw w w2) := N1.out.tr n2
  have e1 := N2.out.cellOf HC.out
  clear a0 a1 n2 l1 q2
  go_wp2
  go_ret
  exact ⟨rfl, N2.out⟩
set_option maxRecDepth 100000 in
set_option maxHeartbeats 2000000 in
theorem snew_any {w : World} (p : Option Addr) (c : Nat) (zs : List Int) (crash : Int) (hz : Iz w p zs) (hl : zs.length ≤ 1099511627776) (hok : okR 0 zs = true) :
    Calls Tryd.prog 14 #[.agg #[.slice p zs.length c, .int .i64 crash]] w fun e w' => ∃ b bm g, e = .returned (.tuple #[.pointer (some ⟨b, 0, none⟩), .nilIface]) ∧ w.heap.size ≤ b ∧ w.heap.size ≤ bm ∧ w.heap.size ≤ g ∧ Sr w' b bm 0 (fun _ => none) (some ⟨g, 0, none⟩) zs.length zs crash 0 0 false ∧ Nw w w' := by
  have hmm := @run_makeMap Tryd.prog
  have q := fun (W : World) (b bm : Nat) (h : W.heap[b]? = some (stc (.map (some bm)) (.slice none 0 0) 0 0 0 false)) (hW : Iz W p zs) => srestart_any h p c zs crash hW hl hok
  have HZ : Hid (Iz w p zs) := hz
  clear hz hok
  go_enter Tryd.func14, Tryd.ntmps14
  go_wp2_with fail
  refine (q _ (w.heap.size + 2) (w.heap.size + 1) ?_ ?_).mono ?_
  · exact (heap_3 _ _ _ _).trans rfl
  · exact HZ.out.nw ((((Fr.refl _ w).alloc _).alloc _).alloc _)
  rintro e w1 ⟨rfl, ⟨g, hg, hb, hi⟩, f1⟩
  have n3 : Nw w (((w.alloc (.cells #[.slice p zs.length c, .int .i64 crash] 24)).alloc (.map #[] 0)).alloc (stc (.map (some (w.heap.size + 1))) (.slice none 0 0) 0 0 0 false)) := (((Fr.refl _ w).alloc _).alloc _).alloc _
  have HN : Hid (Nw w w1) := n3.trans f1 (fun j hj e => by omega)
  have HS : Hid (Sr w1 (w.heap.size + 2) (w.heap.size + 1) 0 (fun _ => none) (some ⟨g, 0, none⟩) zs.length zs crash 0 0 false) := by
    refine ⟨hb, ?_, hi, fun g' o' e => ?_, by omega⟩
    · have := Mp.made (w.alloc (.cells #[.slice p zs.length c, .int .i64 crash] 24))
      rw [show (w.alloc (.cells #[.slice p zs.length c, .int .i64 crash] 24)).heap.size = w.heap.size + 1 by simp] at this
      exact (this.fr ((Fr.refl (fun _ => False) _).alloc _) (fun q => q)).fr f1 (by omega)
    · cases e
      simp at hg
      omega
  have hg' : w.heap.size ≤ g := by simp at hg; omega
  clear q hb hi f1 n3 hg
  go_wp2
  go_ret2
  exact ⟨_, _, g, rfl, by omega, by omega, hg', HS.out, HN.out⟩
set_option maxRecDepth 100000 in
set_option maxHeartbeats 2000000 in
theorem snew_bad {w : World} (p : Option Addr) (c : Nat) (zs : List Int) (crash : Int) (hz : Iz w p zs) (hl : zs.length ≤ 1099511627776) (hok : okR 0 zs = false) {B : Nat} {a : Nat → Addr} (hS : Sent B w a) :
    Calls Tryd.prog 14 #[.agg #[.slice p zs.length c, .int .i64 crash]] w fun e w' => e = .returned (.tuple #[.pointer none, sen (a 1)]) ∧ Nw w w' := by
  have hmm := @run_makeMap Tryd.prog
  have q := fun (W : World) (b bm : Nat) (h : W.heap[b]? = some (stc (.map (some bm)) (.slice none 0 0) 0 0 0 false)) (hW : Iz W p zs) (hS : Sent B W a) => srestart_bad h p c zs crash hW hl hok hS
  have HZ : Hid (Iz w p zs) := hz
  have HS : Hid (Sent B w a) := hS
  clear hz hok hS
  go_enter Tryd.func14, Tryd.ntmps14
  go_wp2_with fail
  refine (q _ (w.heap.size + 2) (w.heap.size + 1) ?_ ?_ ?_).mono ?_
  · exact (heap_3 _ _ _ _).trans rfl
  · exact HZ.out.nw ((((Fr.refl _ w).alloc _).alloc _).alloc _)
  · exact HS.out.fr ((((Fr.refl (fun _ => False) w).alloc _).alloc _).alloc _) (fun _ _ f => f)
  rintro e w1 ⟨rfl, f1⟩
  have HN : Hid (Nw w w1) := Nw.tr ((((Fr.refl _ w).alloc _).alloc _).alloc _) f1
  clear q f1
  go_wp2
  go_ret2
  exact ⟨rfl, HN.out⟩
theorem scounts_any {w : World} {b bm : Nat} {rv : Value} {cr rn wn : Int} {dd : Bool} (h : w.heap[b]? = some (stc (.map (some bm)) rv cr rn wn dd)) :
    Calls Tryd.prog 10 #[.pointer (some ⟨b, 0, none⟩)] w fun e w' => e = .returned (.tuple #[.int .i64 rn, .int .i64 wn]) ∧ Nw w w' := by
  have q := sthere_any h
  obtain ⟨_, _, _, c3, c4, _⟩ := stc_cs h
  have lb := heap_lt h
  clear h
  go_enter Tryd.func10, Tryd.ntmps10
  go_wp2_with fail
  refine q.mono ?_
  rintro e w1 ⟨rfl, rfl⟩
  go_wp2_with fail
  go_quiet (fail)
  go_wp2
  go_ret2
  exact ⟨rfl, (Fr.refl _ _).drewN _⟩
set_option maxRecDepth 100000 in
theorem sdead_any {w : World} {b bm : Nat} {rv : Value} {cr rn wn : Int} {dd : Bool} (h : w.heap[b]? = some (stc (.map (some bm)) rv cr rn wn dd)) :
    Calls Tryd.prog 11 #[.pointer (some ⟨b, 0, none⟩)] w fun e w' => e = .returned (.bool dd) ∧ w' = w := by
  have q := sthere_any h
  obtain ⟨_, _, _, _, _, c5⟩ := stc_cs h
  have lb := heap_lt h
  clear h
  go_enter Tryd.func11, Tryd.ntmps11
  go_wp2_with fail
  refine q.mono ?_
  rintro e w1 ⟨rfl, rfl⟩
  go_wp2
  go_ret
  exact ⟨rfl, rfl⟩
/-- A name that may be. -/
abbrev okN (s : ByteArray) : Prop := 1 ≤ s.size ∧ s.size ≤ 256
/-- What is refused of a store that is there. -/
noncomputable def rfs (a : Nat → Addr) (s : ByteArray) (dd : Bool) : Value := by
  classical exact if okN s then (if dd then sen (a 7) else .nilIface) else sen (a 1)
set_option maxRecDepth 100000 in
theorem srefuse_any {w : World} {b bm : Nat} {rv : Value} {cr rn wn : Int} {dd : Bool} (h : w.heap[b]? = some (stc (.map (some bm)) rv cr rn wn dd)) (s : ByteArray) {B : Nat} {a : Nat → Addr} (hS : Sent B w a) :
    Calls Tryd.prog 20 #[.pointer (some ⟨b, 0, none⟩), .string s] w fun e w' => e = .returned (rfs a s dd) ∧ w' = w := by
  have q := sthere_any h
  obtain ⟨_, _, _, _, _, c5⟩ := stc_cs h
  have lb := heap_lt h
  have e1 := hS.c1
  have e7 := hS.c7
  clear h hS
  by_cases h1 : (s.size : Int) < 1
  · have e : Hid (rfs a s dd = sen (a 1)) := by show _ = _; rw [rfs, if_neg]; omega
    go_enter Tryd.func20, Tryd.ntmps20
    go_wp2_with fail
    refine q.mono ?_
    rintro e w1 ⟨rfl, rfl⟩
    go_wp2
    go_ret
    exact ⟨by rw [e.out]; rfl, rfl⟩
  · by_cases h2 : (256 : Int) < s.size
    · have e : Hid (rfs a s dd = sen (a 1)) := by show _ = _; rw [rfs, if_neg]; omega
      go_enter Tryd.func20, Tryd.ntmps20
      go_wp2_with fail
      refine q.mono ?_
      rintro e w1 ⟨rfl, rfl⟩
      go_wp2
      go_ret
      exact ⟨by rw [e.out]; rfl, rfl⟩
    · have e : Hid (rfs a s dd = (if dd then sen (a 7) else .nilIface)) := by show _ = _; rw [rfs, if_pos]; omega
      cases dd
      all_goals
        go_enter Tryd.func20, Tryd.ntmps20
        go_wp2_with fail
        refine q.mono ?_
        rintro e w1 ⟨rfl, rfl⟩
        go_wp2
        go_ret
        exact ⟨by rw [e.out]; rfl, rfl⟩
end Go.Proofs.YtdckjmbellngiaaDoor
