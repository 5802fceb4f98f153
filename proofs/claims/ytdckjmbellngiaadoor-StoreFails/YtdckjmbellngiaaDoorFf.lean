/- store: Put, Get. -/
import Derived.Test.YtdckjmbellngiaaDoorFe
import Derived.Deep.DeepCutAuto
namespace Go.Proofs.YtdckjmbellngiaaDoor
open Go.RowKit Go.Maps
set_option linter.unusedVariables false
set_option linter.unusedSimpArgs false
theorem rfs_ok {a : Nat → Addr} {s : ByteArray} (h : okN s) : rfs a s false = .nilIface := by rw [rfs, if_pos h]; rfl
theorem rfs_dead {a : Nat → Addr} {s : ByteArray} (h : okN s) : rfs a s true = sen (a 7) := by rw [rfs, if_pos h]; rfl
theorem rfs_arg {a : Nat → Addr} {s : ByteArray} {dd : Bool} (h : ¬ okN s) : rfs a s dd = sen (a 1) := by rw [rfs, if_neg h]
theorem sput_ref {w : World} {b bm : Nat} {rv : Value} {cr rn wn : Int} {dd : Bool} (h : w.heap[b]? = some (stc (.map (some bm)) rv cr rn wn dd)) (s t : ByteArray) {B : Nat} {a : Nat → Addr} (hS : Sent B w a) {x : Addr} (hr : rfs a s dd = sen x) :
    Calls Tryd.prog 7 #[.pointer (some ⟨b, 0, none⟩), .string s, .string t] w fun e w' => e = .returned (sen x) ∧ w' = w := by
  have q := srefuse_any h s hS
  rw [hr] at q
  clear h hS hr
  go_enter Tryd.func7, Tryd.ntmps7
  go_wp2_with fail
  refine q.mono ?_
  rintro e w1 ⟨rfl, rfl⟩
  go_wp2
  go_ret
  exact ⟨rfl, rfl⟩
theorem sget_ref {w : World} {b bm : Nat} {rv : Value} {cr rn wn : Int} {dd : Bool} (h : w.heap[b]? = some (stc (.map (some bm)) rv cr rn wn dd)) (s : ByteArray) {B : Nat} {a : Nat → Addr} (hS : Sent B w a) {x : Addr} (hr : rfs a s dd = sen x) :
    Calls Tryd.prog 9 #[.pointer (some ⟨b, 0, none⟩), .string s] w fun e w' => e = .returned (.tuple #[.string ⟨#[]⟩, sen x]) ∧ w' = w := by
  have q := srefuse_any h s hS
  rw [hr] at q
  clear h hS hr
  go_enter Tryd.func9, Tryd.ntmps9
  go_wp2_with fail
  refine q.mono ?_
  rintro e w1 ⟨rfl, rfl⟩
  go_wp2
  go_ret2
  exact ⟨rfl, rfl⟩
/-- What a read answers. -/
def getV (a : Nat → Addr) (zs : List Int) (rn : Int) (o : Option ByteArray) : Value :=
  if rn + 1 ∈ zs then .tuple #[.string ⟨#[]⟩, sen (a 6)] else match o with
    | some t => .tuple #[.string t, .nilIface]
    | none => .tuple #[.string ⟨#[]⟩, sen (a 5)]
set_option maxRecDepth 100000 in
set_option maxHeartbeats 2000000 in
theorem sget_any {w : World} {b bm n : Nat} {M : Tx} {p : Option Addr} {c : Nat} {zs : List Int} {cr rn wn : Int} (h : Sr w b bm n M p c zs cr rn wn false) (s : ByteArray) (hs : okN s) {B : Nat} {a : Nat → Addr} (hS : Sent B w a) (hl : zs.length ≤ 1099511627776) (hok : okR 0 zs = true) (hr0 : 0 ≤ rn) (hr1 : rn < 4611686018427387904) (hB : B ≤ b) :
    Calls Tryd.prog 9 #[.pointer (some ⟨b, 0, none⟩), .string s] w fun e w' => e = .returned (getV a zs rn (M s)) ∧ Sr w' b bm n M p c zs cr (rn + 1) wn false ∧ Fr (fun k => k = b) w w' := by
  have q := srefuse_any h.blk s hS
  rw [rfs_ok hs] at q
  obtain ⟨c0, c1, c2, c3, c4, c5⟩ := stc_cs h.blk
  have lb := heap_lt h.blk
  have f3 := frozen_of h.blk 3
  -- behind the count
  obtain ⟨wx, hwx⟩ : ∃ wx, wx = w.setCell ⟨b, 3, none⟩ (.int .i64 (rn + 1)) := ⟨_, rfl⟩
  have F : Fr (fun k => k = b) w wx := by rw [hwx]; exact (Fr.refl _ w).setCell _ _ (fun _ => rfl)
  have S1 : Sr wx b bm n M p c zs cr (rn + 1) wn false := by
    refine ⟨?_, h.mp.fr F h.nb, h.rd.fr F (fun g o e => (h.ne g o e).1), h.ne, h.nb⟩
    rw [hwx]
    exact (heap_set h.blk _).trans rfl
  have e5 := (hS.fr F (fun k hk e => by omega)).c5
  have e6 := (hS.fr F (fun k hk e => by omega)).c6
  have HF : Hid (Fr (fun k => k = b) w wx) := F
  have q2 := sfails_any S1.blk S1.rd hl hok (rn + 1)
  have HS1 : Hid (Sr wx b bm n M p c zs cr (rn + 1) wn false) := S1
  have x3 := (stc_cs S1.blk).2.2.2.1
  have lx := heap_lt S1.blk
  have HL := fun (W : World) (hW : Mp W bm n M) => hW.look s hs.2
  have HQ := fun (W : World) (t : ByteArray) (ht : t.size ≤ 281474976710656) => clone_any t W ht
  obtain ⟨vv, hv⟩ : ∃ vv, vv = getV a zs rn (M s) := ⟨_, rfl⟩
  have HV : Hid (vv = getV a zs rn (M s)) := hv
  rw [← hv]
  clear h hS hv F S1 hok
  go_enter Tryd.func9, Tryd.ntmps9
  go_wp2_with fail
  refine q.mono ?_
  rintro e w1 ⟨rfl, rfl⟩
  go_wp2_with fail
  rw [← hwx]
  clear hwx
  by_cases hin : rn + 1 ∈ zs
  · rw [decide_eq_true hin] at q2
    have HI : Hid (vv = .tuple #[.string ⟨#[]⟩, sen (a 6)]) := by show _ = _; rw [HV.out]; unfold getV; rw [if_pos hin]
    refine q2.mono ?_
    rintro e w2 ⟨rfl, n2⟩
    have d6 := n2.cellOf e6
    have HN : Hid (Nw wx w2) := n2
    clear n2 e6 e5 HL HQ q2 hin
    go_wp2_with fail
    go_quiet (fail)
    go_wp2
    go_ret2
    exact ⟨by rw [HI.out]; rfl, (HS1.out.nw HN.out).nw ((Fr.refl _ _).drewN _), ((HF.out.trans HN.out (fun _ _ q => q.elim))).drewN _⟩
  · rw [decide_eq_false hin] at q2
    have HI : Hid (vv = match M s with | some t => .tuple #[.string t, .nilIface] | none => .tuple #[.string ⟨#[]⟩, sen (a 5)]) := by show _ = _; rw [HV.out]; unfold getV; rw [if_neg hin]
    refine q2.mono ?_
    rintro e w2 ⟨rfl, n2⟩
    have S2 := HS1.out.nw n2
    have d5 := n2.cellOf e5
    have ld5 := World.block_lt_of_cell? w2 _ d5
    simp only at ld5
    have y0 := (stc_cs S2.blk).1
    have l2 := heap_lt S2.blk
    obtain ⟨hlk, hsz⟩ := HL w2 S2.mp
    have HN : Hid (Nw wx w2) := n2
    have HS2 : Hid (Sr w2 b bm n M p c zs cr (rn + 1) wn false) := S2
    clear n2 e6 e5 HL q2 hin S2
    cases hM : M s with
    | none =>
      rw [hM] at hlk hsz HI
      have HI2 : Hid (vv = .tuple #[.string ⟨#[]⟩, sen (a 5)]) := HI.out
      simp only [Option.getD_none, Option.isSome_none, e0t] at hlk
      clear HI HQ hM HV
      go_wp2_with fail
      go_quiet (fail)
      go_wp2
      go_ret2
      exact ⟨by rw [HI2.out]; rfl, (HS2.out.nw (nwA _ _)).nw ((Fr.refl _ _).drewN _), ((HF.out.trans HN.out (fun _ _ q => q.elim)).alloc _).drewN _⟩
    | some t =>
      rw [hM] at hlk hsz HI
      have HI2 : Hid (vv = .tuple #[.string t, .nilIface]) := HI.out
      simp only [Option.getD_some, Option.isSome_some] at hlk hsz
      have q4 := fun W => HQ W t hsz
      clear HI hM HV HQ
      go_wp2_with fail
      refine (q4 _).mono ?_
      rintro e w4 ⟨rfl, n4⟩
      have HN4 : Hid (Nw w2 w4) := (nwA _ _).tr n4
      clear n4 q4
      go_wp2
      go_ret2
      exact ⟨by rw [HI2.out]; rfl, HS2.out.nw HN4.out, (HF.out.trans HN.out (fun _ _ q => q.elim)).trans HN4.out (fun _ _ q => q.elim)⟩
end Go.Proofs.YtdckjmbellngiaaDoor
