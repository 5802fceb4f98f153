/- store: Put. -/
import Derived.Test.YtdckjmbellngiaaDoorFf
namespace Go.Proofs.YtdckjmbellngiaaDoor
open Go.RowKit Go.Maps
set_option linter.unusedVariables false
set_option linter.unusedSimpArgs false
/-- Whether a store is dead behind its write number k. -/
def dies (cr k : Int) : Bool := cr == k || cr == -k
noncomputable def wrT (M : Tx) (s t : ByteArray) (cr k : Int) : Tx := if cr = k then M else putT M s t
def putV (a : Nat → Addr) (cr k : Int) : Value := if dies cr k then sen (a 7) else .nilIface
theorem Sr.set4 {w wx : World} {b bm n : Nat} {M : Tx} {p : Option Addr} {c : Nat} {zs : List Int} {cr rn wn : Int} {dd : Bool} (h : Sr w b bm n M p c zs cr rn wn dd) (k : Int) (hx : wx = w.setCell ⟨b, 4, none⟩ (.int .i64 k)) : Sr wx b bm n M p c zs cr rn k dd ∧ Fr (fun j => j = b) w wx := by
  subst hx
  have F : Fr (fun k => k = b) w (w.setCell ⟨b, 4, none⟩ (.int .i64 k)) := (Fr.refl _ w).setCell _ _ (fun _ => rfl)
  exact ⟨⟨(heap_set h.blk _).trans rfl, h.mp.fr F h.nb, h.rd.fr F (fun g o e => (h.ne g o e).1), h.ne, h.nb⟩, F⟩
theorem Sr.set5 {w wx : World} {b bm n : Nat} {M : Tx} {p : Option Addr} {c : Nat} {zs : List Int} {cr rn wn : Int} {dd : Bool} (h : Sr w b bm n M p c zs cr rn wn dd) (k : Bool) (hx : wx = w.setCell ⟨b, 5, none⟩ (.bool k)) : Sr wx b bm n M p c zs cr rn wn k ∧ Fr (fun j => j = b) w wx := by
  subst hx
  have F : Fr (fun k => k = b) w (w.setCell ⟨b, 5, none⟩ (.bool k)) := (Fr.refl _ w).setCell _ _ (fun _ => rfl)
  exact ⟨⟨(heap_set h.blk _).trans rfl, h.mp.fr F h.nb, h.rd.fr F (fun g o e => (h.ne g o e).1), h.ne, h.nb⟩, F⟩
theorem Sr.drewN {w : World} {b bm n : Nat} {M : Tx} {p : Option Addr} {c : Nat} {zs : List Int} {cr rn wn : Int} {dd : Bool} (h : Sr w b bm n M p c zs cr rn wn dd) (k : Nat) : Sr (w.drewN k) b bm n M p c zs cr rn wn dd := h.nw ((Fr.refl _ _).drewN _)
set_option maxRecDepth 100000 in
set_option maxHeartbeats 4000000 in
theorem sput_any {w : World} {b bm n : Nat} {M : Tx} {p : Option Addr} {c : Nat} {zs : List Int} {cr rn wn : Int} (h : Sr w b bm n M p c zs cr rn wn false) (s t : ByteArray) (hs : okN s) (ht : t.size ≤ 281474976710656) {B : Nat} {a : Nat → Addr} (hS : Sent B w a) (hn : n < 4611686018427387904) (hr0 : 0 ≤ wn) (hr1 : wn < 4611686018427387904) (hB : B ≤ b) (hBm : B ≤ bm) :
    Calls Tryd.prog 7 #[.pointer (some ⟨b, 0, none⟩), .string s, .string t] w fun e w' => e = .returned (putV a cr (wn + 1)) ∧ Sr w' b bm (n + 1) (wrT M s t cr (wn + 1)) p c zs cr rn (wn + 1) (dies cr (wn + 1)) ∧ Fr (fun k => k = b ∨ k = bm) w w' := by
  have q := srefuse_any h.blk s hS
  rw [rfs_ok hs] at q
  obtain ⟨c0, c1, c2, c3, c4, c5⟩ := stc_cs h.blk
  have lb := heap_lt h.blk
  have f4 := frozen_of h.blk 4
  have g5 := frozen_of h.blk 5
  obtain ⟨wx, hwx⟩ : ∃ wx, wx = w.setCell ⟨b, 4, none⟩ (.int .i64 (wn + 1)) := ⟨_, rfl⟩
  obtain ⟨S1, F⟩ := h.set4 (wn + 1) hwx
  have hS1 := hS.fr F (fun k hk e => by omega)
  obtain ⟨x0, _, x2, _, x4, x5⟩ := stc_cs S1.blk
  have lx := heap_lt S1.blk
  have HS1 : Hid (Sr wx b bm n M p c zs cr rn (wn + 1) false) := S1
  have HF : Hid (Fr (fun k => k = b) w wx) := F
  have HE : Hid (Sent B wx a) := hS1
  have hb1 := hS.hsz
  have g7 := hS.c7
  have hz7 : ¬ 0 = b := by have := hS.hB; omega
  have hz7' : ¬ b = 0 := fun e => hz7 e.symm
  clear h hS hS1 S1 F
  by_cases hc : cr = wn + 1
  · have hd : dies cr (wn + 1) = true := by simp [dies, hc]
    have HM : Hid (wrT M s t cr (wn + 1) = M) := by show _ = _; rw [wrT, if_pos hc]
    have HV : Hid (putV a cr (wn + 1) = sen (a 7)) := by show _ = _; rw [putV, hd]; rfl
    rw [hd, HM.out, HV.out]
    have f5 := frozen_of HS1.out.blk 5
    obtain ⟨wy, hwy⟩ : ∃ wy, wy = wx.setCell ⟨b, 5, none⟩ (.bool true) := ⟨_, rfl⟩
    obtain ⟨S2, F2⟩ := HS1.out.set5 true hwy
    have y5 := (stc_cs S2.blk).2.2.2.2.2
    have ly := heap_lt S2.blk
    have HR : Hid (Sr wy b bm (n + 1) M p c zs cr rn (wn + 1) true ∧ Fr (fun k => k = b ∨ k = bm) w wy) := by
      refine ⟨⟨S2.blk, ?_, S2.rd, S2.ne, S2.nb⟩, (HF.out.trans F2 (fun _ _ e => e)).mono (fun _ _ e => .inl e)⟩
      obtain ⟨D, h1, h2⟩ := S2.mp
      exact ⟨D, h1.mono (by omega), h2⟩
    clear hd HM S2 F2 y5 ly
    subst hc
    go_enter Tryd.func7, Tryd.ntmps7
    go_wp2_with fail
    refine q.mono ?_
    rintro e w1 ⟨rfl, rfl⟩
    go_wp2
    rw [← hwx, ← hwy]
    go_ret
    exact ⟨rfl, HR.out⟩
  · have HM : Hid (wrT M s t cr (wn + 1) = putT M s t) := by show _ = _; rw [wrT, if_neg hc]
    rw [HM.out]
    have qs := fun W => clone_any s W (by have := hs.2; omega)
    have qt := fun W => clone_any t W ht
    obtain ⟨k, hk⟩ : ∃ k, k = wn + 1 := ⟨_, rfl⟩
    have Hk : Hid (k = wn + 1) := hk
    have HP : Hid (∀ W, Nw wx W → ∃ W', (Instr.mapUpdate 28 (.map (some bm)) (.string s) (.agg #[.string t])).run Tryd.prog W = .ok () W' ∧ Sr W' b bm (n + 1) (putT M s t) p c zs cr rn (wn + 1) false ∧ Fr (fun k => k = bm) wx W') := by
      intro W nW
      have S2 := HS1.out.nw nW
      obtain ⟨W', r1, r2, r3⟩ := S2.mp.put s t hs.2 ht hn
      have r4 : Fr (fun k => k = bm) wx W' := Fr.trans (nW.mono (fun _ _ q => q.elim)) r3 (fun _ _ e => e)
      exact ⟨W', r1, ⟨(r3.block _ (heap_lt S2.blk) (fun e => S2.nb e.symm)).trans S2.blk, r2, S2.rd.fr r3 (fun g o e => (S2.ne g o e).2), S2.ne, S2.nb⟩, r4⟩
    go_enter Tryd.func7, Tryd.ntmps7
    go_wp2_with fail
    refine q.mono ?_
    rintro e w1 ⟨rfl, rfl⟩
    have hne : ¬ cr = wn + 1 := hc
    go_wp2_with fail
    rw [← hwx]
    have e7 := HE.out.c7
    clear hwx c0 c1 c2 c3 c4 c5 lb f4 g5 q g7 hk x5 hb1
    go_region_with (first
      | (go_at_call 21; refine (qs _).mono ?_; rintro e w2 ⟨rfl, n2⟩; have N2 : Hid (Nw wx w2) := Nw.tr ((Fr.refl _ wx).drew) n2; have y0 := N2.out.cellOf x0; clear n2 qs)
      | (go_at_call 21; refine (qt _).mono ?_; rintro e w3 ⟨rfl, n3⟩; have z0 := n3.cellOf y0; have N3 : Hid (Nw wx w3) := N2.out.tr n3; obtain ⟨W', r1, r2⟩ := HP.out w3 N3.out; have R2 : Hid (Sr W' b bm (n + 1) (putT M s t) p c zs cr rn (wn + 1) false ∧ Fr (fun k => k = bm) wx W') := r2; clear n3 r2 HP))
    all_goals
      obtain ⟨S5, F5⟩ := R2.out
      obtain ⟨u0, _, u2, _, u4, u5⟩ := stc_cs S5.blk
      have lu := heap_lt S5.blk
      have v5 := frozen_of S5.blk 5
      have g7 := (HE.out.fr F5 (fun k hk e => by omega)).c7
      have HS5 : Hid (Sr W' b bm (n + 1) (putT M s t) p c zs cr rn (wn + 1) false) := S5
      have HF5 : Hid (Fr (fun k => k = b ∨ k = bm) w1 W') := (HF.out.mono (fun _ _ e => .inl e)).trans F5 (fun _ _ e => .inr e)
      clear S5 F5 R2 r1 e7 x0 x2 x4
      by_cases hcn : cr = -(wn + 1)
      · have b1 : (cr == wn + 1) = false := by simpa using hc
        have b2 : (cr == -(wn + 1)) = true := by simpa using hcn
        have hd : dies cr (wn + 1) = true := by simp [dies, hcn]
        have HV : Hid (putV a cr (wn + 1) = sen (a 7)) := by show _ = _; rw [putV, hd]; rfl
        have HD : Hid (dies cr (wn + 1) = true) := hd
        clear hd
        go_wp2
        go_ret
        obtain ⟨A1, A2⟩ := HS5.out.set5 true rfl
        exact ⟨by rw [HV.out]; rfl, by rw [HD.out]; exact A1, HF5.out.trans A2 (fun _ _ e => .inl e)⟩
      · have b1 : (cr == wn + 1) = false := by simpa using hc
        have b2 : (cr == -(wn + 1)) = false := by simpa using hcn
        have hd : dies cr (wn + 1) = false := by simp [dies, hc, hcn]
        have HV : Hid (putV a cr (wn + 1) = .nilIface) := by show _ = _; rw [putV, hd]; rfl
        have HD : Hid (dies cr (wn + 1) = false) := hd
        clear hd
        go_wp2
        go_ret
        obtain ⟨A1, A2⟩ := HS5.out.set5 false rfl
        exact ⟨by rw [HV.out]; rfl, by rw [HD.out]; exact A1, HF5.out.trans A2 (fun _ _ e => .inl e)⟩
end Go.Proofs.YtdckjmbellngiaaDoor
