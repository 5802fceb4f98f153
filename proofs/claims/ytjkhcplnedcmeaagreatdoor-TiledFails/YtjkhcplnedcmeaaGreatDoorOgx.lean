/- reader: a reader in memory; there, Counts, read. -/
import Derived.Test.YtjkhcplnedcmeaaGreatDoorFgx
import Derived.Test.YtjkhcplnedcmeaaGreatDoorVg
import Derived.Test.YtjkhcplnedcmeaaGreatDoorWgx
import Derived.Test.YtjkhcplnedcmeaaGreatDoorUgx
import Derived.Test.YtjkhcplnedcmeaaGreatDoorGHq
namespace Go.Proofs.YtjkhcplnedcmeaaGreatDoor
open Go.RowKit
set_option linter.unusedVariables false
set_option linter.unusedSimpArgs false
/-- A reader's cells. -/
abbrev rdo (st tl : Value) (x y : Int) : Obj := .cells #[st, tl, .int .i64 x, .int .i64 y] 132
theorem rdo_cs {w : World} {b : Nat} {st tl : Value} {x y : Int} (h : w.heap[b]? = some (rdo st tl x y)) : w.cell? ⟨b, 0, none⟩ = some st ∧ w.cell? ⟨b, 1, none⟩ = some tl ∧ w.cell? ⟨b, 2, none⟩ = some (.int .i64 x) ∧ w.cell? ⟨b, 3, none⟩ = some (.int .i64 y) :=
  ⟨(cell_of h 0).trans rfl, (cell_of h 1).trans rfl, (cell_of h 2).trans rfl, (cell_of h 3).trans rfl⟩
/-- A reader that is not there, or that no call made. -/
def NoR (w : World) (p : Value) : Prop := p = .pointer none ∨ ∃ b st x y, p = .pointer (some ⟨b, 0, none⟩) ∧ w.heap[b]? = some (rdo st (.pointer none) x y)
theorem NoR.nw {w w' : World} {p : Value} (h : NoR w p) (n : Nw w w') : NoR w' p := by
  rcases h with h | ⟨b, st, x, y, h, hb⟩
  · exact .inl h
  · exact .inr ⟨b, st, x, y, h, (n.block _ (heap_lt hb) (fun f => f)).trans hb⟩
theorem rthere_no {w : World} {p : Value} (h : NoR w p) : Calls Tryz.prog 59 #[p] w fun e w' => e = .returned (.bool false) ∧ w' = w := by
  rcases h with rfl | ⟨b, st, x, y, rfl, hb⟩
  · go_enter Tryz.func59, Tryz.ntmps59
    go_wp2
    go_ret
    exact ⟨rfl, rfl⟩
  · obtain ⟨_, c1, _, _⟩ := rdo_cs hb
    have lb := heap_lt hb
    clear hb
    go_enter Tryz.func59, Tryz.ntmps59
    go_wp2
    go_ret
    exact ⟨rfl, rfl⟩
theorem rthere_any {w : World} {b cb : Nat} {st : Value} {x y : Int} (h : w.heap[b]? = some (rdo st (.pointer (some ⟨cb, 0, none⟩)) x y)) : Calls Tryz.prog 59 #[.pointer (some ⟨b, 0, none⟩)] w fun e w' => e = .returned (.bool true) ∧ w' = w := by
  obtain ⟨_, c1, _, _⟩ := rdo_cs h
  have lb := heap_lt h
  clear h
  go_enter Tryz.func59, Tryz.ntmps59
  go_wp2
  go_ret
  exact ⟨rfl, rfl⟩
set_option maxRecDepth 100000 in
theorem is_none (x : Addr) (w : World) : Calls Tryz.prog 102 #[.nilIface, sen x] w fun e w' => e = .returned (.bool false) ∧ w' = w := by
  have h0 : ∀ w : World, (binOp .eql 34 .nilIface (sen x)).run Tryz.prog w = .ok (.bool false) w := fun w => by kernel_rfl
  go_enter Tryz.func102, Tryz.ntmps102
  go_wp2
  go_ret
  exact ⟨rfl, rfl⟩
set_option maxRecDepth 100000 in
theorem dec_in2 (s : ByteArray) (W : Nat) (h1 : 1 ≤ W) (h2 : W ≤ 256) (hs : s.size ≤ 281474976710656) (h : s.size ≠ 32 * W) (w : World) {B : Nat} {a : Nat → Addr} (hS : Sent B w a) :
    Calls Tryz.prog 202 #[.string s, .int .i64 (W : Int)] w fun e w' => e = .returned (.tuple #[.slice none 0 0, sen (a 2)]) ∧ Nw w w' := by
  have e1 := hS.c2
  have hn : ((s.size : Int) != 32 * (W : Int)) = true := by simp; omega
  clear hS h
  go_enter Tryz.func202, Tryz.ntmps202
  go_wp2_with fail
  go_quiet (fail)
  go_wp2
  go_ret2
  exact ⟨rfl, (nwr w).drewN nq⟩
set_option maxRecDepth 100000 in
set_option maxHeartbeats 2000000 in
/-- What the store refuses, or fails to read, or has not. -/
theorem read_bad {w : World} {rb sb : Nat} {tl : Value} {x y : Int} (hr : w.heap[rb]? = some (rdo (.pointer (some ⟨sb, 0, none⟩)) tl x y)) (s : ByteArray) (W : Int) {B : Nat} {a : Nat → Addr} (i j : Nat) (hi : i < 16) (hj : j = if i = 5 then 8 else i) (PW : World → Prop)
    (hg : Calls Tryz.prog 101 #[.pointer (some ⟨sb, 0, none⟩), .string s] w fun e w' => e = .returned (.tuple #[.string ⟨#[]⟩, sen (a i)]) ∧ PW w' ∧ Sent B w' a ∧ Fr (fun k => k = sb) w w') (hP : ∀ w1 w2, PW w1 → Nw w1 w2 → PW w2) :
    Calls Tryz.prog 175 #[.pointer (some ⟨rb, 0, none⟩), .string s, .int .i64 W] w fun e w' => e = .returned (.tuple #[.slice none 0 0, sen (a j)]) ∧ PW w' ∧ Fr (fun k => k = sb) w w' := by
  obtain ⟨c0, c1, _, _⟩ := rdo_cs hr
  have lb := heap_lt hr
  have HP := show Hid (∀ w1 w2, PW w1 → Nw w1 w2 → PW w2) from hP
  clear hr hP
  go_enter Tryz.func175, Tryz.ntmps175
  go_wp2_with fail
  refine hg.mono ?_
  rintro e w1 ⟨rfl, p1, s1, f1⟩
  have HS : Hid (Sent B w1 a) := s1
  have H1 : Hid (PW w1 ∧ Fr (fun k => k = sb) w w1) := ⟨p1, f1⟩
  have q := is_any s1 (show EV w1 a (sen (a i)) (i + 1) none from .inr (.inl ⟨i, hi, rfl, rfl, rfl⟩)) (by omega) 5 (by decide)
  have e5 := s1.c5
  have e8 := s1.c8
  clear c0 c1 lb hg s1 p1 f1
  by_cases h5 : i = 5
  · rw [decide_eq_true (show i + 1 = 5 + 1 by omega)] at q
    rw [if_pos h5] at hj
    subst hj
    subst h5
    go_wp2_with fail
    refine q.mono ?_
    rintro e w2 ⟨rfl, rfl⟩
    go_wp2_with fail
    go_quiet (fail)
    go_wp2
    go_ret2
    exact ⟨rfl, HP.out _ _ H1.out.1 ((Fr.refl _ _).drewN _), H1.out.2.trans ((Fr.refl (fun _ => False) _).drewN _) (fun _ _ f => f.elim)⟩
  · rw [if_neg h5] at hj
    subst hj
    rw [decide_eq_false (by omega)] at q
    clear h5
    go_wp2_with fail
    refine q.mono ?_
    rintro e w2 ⟨rfl, rfl⟩
    go_wp2
    go_ret2
    exact ⟨rfl, H1.out.1, H1.out.2⟩
end Go.Proofs.YtjkhcplnedcmeaaGreatDoor
namespace Go.Proofs.YtjkhcplnedcmeaaGreatDoor
open Go.RowKit
set_option linter.unusedVariables false
set_option linter.unusedSimpArgs false
set_option maxRecDepth 100000 in
set_option maxHeartbeats 400000 in
/-- A text that is there and is as wide as its name says. -/
theorem read_yes {w : World} {rb sb : Nat} {tl : Value} {x y : Int} (hr : w.heap[rb]? = some (rdo (.pointer (some ⟨sb, 0, none⟩)) tl x y)) (s t : ByteArray) (W : Nat) (h1 : 1 ≤ W) (h2 : W ≤ 256) (ht : t.size = 32 * W) {B : Nat} {a : Nat → Addr} (PW : World → Prop)
    (hg : Calls Tryz.prog 101 #[.pointer (some ⟨sb, 0, none⟩), .string s] w fun e w' => e = .returned (.tuple #[.string t, .nilIface]) ∧ PW w' ∧ Sent B w' a ∧ Fr (fun k => k = sb) w w') (hP : ∀ w1 w2, PW w1 → Nw w1 w2 → PW w2) :
    Calls Tryz.prog 175 #[.pointer (some ⟨rb, 0, none⟩), .string s, .int .i64 (W : Int)] w fun e w' => ∃ g, e = .returned (.tuple #[.slice (some ⟨g, 0, none⟩) W W, .nilIface]) ∧ w'.ownsRow w.heap.size 69 32 (.slice (some ⟨g, 0, none⟩) W W) W (hsc (chs t.data.toList W)) ∧ PW w' ∧ Fr (fun k => k = sb) w w' := by
  obtain ⟨c0, c1, _, _⟩ := rdo_cs hr
  have lb := heap_lt hr
  have HP := show Hid (∀ w1 w2, PW w1 → Nw w1 w2 → PW w2) from hP
  have HT : Hid (t.size = 32 * W) := ht
  clear hr hP ht
  go_enter Tryz.func175, Tryz.ntmps175
  go_wp2_with fail
  refine hg.mono ?_
  rintro e w1 ⟨rfl, p1, s1, f1⟩
  have H1 : Hid (PW w1 ∧ Fr (fun k => k = sb) w w1) := ⟨p1, f1⟩
  have q := is_none (a 5) w1
  have e5 := s1.c5
  have q2 := dec_yes t W h1 h2 HT.out w1
  clear c0 c1 lb hg s1 p1 f1
  go_wp2_with fail
  refine q.mono ?_
  rintro e w2 ⟨rfl, rfl⟩
  go_wp2_with fail
  refine q2.mono ?_
  rintro e w3 ⟨g, rfl, o3, n3⟩
  have H3 : Hid (w3.ownsRow w.heap.size 69 32 (.slice (some ⟨g, 0, none⟩) W W) W (hsc (chs t.data.toList W)) ∧ PW w3 ∧ Fr (fun k => k = sb) w w3) := ⟨ownsRow_base o3 H1.out.2.size, HP.out _ _ H1.out.1 n3, H1.out.2.trans n3 (fun _ _ f => f.elim)⟩
  clear o3 n3 q q2
  go_wp2
  go_ret2
  exact ⟨g, rfl, H3.out⟩
set_option maxRecDepth 100000 in
set_option maxHeartbeats 400000 in
/-- A text that is there and is not as wide as its name says. -/
theorem read_wide {w : World} {rb sb : Nat} {tl : Value} {x y : Int} (hr : w.heap[rb]? = some (rdo (.pointer (some ⟨sb, 0, none⟩)) tl x y)) (s t : ByteArray) (W : Nat) (h1 : 1 ≤ W) (h2 : W ≤ 256) (ht : t.size ≠ 32 * W) (ht2 : t.size ≤ 281474976710656) {B : Nat} {a : Nat → Addr} (PW : World → Prop)
    (hg : Calls Tryz.prog 101 #[.pointer (some ⟨sb, 0, none⟩), .string s] w fun e w' => e = .returned (.tuple #[.string t, .nilIface]) ∧ PW w' ∧ Sent B w' a ∧ Fr (fun k => k = sb) w w') (hP : ∀ w1 w2, PW w1 → Nw w1 w2 → PW w2) :
    Calls Tryz.prog 175 #[.pointer (some ⟨rb, 0, none⟩), .string s, .int .i64 (W : Int)] w fun e w' => e = .returned (.tuple #[.slice none 0 0, sen (a 8)]) ∧ PW w' ∧ Fr (fun k => k = sb) w w' := by
  obtain ⟨c0, c1, _, _⟩ := rdo_cs hr
  have lb := heap_lt hr
  have HP := show Hid (∀ w1 w2, PW w1 → Nw w1 w2 → PW w2) from hP
  have HT : Hid (t.size ≠ 32 * W) := ht
  clear hr hP ht
  go_enter Tryz.func175, Tryz.ntmps175
  go_wp2_with fail
  refine hg.mono ?_
  rintro e w1 ⟨rfl, p1, s1, f1⟩
  have H1 : Hid (PW w1 ∧ Fr (fun k => k = sb) w w1) := ⟨p1, f1⟩
  have HS : Hid (Sent B w1 a) := s1
  have q := is_none (a 5) w1
  have e5 := s1.c5
  have q2 := dec_in2 t W h1 h2 ht2 HT.out w1 s1
  clear c0 c1 lb hg s1 p1 f1
  go_wp2_with fail
  refine q.mono ?_
  rintro e w2 ⟨rfl, rfl⟩
  go_wp2_with fail
  refine q2.mono ?_
  rintro e w3 ⟨rfl, n3⟩
  have e8 := (HS.out.fr n3 (fun _ _ f => f)).c8
  have H3 : Hid (PW w3 ∧ Fr (fun k => k = sb) w w3) := ⟨HP.out _ _ H1.out.1 n3, H1.out.2.trans n3 (fun _ _ f => f.elim)⟩
  clear n3 q q2 e5
  go_wp2_with fail
  go_quiet (fail)
  go_wp2
  go_ret2
  exact ⟨rfl, HP.out _ _ H3.out.1 ((Fr.refl _ _).drewN _), H3.out.2.trans ((Fr.refl (fun _ => False) _).drewN _) (fun _ _ f => f.elim)⟩
/-- What reading a name gives: the hashes, or an error's number. -/
noncomputable def rdA (M : Tx) (zs : List Int) (rn : Int) (dd : Bool) (s : ByteArray) (W : Nat) : (List (List UInt8)) ⊕ Nat :=
  if dd then .inr 7 else if rn + 1 ∈ zs then .inr 6 else match M s with
    | none => .inr 8
    | some t => if t.size = 32 * W then .inl (chs t.data.toList W) else .inr 8
/-- What a call answers: a row of hashes of one's own, or an error. -/
def Ans (w' : World) (base : Nat) (a : Nat → Addr) (r : (List (List UInt8)) ⊕ Nat) (v ev : Value) : Prop := match r with
  | .inl H => (∃ g, v = .slice (some ⟨g, 0, none⟩) H.length H.length) ∧ ev = .nilIface ∧ w'.ownsRow base 69 32 v H.length (hsc H)
  | .inr j => v = .slice none 0 0 ∧ ev = sen (a j)
theorem rread_any {w : World} {rb sb bm n : Nat} {tl : Value} {x y : Int} (hr : w.heap[rb]? = some (rdo (.pointer (some ⟨sb, 0, none⟩)) tl x y)) {M : Tx} {p : Option Addr} {c : Nat} {zs : List Int} {cr rn wn : Int} {dd : Bool} (h : Sr w sb bm n M p c zs cr rn wn dd) (s : ByteArray) (hs : okN s) (W : Nat) (h1 : 1 ≤ W) (h2 : W ≤ 256) (hM : ∀ t, M s = some t → t.size ≤ 281474976710656)
    {B : Nat} {a : Nat → Addr} (hS : Sent B w a) (hl : zs.length ≤ 17592186044416) (hok : okR 0 zs = true) (hr0 : 0 ≤ rn) (hr1 : rn < 4611686018427387904) (hB : B ≤ sb) :
    Calls Tryz.prog 175 #[.pointer (some ⟨rb, 0, none⟩), .string s, .int .i64 (W : Int)] w fun e w' => ∃ v ev, e = .returned (.tuple #[v, ev]) ∧ Ans w' w.heap.size a (rdA M zs rn dd s W) v ev ∧ Sr w' sb bm n M p c zs cr (if dd then rn else rn + 1) wn dd ∧ Fr (fun k => k = sb) w w' := by
  cases dd with
  | true =>
    have hg := sget_ref h.blk s hS (rfs_dead (a := a) hs)
    refine (read_bad hr s W 7 7 (by decide) (by decide) (fun w' => Sr w' sb bm n M p c zs cr rn wn true) (B := B) (hg.mono fun e w' ⟨q, e2⟩ => ?_) (fun w1 w2 k n => k.nw n)).mono fun e w' ⟨q, k, f⟩ => ⟨_, _, q, ⟨rfl, rfl⟩, k, f⟩
    subst e2
    exact ⟨q, h, hS, Fr.refl _ _⟩
  | false =>
    have hg := sget_any h s hs hS hl hok hr0 hr1 hB
    have hP : ∀ w1 w2 : World, Sr w1 sb bm n M p c zs cr (rn + 1) wn false → Nw w1 w2 → Sr w2 sb bm n M p c zs cr (rn + 1) wn false := fun w1 w2 k n => k.nw n
    have hSS : ∀ w', Fr (fun k => k = sb) w w' → Sent B w' a := fun w' f => hS.fr f (fun k hk e => by omega)
    unfold getV at hg
    by_cases hz : rn + 1 ∈ zs
    · rw [if_pos hz] at hg
      have e : rdA M zs rn false s W = .inr 6 := by simp [rdA, hz]
      rw [e]
      exact (read_bad hr s W 6 6 (by decide) (by decide) _ (B := B) (hg.mono fun e w' ⟨q, k, f⟩ => ⟨q, k, hSS w' f, f⟩) hP).mono fun e w' ⟨q, k, f⟩ => ⟨_, _, q, ⟨rfl, rfl⟩, k, f⟩
    · rw [if_neg hz] at hg
      cases hm : M s with
      | none =>
        rw [hm] at hg
        have e : rdA M zs rn false s W = .inr 8 := by simp [rdA, hz, hm]
        rw [e]
        exact (read_bad hr s W 5 8 (by decide) (by decide) _ (B := B) (hg.mono fun e w' ⟨q, k, f⟩ => ⟨q, k, hSS w' f, f⟩) hP).mono fun e w' ⟨q, k, f⟩ => ⟨_, _, q, ⟨rfl, rfl⟩, k, f⟩
      | some t =>
        rw [hm] at hg
        by_cases ht : t.size = 32 * W
        · have e : rdA M zs rn false s W = .inl (chs t.data.toList W) := by simp [rdA, hz, hm, ht]
          rw [e]
          exact (read_yes hr s t W h1 h2 ht _ (B := B) (a := a) (hg.mono fun e w' ⟨q, k, f⟩ => ⟨q, k, hSS w' f, f⟩) hP).mono fun e w' ⟨g, q, o, k, f⟩ => ⟨_, _, q, ⟨⟨g, by rw [chs_len]⟩, rfl, by rw [chs_len]; exact o⟩, k, f⟩
        · have e : rdA M zs rn false s W = .inr 8 := by simp [rdA, hz, hm, ht]
          rw [e]
          exact (read_wide hr s t W h1 h2 ht (hM t hm) _ (B := B) (hg.mono fun e w' ⟨q, k, f⟩ => ⟨q, k, hSS w' f, f⟩) hP).mono fun e w' ⟨q, k, f⟩ => ⟨_, _, q, ⟨rfl, rfl⟩, k, f⟩
end Go.Proofs.YtjkhcplnedcmeaaGreatDoor
namespace Go.Proofs.YtjkhcplnedcmeaaGreatDoor
open Go.RowKit
set_option linter.unusedVariables false
set_option linter.unusedSimpArgs false
theorem gen_w {Q : World → Prop} (P : World → Prop) {W : World} (h : P W) (k : ∀ W, P W → Q W) : Q W := k W h
/-- A reader in memory with its store and its cache. Tags of blocks: 0 the reader, 1 the store, 2 the cache, 3 the rows that it keeps, 9 what was there else. -/
structure Rm (w : World) (tg : Nat → Nat) (rb sb cb bm n : Nat) (M : Tx) (p : Option Addr) (c : Nat) (zs : List Int) (cr rn wn : Int) (dd : Bool) (N cap : Nat) (L : CT.LT) (H : CT.KT → List (List UInt8)) (x y : Int) : Prop where
  blk : w.heap[rb]? = some (rdo (.pointer (some ⟨sb, 0, none⟩)) (.pointer (some ⟨cb, 0, none⟩)) x y)
  st : Sr w sb bm n M p c zs cr rn wn dd
  ca : CT.Cx w (fun k => tg k = 2) cb N cap L
  row : ∀ z ∈ L, (∃ g, z.2 = (some ⟨g, 0, none⟩, (H z.1).length, (H z.1).length) ∧ tg g = 3) ∧ (∀ u ∈ H z.1, u.length = 32) ∧ w.ownsRow 0 69 32 (CT.vv z.2) (H z.1).length (hsc (H z.1))
  tr : tg rb = 0
  ts : tg sb = 1 ∧ tg bm = 1 ∧ ∀ g o, p = some ⟨g, o, none⟩ → tg g = 1
  lp : ∀ g o, p = some ⟨g, o, none⟩ → g < w.heap.size
theorem Rm.row_fr {w w' : World} {tg : Nat → Nat} {L : CT.LT} {H : CT.KT → List (List UInt8)} {T : Nat → Prop} (h : ∀ z ∈ L, (∃ g, z.2 = (some ⟨g, 0, none⟩, (H z.1).length, (H z.1).length) ∧ tg g = 3) ∧ (∀ u ∈ H z.1, u.length = 32) ∧ w.ownsRow 0 69 32 (CT.vv z.2) (H z.1).length (hsc (H z.1))) (f : Fr T w w') (hT : ∀ k, tg k = 3 → ¬ T k) :
    ∀ z ∈ L, (∃ g, z.2 = (some ⟨g, 0, none⟩, (H z.1).length, (H z.1).length) ∧ tg g = 3) ∧ (∀ u ∈ H z.1, u.length = 32) ∧ w'.ownsRow 0 69 32 (CT.vv z.2) (H z.1).length (hsc (H z.1)) := fun z hz => by
  obtain ⟨⟨g, hg, ht⟩, h32, ho⟩ := h z hz
  refine ⟨⟨g, hg, ht⟩, h32, ownsRow_keep ho (fun k hk => f.block k (ho.lt k hk).2 (hT k ?_))⟩
  rw [hg] at hk
  simp [Value.ownBlock] at hk
  rw [← hk]; exact ht
theorem Rm.nw {w w' : World} {tg : Nat → Nat} {rb sb cb bm n : Nat} {M : Tx} {p : Option Addr} {c : Nat} {zs : List Int} {cr rn wn : Int} {dd : Bool} {N cap : Nat} {L : CT.LT} {H : CT.KT → List (List UInt8)} {x y : Int} (h : Rm w tg rb sb cb bm n M p c zs cr rn wn dd N cap L H x y) (f : Nw w w') : Rm w' tg rb sb cb bm n M p c zs cr rn wn dd N cap L H x y :=
  ⟨(f.block _ (heap_lt h.blk) (fun e => e)).trans h.blk, h.st.nw f, h.ca.nw f, Rm.row_fr h.row f (fun _ _ e => e), h.tr, h.ts, fun g o e => Nat.lt_of_lt_of_le (h.lp g o e) f.size⟩
/-- The reader's own cells are turned. -/
theorem Rm.own {w w' : World} {tg : Nat → Nat} {rb sb cb bm n : Nat} {M : Tx} {p : Option Addr} {c : Nat} {zs : List Int} {cr rn wn : Int} {dd : Bool} {N cap : Nat} {L : CT.LT} {H : CT.KT → List (List UInt8)} {x y x' y' : Int} (h : Rm w tg rb sb cb bm n M p c zs cr rn wn dd N cap L H x y) (f : Fr (fun k => k = rb) w w') (hb : w'.heap[rb]? = some (rdo (.pointer (some ⟨sb, 0, none⟩)) (.pointer (some ⟨cb, 0, none⟩)) x' y')) : Rm w' tg rb sb cb bm n M p c zs cr rn wn dd N cap L H x' y' := by
  have e0 := h.tr
  obtain ⟨e1, e2, e3⟩ := h.ts
  exact ⟨hb, h.st.fr f (fun e => by rw [e] at e1; omega) (fun e => by rw [e] at e2; omega) (fun g o hp e => by have := e3 g o hp; rw [e] at this; omega), h.ca.fr f (fun k _ e q => by rw [q] at e; omega), Rm.row_fr h.row f (fun k hk q => by rw [q] at hk; omega), h.tr, h.ts, fun g o e => Nat.lt_of_lt_of_le (h.lp g o e) f.size⟩
/-- The cache is another now. -/
theorem Rm.cache {w w' : World} {tg : Nat → Nat} {rb sb cb bm n : Nat} {M : Tx} {p : Option Addr} {c : Nat} {zs : List Int} {cr rn wn : Int} {dd : Bool} {N cap N' : Nat} {L L' : CT.LT} {H : CT.KT → List (List UInt8)} {x y : Int} (h : Rm w tg rb sb cb bm n M p c zs cr rn wn dd N cap L H x y) (f : Fr (fun k => tg k = 2) w w') (hc : CT.Cx w' (fun k => tg k = 2) cb N' cap L') (hL : ∀ z ∈ L', z ∈ L) : Rm w' tg rb sb cb bm n M p c zs cr rn wn dd N' cap L' H x y := by
  have e0 := h.tr
  obtain ⟨e1, e2, e3⟩ := h.ts
  exact ⟨(f.block _ (heap_lt h.blk) (fun e => by rw [e0] at e; omega)).trans h.blk, h.st.fr f (fun e => by rw [e1] at e; omega) (fun e => by rw [e2] at e; omega) (fun g o hp e => by rw [e3 g o hp] at e; omega), hc, fun z hz => Rm.row_fr h.row f (fun k hk q => by rw [hk] at q; omega) z (hL z hz), h.tr, h.ts, fun g o e => Nat.lt_of_lt_of_le (h.lp g o e) f.size⟩
theorem tk_mem : ∀ {L : CT.LT} {k : CT.KT} {v : CT.VT} {r : CT.LT}, CT.tk L k = some (v, r) → (k, v) ∈ L ∧ ∀ z ∈ r, z ∈ L
  | [], k, v, r, h => by simp [CT.tk] at h
  | z :: l, k, v, r, h => by
    rw [CT.tk] at h
    split at h
    · rename_i e
      simp only [Option.some.injEq, Prod.mk.injEq] at h
      obtain ⟨h1, h2⟩ := h
      subst h2
      refine ⟨?_, fun y hy => by simp [hy]⟩
      have : z = (k, v) := Prod.ext e h1
      simp [this]
    · obtain ⟨⟨v', r'⟩, hx, he⟩ := Option.map_eq_some_iff.1 h
      simp only [Prod.mk.injEq] at he
      obtain ⟨rfl, rfl⟩ := he
      obtain ⟨m1, m2⟩ := tk_mem hx
      refine ⟨by simp [m1], fun y hy => ?_⟩
      rcases List.mem_cons.1 hy with e | e
      · simp [e]
      · simp [m2 y e]
/-- A tile as a key. -/
def keyT (L I W : Nat) (h : mayT L I (W : Int)) : CT.KT := ⟨(L, I, (W : Int)), by obtain ⟨_, h1, h2, h3, h4⟩ := nm_len h; simp only; omega⟩
theorem okN_nm {L I W : Nat} (h : mayT L I (W : Int)) : okN ⟨(nm L I W).toArray⟩ := by
  have h1 := (nm_len h).1
  have h2 : 1 ≤ (nm L I W).length := by unfold nm; simp only [List.length_append, List.length_cons]; omega
  exact ⟨by rw [bxs]; exact h2, by rw [bxs]; omega⟩
set_option maxRecDepth 100000 in
set_option maxHeartbeats 2000000 in
theorem fetch_had {w : World} {tg : Nat → Nat} {rb sb cb bm n : Nat} {M : Tx} {p : Option Addr} {c : Nat} {zs : List Int} {cr rn wn : Int} {dd : Bool} {N cap : Nat} {Lc : CT.LT} {H : CT.KT → List (List UInt8)} {x y : Int} (h : Rm w tg rb sb cb bm n M p c zs cr rn wn dd N cap Lc H x y) (L I W : Nat) (hm : mayT L I (W : Int)) {v : CT.VT} {r : CT.LT} (hk : CT.tk Lc (keyT L I W hm) = some (v, r)) (hP : TX.Pow w) (hx : 0 ≤ x ∧ x < 4611686018427387904) (hy : 0 ≤ y ∧ y < 4611686018427387904) :
    Calls Tryz.prog 142 #[.pointer (some ⟨rb, 0, none⟩), tl L I W] w fun e w' => e = .returned (.tuple #[CT.vv v, .nilIface]) ∧ Rm w' tg rb sb cb bm n M p c zs cr rn wn dd N cap ((keyT L I W hm, v) :: r) H (x + 1) (y + 1) ∧ Fr (fun k => tg k = 0 ∨ tg k = 2) w w' := by
  have N0 := nwa w (.cells #[.int .u8 (L : Int), .int .u64 (I : Int), .int .i64 (W : Int)] 120)
  have q0 := rthere_any (h.nw N0).blk
  have q1 := tpath_yes L I W hm
  obtain ⟨nmB, hnm⟩ : ∃ q, q = (⟨(nm L I W).toArray⟩ : ByteArray) := ⟨_, rfl⟩
  rw [← hnm] at q1
  have HR0 : Hid (∀ V, Nw w V → Rm V tg rb sb cb bm n M p c zs cr rn wn dd N cap Lc H x y) := fun V nV => h.nw nV
  have HP : Hid (∀ V, Nw w V → TX.Pow V) := fun V nV => hP.fr nV
  have HC0 : Hid (CT.Cx w (fun k => tg k = 2 ∧ k < w.heap.size) cb N cap Lc) := h.ca.mono (fun k hk e => ⟨e, hk⟩) (Nat.le_refl _)
  have HG : Hid (∀ V, CT.Cx V (fun k => tg k = 2 ∧ k < w.heap.size) cb N cap Lc → Calls Tryz.prog 174 #[.pointer (some ⟨cb, 0, none⟩), tl L I W] V fun e w' => e = .returned (.tuple #[CT.vv v, .bool true]) ∧ CT.Cx w' (fun k => tg k = 2 ∧ k < w.heap.size) cb N cap ((keyT L I W hm, v) :: r) ∧ Fr (fun k => tg k = 2 ∧ k < w.heap.size) V w') := fun V hV => by
    have q := CT.get_any hV (keyT L I W hm) trivial
    have e : CT.getA Lc (keyT L I W hm) = (v, true, (keyT L I W hm, v) :: r) := by rw [CT.getA, hk]
    rw [e] at q
    exact q
  have HKM : Hid (∀ z ∈ (keyT L I W hm, v) :: r, z ∈ Lc) := fun z hz => by
    obtain ⟨m1, m2⟩ := tk_mem hk
    rcases List.mem_cons.1 hz with e | e
    · rw [e]; exact m1
    · exact m2 z e
  have HTR : Hid (tg rb = 0) := h.tr
  have lrb : rb < w.heap.size := heap_lt h.blk
  generalize keyT L I W hm = kk at *
  clear h hP hk hnm N0
  go_enter Tryz.func142, Tryz.ntmps142
  go_wp2_with fail
  refine q0.mono ?_
  rintro e w1 ⟨rfl, rfl⟩
  go_wp2_with fail
  refine (q1 _ (HP.out _ (nwa w _))).mono ?_
  rintro e w2 ⟨rfl, n2⟩
  obtain ⟨l0, b0, n2'⟩ := one_made n2
  have R2 := HR0.out w2 n2'
  have HR2 : Hid (Rm w2 tg rb sb cb bm n M p c zs cr rn wn dd N cap Lc H x y) := R2
  have HB0 : Hid (w2.heap[w.heap.size]? = some (.cells #[.int .u8 (L : Int), .int .u64 (I : Int), .int .i64 (W : Int)] 120)) := b0
  have HN2 : Hid (Nw w w2) := n2'
  obtain ⟨_, c1, c2, _⟩ := rdo_cs R2.blk
  have lr2 := heap_lt R2.blk
  have fr := frozen_of R2.blk 2
  clear q0 q1 n2 n2' b0 R2
  go_wp2_with fail
  refine gen_w (fun V => Rm V tg rb sb cb bm n M p c zs cr rn wn dd N cap Lc H (x + 1) y ∧ V.heap[w.heap.size]? = some (.cells #[.int .u8 (L : Int), .int .u64 (I : Int), .int .i64 (W : Int)] 120) ∧ Fr (fun k => k = rb) w V) ?_ ?_
  · have F : Fr (fun k => k = rb) w2 (w2.setCell ⟨rb, 2, none⟩ (.int .i64 (x + 1))) := (Fr.refl _ w2).setCell _ _ (fun _ => rfl)
    exact ⟨HR2.out.own F ((heap_set HR2.out.blk _).trans rfl), (F.block _ (heap_lt HB0.out) (by omega)).trans HB0.out, (HN2.out.mono (fun _ _ f => f.elim)).trans F (fun j _ e => e)⟩
  rintro w3 ⟨R3, T3, F3⟩
  have HR3 : Hid (Rm w3 tg rb sb cb bm n M p c zs cr rn wn dd N cap Lc H (x + 1) y) := R3
  have HT3 : Hid (w3.heap[w.heap.size]? = some (.cells #[.int .u8 (L : Int), .int .u64 (I : Int), .int .i64 (W : Int)] 120)) := T3
  have HF3 : Hid (Fr (fun k => tg k = 0 ∨ tg k = 2) w w3) := F3.mono (fun _ _ e => .inl (by rw [e]; exact HTR.out))
  have HF3' : Hid (Fr (fun k => tg k = 0) w w3) := F3.mono (fun _ _ e => by rw [e]; exact HTR.out)
  have HTR2 : Hid (tg rb ≠ 2) := by have := HTR.out; show tg rb ≠ 2; omega
  clear c1 c2 fr lr2 l0
  obtain ⟨_, d1, _, d3⟩ := rdo_cs R3.blk
  obtain ⟨t0, t1, t2⟩ := cell3 T3
  have lr3 := heap_lt R3.blk
  have lt3 := heap_lt T3
  have nd : Nw w3 w3.drew := (Fr.refl _ _).drew
  clear R3 T3 F3
  have HC3 : Hid (CT.Cx w3.drew (fun k => tg k = 2 ∧ k < w.heap.size) cb N cap Lc) := (HC0.out.fr HF3'.out (fun k hk e q => by have := e.1; omega)).nw nd
  go_region_held3 (fun V => V.cell? ⟨rb, 1, none⟩ = some (.pointer (some ⟨cb, 0, none⟩)) ∧ V.cell? ⟨w.heap.size, 0, none⟩ = some (.int .u8 (L : Int)) ∧ V.cell? ⟨w.heap.size, 1, none⟩ = some (.int .u64 (I : Int)) ∧ V.cell? ⟨w.heap.size, 2, none⟩ = some (.int .i64 (W : Int))) (first | exact ⟨nd.cellOf d1, nd.cellOf t0, nd.cellOf t1, nd.cellOf t2⟩ | exact HK.out) ((go_at_call 174; refine (HG.out _ HC3.out).mono ?_; rintro e4 w4 ⟨rfl, C4, F4⟩; have T4 := (F4.block w.heap.size lt3 (fun e => Nat.lt_irrefl _ e.2)).trans HT3.out; have B4 := (F4.block rb lr3 (fun e => HTR2.out e.1)).trans HR3.out.blk; have HK : Hid (w4.cell? ⟨rb, 1, none⟩ = some (.pointer (some ⟨cb, 0, none⟩)) ∧ w4.cell? ⟨w.heap.size, 0, none⟩ = some (.int .u8 (L : Int)) ∧ w4.cell? ⟨w.heap.size, 1, none⟩ = some (.int .u64 (I : Int)) ∧ w4.cell? ⟨w.heap.size, 2, none⟩ = some (.int .i64 (W : Int))) := And.intro ((cell_of B4 1).trans rfl) (cell3 T4); have H4 : Hid (CT.Cx w4 (fun k => tg k = 2 ∧ k < w.heap.size) cb N cap ((kk, v) :: r) ∧ Fr (fun k => tg k = 2 ∧ k < w.heap.size) w3 w4) := And.intro C4 ((nd.mono (fun _ _ f => f.elim)).trans F4 (fun _ _ e => e)); clear C4 F4 T4 B4))
  all_goals
    have R4 : Hid (Rm w4 tg rb sb cb bm n M p c zs cr rn wn dd N cap ((kk, v) :: r) H (x + 1) y) := HR3.out.cache (H4.out.2.mono (fun _ _ e => e.1)) (H4.out.1.mono (fun _ _ e => e.1) (Nat.le_refl _)) HKM.out
    have F4 : Hid (Fr (fun k => tg k = 0 ∨ tg k = 2) w w4) := HF3.out.trans H4.out.2 (fun j _ e => .inr e.1)
    obtain ⟨_, _, _, d4⟩ := rdo_cs R4.out.blk
    have lr4 := heap_lt R4.out.blk
    have fr4 := frozen_of R4.out.blk 3
    clear d1 d3 t0 t1 t2 lr3 lt3
    go_wp2
    go_ret2
    have F : Fr (fun k => k = rb) w4 (w4.setCell ⟨rb, 3, none⟩ (.int .i64 (y + 1))) := (Fr.refl _ w4).setCell _ _ (fun _ => rfl)
    exact ⟨rfl, R4.out.own F ((heap_set R4.out.blk _).trans rfl), F4.out.trans F (fun j _ e => .inl (by rw [e]; exact HTR.out))⟩
end Go.Proofs.YtjkhcplnedcmeaaGreatDoor
namespace Go.Proofs.YtjkhcplnedcmeaaGreatDoor
open Go.RowKit
set_option linter.unusedVariables false
set_option linter.unusedSimpArgs false
theorem tk_off : ∀ {L : CT.LT} {k : CT.KT}, CT.tk L k = none → ∀ z ∈ L, z.1 ≠ k
  | [], k, h, z, hz => by simp at hz
  | y :: l, k, h, z, hz => by
    rw [CT.tk] at h
    split at h
    · cases h
    · rename_i e
      rcases List.mem_cons.1 hz with q | q
      · rw [q]; exact e
      · exact tk_off (Option.map_eq_none_iff.1 h) z q
/-- The store is another now. -/
theorem Rm.store {w w' : World} {tg : Nat → Nat} {rb sb cb bm n : Nat} {M : Tx} {p : Option Addr} {c : Nat} {zs : List Int} {cr rn wn : Int} {dd : Bool} {N cap : Nat} {L : CT.LT} {H : CT.KT → List (List UInt8)} {x y rn' : Int} (h : Rm w tg rb sb cb bm n M p c zs cr rn wn dd N cap L H x y) (f : Fr (fun k => k = sb) w w') (hs : Sr w' sb bm n M p c zs cr rn' wn dd) : Rm w' tg rb sb cb bm n M p c zs cr rn' wn dd N cap L H x y := by
  have e0 := h.tr
  obtain ⟨e1, e2, e3⟩ := h.ts
  exact ⟨(f.block _ (heap_lt h.blk) (fun e => by rw [e] at e0; omega)).trans h.blk, hs, h.ca.fr f (fun k _ e q => by rw [q] at e; omega), Rm.row_fr h.row f (fun k hk q => by rw [q] at hk; omega), h.tr, h.ts, fun g o e => Nat.lt_of_lt_of_le (h.lp g o e) f.size⟩
set_option maxRecDepth 100000 in
set_option maxHeartbeats 2000000 in
theorem fetch_err {w : World} {tg : Nat → Nat} {rb sb cb bm n : Nat} {M : Tx} {p : Option Addr} {c : Nat} {zs : List Int} {cr rn wn : Int} {dd : Bool} {N cap : Nat} {Lc : CT.LT} {H : CT.KT → List (List UInt8)} {x y : Int} (h : Rm w tg rb sb cb bm n M p c zs cr rn wn dd N cap Lc H x y) (L I W : Nat) (hm : mayT L I (W : Int)) (hk : CT.tk Lc (keyT L I W hm) = none) (hP : TX.Pow w) (hx : 0 ≤ x ∧ x < 4611686018427387904)
    {B : Nat} {a : Nat → Addr} (hS : Sent B w a) (hl : zs.length ≤ 17592186044416) (hok : okR 0 zs = true) (hr0 : 0 ≤ rn) (hr1 : rn < 4611686018427387904) (hB : B ≤ sb) (hBr : B ≤ rb) (hBc : ∀ k, tg k = 2 → B ≤ k) (hM : ∀ t, M ⟨(nm L I W).toArray⟩ = some t → t.size ≤ 281474976710656) (rn' : Int) (hrn : rn' = if dd then rn else rn + 1) (j : Nat) (hj : rdA M zs rn dd ⟨(nm L I W).toArray⟩ W = .inr j) :
    Calls Tryz.prog 142 #[.pointer (some ⟨rb, 0, none⟩), tl L I W] w fun e w' => e = .returned (.tuple #[.slice none 0 0, sen (a j)]) ∧ Rm w' tg rb sb cb bm n M p c zs cr rn' wn dd N cap Lc H (x + 1) y ∧ Fr (fun k => tg k = 0 ∨ tg k = 1 ∨ tg k = 2) w w' := by
  have N0 := nwa w (.cells #[.int .u8 (L : Int), .int .u64 (I : Int), .int .i64 (W : Int)] 120)
  have q0 := rthere_any (h.nw N0).blk
  have q1 := tpath_yes L I W hm
  obtain ⟨hmb1, hmb2⟩ : 1 ≤ W ∧ W ≤ 256 := by have := nm_len hm; omega
  have hokn := okN_nm hm
  obtain ⟨nmB, hnm⟩ : ∃ q, q = (⟨(nm L I W).toArray⟩ : ByteArray) := ⟨_, rfl⟩
  rw [← hnm] at q1 hj hM hokn
  have HR0 : Hid (∀ V, Nw w V → Rm V tg rb sb cb bm n M p c zs cr rn wn dd N cap Lc H x y) := fun V nV => h.nw nV
  have HP : Hid (∀ V, Nw w V → TX.Pow V) := fun V nV => hP.fr nV
  have HC0 : Hid (CT.Cx w (fun k => tg k = 2 ∧ k < w.heap.size) cb N cap Lc) := h.ca.mono (fun k hk e => ⟨e, hk⟩) (Nat.le_refl _)
  have HG : Hid (∀ V, CT.Cx V (fun k => tg k = 2 ∧ k < w.heap.size) cb N cap Lc → Calls Tryz.prog 174 #[.pointer (some ⟨cb, 0, none⟩), tl L I W] V fun e w' => e = .returned (.tuple #[.slice none 0 0, .bool false]) ∧ CT.Cx w' (fun k => tg k = 2 ∧ k < w.heap.size) cb N cap Lc ∧ Fr (fun k => tg k = 2 ∧ k < w.heap.size) V w') := fun V hV => by
    have q := CT.get_any hV (keyT L I W hm) trivial
    have e : CT.getA Lc (keyT L I W hm) = (CT.vz, false, Lc) := by rw [CT.getA, hk]
    rw [e] at q
    exact q
  have HTR : Hid (tg rb = 0 ∧ tg sb = 1) := ⟨h.tr, h.ts.1⟩
  have HSE : Hid (∀ V, Fr (fun k => tg k = 0 ∨ tg k = 1 ∨ tg k = 2) w V → Sent B V a → True) := fun _ _ _ => trivial
  have HQR : Hid (∀ V, Rm V tg rb sb cb bm n M p c zs cr rn wn dd N cap Lc H (x + 1) y → Sent B V a → Calls Tryz.prog 175 #[.pointer (some ⟨rb, 0, none⟩), .string nmB, .int .i64 (W : Int)] V fun e w' => e = .returned (.tuple #[.slice none 0 0, sen (a j)]) ∧ Sr w' sb bm n M p c zs cr rn' wn dd ∧ Fr (fun k => k = sb) V w') := fun V hV hSV => by
    refine (rread_any hV.blk hV.st nmB hokn W hmb1 hmb2 hM hSV hl hok hr0 hr1 hB).mono ?_
    rintro e w' ⟨v, ev, he, ha, hs, hf⟩
    rw [hj] at ha
    obtain ⟨rfl, rfl⟩ := ha
    rw [← hrn] at hs
    exact ⟨he, hs, hf⟩
  have HSS : Hid (Sent B w a) := hS
  have HBB : Hid (∀ k, (k = rb ∨ k = sb ∨ tg k = 2) → B ≤ k) := fun k e => by rcases e with e | e | e; omega; omega; exact hBc k e
  have lrb : rb < w.heap.size := heap_lt h.blk
  have lsb : sb < w.heap.size := heap_lt h.st.blk
  clear h hP hk hnm N0 hS hl hok hr0 hr1 hM hj hokn hBc hrn
  go_enter Tryz.func142, Tryz.ntmps142
  go_wp2_with fail
  refine q0.mono ?_
  rintro e w1 ⟨rfl, rfl⟩
  go_wp2_with fail
  refine (q1 _ (HP.out _ (nwa w _))).mono ?_
  rintro e w2 ⟨rfl, n2⟩
  obtain ⟨l0, b0, n2'⟩ := one_made n2
  have R2 := HR0.out w2 n2'
  have HR2 : Hid (Rm w2 tg rb sb cb bm n M p c zs cr rn wn dd N cap Lc H x y) := R2
  have HB0 : Hid (w2.heap[w.heap.size]? = some (.cells #[.int .u8 (L : Int), .int .u64 (I : Int), .int .i64 (W : Int)] 120)) := b0
  have HN2 : Hid (Nw w w2) := n2'
  obtain ⟨_, c1, c2, _⟩ := rdo_cs R2.blk
  have lr2 := heap_lt R2.blk
  have fr := frozen_of R2.blk 2
  clear q0 q1 n2 n2' b0 R2
  go_wp2_with fail
  refine gen_w (fun V => Rm V tg rb sb cb bm n M p c zs cr rn wn dd N cap Lc H (x + 1) y ∧ V.heap[w.heap.size]? = some (.cells #[.int .u8 (L : Int), .int .u64 (I : Int), .int .i64 (W : Int)] 120) ∧ Fr (fun k => k = rb) w V) ?_ ?_
  · have F : Fr (fun k => k = rb) w2 (w2.setCell ⟨rb, 2, none⟩ (.int .i64 (x + 1))) := (Fr.refl _ w2).setCell _ _ (fun _ => rfl)
    exact ⟨HR2.out.own F ((heap_set HR2.out.blk _).trans rfl), (F.block _ (heap_lt HB0.out) (by omega)).trans HB0.out, (HN2.out.mono (fun _ _ f => f.elim)).trans F (fun j _ e => e)⟩
  rintro w3 ⟨R3, T3, F3⟩
  have HR3 : Hid (Rm w3 tg rb sb cb bm n M p c zs cr rn wn dd N cap Lc H (x + 1) y) := R3
  have HT3 : Hid (w3.heap[w.heap.size]? = some (.cells #[.int .u8 (L : Int), .int .u64 (I : Int), .int .i64 (W : Int)] 120)) := T3
  have HF3 : Hid (Fr (fun k => k = rb) w w3) := F3
  have HTR2 : Hid (tg rb ≠ 2) := by have := HTR.out.1; show tg rb ≠ 2; omega
  clear c1 c2 fr lr2 l0
  obtain ⟨_, d1, _, d3⟩ := rdo_cs R3.blk
  obtain ⟨t0, t1, t2⟩ := cell3 T3
  have lr3 := heap_lt R3.blk
  have lt3 := heap_lt T3
  have nd : Nw w3 w3.drew := (Fr.refl _ _).drew
  clear R3 T3 F3
  have HC3 : Hid (CT.Cx w3.drew (fun k => tg k = 2 ∧ k < w.heap.size) cb N cap Lc) := (HC0.out.fr HF3.out (fun k hk e q => by rw [q] at e; exact HTR2.out e.1)).nw nd
  go_region_held3 (fun V => V.cell? ⟨rb, 1, none⟩ = some (.pointer (some ⟨cb, 0, none⟩)) ∧ V.cell? ⟨w.heap.size, 0, none⟩ = some (.int .u8 (L : Int)) ∧ V.cell? ⟨w.heap.size, 1, none⟩ = some (.int .u64 (I : Int)) ∧ V.cell? ⟨w.heap.size, 2, none⟩ = some (.int .i64 (W : Int))) (first | exact ⟨nd.cellOf d1, nd.cellOf t0, nd.cellOf t1, nd.cellOf t2⟩ | exact HK.out) ((go_at_call 174; refine (HG.out _ HC3.out).mono ?_; rintro e4 w4 ⟨rfl, C4, F4⟩; have T4 := (F4.block w.heap.size lt3 (fun e => Nat.lt_irrefl _ e.2)).trans HT3.out; have B4 := (F4.block rb lr3 (fun e => HTR2.out e.1)).trans HR3.out.blk; have HK : Hid (w4.cell? ⟨rb, 1, none⟩ = some (.pointer (some ⟨cb, 0, none⟩)) ∧ w4.cell? ⟨w.heap.size, 0, none⟩ = some (.int .u8 (L : Int)) ∧ w4.cell? ⟨w.heap.size, 1, none⟩ = some (.int .u64 (I : Int)) ∧ w4.cell? ⟨w.heap.size, 2, none⟩ = some (.int .i64 (W : Int))) := And.intro ((cell_of B4 1).trans rfl) (cell3 T4); have H4 : Hid (CT.Cx w4 (fun k => tg k = 2 ∧ k < w.heap.size) cb N cap Lc ∧ Fr (fun k => tg k = 2 ∧ k < w.heap.size) w3 w4) := And.intro C4 ((nd.mono (fun _ _ f => f.elim)).trans F4 (fun _ _ e => e)); clear C4 F4 T4 B4))
  all_goals
    have R4 : Hid (Rm w4 tg rb sb cb bm n M p c zs cr rn wn dd N cap Lc H (x + 1) y) := HR3.out.cache (H4.out.2.mono (fun _ _ e => e.1)) (H4.out.1.mono (fun _ _ e => e.1) (Nat.le_refl _)) (fun z hz => hz)
    have F4 : Hid (Fr (fun k => k = rb ∨ k = sb ∨ tg k = 2) w w4) := (HF3.out.mono (fun _ _ e => .inl e)).trans H4.out.2 (fun j _ e => .inr (.inr e.1))
    have S4 : Hid (Sent B w4 a) := HSS.out.fr F4.out (fun k hk e => by have := HBB.out k e; omega)
    have q5 := HQR.out w4 R4.out S4.out
    obtain ⟨_, k0, k1, k2⟩ := HK.out
    have lt4 : w.heap.size < w4.heap.size := Nat.lt_of_lt_of_le lt3 H4.out.2.size
    clear d1 d3 t0 t1 t2 lr3 lt3
    go_wp2_with fail
    refine q5.mono ?_
    rintro e w5 ⟨rfl, s5, f5⟩
    have R5 : Hid (Rm w5 tg rb sb cb bm n M p c zs cr rn' wn dd N cap Lc H (x + 1) y) := R4.out.store f5 s5
    have F5 : Hid (Fr (fun k => tg k = 0 ∨ tg k = 1 ∨ tg k = 2) w w5) := (F4.out.trans f5 (fun _ _ e => .inr (.inl e))).mono (fun k _ e => by rcases e with e | e | e; exact .inl (by rw [e]; exact HTR.out.1); exact .inr (.inl (by rw [e]; exact HTR.out.2)); exact .inr (.inr e))
    clear q5 s5 f5 k0 k1 k2
    go_wp2
    go_ret2
    exact ⟨rfl, R5.out, F5.out⟩
end Go.Proofs.YtjkhcplnedcmeaaGreatDoor
namespace Go.Proofs.YtjkhcplnedcmeaaGreatDoor
open Go.RowKit
set_option linter.unusedVariables false
set_option linter.unusedSimpArgs false
theorem putA_mem {cap : Nat} {L : CT.LT} {k : CT.KT} {v : CT.VT} (hk : CT.tk L k = none) : ∀ z ∈ (CT.putA cap L k v).2.2, z = (k, v) ∨ z ∈ L := fun z hz => by
  unfold CT.putA at hz
  rw [hk] at hz
  simp only at hz
  split at hz
  · exact .inr hz
  · split at hz
    · simp only [List.mem_cons] at hz
      rcases hz with e | e
      · exact .inl e
      · exact .inr (List.dropLast_subset _ e)
    · simp only [List.mem_cons] at hz
      exact hz
theorem rdA_row {M : Tx} {zs : List Int} {rn : Int} {dd : Bool} {s : ByteArray} {W : Nat} {Hs : List (List UInt8)} (h : rdA M zs rn dd s W = .inl Hs) : Hs.length = W ∧ ∀ u ∈ Hs, u.length = 32 := by
  unfold rdA at h
  split at h
  · cases h
  split at h
  · cases h
  split at h
  · cases h
  rename_i t _
  split at h
  · rename_i ht
    cases h
    exact ⟨chs_len _ _, chs_32 (by rw [bytes_len]; exact ht)⟩
  · cases h
open Classical in
/-- What is kept by a key is another now. -/
noncomputable def upH (H : CT.KT → List (List UInt8)) (k : CT.KT) (R : List (List UInt8)) : CT.KT → List (List UInt8) := fun z => if z = k then R else H z
theorem upH_same (H : CT.KT → List (List UInt8)) (k : CT.KT) (R : List (List UInt8)) : upH H k R k = R := by simp [upH]
theorem upH_ne (H : CT.KT → List (List UInt8)) {k z : CT.KT} (R : List (List UInt8)) (h : z ≠ k) : upH H k R z = H z := by simp [upH, h]
/-- Tags when a row was made and the cache has grown. -/
def tgN (tg : Nat → Nat) (s g q : Nat) : Nat → Nat := fun k => if k < s then tg k else if k = g then 3 else if q ≤ k then 2 else 9
theorem Rm.put {w0 w w' : World} {tg : Nat → Nat} {rb sb cb bm n : Nat} {M : Tx} {p : Option Addr} {c : Nat} {zs : List Int} {cr rn wn : Int} {dd : Bool} {N cap N' : Nat} {L L' : CT.LT} {H : CT.KT → List (List UInt8)} {x y : Int} {k : CT.KT} {Hs : List (List UInt8)} {g : Nat}
    (h0 : Rm w0 tg rb sb cb bm n M p c zs cr rn wn dd N cap L H x y) (h : Rm w tg rb sb cb bm n M p c zs cr rn wn dd N cap L H x y) (hs : w0.heap.size ≤ w.heap.size) (f : Fr (fun k => tg k = 2 ∧ k < w0.heap.size) w w') (hc : CT.Cx w' (fun j => (tg j = 2 ∧ j < w0.heap.size) ∨ w.heap.size ≤ j) cb N' cap L')
    (hg : w0.heap.size ≤ g) (h32 : ∀ u ∈ Hs, u.length = 32) (ho : w.ownsRow 0 69 32 (.slice (some ⟨g, 0, none⟩) Hs.length Hs.length) Hs.length (hsc Hs)) (hk : CT.tk L k = none) (hL : ∀ z ∈ L', z = (k, (some ⟨g, 0, none⟩, Hs.length, Hs.length)) ∨ z ∈ L) :
    Rm w' (tgN tg w0.heap.size g w.heap.size) rb sb cb bm n M p c zs cr rn wn dd N' cap L' (upH H k Hs) x y := by
  have hgl : g < w.heap.size := (ho.lt g rfl).2
  have e0 := h.tr
  obtain ⟨e1, e2, e3⟩ := h.ts
  have tb : ∀ k, k < w0.heap.size → tgN tg w0.heap.size g w.heap.size k = tg k := fun k hk => by simp [tgN, hk]
  have tgg : tgN tg w0.heap.size g w.heap.size g = 3 := by simp [tgN]; omega
  refine ⟨(f.block _ (heap_lt h.blk) (fun e => by rw [e0] at e; omega)).trans h.blk, h.st.fr f (fun e => by rw [e1] at e; omega) (fun e => by rw [e2] at e; omega) (fun g o hp e => by rw [e3 g o hp] at e; omega), hc.mono (fun j hj e => ?_) (Nat.le_refl _), fun z hz => ?_, by rw [tb _ (heap_lt h0.blk)]; exact e0, ⟨by rw [tb _ (heap_lt h0.st.blk)]; exact e1, by rw [tb _ h0.st.mp.lt]; exact e2, fun g o hp => by rw [tb _ (h0.lp g o hp)]; exact e3 g o hp⟩, fun g o e => Nat.lt_of_lt_of_le (h.lp g o e) f.size⟩
  · rcases e with e | e
    · rw [tb _ e.2]; exact e.1
    · simp only [tgN]
      rw [if_neg (by omega), if_neg (by omega), if_pos e]
  · rcases hL z hz with e | e
    · subst e
      rw [upH_same]
      exact ⟨⟨g, rfl, tgg⟩, h32, ownsRow_keep ho (fun q hq => f.block q (ho.lt q hq).2 (fun t => by simp [Value.ownBlock] at hq; omega))⟩
    · have hzk := tk_off hk z e
      rw [upH_ne _ _ hzk]
      obtain ⟨⟨g0, hg0, ht0⟩, hh, hr⟩ := h0.row z e
      have hl0 : g0 < w0.heap.size := (hr.lt g0 (by rw [hg0]; rfl)).2
      obtain ⟨_, _, hr1⟩ := Rm.row_fr h.row f (fun k hk q => by rw [hk] at q; omega) z e
      exact ⟨⟨g0, hg0, by rw [tb _ hl0]; exact ht0⟩, hh, hr1⟩
end Go.Proofs.YtjkhcplnedcmeaaGreatDoor
namespace Go.Proofs.YtjkhcplnedcmeaaGreatDoor
open Go.RowKit
set_option linter.unusedVariables false
set_option linter.unusedSimpArgs false
theorem Rm.put2 {w0 w w' : World} {tg : Nat → Nat} {rb sb cb bm n : Nat} {M : Tx} {p : Option Addr} {c : Nat} {zs : List Int} {cr rn wn : Int} {dd : Bool} {N cap N' : Nat} {L L' : CT.LT} {H : CT.KT → List (List UInt8)} {x y : Int} {k : CT.KT} {Hs : List (List UInt8)} {g : Nat}
    {rn0 x0 y0 : Int} (h0 : Rm w0 tg rb sb cb bm n M p c zs cr rn0 wn dd N cap L H x0 y0) (h : Rm w tg rb sb cb bm n M p c zs cr rn wn dd N cap L H x y) (hs : w0.heap.size ≤ w.heap.size) (f : Fr (fun k => tg k = 2 ∧ k < w0.heap.size) w w') (hc : CT.Cx w' (fun j => (tg j = 2 ∧ j < w0.heap.size) ∨ w.heap.size ≤ j) cb N' cap L')
    (hg : w0.heap.size ≤ g) (h32 : ∀ u ∈ Hs, u.length = 32) (ho : w.ownsRow 0 69 32 (.slice (some ⟨g, 0, none⟩) Hs.length Hs.length) Hs.length (hsc Hs)) (hk : CT.tk L k = none) (hL : ∀ z ∈ L', z = (k, (some ⟨g, 0, none⟩, Hs.length, Hs.length)) ∨ z ∈ L) :
    Rm w' (tgN tg w0.heap.size g w.heap.size) rb sb cb bm n M p c zs cr rn wn dd N' cap L' (upH H k Hs) x y := by
  have hgl : g < w.heap.size := (ho.lt g rfl).2
  have e0 := h.tr
  obtain ⟨e1, e2, e3⟩ := h.ts
  have tb : ∀ k, k < w0.heap.size → tgN tg w0.heap.size g w.heap.size k = tg k := fun k hk => by simp [tgN, hk]
  have tgg : tgN tg w0.heap.size g w.heap.size g = 3 := by simp [tgN]; omega
  refine ⟨(f.block _ (heap_lt h.blk) (fun e => by rw [e0] at e; omega)).trans h.blk, h.st.fr f (fun e => by rw [e1] at e; omega) (fun e => by rw [e2] at e; omega) (fun g o hp e => by rw [e3 g o hp] at e; omega), hc.mono (fun j hj e => ?_) (Nat.le_refl _), fun z hz => ?_, by rw [tb _ (heap_lt h0.blk)]; exact e0, ⟨by rw [tb _ (heap_lt h0.st.blk)]; exact e1, by rw [tb _ h0.st.mp.lt]; exact e2, fun g o hp => by rw [tb _ (h0.lp g o hp)]; exact e3 g o hp⟩, fun g o e => Nat.lt_of_lt_of_le (h.lp g o e) f.size⟩
  · rcases e with e | e
    · rw [tb _ e.2]; exact e.1
    · simp only [tgN]
      rw [if_neg (by omega), if_neg (by omega), if_pos e]
  · rcases hL z hz with e | e
    · subst e
      rw [upH_same]
      exact ⟨⟨g, rfl, tgg⟩, h32, ownsRow_keep ho (fun q hq => f.block q (ho.lt q hq).2 (fun t => by simp [Value.ownBlock] at hq; omega))⟩
    · have hzk := tk_off hk z e
      rw [upH_ne _ _ hzk]
      obtain ⟨⟨g0, hg0, ht0⟩, hh, hr⟩ := h0.row z e
      have hl0 : g0 < w0.heap.size := (hr.lt g0 (by rw [hg0]; rfl)).2
      obtain ⟨_, _, hr1⟩ := Rm.row_fr h.row f (fun k hk q => by rw [hk] at q; omega) z e
      exact ⟨⟨g0, hg0, by rw [tb _ hl0]; exact ht0⟩, hh, hr1⟩
set_option maxRecDepth 100000 in
set_option maxHeartbeats 2000000 in
theorem fetch_new {w : World} {tg : Nat → Nat} {rb sb cb bm n : Nat} {M : Tx} {p : Option Addr} {c : Nat} {zs : List Int} {cr rn wn : Int} {dd : Bool} {N cap : Nat} {Lc : CT.LT} {H : CT.KT → List (List UInt8)} {x y : Int} (h : Rm w tg rb sb cb bm n M p c zs cr rn wn dd N cap Lc H x y) (L I W : Nat) (hm : mayT L I (W : Int)) (hk : CT.tk Lc (keyT L I W hm) = none) (hP : TX.Pow w) (hx : 0 ≤ x ∧ x < 4611686018427387904)
    {B : Nat} {a : Nat → Addr} (hS : Sent B w a) (hl : zs.length ≤ 17592186044416) (hok : okR 0 zs = true) (hr0 : 0 ≤ rn) (hr1 : rn < 4611686018427387904) (hB : B ≤ sb) (hBr : B ≤ rb) (hBc : ∀ k, tg k = 2 → B ≤ k) (hM : ∀ t, M ⟨(nm L I W).toArray⟩ = some t → t.size ≤ 281474976710656) (rn' : Int) (hrn : rn' = if dd then rn else rn + 1) (Hs : List (List UInt8)) (hj : rdA M zs rn dd ⟨(nm L I W).toArray⟩ W = .inl Hs) (hN : N < 4611686018427387900) :
    Calls Tryz.prog 142 #[.pointer (some ⟨rb, 0, none⟩), tl L I W] w fun e w' => ∃ g q, e = .returned (.tuple #[.slice (some ⟨g, 0, none⟩) Hs.length Hs.length, .nilIface]) ∧ w.heap.size ≤ g ∧ g < q ∧ Rm w' (tgN tg w.heap.size g q) rb sb cb bm n M p c zs cr rn' wn dd (N + 2) cap (CT.putA cap Lc (keyT L I W hm) (some ⟨g, 0, none⟩, Hs.length, Hs.length)).2.2 (upH H (keyT L I W hm) Hs) (x + 1) y ∧ w'.ownsRow 0 69 32 (.slice (some ⟨g, 0, none⟩) Hs.length Hs.length) Hs.length (hsc Hs) ∧ Fr (fun k => tg k = 0 ∨ tg k = 1 ∨ tg k = 2) w w' := by
  have hHs := rdA_row hj
  have N0 := nwa w (.cells #[.int .u8 (L : Int), .int .u64 (I : Int), .int .i64 (W : Int)] 120)
  have q0 := rthere_any (h.nw N0).blk
  have q1 := tpath_yes L I W hm
  obtain ⟨hmb1, hmb2⟩ : 1 ≤ W ∧ W ≤ 256 := by have := nm_len hm; omega
  have hokn := okN_nm hm
  obtain ⟨nmB, hnm⟩ : ∃ q, q = (⟨(nm L I W).toArray⟩ : ByteArray) := ⟨_, rfl⟩
  rw [← hnm] at q1 hj hM hokn
  have HR0 : Hid (∀ V, Nw w V → Rm V tg rb sb cb bm n M p c zs cr rn wn dd N cap Lc H x y) := fun V nV => h.nw nV
  have HP : Hid (∀ V, Nw w V → TX.Pow V) := fun V nV => hP.fr nV
  have HC0 : Hid (CT.Cx w (fun k => tg k = 2 ∧ k < w.heap.size) cb N cap Lc) := h.ca.mono (fun k hk e => ⟨e, hk⟩) (Nat.le_refl _)
  have HG : Hid (∀ V, CT.Cx V (fun k => tg k = 2 ∧ k < w.heap.size) cb N cap Lc → Calls Tryz.prog 174 #[.pointer (some ⟨cb, 0, none⟩), tl L I W] V fun e w' => e = .returned (.tuple #[.slice none 0 0, .bool false]) ∧ CT.Cx w' (fun k => tg k = 2 ∧ k < w.heap.size) cb N cap Lc ∧ Fr (fun k => tg k = 2 ∧ k < w.heap.size) V w') := fun V hV => by
    have q := CT.get_any hV (keyT L I W hm) trivial
    have e : CT.getA Lc (keyT L I W hm) = (CT.vz, false, Lc) := by rw [CT.getA, hk]
    rw [e] at q
    exact q
  have HPU : Hid (∀ (V : World) (v : CT.VT), CT.Cx V (fun k => tg k = 2 ∧ k < w.heap.size) cb N cap Lc → Calls Tryz.prog 176 #[.pointer (some ⟨cb, 0, none⟩), tl L I W, CT.vv v] V fun e w' => ∃ r, e = .returned r ∧ CT.Cx w' (fun j => (tg j = 2 ∧ j < w.heap.size) ∨ V.heap.size ≤ j) cb (N + 2) cap (CT.putA cap Lc (keyT L I W hm) v).2.2 ∧ Fr (fun k => tg k = 2 ∧ k < w.heap.size) V w') := fun V v hV => CT.put_any hV (keyT L I W hm) v trivial hN
  have HKO : Hid (CT.tk Lc (keyT L I W hm) = none) := hk
  have HHS : Hid (Hs.length = W ∧ ∀ u ∈ Hs, u.length = 32) := hHs
  have HRW : Hid (Rm w tg rb sb cb bm n M p c zs cr rn wn dd N cap Lc H x y) := h
  have HTR : Hid (tg rb = 0 ∧ tg sb = 1) := ⟨h.tr, h.ts.1⟩
  have HSE : Hid (∀ V, Fr (fun k => tg k = 0 ∨ tg k = 1 ∨ tg k = 2) w V → Sent B V a → True) := fun _ _ _ => trivial
  have HQR : Hid (∀ V, Rm V tg rb sb cb bm n M p c zs cr rn wn dd N cap Lc H (x + 1) y → Sent B V a → Calls Tryz.prog 175 #[.pointer (some ⟨rb, 0, none⟩), .string nmB, .int .i64 (W : Int)] V fun e w' => ∃ g, e = .returned (.tuple #[.slice (some ⟨g, 0, none⟩) Hs.length Hs.length, .nilIface]) ∧ w'.ownsRow V.heap.size 69 32 (.slice (some ⟨g, 0, none⟩) Hs.length Hs.length) Hs.length (hsc Hs) ∧ Sr w' sb bm n M p c zs cr rn' wn dd ∧ Fr (fun k => k = sb) V w') := fun V hV hSV => by
    refine (rread_any hV.blk hV.st nmB hokn W hmb1 hmb2 hM hSV hl hok hr0 hr1 hB).mono ?_
    rintro e w' ⟨v, ev, he, ha, hs, hf⟩
    rw [hj] at ha
    obtain ⟨⟨g, rfl⟩, rfl, ho⟩ := ha
    rw [← hrn] at hs
    exact ⟨g, he, ho, hs, hf⟩
  have HSS : Hid (Sent B w a) := hS
  have HBB : Hid (∀ k, (k = rb ∨ k = sb ∨ tg k = 2) → B ≤ k) := fun k e => by rcases e with e | e | e; omega; omega; exact hBc k e
  have lrb : rb < w.heap.size := heap_lt h.blk
  have lsb : sb < w.heap.size := heap_lt h.st.blk
  clear hHs h hP hk hnm N0 hS hl hok hr0 hr1 hM hj hokn hBc hrn
  go_enter Tryz.func142, Tryz.ntmps142
  go_wp2_with fail
  refine q0.mono ?_
  rintro e w1 ⟨rfl, rfl⟩
  go_wp2_with fail
  refine (q1 _ (HP.out _ (nwa w _))).mono ?_
  rintro e w2 ⟨rfl, n2⟩
  obtain ⟨l0, b0, n2'⟩ := one_made n2
  have R2 := HR0.out w2 n2'
  have HR2 : Hid (Rm w2 tg rb sb cb bm n M p c zs cr rn wn dd N cap Lc H x y) := R2
  have HB0 : Hid (w2.heap[w.heap.size]? = some (.cells #[.int .u8 (L : Int), .int .u64 (I : Int), .int .i64 (W : Int)] 120)) := b0
  have HN2 : Hid (Nw w w2) := n2'
  obtain ⟨_, c1, c2, _⟩ := rdo_cs R2.blk
  have lr2 := heap_lt R2.blk
  have fr := frozen_of R2.blk 2
  clear q0 q1 n2 n2' b0 R2
  go_wp2_with fail
  refine gen_w (fun V => Rm V tg rb sb cb bm n M p c zs cr rn wn dd N cap Lc H (x + 1) y ∧ V.heap[w.heap.size]? = some (.cells #[.int .u8 (L : Int), .int .u64 (I : Int), .int .i64 (W : Int)] 120) ∧ Fr (fun k => k = rb) w V) ?_ ?_
  · have F : Fr (fun k => k = rb) w2 (w2.setCell ⟨rb, 2, none⟩ (.int .i64 (x + 1))) := (Fr.refl _ w2).setCell _ _ (fun _ => rfl)
    exact ⟨HR2.out.own F ((heap_set HR2.out.blk _).trans rfl), (F.block _ (heap_lt HB0.out) (by omega)).trans HB0.out, (HN2.out.mono (fun _ _ f => f.elim)).trans F (fun j _ e => e)⟩
  rintro w3 ⟨R3, T3, F3⟩
  have HR3 : Hid (Rm w3 tg rb sb cb bm n M p c zs cr rn wn dd N cap Lc H (x + 1) y) := R3
  have HT3 : Hid (w3.heap[w.heap.size]? = some (.cells #[.int .u8 (L : Int), .int .u64 (I : Int), .int .i64 (W : Int)] 120)) := T3
  have HF3 : Hid (Fr (fun k => k = rb) w w3) := F3
  have HTR2 : Hid (tg rb ≠ 2) := by have := HTR.out.1; show tg rb ≠ 2; omega
  clear c1 c2 fr lr2 l0
  obtain ⟨_, d1, _, d3⟩ := rdo_cs R3.blk
  obtain ⟨t0, t1, t2⟩ := cell3 T3
  have lr3 := heap_lt R3.blk
  have lt3 := heap_lt T3
  have nd : Nw w3 w3.drew := (Fr.refl _ _).drew
  clear R3 T3 F3
  have HC3 : Hid (CT.Cx w3.drew (fun k => tg k = 2 ∧ k < w.heap.size) cb N cap Lc) := (HC0.out.fr HF3.out (fun k hk e q => by rw [q] at e; exact HTR2.out e.1)).nw nd
  go_region_held3 (fun V => V.cell? ⟨rb, 1, none⟩ = some (.pointer (some ⟨cb, 0, none⟩)) ∧ V.cell? ⟨w.heap.size, 0, none⟩ = some (.int .u8 (L : Int)) ∧ V.cell? ⟨w.heap.size, 1, none⟩ = some (.int .u64 (I : Int)) ∧ V.cell? ⟨w.heap.size, 2, none⟩ = some (.int .i64 (W : Int))) (first | exact ⟨nd.cellOf d1, nd.cellOf t0, nd.cellOf t1, nd.cellOf t2⟩ | exact HK.out) ((go_at_call 174; refine (HG.out _ HC3.out).mono ?_; rintro e4 w4 ⟨rfl, C4, F4⟩; have T4 := (F4.block w.heap.size lt3 (fun e => Nat.lt_irrefl _ e.2)).trans HT3.out; have B4 := (F4.block rb lr3 (fun e => HTR2.out e.1)).trans HR3.out.blk; have HK : Hid (w4.cell? ⟨rb, 1, none⟩ = some (.pointer (some ⟨cb, 0, none⟩)) ∧ w4.cell? ⟨w.heap.size, 0, none⟩ = some (.int .u8 (L : Int)) ∧ w4.cell? ⟨w.heap.size, 1, none⟩ = some (.int .u64 (I : Int)) ∧ w4.cell? ⟨w.heap.size, 2, none⟩ = some (.int .i64 (W : Int))) := And.intro ((cell_of B4 1).trans rfl) (cell3 T4); have H4 : Hid (CT.Cx w4 (fun k => tg k = 2 ∧ k < w.heap.size) cb N cap Lc ∧ Fr (fun k => tg k = 2 ∧ k < w.heap.size) w3 w4) := And.intro C4 ((nd.mono (fun _ _ f => f.elim)).trans F4 (fun _ _ e => e)); clear C4 F4 T4 B4))
  all_goals
    have R4 : Hid (Rm w4 tg rb sb cb bm n M p c zs cr rn wn dd N cap Lc H (x + 1) y) := HR3.out.cache (H4.out.2.mono (fun _ _ e => e.1)) (H4.out.1.mono (fun _ _ e => e.1) (Nat.le_refl _)) (fun z hz => hz)
    have F4 : Hid (Fr (fun k => k = rb ∨ k = sb ∨ tg k = 2) w w4) := (HF3.out.mono (fun _ _ e => .inl e)).trans H4.out.2 (fun j _ e => .inr (.inr e.1))
    have S4 : Hid (Sent B w4 a) := HSS.out.fr F4.out (fun k hk e => by have := HBB.out k e; omega)
    have q5 := HQR.out w4 R4.out S4.out
    obtain ⟨_, k0, k1, k2⟩ := HK.out
    have lt4 : w.heap.size < w4.heap.size := Nat.lt_of_lt_of_le lt3 H4.out.2.size
    clear d1 d3 t0 t1 t2 lr3 lt3
    go_wp2_with fail
    refine q5.mono ?_
    rintro e w5 ⟨g, rfl, o5, s5, f5⟩
    have R5 : Hid (Rm w5 tg rb sb cb bm n M p c zs cr rn' wn dd N cap Lc H (x + 1) y) := R4.out.store f5 s5
    have F5 : Hid (Fr (fun k => tg k = 0 ∨ tg k = 1 ∨ tg k = 2) w w5) := (F4.out.trans f5 (fun _ _ e => .inr (.inl e))).mono (fun k _ e => by rcases e with e | e | e; exact .inl (by rw [e]; exact HTR.out.1); exact .inr (.inl (by rw [e]; exact HTR.out.2)); exact .inr (.inr e))
    have hg4 := (o5.lt g rfl).1
    have hg5 := (o5.lt g rfl).2
    have HO5 : Hid (w5.ownsRow 0 69 32 (.slice (some ⟨g, 0, none⟩) Hs.length Hs.length) Hs.length (hsc Hs)) := ownsRow_base o5 (Nat.zero_le _)
    have C5 : Hid (CT.Cx w5 (fun k => tg k = 2 ∧ k < w.heap.size) cb N cap Lc) := H4.out.1.fr f5 (fun k _ e q => by rw [q] at e; have := HTR.out.2; omega)
    have T5 : Hid (w5.heap[w.heap.size]? = some (.cells #[.int .u8 (L : Int), .int .u64 (I : Int), .int .i64 (W : Int)] 120)) := (f5.block _ lt4 (by omega)).trans ((H4.out.2.block w.heap.size (heap_lt HT3.out) (fun e => Nat.lt_irrefl _ e.2)).trans HT3.out)
    have hs5 : w.heap.size ≤ w5.heap.size := F5.out.size
    obtain ⟨_, d1, _, _⟩ := rdo_cs R5.out.blk
    obtain ⟨t0, t1, t2⟩ := cell3 T5.out
    have lr5 := heap_lt R5.out.blk
    have lt5 := heap_lt T5.out
    have nd5 : Nw w5 w5.drew := (Fr.refl _ _).drew
    have C5d : Hid (CT.Cx w5.drew (fun k => tg k = 2 ∧ k < w.heap.size) cb N cap Lc) := C5.out.nw nd5
    obtain ⟨hl, hhl⟩ : ∃ q, q = Hs.length := ⟨_, rfl⟩
    have HHL : Hid (hl = Hs.length) := hhl
    rw [← hhl]
    clear q5 s5 f5 o5 k0 k1 k2 hhl HK lt4
    go_wp2_with fail
    go_region_held3 (fun V => V.cell? ⟨rb, 1, none⟩ = some (.pointer (some ⟨cb, 0, none⟩)) ∧ V.cell? ⟨w.heap.size, 0, none⟩ = some (.int .u8 (L : Int)) ∧ V.cell? ⟨w.heap.size, 1, none⟩ = some (.int .u64 (I : Int)) ∧ V.cell? ⟨w.heap.size, 2, none⟩ = some (.int .i64 (W : Int))) (first | exact ⟨nd5.cellOf d1, nd5.cellOf t0, nd5.cellOf t1, nd5.cellOf t2⟩ | exact HK6.out) ((go_at_call 176; refine (HPU.out _ (some ⟨g, 0, none⟩, hl, hl) C5d.out).mono ?_; rintro e6 w6 ⟨r6, rfl, C6, F6⟩; have T6 := (F6.block w.heap.size lt5 (fun e => Nat.lt_irrefl _ e.2)).trans T5.out; have B6 := (F6.block rb lr5 (fun e => HTR2.out e.1)).trans R5.out.blk; have HK6 : Hid (w6.cell? ⟨rb, 1, none⟩ = some (.pointer (some ⟨cb, 0, none⟩)) ∧ w6.cell? ⟨w.heap.size, 0, none⟩ = some (.int .u8 (L : Int)) ∧ w6.cell? ⟨w.heap.size, 1, none⟩ = some (.int .u64 (I : Int)) ∧ w6.cell? ⟨w.heap.size, 2, none⟩ = some (.int .i64 (W : Int))) := And.intro ((cell_of B6 1).trans rfl) (cell3 T6); have H6 : Hid (CT.Cx w6 (fun j => (tg j = 2 ∧ j < w.heap.size) ∨ w5.heap.size ≤ j) cb (N + 2) cap (CT.putA cap Lc (keyT L I W hm) (some ⟨g, 0, none⟩, hl, hl)).2.2 ∧ Fr (fun k => tg k = 2 ∧ k < w.heap.size) w5 w6) := And.intro C6 ((nd5.mono (fun _ _ f => f.elim)).trans F6 (fun _ _ e => e)); clear C6 F6 T6 B6))
  all_goals
    have hgw : w.heap.size ≤ g := Nat.le_trans (F4.out.size) hg4
    have HFIN : Hid (w.heap.size ≤ g ∧ g < w5.heap.size ∧ Rm w6 (tgN tg w.heap.size g w5.heap.size) rb sb cb bm n M p c zs cr rn' wn dd (N + 2) cap (CT.putA cap Lc (keyT L I W hm) (some ⟨g, 0, none⟩, Hs.length, Hs.length)).2.2 (upH H (keyT L I W hm) Hs) (x + 1) y ∧ w6.ownsRow 0 69 32 (.slice (some ⟨g, 0, none⟩) Hs.length Hs.length) Hs.length (hsc Hs) ∧ Fr (fun k => tg k = 0 ∨ tg k = 1 ∨ tg k = 2) w w6) := by
      have h6 := H6.out
      rw [HHL.out] at h6
      have R5w : Rm w tg rb sb cb bm n M p c zs cr rn wn dd N cap Lc H x y := HRW.out
      refine ⟨hgw, hg5, ?_, ownsRow_keep HO5.out (fun q hq => h6.2.block q (HO5.out.lt q hq).2 (fun t => by simp [Value.ownBlock] at hq; omega)), F5.out.trans h6.2 (fun j _ e => .inr (.inr e.1))⟩
      exact Rm.put2 R5w R5.out hs5 h6.2 h6.1 hgw HHS.out.2 HO5.out HKO.out (putA_mem HKO.out)
    clear d1 t0 t1 t2 lr5 lt5 HPU
    go_wp2
    go_ret2
    exact ⟨g, w5.heap.size, by rw [← HHL.out]; rfl, HFIN.out⟩
end Go.Proofs.YtjkhcplnedcmeaaGreatDoor
namespace Go.Proofs.YtjkhcplnedcmeaaGreatDoor
open Go.RowKit
set_option linter.unusedVariables false
set_option linter.unusedSimpArgs false
set_option maxRecDepth 100000 in
theorem hclone_nil (w : World) : Calls Tryz.prog 71 #[.slice none 0 0] w fun e w' => e = .returned (.slice none 0 0) ∧ w' = w := by
  have eq0 : ∀ W : World, (binOp .eql 45 (.slice none 0 0) (.slice none 0 0)).run Tryz.prog W = .ok (.bool true) W := fun W => by kernel_rfl
  go_enter Tryz.func71, Tryz.ntmps71
  go_wp2
  go_ret
  exact ⟨rfl, rfl⟩
theorem own_emptyc (w : World) : (w.alloc (.cells #[] 69)).ownsRow w.heap.size 69 32 (.slice (some ⟨w.heap.size, 0, none⟩) 0 0) 0 [] :=
  ⟨rfl, .inr ⟨w.heap.size, 0, #[], rfl, Nat.le_refl _, heap_new _ _, Nat.le_refl _, Nat.zero_le _, rfl, rfl⟩⟩
set_option maxRecDepth 100000 in
set_option maxHeartbeats 1000000 in
theorem hclone_some {w : World} {base : Nat} {g n c : Nat} {T : List (List UInt8)} (h : w.ownsRow base 69 32 (.slice (some ⟨g, 0, none⟩) n c) n (hsc T)) (hn : T.length = n) (hok : ∀ t ∈ T, t.length = 32) (hl : n ≤ 1000000) :
    Calls Tryz.prog 71 #[.slice (some ⟨g, 0, none⟩) n c] w fun e w' => ∃ v', e = .returned v' ∧ w'.ownsRow w.heap.size 69 32 v' n (hsc T) ∧ Nw w w' := by
  obtain ⟨i0, hi, hz0, hz1, hz2⟩ := info_parts infoHs
  have HC : Hid (∀ j u, (hsc T)[j]? = some u → (w.alloc (.cells #[] 69)).cell? ((⟨g, 0, none⟩ : Addr).add j) = some u) := fun j u hu => (nwa w _).cellOf (h.cells (g := g) rfl j u hu)
  have HLn : Hid ((hsc T).length = n * 32) := h.1
  have H1 : Hid (∀ u ∈ hsc T, u.oneCell' = true) := fun u hu => by
    simp only [hsc, List.mem_flatMap] at hu
    obtain ⟨t, _, hu⟩ := hu
    exact hbs_one t u hu
  clear h hok
  have eq0 : ∀ W : World, (binOp .eql 45 (.slice (some ⟨g, 0, none⟩) n c) (.slice none 0 0)).run Tryz.prog W = .ok (.bool false) W := fun W => by kernel_rfl
  go_enter Tryz.func71, Tryz.ntmps71
  go_wp2_with (at_builtin; refine wpList_two _ rfl (.tmp 5) (.tmp 6) 45 rfl w.heap.size 69 i0 (.agg z32) 32 32 Tryz.underlying45 hi hz0 hz1 hz2 z32_size (by decide) (.slice (some ⟨w.heap.size, 0, none⟩) 0 0) 0 [] rfl (own_emptyc w) ⟨g, 0, none⟩ n c (hsc T) rfl HLn.out HC.out H1.out (by unfold maxLen; omega) (by omega) (by simp) ?_; intro v' w5 o5 t5; rw [Nat.zero_add, List.nil_append] at o5; have N5 : Nw w w5 := (nwa w _).trans t5.fr (fun j hj q => by simp [Value.ownBlock] at q; omega); clear t5)
  go_ret
  exact ⟨_, rfl, o5, N5⟩
set_option maxRecDepth 100000 in
theorem fetch_none {w : World} {q : Value} (h : NoR w q) (t : Value) (L I : Nat) (W : Int) (ht : t = .agg #[.int .u8 (L : Int), .int .u64 (I : Int), .int .i64 W]) {B : Nat} {a : Nat → Addr} (hS : Sent B w a) :
    Calls Tryz.prog 142 #[q, t] w fun e w' => e = .returned (.tuple #[.slice none 0 0, sen (a 0)]) ∧ Nw w w' := by
  subst ht
  have q0 := rthere_no (h.nw (nwa w (.cells #[.int .u8 (L : Int), .int .u64 (I : Int), .int .i64 W] 120)))
  have e0 := (hS.fr (nwa w (.cells #[.int .u8 (L : Int), .int .u64 (I : Int), .int .i64 W] 120)) (fun _ _ f => f)).c0
  clear h hS
  go_enter Tryz.func142, Tryz.ntmps142
  go_wp2_with fail
  refine q0.mono ?_
  rintro e w1 ⟨rfl, rfl⟩
  go_wp2_with fail
  go_quiet (fail)
  go_wp2
  go_ret2
  exact ⟨rfl, (nwa w _).drewN nq⟩
set_option maxRecDepth 100000 in
theorem fetch_bad {w : World} {rb cb : Nat} {st : Value} {x y : Int} (h : w.heap[rb]? = some (rdo st (.pointer (some ⟨cb, 0, none⟩)) x y)) (L I : Nat) (W : Int) (hL : L ≤ 255) (hI : I < 18446744073709551616) (hm : ¬ mayT L I W) {B : Nat} {a : Nat → Addr} (hS : Sent B w a) :
    Calls Tryz.prog 142 #[.pointer (some ⟨rb, 0, none⟩), .agg #[.int .u8 (L : Int), .int .u64 (I : Int), .int .i64 W]] w fun e w' => e = .returned (.tuple #[.slice none 0 0, sen (a 1)]) ∧ Nw w w' := by
  have N0 := nwa w (.cells #[.int .u8 (L : Int), .int .u64 (I : Int), .int .i64 W] 120)
  have q0 := rthere_any ((N0.block _ (heap_lt h) (fun f => f)).trans h)
  have q1 := tpath_no L I W hL hI hm _ (hS.fr N0 (fun _ _ f => f))
  clear h hS
  go_enter Tryz.func142, Tryz.ntmps142
  go_wp2_with fail
  refine q0.mono ?_
  rintro e w1 ⟨rfl, rfl⟩
  go_wp2_with fail
  refine q1.mono ?_
  rintro e w2 ⟨rfl, n2⟩
  go_wp2
  go_ret2
  exact ⟨rfl, N0.tr n2⟩
theorem isthere_any {w : World} {b bm : Nat} {rv : Value} {cr rn wn : Int} {dd : Bool} (h : w.heap[b]? = some (stc (.map (some bm)) rv cr rn wn dd)) {B : Nat} {a : Nat → Addr} (hS : Sent B w a) :
    Calls Tryz.prog 55 #[.pointer (some ⟨b, 0, none⟩)] w fun e w' => e = .returned (.bool true) ∧ w' = w := by
  have q := sget_ref h ⟨#[]⟩ hS (x := a 1) (rfs_arg (fun e => by have := e.1; revert this; decide))
  have q2 := is_any hS (show EV w a (sen (a 1)) 2 none from .inr (.inl ⟨1, by decide, rfl, rfl, rfl⟩)) (by decide) 0 (by decide)
  rw [decide_eq_false (by decide)] at q2
  have e0 := hS.c0
  clear h hS
  go_enter Tryz.func55, Tryz.ntmps55
  go_wp2_with fail
  refine q.mono ?_
  rintro e w1 ⟨rfl, rfl⟩
  go_wp2_with fail
  refine q2.mono ?_
  rintro e w2 ⟨rfl, rfl⟩
  go_wp2
  go_ret
  exact ⟨rfl, rfl⟩
theorem rnew_any {w : World} {b bm : Nat} {rv : Value} {cr rn wn : Int} {dd : Bool} (h : w.heap[b]? = some (stc (.map (some bm)) rv cr rn wn dd)) (cap : Nat) (hc : cap ≤ 1024) {B : Nat} {a : Nat → Addr} (hS : Sent B w a) :
    Calls Tryz.prog 13 #[.pointer (some ⟨b, 0, none⟩), .int .i64 (cap : Int)] w fun e w' => ∃ rb cb, e = .returned (.tuple #[.pointer (some ⟨rb, 0, none⟩), .nilIface]) ∧ w'.heap[rb]? = some (rdo (.pointer (some ⟨b, 0, none⟩)) (.pointer (some ⟨cb, 0, none⟩)) 0 0) ∧ CT.Cx w' (fun k => w.heap.size ≤ k ∧ k < rb) cb 0 cap [] ∧ w.heap.size ≤ rb ∧ Nw w w' := by
  have q := isthere_any h hS
  have q2 := CT.new_any (w := w) cap hc
  clear h hS
  go_enter Tryz.func13, Tryz.ntmps13
  go_wp2_with fail
  refine q.mono ?_
  rintro e w1 ⟨rfl, rfl⟩
  go_wp2_with fail
  refine q2.mono ?_
  rintro e w2 ⟨cb, rfl, C2, n2⟩
  have HC2 : Hid (CT.Cx w2 (fun k => w1.heap.size ≤ k) cb 0 cap [] ∧ Nw w1 w2) := ⟨C2, n2⟩
  clear C2 n2 q q2
  go_wp2
  go_ret2
  refine ⟨w2.heap.size, cb, rfl, heap_new _ _, ?_, HC2.out.2.size, HC2.out.2.alloc _⟩
  exact (HC2.out.1.mono (S' := fun k => w1.heap.size ≤ k ∧ k < w2.heap.size) (fun k hk e => ⟨e, hk⟩) (Nat.le_refl _)).nw (nwa w2 _)
end Go.Proofs.YtjkhcplnedcmeaaGreatDoor
