/- Rows of texts compared; calls of a cache that this call has made. -/
import Derived.Test.YtgdjoaiahigjpaaDoorKg
import Derived.Test.YtgdjoaiahigjpaaDoorKh
namespace Go.Proofs.YtgdjoaiahigjpaaDoor
open Go.RowKit Go.Maps
set_option linter.unusedVariables false
set_option linter.unusedSimpArgs false
def e0t : ByteArray := ⟨#[]⟩
/-- Texts in memory. -/
def Strs (w : World) (p : Option Addr) (ss : List ByteArray) : Prop := ∀ (j : Nat) (x : ByteArray), ss[j]? = some x → ∃ g o, p = some ⟨g, o, none⟩ ∧ w.cell? ⟨g, o + j, none⟩ = some (.string x)
theorem Strs.nw {w w' : World} {p : Option Addr} {ss : List ByteArray} (h : Strs w p ss) (k : Nw w w') : Strs w' p ss := fun j x hx => by
  obtain ⟨g, o, hp, hc⟩ := h j x hx
  exact ⟨g, o, hp, k.cellOf hc⟩
theorem Strs.at {w : World} {p : Option Addr} {ss : List ByteArray} (h : Strs w p ss) (k : Nat) (hk : k < ss.length) : ∃ g o, p = some ⟨g, o, none⟩ ∧ w.cell? ⟨g, o + k, none⟩ = some (.string (ss.getD k e0t)) := by
  obtain ⟨g, o, e, hc⟩ := h k (ss.getD k e0t) (by simp [List.getD_eq_getElem?_getD, hk])
  exact ⟨g, o, e, hc⟩
set_option maxRecDepth 100000 in
set_option maxHeartbeats 1000000 in
theorem sames_any (p q : Option Addr) (c c' : Nat) (ss : List ByteArray) (w : World) (hp : Strs w p ss) (hq : Strs w q ss) (hl : ss.length ≤ 140737488355328) :
    Calls Tryd.prog 12 #[.slice p ss.length c, .slice q ss.length c'] w fun e w' => e = .returned (.bool true) ∧ Nw w w' := by
  have HP : Hid (Strs w p ss) := hp
  have HQ : Hid (Strs w q ss) := hq
  clear hp hq
  obtain ⟨n, hn⟩ : ∃ n, n = ss.length := ⟨_, rfl⟩
  rw [← hn] at hl ⊢
  have Hn : Hid (n = ss.length) := hn
  clear hn
  go_enter Tryd.func12, Tryd.ntmps12
  go_wp2
  go_loopw [5] (fun i wr => ∃ k : Nat, k ≤ n ∧ i = .int .i64 k ∧ Nw w wr) (fun i _ => n - (intOf i).toNat)
  case atStart => exact ⟨0, by omega, rfl, Fr.refl _ _⟩
  case round =>
    obtain ⟨k, hk, rfl, hnw⟩ := hrel
    by_cases hlt : k < n
    · obtain ⟨g, o, rfl, hc⟩ := HP.out.at k (by have := Hn.out; omega)
      obtain ⟨g', o', rfl, hc'⟩ := HQ.out.at k (by have := Hn.out; omega)
      have hd := hnw.cellOf hc
      have hd' := hnw.cellOf hc'
      generalize ss.getD k e0t = x at hd hd'
      clear hc hc'
      have hki : (k : Int) < (n : Int) := by omega
      go_wp2
      go_quiet (fail)
      go_wp2
      exact ⟨⟨k + 1, by omega, by go_num, hnw.drewN _⟩, by simp [intOf]; omega⟩
    · have hge : ¬ (k : Int) < (n : Int) := by omega
      go_wp2
      go_ret
      exact ⟨rfl, hnw⟩

theorem strs_row {w : World} {base : Nat} {v : Value} {ss : List ByteArray} {n : Nat} (h : w.ownsRow base 9 1 v n (ss.map Value.string)) : ∃ p c, v = .slice p n c ∧ Strs w p ss ∧ ss.length = n := by
  have hl : ss.length = n := by have := h.1; simpa using this
  rcases h.2 with ⟨rfl, rfl⟩ | ⟨g, cap, cur, rfl, _, hb, _, _, _, h4⟩
  · exact ⟨none, 0, rfl, fun j x hj => by have := (List.getElem?_eq_some_iff.1 hj).1; omega, hl⟩
  · refine ⟨_, _, rfl, fun j x hj => ⟨g, 0, rfl, ?_⟩, hl⟩
    have hjl : j < n := by have := (List.getElem?_eq_some_iff.1 hj).1; omega
    rw [Nat.zero_add, cell_of hb]
    have h5 : (cur.toList.take (n * 1))[j]? = (ss.map Value.string)[j]? := by rw [h4]
    rw [List.getElem?_take, if_pos (by omega), List.getElem?_map, hj] at h5
    simpa using h5
namespace CS
/-- A cache that was made behind w. -/
structure Al (w W : World) (b N cap : Nat) (L : LT) : Prop where
  nw : Nw w W
  cx : Cx W (fun k => w.heap.size ≤ k) b N cap L
theorem Al.go {w W V : World} {b N cap : Nat} {L : LT} (h : Al w W b N cap L) (n : Nw W V) : Al w V b N cap L := ⟨h.nw.tr n, h.cx.nw n⟩
theorem Al.after {w W V : World} {b N N' cap : Nat} {L L' : LT} (h : Al w W b N cap L) (c : Cx V (fun j => w.heap.size ≤ j ∨ W.heap.size ≤ j) b N' cap L') (f : Fr (fun k => w.heap.size ≤ k) W V) : Al w V b N' cap L' :=
  ⟨h.nw.trans f (fun j hj e => by omega), c.mono (fun j hj e => e.elim id (fun q => Nat.le_trans h.nw.size q)) (Nat.le_refl _)⟩
theorem al_new {w W : World} (nw : Nw w W) (cap : Nat) (hc : cap ≤ 1024) :
    Calls Tryd.prog 6 #[.int .i64 (cap : Int)] W fun e W' => ∃ b, e = .returned (.tuple #[.pointer (some ⟨b, 0, none⟩), .nilIface]) ∧ Al w W' b 0 cap [] := by
  refine (new_any cap hc).mono ?_
  rintro e W' ⟨b, rfl, C, n⟩
  exact ⟨b, rfl, nw.tr n, C.mono (fun j hj e => Nat.le_trans nw.size e) (Nat.le_refl _)⟩
theorem Al.put {w W : World} {b N cap : Nat} {L : LT} (h : Al w W b N cap L) (k : KT) (v : VT) (hk : kok k) (hN : N < 4611686018427387900) {k' : KT} {f : Bool} {L' : LT} (he : putA cap L k v = (k', f, L')) :
    Calls Tryd.prog 10 #[.pointer (some ⟨b, 0, none⟩), kv k, vv v] W fun e W' => e = .returned (.tuple #[kv k', .bool f]) ∧ Al w W' b (N + 2) cap L' := by
  refine (put_any h.cx k v hk hN).mono ?_
  rw [he]
  rintro e W' ⟨rfl, C, F⟩
  exact ⟨rfl, h.after C F⟩
theorem Al.get {w W : World} {b N cap : Nat} {L : LT} (h : Al w W b N cap L) (k : KT) (hk : kok k) {v : VT} {f : Bool} {L' : LT} (he : getA L k = (v, f, L')) :
    Calls Tryd.prog 9 #[.pointer (some ⟨b, 0, none⟩), kv k] W fun e W' => e = .returned (.tuple #[vv v, .bool f]) ∧ Al w W' b N cap L' := by
  refine (get_any h.cx k hk).mono ?_
  rw [he]
  rintro e W' ⟨rfl, C, F⟩
  exact ⟨rfl, h.after (C.mono (fun _ _ e => .inl e) (Nat.le_refl _)) F⟩
theorem Al.keys {w W : World} {b N cap : Nat} {L : LT} (h : Al w W b N cap L) :
    Calls Tryd.prog 13 #[.pointer (some ⟨b, 0, none⟩)] W fun e W' => ∃ p c, e = .returned (.slice p L.length c) ∧ Strs W' p (L.map Prod.fst) ∧ Al w W' b N cap L := by
  refine (keys_any h.cx).mono ?_
  rintro e W' ⟨v, rfl, ho, n⟩
  obtain ⟨p, c, rfl, hs, _⟩ := strs_row (ss := L.map Prod.fst) ho
  exact ⟨p, c, rfl, hs, h.go n⟩
abbrev tA : ByteArray := ⟨#[97]⟩
abbrev tB : ByteArray := ⟨#[98]⟩
abbrev tC : ByteArray := ⟨#[99]⟩
theorem nAB : tA ≠ tB := by intro h; have := congrArg (fun x : ByteArray => x.data.toList) h; simp at this
theorem nBA : tB ≠ tA := fun e => nAB e.symm
theorem nAC : tA ≠ tC := by intro h; have := congrArg (fun x : ByteArray => x.data.toList) h; simp at this
theorem nBC : tB ≠ tC := by intro h; have := congrArg (fun x : ByteArray => x.data.toList) h; simp at this
theorem pu1 : putA 2 [] tA 1 = (kz, false, [(tA, 1)]) := by
  rw [putA, tk_none (fun z hz => by simp at hz)]; simp
theorem pu2 : putA 2 [(tA, 1)] tB 2 = (kz, false, [(tB, 2), (tA, 1)]) := by
  rw [putA, tk_none (fun z hz => by simp at hz; rw [hz]; exact nAB)]; simp
theorem ge3 : getA [(tB, 2), (tA, 1)] tA = (1, true, [(tA, 1), (tB, 2)]) := by
  have := tk_some (A := [(tB, 2)]) (B := []) (k := tA) (v := 1) (fun z hz => by simp at hz; rw [hz]; exact nBA)
  simp only [List.cons_append, List.nil_append] at this
  rw [getA, this]
theorem pu4 : putA 2 [(tA, 1), (tB, 2)] tC 3 = (tB, true, [(tC, 3), (tA, 1)]) := by
  rw [putA, tk_none (fun z hz => by simp at hz; rcases hz with e | e; rw [e]; exact nAC; rw [e]; exact nBC)]; simp
theorem two_strs (W : World) (x y : ByteArray) : Strs (W.alloc (.cells #[.string x, .string y] 9)) (some ⟨W.heap.size, 0, none⟩) [x, y] := by
  intro j z hj
  refine ⟨W.heap.size, 0, rfl, ?_⟩
  rw [Nat.zero_add, cell_of (heap_new _ _)]
  match j, hj with
  | 0, h => simp at h; rw [← h]; rfl
  | 1, h => simp at h; rw [← h]; rfl
  | j + 2, h => simp at h
set_option maxRecDepth 100000 in
set_option maxHeartbeats 4000000 in
theorem alive_any (w : World) : Calls Tryd.prog 7 #[] w fun e w' => e = .returned (.bool true) ∧ Nw w w' := by
  have q1 := al_new (Fr.refl _ w) 2 (by decide)
  go_enter Tryd.func7, Tryd.ntmps7
  go_wp2_with fail
  refine q1.mono ?_
  rintro e w1 ⟨b, rfl, al⟩
  have HA : Hid (Al w w1 b 0 2 []) := al
  clear al q1
  go_wp2_with fail
  refine (HA.out.put tA 1 (by decide) (by decide) pu1).mono ?_
  rintro e w2 ⟨rfl, al⟩
  have HA2 : Hid (Al w w2 b 2 2 [(tA, 1)]) := al
  clear al HA
  go_wp2_with fail
  refine (HA2.out.put tB 2 (by decide) (by decide) pu2).mono ?_
  rintro e w3 ⟨rfl, al⟩
  have HA3 : Hid (Al w w3 b 4 2 [(tB, 2), (tA, 1)]) := al
  clear al HA2
  go_wp2_with fail
  refine (HA3.out.get tA (by decide) ge3).mono ?_
  rintro e w4 ⟨rfl, al⟩
  have HA4 : Hid (Al w w4 b 4 2 [(tA, 1), (tB, 2)]) := al
  clear al HA3
  go_wp2_with fail
  refine (HA4.out.put tC 3 (by decide) (by decide) pu4).mono ?_
  rintro e w5 ⟨rfl, al⟩
  have HA5 : Hid (Al w w5 b 6 2 [(tC, 3), (tA, 1)]) := al
  clear al HA4
  go_wp2_with fail
  refine HA5.out.keys.mono ?_
  rintro e w6 ⟨p, c, rfl, hs, al⟩
  have HA6 : Hid (Al w w6 b 6 2 [(tC, 3), (tA, 1)]) := al
  have HT : Hid (Strs w6 p [tC, tA]) := hs
  clear al HA5 hs
  go_wp2_with fail
  refine (sames_any p (some ⟨w6.heap.size, 0, none⟩) c 2 [tC, tA] (w6.alloc (.cells #[.string tC, .string tA] 9)) (HT.out.nw ((Fr.refl _ _).alloc _)) (two_strs _ _ _) (by decide)).mono ?_
  rintro e w7 ⟨rfl, n7⟩
  have HA7 : Hid (Al w w7 b 6 2 [(tC, 3), (tA, 1)]) := HA6.out.go (((Fr.refl _ _).alloc _).trans n7 (fun _ _ q => q))
  clear n7 HA6 HT
  go_wp2_with fail
  refine (len_any HA7.out.cx).mono ?_
  rintro e w8 ⟨rfl, rfl⟩
  go_wp2
  go_ret
  exact ⟨rfl, HA7.out.nw⟩
end CS
end Go.Proofs.YtgdjoaiahigjpaaDoor
