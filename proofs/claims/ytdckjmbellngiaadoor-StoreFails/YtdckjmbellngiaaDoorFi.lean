/- store: calls of a store that this call has made; the document's words on one that crashes at its second write. -/
import Derived.Test.YtdckjmbellngiaaDoorFh
namespace Go.Proofs.YtdckjmbellngiaaDoor
open Go.RowKit Go.Maps Go.Sort Go.Proofs
set_option linter.unusedVariables false
set_option linter.unusedSimpArgs false
/-- Texts in memory. -/
def Strs (w : World) (p : Option Addr) (ss : List ByteArray) : Prop := ∀ (j : Nat) (x : ByteArray), ss[j]? = some x → ∃ g o, p = some ⟨g, o, none⟩ ∧ w.cell? ⟨g, o + j, none⟩ = some (.string x)
theorem Strs.nw {w w' : World} {p : Option Addr} {ss : List ByteArray} (h : Strs w p ss) (k : Nw w w') : Strs w' p ss := fun j x hx => by
  obtain ⟨g, o, hp, hc⟩ := h j x hx
  exact ⟨g, o, hp, k.cellOf hc⟩
theorem Strs.at {w : World} {p : Option Addr} {ss : List ByteArray} (h : Strs w p ss) (k : Nat) (hk : k < ss.length) : ∃ g o, p = some ⟨g, o, none⟩ ∧ w.cell? ⟨g, o + k, none⟩ = some (.string (ss.getD k e0t)) := by
  obtain ⟨g, o, e, hc⟩ := h k (ss.getD k e0t) (by simp [List.getD_eq_getElem?_getD, hk])
  exact ⟨g, o, e, hc⟩
set_option maxRecDepth 100000 in
set_option maxHeartbeats 1000000 in
theorem sames_any (p q : Option Addr) (c c' : Nat) (ss : List ByteArray) (w : World) (hp : Strs w p ss) (hq : Strs w q ss) (hl : ss.length ≤ 140737488355328) :
    Calls Tryd.prog 26 #[.slice p ss.length c, .slice q ss.length c'] w fun e w' => e = .returned (.bool true) ∧ Nw w w' := by
  have HP : Hid (Strs w p ss) := hp
  have HQ : Hid (Strs w q ss) := hq
  clear hp hq
  obtain ⟨n, hn⟩ : ∃ n, n = ss.length := ⟨_, rfl⟩
  rw [← hn] at hl ⊢
  have Hn : Hid (n = ss.length) := hn
  clear hn
  go_enter Tryd.func26, Tryd.ntmps26
  go_wp2
  go_loopw [5] (fun i wr => ∃ k : Nat, k ≤ n ∧ i = .int .i64 k ∧ Nw w wr) (fun i _ => n - (intOf i).toNat)
  case atStart => exact ⟨0, by omega, rfl, Fr.refl _ _⟩
  case round =>
    obtain ⟨k, hk, rfl, hnw⟩ := hrel
    by_cases hlt : k < n
    · obtain ⟨g, o, rfl, hc⟩ := HP.out.at k (by have := Hn.out; omega)
      obtain ⟨g', o', rfl, hc'⟩ := HQ.out.at k (by have := Hn.out; omega)
      have hd := hnw.cellOf hc
      have hd' := hnw.cellOf hc'
      generalize ss.getD k e0t = x at hd hd'
      clear hc hc'
      have hki : (k : Int) < (n : Int) := by omega
      go_wp2
      go_quiet (fail)
      go_wp2
      exact ⟨⟨k + 1, by omega, by go_num, hnw.drewN _⟩, by simp [intOf]; omega⟩
    · have hge : ¬ (k : Int) < (n : Int) := by omega
      go_wp2
      go_ret
      exact ⟨rfl, hnw⟩
theorem strs_own {w : World} {base g cap : Nat} {ss : List (List UInt8)} (h : w.ownsRow base 9 1 (.slice (some ⟨g, 0, none⟩) ss.length cap) ss.length (ss.map encStr)) : Strs w (some ⟨g, 0, none⟩) (ss.map fun x => ⟨x.toArray⟩) := by
  intro j x hj
  refine ⟨g, 0, rfl, ?_⟩
  rw [List.getElem?_map] at hj
  cases hs : ss[j]? with
  | none => rw [hs] at hj; cases hj
  | some y =>
    rw [hs] at hj
    simp only [Option.map_some, Option.some.injEq] at hj
    have hjl : j < ss.length := (List.getElem?_eq_some_iff.1 hs).1
    rcases h.2 with ⟨hv, _⟩ | ⟨g', cap', cur, hv, _, hb, _, _, _, h4⟩
    · cases hv
    · cases hv
      rw [Nat.zero_add, cell_of hb]
      have h5 : (cur.toList.take (ss.length * 1))[j]? = (ss.map encStr)[j]? := by rw [h4]
      rw [List.getElem?_take_of_lt (by omega)] at h5
      rw [← Array.getElem?_toList, h5, List.getElem?_map, hs]
      simp only [Option.map_some, encStr, hj]
/-- A store that was made behind w, in W. -/
structure Al (w W : World) (b bm n : Nat) (M : Tx) (p : Option Addr) (c : Nat) (zs : List Int) (cr rn wn : Int) (dd : Bool) : Prop where
  nw : Nw w W
  sr : Sr W b bm n M p c zs cr rn wn dd
  hb : w.heap.size ≤ b
  hm : w.heap.size ≤ bm
theorem Al.go {w W W' : World} {b bm n : Nat} {M : Tx} {p : Option Addr} {c : Nat} {zs : List Int} {cr rn wn : Int} {dd : Bool} (h : Al w W b bm n M p c zs cr rn wn dd) (k : Nw W W') : Al w W' b bm n M p c zs cr rn wn dd :=
  ⟨h.nw.tr k, h.sr.nw k, h.hb, h.hm⟩
theorem Al.put {w W : World} {b bm n : Nat} {M : Tx} {p : Option Addr} {c : Nat} {zs : List Int} {cr rn wn : Int} (h : Al w W b bm n M p c zs cr rn wn false) {B : Nat} {a : Nat → Addr} (hS : Sent B w a) (s t : ByteArray) (hs : okN s) (ht : t.size ≤ 281474976710656) (hn : n < 4611686018427387904) (hr0 : 0 ≤ wn) (hr1 : wn < 4611686018427387904) {v : Value} {M' : Tx} {dd : Bool} {k : Int} (hk : wn + 1 = k) (hv : putV a cr k = v) (hM : wrT M s t cr k = M') (hd : dies cr k = dd) :
    Calls Tryd.prog 7 #[.pointer (some ⟨b, 0, none⟩), .string s, .string t] W fun e W' => e = .returned v ∧ Al w W' b bm (n + 1) M' p c zs cr rn k dd := by
  subst hk hv hM hd
  have := hS.hsz
  refine (sput_any h.sr s t hs ht (hS.fr h.nw (fun _ _ f => f)) hn hr0 hr1 (by have := h.hb; omega) (by have := h.hm; omega)).mono ?_
  rintro e W' ⟨rfl, h1, h2⟩
  exact ⟨rfl, h.nw.trans h2 (fun j hj e => by have := h.hb; have := h.hm; omega), h1, h.hb, h.hm⟩
theorem Al.get {w W : World} {b bm n : Nat} {M : Tx} {p : Option Addr} {c : Nat} {zs : List Int} {cr rn wn : Int} (h : Al w W b bm n M p c zs cr rn wn false) {B : Nat} {a : Nat → Addr} (hS : Sent B w a) (s : ByteArray) (hs : okN s) (hl : zs.length ≤ 1099511627776) (hok : okR 0 zs = true) (hr0 : 0 ≤ rn) (hr1 : rn < 4611686018427387904) {v : Value} {k : Int} (hk : rn + 1 = k) (hv : getV a zs rn (M s) = v) :
    Calls Tryd.prog 9 #[.pointer (some ⟨b, 0, none⟩), .string s] W fun e W' => e = .returned v ∧ Al w W' b bm n M p c zs cr k wn false := by
  subst hk hv
  have := hS.hsz
  refine (sget_any h.sr s hs (hS.fr h.nw (fun _ _ f => f)) hl hok hr0 hr1 (by have := h.hb; omega)).mono ?_
  rintro e W' ⟨rfl, h1, h2⟩
  exact ⟨rfl, h.nw.trans h2 (fun j hj e => by have := h.hb; omega), h1, h.hb, h.hm⟩
theorem Al.restart {w W : World} {b bm n : Nat} {M : Tx} {p : Option Addr} {c : Nat} {zs : List Int} {cr rn wn : Int} {dd : Bool} (h : Al w W b bm n M p c zs cr rn wn dd) (p2 : Option Addr) (c2 : Nat) (z2 : List Int) (crash : Int) (hz : Iz W p2 z2) (hl : z2.length ≤ 1099511627776) (hok : okR 0 z2 = true) {l : Nat} (hll : z2.length = l) :
    Calls Tryd.prog 8 #[.pointer (some ⟨b, 0, none⟩), .agg #[.slice p2 l c2, .int .i64 crash]] W fun e W' => e = .returned .nilIface ∧ ∃ g, Al w W' b bm n M (some ⟨g, 0, none⟩) l z2 crash 0 0 false := by
  subst hll
  refine (srestart_any h.sr.blk p2 c2 z2 crash hz hl hok).mono ?_
  rintro e W' ⟨rfl, ⟨g, hg, hb, hi⟩, f⟩
  refine ⟨rfl, g, h.nw.trans f (fun j hj e => by have := h.hb; omega), ⟨hb, h.sr.mp.fr f h.sr.nb, hi, fun g' o' e => ?_, h.sr.nb⟩, h.hb, h.hm⟩
  cases e
  have h1 := heap_lt h.sr.blk
  have h2 := h.sr.mp.lt
  omega
theorem al_new {w : World} {p : Option Addr} {c : Nat} {zs : List Int} {crash : Int} {W : World} (nw : Nw w W) (hz : Iz W p zs) (hl : zs.length ≤ 1099511627776) (hok : okR 0 zs = true) {l : Nat} (hll : zs.length = l) :
    Calls Tryd.prog 14 #[.agg #[.slice p l c, .int .i64 crash]] W fun e W' => ∃ b bm g, e = .returned (.tuple #[.pointer (some ⟨b, 0, none⟩), .nilIface]) ∧ Al w W' b bm 0 (fun _ => none) (some ⟨g, 0, none⟩) l zs crash 0 0 false := by
  subst hll
  refine (snew_any p c zs crash hz hl hok).mono ?_
  rintro e W' ⟨b, bm, g, rfl, h1, h2, h3, h4, h5⟩
  exact ⟨b, bm, g, rfl, nw.tr h5, h4, Nat.le_trans nw.size h1, Nat.le_trans nw.size h2⟩
theorem iz_one (W : World) (z : Int) : Iz (W.alloc (.cells #[.int .i64 z] 3)) (some ⟨W.heap.size, 0, none⟩) [z] := by
  have := iz_of (w := W.alloc (.cells #[.int .i64 z] 3)) (g := W.heap.size) (zs := [z]) (heap_new _ _)
  exact this
end Go.Proofs.YtdckjmbellngiaaDoor
