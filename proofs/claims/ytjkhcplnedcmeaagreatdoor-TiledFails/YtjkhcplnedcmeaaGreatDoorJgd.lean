/- reader: the texts of a log's tiles, as a store holds them (pure). -/
import Derived.Test.YtjkhcplnedcmeaaGreatDoorJgx
import Derived.Test.YtjkhcplnedcmeaaGreatDoorFa
import Derived.Test.YtjkhcplnedcmeaaGreatDoorUgy
import Derived.Test.YtjkhcplnedcmeaaGreatDoorKg
import Derived.Test.YtjkhcplnedcmeaaGreatDoorVg
import Derived.Test.YtjkhcplnedcmeaaGreatDoorUgx
import Derived.Test.YtjkhcplnedcmeaaGreatDoorFgx
import Derived.Test.YtjkhcplnedcmeaaGreatDoorOgx
namespace Go.Proofs.YtjkhcplnedcmeaaGreatDoor
open Go.RowKit
set_option linter.unusedVariables false
set_option linter.unusedSimpArgs false
theorem mayT_wid {q i n W : Nat} (h : wid q i n = W) (h0 : 0 < W) : mayT q i (W : Int) := by
  unfold wid at h
  by_cases hc : 7 < q ∨ 9223372036854775808 < n
  · rw [if_pos hc] at h; omega
  · rw [if_neg hc] at h
    have hm : nod8 q n ≤ nod8 q 9223372036854775808 := Nat.div_le_div_right (by omega)
    unfold mayT wid
    rw [if_neg (by omega)]
    omega
theorem nm_inj {q i W q' i' W' : Nat} (h : mayT q i (W : Int)) (h' : mayT q' i' (W' : Int)) (e : (⟨(nm q i W).toArray⟩ : ByteArray) = ⟨(nm q' i' W').toArray⟩) : q = q' ∧ i = i' ∧ W = W' := by
  have e1 : nm q i W = nm q' i' W' := by
    have := congrArg (fun b : ByteArray => b.data.toList) e
    simpa using this
  obtain ⟨a1, a2, a3⟩ := rd_nm h
  obtain ⟨b1, b2, b3⟩ := rd_nm h'
  rw [e1] at a1 a2 a3
  exact ⟨a1.symm.trans b1, a2.symm.trans b2, by have := a3.symm.trans b3; omega⟩
/-- The bytes of a tile. -/
def tlB (l : List (List UInt8)) (q i W : Nat) : ByteArray := ⟨(fltH (tlH l q i W)).toArray⟩
/-- The tiles below a level, and of that level below an index, lie there. -/
def Hld (l : List (List UInt8)) (M : Tx) (Q J : Nat) : Prop := ∀ q i W, wid q i l.length = W → 0 < W → (q < Q ∨ (q = Q ∧ i < J)) → M ⟨(nm q i W).toArray⟩ = some (tlB l q i W)
theorem Hld.zero (l : List (List UInt8)) (M : Tx) : Hld l M 0 0 := fun q i W _ _ h => by omega
theorem Hld.put {l : List (List UInt8)} {M : Tx} {Q J W : Nat} (h : Hld l M Q J) (hw : wid Q J l.length = W) (h0 : 0 < W) : Hld l (putT M ⟨(nm Q J W).toArray⟩ (tlB l Q J W)) Q (J + 1) := fun q i W' h1 h2 h3 => by
  by_cases e : q = Q ∧ i = J
  · obtain ⟨rfl, rfl⟩ := e
    rw [← h1, hw]
    exact putT_same _ _ _
  · rw [putT_other _ _ _ (fun e2 => e ?_)]
    · exact h q i W' h1 h2 (by omega)
    · have := nm_inj (mayT_wid h1 h2) (mayT_wid hw h0) e2
      exact ⟨this.1, this.2.1⟩
theorem Hld.next {l : List (List UInt8)} {M : Tx} {Q : Nat} (h : Hld l M Q (cntT l.length Q)) (hl : l.length ≤ 1048576) (hQ : Q ≤ 7) : Hld l M (Q + 1) 0 := fun q i W h1 h2 h3 => by
  refine h q i W h1 h2 ?_
  by_cases e : q = Q
  · subst e
    refine .inr ⟨rfl, (wid_pos _ _ _ hl hQ).1 ?_⟩
    rw [h1]; exact h2
  · exact .inl (by omega)
/-- All tiles of a log lie there. -/
def HldA (l : List (List UInt8)) (M : Tx) : Prop := ∀ q i W, wid q i l.length = W → 0 < W → M ⟨(nm q i W).toArray⟩ = some (tlB l q i W)
theorem Hld.all {l : List (List UInt8)} {M : Tx} {Q : Nat} (h : Hld l M Q 0) (hQ : nod8 Q l.length = 0) : HldA l M := fun q i W h1 h2 => by
  refine h q i W h1 h2 (.inl ?_)
  have h3 := (wid_in q i _ W h1 h2).1
  rcases Nat.lt_or_ge q Q with h4 | h4
  · exact h4
  · exfalso
    unfold nod8 at h3 hQ
    have : l.length / 2 ^ (8 * q) ≤ l.length / 2 ^ (8 * Q) := Nat.div_le_div_left (Nat.pow_le_pow_right (by decide) (by omega)) (Nat.pow_pos (by decide))
    omega
theorem tlB_size (l : List (List UInt8)) (h32 : ∀ x ∈ l, x.length = 32) (q i W : Nat) (h : 256 * i + W ≤ nod8 q l.length) : (tlB l q i W).size = 32 * W := by
  show (fltH _).toArray.size = _
  rw [List.size_toArray, fltH_len _ (tlH_32 l h32 q i W), tlH_len l q i W h]
theorem tlB_list (l : List (List UInt8)) (q i W : Nat) : (tlB l q i W).data.toList = fltH (tlH l q i W) := by simp [tlB]
theorem fltH_chsJ : ∀ (L : List (List UInt8)), (∀ x ∈ L, x.length = 32) → chs (fltH L) L.length = L := by
  intro L h
  apply List.ext_getElem?
  intro q
  rcases Nat.lt_or_ge q L.length with hq | hq
  · rw [chs_at _ hq]
    obtain ⟨x, hx⟩ : ∃ x, L[q]? = some x := ⟨_, List.getElem?_eq_getElem hq⟩
    rw [hx]
    have e1 : fltH L = fltH (L.take q) ++ fltH (L.drop q) := by unfold fltH; rw [← List.flatten_append, List.take_append_drop]
    have e2 : L.drop q = x :: L.drop (q + 1) := by
      have := List.getElem?_eq_some_iff.1 hx
      obtain ⟨h1, rfl⟩ := this
      exact List.drop_eq_getElem_cons h1
    have e3 : (fltH (L.take q)).length = 32 * q := by rw [fltH_len _ (fun y hy => h y (List.mem_of_mem_take hy)), List.length_take]; omega
    have e4 : fltH (L.drop q) = x ++ fltH (L.drop (q + 1)) := by rw [e2]; simp [fltH]
    rw [e1, ← e3, List.drop_left, e4, ← h x (List.mem_of_getElem? hx), List.take_left]
  · rw [List.getElem?_eq_none (by rw [chs_len]; exact hq), List.getElem?_eq_none hq]
theorem tlB_chs (l : List (List UInt8)) (h32 : ∀ x ∈ l, x.length = 32) (q i W : Nat) (h : 256 * i + W ≤ nod8 q l.length) : chs (tlB l q i W).data.toList W = tlH l q i W := by
  rw [tlB_list]
  have := fltH_chsJ (tlH l q i W) (tlH_32 l h32 q i W)
  rwa [tlH_len l q i W h] at this
end Go.Proofs.YtjkhcplnedcmeaaGreatDoor
namespace Go.Proofs.YtjkhcplnedcmeaaGreatDoor
open Go.RowKit
set_option linter.unusedVariables false
set_option linter.unusedSimpArgs false
/-- A store that was made behind w, never reads wrong, and holds M. -/
def Lt (w w' : World) (b bm g T : Nat) (M : Tx) : Prop := w.heap.size ≤ b ∧ w.heap.size ≤ bm ∧ (w.heap.size ≤ g ∧ g < w'.heap.size) ∧ Sr w' b bm T M (some ⟨g, 0, none⟩) 0 [] 0 0 (T : Int) false
theorem Lt.fr {w w1 w2 : World} {b bm g T : Nat} {M : Tx} {S : Nat → Prop} (h : Lt w w1 b bm g T M) (f : Fr S w1 w2) (hS : ∀ k, S k → k ≠ b ∧ k ≠ bm) : Lt w w2 b bm g T M :=
  ⟨h.1, h.2.1, ⟨h.2.2.1.1, Nat.lt_of_lt_of_le h.2.2.1.2 f.size⟩, ⟨(f.block _ (heap_lt h.2.2.2.blk) (fun q => (hS _ q).1 rfl)).trans h.2.2.2.blk, h.2.2.2.mp.fr f (fun q => (hS _ q).2 rfl), fun j hj => by simp at hj, h.2.2.2.ne, h.2.2.2.nb⟩⟩
theorem Lt.nw {w w1 w2 : World} {b bm g T : Nat} {M : Tx} (h : Lt w w1 b bm g T M) (f : Nw w1 w2) : Lt w w2 b bm g T M := h.fr f (fun _ q => q.elim)
/-- A row of hashes is neither the store nor its map. -/
theorem Lt.row {w w1 : World} {b bm g T : Nat} {M : Tx} (h : Lt w w1 b bm g T M) {base n : Nat} {v : Value} {xs : List Value} (ho : w1.ownsRow base 69 32 v n xs) : ∀ k, v.ownBlock = some k → k ≠ b ∧ k ≠ bm := fun k hk => by
  rcases ho.2 with ⟨rfl, _⟩ | ⟨g', cap, cur, rfl, hg, hb, _⟩
  · simp [Value.ownBlock] at hk
  · simp only [Value.ownBlock, Option.some.injEq] at hk
    subst hk
    refine ⟨fun e => ?_, fun e => ?_⟩
    · have := h.2.2.2.blk
      rw [← e, hb] at this
      simp at this
    · obtain ⟨D, ⟨es, ck, hm, _⟩, _⟩ := h.2.2.2.mp
      rw [← e, hb] at hm
      simp at hm
/-- What holds at the head of the outer loop. -/
def Onl (l : List (List UInt8)) (M : Tx) : Prop := ∀ s t, M s = some t → ∃ q i W, wid q i l.length = W ∧ 0 < W ∧ s = ⟨(nm q i W).toArray⟩ ∧ t = tlB l q i W
theorem Onl.zero (l : List (List UInt8)) : Onl l (fun _ => none) := fun s t h => by cases h
theorem Onl.put {l : List (List UInt8)} {M : Tx} {Q J W : Nat} (h : Onl l M) (hw : wid Q J l.length = W) (h0 : 0 < W) : Onl l (putT M ⟨(nm Q J W).toArray⟩ (tlB l Q J W)) := fun s t hs => by
  by_cases e : s = ⟨(nm Q J W).toArray⟩
  · rw [e, putT_same] at hs
    injection hs with hs
    exact ⟨Q, J, W, hw, h0, e, hs.symm⟩
  · rw [putT_other _ _ _ e] at hs
    exact h s t hs
theorem wr0 (M : Tx) (s t : ByteArray) (T : Nat) : wrT M s t 0 ((T : Int) + 1) = putT M s t := by
  unfold wrT
  rw [if_neg (by omega)]
theorem pv0 (a : Nat → Addr) (T : Nat) : putV a 0 ((T : Int) + 1) = .nilIface := by
  have h1 : ((0 : Int) == (T : Int) + 1) = false := by simp; omega
  have h2 : ((0 : Int) == -((T : Int) + 1)) = false := by simp; omega
  unfold putV dies
  rw [h1, h2]; rfl
theorem dies0 (T : Nat) : dies 0 ((T : Int) + 1) = false := by
  have h1 : ((0 : Int) == (T : Int) + 1) = false := by simp; omega
  have h2 : ((0 : Int) == -((T : Int) + 1)) = false := by simp; omega
  unfold dies
  rw [h1, h2]; rfl
/-- A text is put into such a store. -/
theorem Lt.put {w W : World} {b bm g T : Nat} {M : Tx} (h : Lt w W b bm g T M) (s t : ByteArray) (hs : okN s) (ht : t.size ≤ 281474976710656) {B : Nat} {a : Nat → Addr} (hS : Sent B W a) (hB : B ≤ w.heap.size) (hT : T ≤ 1000000) :
    Calls Tryz.prog 44 #[.pointer (some ⟨b, 0, none⟩), .string s, .string t] W fun e w' => e = .returned .nilIface ∧ Lt w w' b bm g (T + 1) (putT M s t) ∧ Fr (fun k => k = b ∨ k = bm) W w' := by
  have q := sput_any h.2.2.2 s t hs ht hS (by omega) (by omega) (by omega) (by have := h.1; omega) (by have := h.2.1; omega)
  rw [wr0, pv0, dies0] at q
  exact q.mono fun e w' ⟨e1, e2, e3⟩ => ⟨e1, ⟨h.1, h.2.1, ⟨h.2.2.1.1, Nat.lt_of_lt_of_le h.2.2.1.2 e3.size⟩, e2⟩, e3⟩
end Go.Proofs.YtjkhcplnedcmeaaGreatDoor
