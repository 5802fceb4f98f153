/- CachePlays: rows of ints compared; two rows in a Book. -/
import Derived.Test.YtgdjoaiahigjpaaGreatDoorRc6
import Derived.Test.YtgdjoaiahigjpaaGreatDoorIx7
import Derived.Test.YtgdjoaiahigjpaaGreatDoorGq
namespace Go.Proofs.YtgdjoaiahigjpaaGreatDoor
namespace RC
open Go.RowKit
open IB (Bk Held Rws nilS bkc num keep_any apart_any)
set_option linter.unusedVariables false
set_option linter.unusedSimpArgs false
set_option maxHeartbeats 1000000 in
theorem ints_any (bk N : Nat) (v : Value) (H : List Held) (ad : Option Addr) (n cap : Nat) (w : World) (hB : Bk w bk N v H) (hN : N ≤ 100) (hH : H.length ≤ 100) :
    Calls Tryz.prog 20 #[.pointer (some ⟨bk, 0, none⟩), .slice ad n cap] w fun e w' => e = .returned (.tuple #[]) ∧ (∃ v', Bk w' bk (N + 1) v' (H ++ [(.slice ad n cap, nilS, N + 1)])) ∧ Fr (fun k => bk ≤ k) w w' := by
  have q := keep_any bk N v H ad n cap w hB hN hH
  clear hB
  go_enter Tryz.func20, Tryz.ntmps20
  go_wp2_with fail
  refine q.mono ?_
  rintro e1 w1 ⟨rfl, hb, hf⟩
  go_wp2
  go_end0
  exact ⟨rfl, hb, hf⟩
/-- Two rows that were made one behind the other, kept by a Book that was made behind them. -/
theorem two_rows {w1 w2 wk : World} {B0 B1 bk : Nat} {v1 v2 : Value} {l : List Value}
    (o1 : w1.ownsRow B0 3 1 v1 l.length l) (o2 : w2.ownsRow B1 3 1 v2 l.length l) (h1 : w1.heap.size ≤ B1) (h0 : B0 ≤ w1.heap.size) (h2 : w2.heap.size ≤ bk) (h3 : w1.heap.size ≤ w2.heap.size)
    (k1 : ∀ q, q < w1.heap.size → wk.heap[q]? = w1.heap[q]?) (k2 : ∀ q, q < w2.heap.size → wk.heap[q]? = w2.heap[q]?) :
    Rws wk B0 bk [(v1, nilS, 1), (v2, nilS, 2)] (fun _ => l) := by
  refine ⟨?_, ?_, ?_, ?_⟩
  · intro i h hi
    rcases i with _ | _ | i
    · simp at hi; subst hi
      exact ownsRow_keep o1 (fun g hg => k1 g (o1.lt g hg).2)
    · simp at hi; subst hi
      exact ownsRow_keep (ownsRow_base o2 (by omega)) (fun g hg => k2 g (o2.lt g hg).2)
    · simp at hi
  · intro i h hi g hg
    rcases i with _ | _ | i
    · simp at hi; subst hi
      have := (o1.lt g hg).2; omega
    · simp at hi; subst hi
      have := (o2.lt g hg).2; omega
    · simp at hi
  · intro i j h h' g hij hi hj hg hg'
    rcases i with _ | _ | i
    · simp at hi; subst hi
      have := o1.lt g hg
      rcases j with _ | _ | j
      · exact hij rfl
      · simp at hj; subst hj; have := o2.lt g hg'; omega
      · simp at hj
    · simp at hi; subst hi
      have := o2.lt g hg
      rcases j with _ | _ | j
      · simp at hj; subst hj; have := o1.lt g hg'; omega
      · exact hij rfl
      · simp at hj
    · simp at hi
  · intro i h hi
    rcases i with _ | _ | i
    · simp at hi; subst hi; exact ⟨_, _, _, rfl⟩
    · simp at hi; subst hi; exact ⟨_, _, _, rfl⟩
    · simp at hi
theorem num2 (v1 v2 : Value) (i : Nat) : num [(v1, nilS, 1), (v2, nilS, 2)] i ≤ 100 := by
  rcases i with _ | _ | i <;> simp [num]
/-- Ints in memory. -/
def Is (w : World) (p : Option Addr) (l : List Int) : Prop := ∀ (j : Nat) (x : Int), l[j]? = some x → ∃ g, p = some ⟨g, 0, none⟩ ∧ w.cell? ⟨g, j, none⟩ = some (.int .i64 x)
theorem Is.nw {w w' : World} {p : Option Addr} {l : List Int} (h : Is w p l) (k : Nw w w') : Is w' p l := fun j x hx => by
  obtain ⟨g, hp, hc⟩ := h j x hx
  exact ⟨g, hp, k.cellOf hc⟩
theorem is_row {w : World} {base : Nat} {v : Value} {l : List Int} {n : Nat} (h : w.ownsRow base 3 1 v n (kis l)) : ∃ p c, v = .slice p n c ∧ Is w p l ∧ l.length = n := by
  have hl : l.length = n := by have := h.1; simpa [kis] using this
  rcases h.2 with ⟨rfl, rfl⟩ | ⟨g, cap, cur, rfl, _, hb, _, _, _, h4⟩
  · exact ⟨none, 0, rfl, fun j x hj => by have := (List.getElem?_eq_some_iff.1 hj).1; omega, hl⟩
  · refine ⟨_, _, rfl, fun j x hj => ⟨g, rfl, ?_⟩, hl⟩
    have hjl : j < n := by have := (List.getElem?_eq_some_iff.1 hj).1; omega
    rw [cell_of hb]
    have h5 : (cur.toList.take (n * 1))[j]? = (kis l)[j]? := by rw [h4]
    rw [List.getElem?_take, if_pos (by omega), kis, List.getElem?_map, hj] at h5
    simpa using h5
set_option maxRecDepth 100000 in
set_option maxHeartbeats 1000000 in
theorem samei_any (p q : Option Addr) (c c' : Nat) (l : List Int) (n : Nat) (w : World) (hp : Is w p l) (hq : Is w q l) (hn : l.length = n) (hl : n ≤ 140737488355328) :
    Calls Tryz.prog 19 #[.slice p n c, .slice q n c'] w fun e w' => e = .returned (.bool true) ∧ Nw w w' := by
  have HP : Hid (Is w p l) := hp
  have HQ : Hid (Is w q l) := hq
  have Hn : Hid (l.length = n) := hn
  clear hp hq hn
  go_enter Tryz.func19, Tryz.ntmps19
  go_wp2
  go_loopw [5] (fun i wr => ∃ k : Nat, k ≤ n ∧ i = .int .i64 k ∧ Nw w wr) (fun i _ => n - (intOf i).toNat)
  case atStart => exact ⟨0, by omega, rfl, Fr.refl _ _⟩
  case round =>
    obtain ⟨k, hk, rfl, hnw⟩ := hrel
    by_cases hlt : k < n
    · have hget : l[k]? = some (l[k]'(by rw [Hn.out]; exact hlt)) := List.getElem?_eq_getElem _
      obtain ⟨g, rfl, hc⟩ := HP.out k _ hget
      obtain ⟨g', rfl, hc'⟩ := HQ.out k _ hget
      have hd := hnw.cellOf hc
      have hd' := hnw.cellOf hc'
      generalize l[k]'(by rw [Hn.out]; exact hlt) = x at hd hd'
      clear hc hc' hget
      have hki : (k : Int) < (n : Int) := by omega
      have hxx : (x != x) = false := by simp
      have hxx2 : (x == x) = true := by simp
      go_wp2
      go_quiet (fail)
      go_wp2
      exact ⟨⟨k + 1, by omega, by go_num, hnw.drewN _⟩, by simp [intOf]; omega⟩
    · have hge : ¬ (k : Int) < (n : Int) := by omega
      go_wp2
      go_ret
      exact ⟨rfl, hnw⟩
end RC
end Go.Proofs.YtgdjoaiahigjpaaGreatDoor
