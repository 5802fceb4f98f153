/- The document's cache: Get, Drop. -/
import Derived.Test.YtgdjoaiahigjpaaGreatDoorRc3
namespace Go.Proofs.YtgdjoaiahigjpaaGreatDoor
namespace RC
open Go.RowKit
open CI (tk tk_none tk_some getA dropA putA)
set_option linter.unusedVariables false
set_option linter.unusedSimpArgs false
/-- A key is not there, or it is there once. -/
theorem tk_cases : ∀ (L : LT) (k : Int), (tk L k = none ∧ ∀ z ∈ L, z.1 ≠ k) ∨ ∃ A v B, L = A ++ (k, v) :: B ∧ (∀ z ∈ A, z.1 ≠ k) ∧ tk L k = some (v, A ++ B)
  | [], k => .inl ⟨rfl, fun z hz => by simp at hz⟩
  | z :: r, k => by
    by_cases e : z.1 = k
    · refine .inr ⟨[], z.2, r, by rw [← e]; rfl, fun y hy => by simp at hy, ?_⟩
      have : tk ([] ++ (k, z.2) :: r) k = some (z.2, [] ++ r) := tk_some (fun y hy => by simp at hy)
      rw [← this, ← e]; rfl
    · rcases tk_cases r k with ⟨h1, h2⟩ | ⟨A, v, B, h1, h2, h3⟩
      · refine .inl ⟨tk_none (fun y hy => ?_), fun y hy => ?_⟩ <;>
        · rcases List.mem_cons.1 hy with rfl | hy
          · exact e
          · exact h2 y hy
      · refine .inr ⟨z :: A, v, B, by rw [h1]; rfl, fun y hy => ?_, ?_⟩
        · rcases List.mem_cons.1 hy with rfl | hy
          · exact e
          · exact h2 y hy
        · rw [h1]
          exact tk_some (A := z :: A) (fun y hy => by
            rcases List.mem_cons.1 hy with rfl | hy
            · exact e
            · exact h2 y hy)
abbrev itm (x y : Int) : Obj := .cells #[.int .i64 x, .int .i64 y] 84
set_option maxRecDepth 100000 in
set_option maxHeartbeats 1000000 in
theorem dget_any {W : World} {S : Nat → Prop} {b most : Nat} {L : LT} (h : Dc W S b most L) (k : Int) (hl : L.length ≤ 1500) :
    Calls Tryz.prog 10 #[.pointer (some ⟨b, 0, none⟩), .int .i64 k] W fun e W' => e = .returned (.tuple #[.int .i64 (getA L k).1, .bool (getA L k).2.1]) ∧ Dc W' (fun j => S j ∨ W.heap.size ≤ j) b most (getA L k).2.2 ∧ Fr (fun j => j = b) W W' := by
  have lb : b < W.heap.size := by obtain ⟨_, _, h1, _⟩ := h; exact heap_lt h1
  rcases tk_cases L k with ⟨h1, h2⟩ | ⟨A, v, B, h1, h2, h3⟩
  · have hg : getA L k = (0, false, L) := by rw [getA, h1]
    rw [hg]
    have q := take_no h h2 (by omega)
    have HD : Hid (Dc W S b most L) := h
    clear h h1 h2 hg
    go_enter Tryz.func10, Tryz.ntmps10
    go_wp2_with fail
    refine q.mono ?_
    rintro e w1 ⟨rfl, n1⟩
    have N1 : Hid (Nw W w1) := n1
    clear n1 q
    go_wp2
    go_ret2
    have n2 : Nw W (w1.alloc (itm 0 0)) := N1.out.alloc _
    exact ⟨rfl, (HD.out.nw n2).mono (fun _ _ e => .inl e), n2.mono (fun _ _ e => e.elim)⟩
  · have hg : getA L k = (v, true, (k, v) :: (A ++ B)) := by rw [getA, h3]
    rw [hg]
    subst h1
    have q := take_yes h h2 (by omega)
    have hl2 : (A ++ B).length ≤ 2000 := by simp at hl ⊢; omega
    have HL2 : Hid ((A ++ B).length ≤ 2000) := hl2
    clear h h3 h2 hg hl hl2
    go_enter Tryz.func10, Tryz.ntmps10
    go_wp2_with fail
    refine q.mono ?_
    rintro e w1 ⟨rfl, D1, f1⟩
    have HD1 : Hid (Dc w1 (fun j => S j ∨ W.heap.size ≤ j) b most (A ++ B)) := D1
    have F1 : Hid (Fr (fun j => j = b) W w1) := f1
    have lb1 : b < w1.heap.size := Nat.lt_of_lt_of_le lb f1.size
    clear D1 f1 q
    obtain ⟨w2, hw2⟩ : ∃ w2, w1.alloc (itm k v) = w2 := ⟨_, rfl⟩
    have n2 : Nw w1 w2 := by rw [← hw2]; exact (Fr.refl _ _).alloc _
    have b2 : w2.heap[w1.heap.size]? = some (itm k v) := by rw [← hw2]; exact heap_new _ _
    have q2 := first_any (HD1.out.nw n2) k v HL2.out
    have N2 : Hid (Nw w1 w2) := n2
    have B2 : Hid (w2.heap[w1.heap.size]? = some (itm k v)) := b2
    have HW2 : Hid (w1.alloc (itm k v) = w2) := hw2
    clear n2 b2 hw2
    go_wp2_with fail
    rw [HW2.out]
    refine q2.mono ?_
    rintro e w3 ⟨rfl, D3, f3⟩
    have b3 := (f3.block _ (heap_lt B2.out) (show ¬ w1.heap.size = b by omega)).trans B2.out
    have c3 : w3.cell? ⟨w1.heap.size, 1, none⟩ = some (.int .i64 v) := (cell_of b3 1).trans rfl
    have l3 := heap_lt b3
    have s1 := F1.out.size
    have s2 := N2.out.size
    have HX : Hid (Dc w3 (fun j => S j ∨ W.heap.size ≤ j) b most ((k, v) :: (A ++ B)) ∧ Fr (fun j => j = b) W w3) := ⟨D3.mono (fun j _ e => by rcases e with e | e; exact e; exact .inr (by omega)), (F1.out.trans (N2.out.mono (S' := fun j => j = b) (fun _ _ e => e.elim)) (fun _ _ e => e)).trans f3 (fun _ _ e => e)⟩
    clear b3 f3 D3 q2 s1 s2
    go_wp2
    go_ret2
    exact ⟨rfl, HX.out⟩
set_option maxRecDepth 100000 in
set_option maxHeartbeats 1000000 in
theorem ddrop_any {W : World} {S : Nat → Prop} {b most : Nat} {L : LT} (h : Dc W S b most L) (k : Int) (hl : L.length ≤ 1500) :
    Calls Tryz.prog 14 #[.pointer (some ⟨b, 0, none⟩), .int .i64 k] W fun e W' => e = .returned (.bool (dropA L k).1) ∧ Dc W' (fun j => S j ∨ W.heap.size ≤ j) b most (dropA L k).2 ∧ Fr (fun j => j = b) W W' := by
  rcases tk_cases L k with ⟨h1, h2⟩ | ⟨A, v, B, h1, h2, h3⟩
  · have hg : dropA L k = (false, L) := by rw [dropA, h1]
    rw [hg]
    have q := take_no h h2 (by omega)
    have HD : Hid (Dc W S b most L) := h
    clear h h1 h2 hg
    go_enter Tryz.func14, Tryz.ntmps14
    go_wp2_with fail
    refine q.mono ?_
    rintro e w1 ⟨rfl, n1⟩
    have N1 : Hid (Nw W w1) := n1
    clear n1 q
    go_wp2
    go_ret
    have n2 : Nw W (w1.alloc (itm 0 0)) := N1.out.alloc _
    exact ⟨rfl, (HD.out.nw n2).mono (fun _ _ e => .inl e), n2.mono (fun _ _ e => e.elim)⟩
  · have hg : dropA L k = (true, A ++ B) := by rw [dropA, h3]
    rw [hg]
    subst h1
    have q := take_yes h h2 (by omega)
    clear h h3 h2 hg hl
    go_enter Tryz.func14, Tryz.ntmps14
    go_wp2_with fail
    refine q.mono ?_
    rintro e w1 ⟨rfl, D1, f1⟩
    have HX : Hid (Dc (w1.alloc (itm k v)) (fun j => S j ∨ W.heap.size ≤ j) b most (A ++ B) ∧ Fr (fun j => j = b) W (w1.alloc (itm k v))) := ⟨D1.nw ((Fr.refl _ _).alloc _), f1.alloc _⟩
    clear D1 f1 q
    go_wp2
    go_ret
    exact ⟨rfl, HX.out⟩
theorem Iw.less {w : World} {S : Nat → Prop} {b : Nat} {g vc : Nat} {L : LT} (h : Iw w S b (some ⟨g, 0, none⟩) vc L) : Iw w S b (some ⟨g, 0, none⟩) vc L.dropLast := by
  rcases h with ⟨e, _⟩ | ⟨g', e, h1, h2, h3, h4, hc⟩
  · cases e
  · refine .inr ⟨g', e, h1, h2, h3, by rw [List.length_dropLast]; omega, fun j u hj => hc j u ?_⟩
    rw [List.dropLast_eq_take, flI_take, List.getElem?_take] at hj
    split at hj
    · exact hj
    · cases hj
end RC
end Go.Proofs.YtgdjoaiahigjpaaGreatDoor
