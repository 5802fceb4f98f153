/- The document's cache: a thing becomes the newest. -/
import Derived.Test.YtgdjoaiahigjpaaGreatDoorRc1
namespace Go.Proofs.YtgdjoaiahigjpaaGreatDoor
namespace RC
open Go.RowKit
set_option linter.unusedVariables false
set_option linter.unusedSimpArgs false
set_option maxRecDepth 100000 in
set_option maxHeartbeats 1000000 in
theorem first_any {W : World} {S : Nat → Prop} {b most : Nat} {L : LT} (h : Dc W S b most L) (x y : Int) (hl : L.length ≤ 2000) :
    Calls Tryz.prog 25 #[.pointer (some ⟨b, 0, none⟩), .agg #[.int .i64 x, .int .i64 y]] W fun e W' => e = .returned (.tuple #[]) ∧ Dc W' (fun k => S k ∨ W.heap.size ≤ k) b most ((x, y) :: L) ∧ Fr (fun k => k = b) W W' := by
  obtain ⟨va, vc, hb, hi, hS⟩ := h
  have lb := heap_lt hb
  obtain ⟨w1, hw1⟩ : ∃ w1, W.alloc (.cells #[.int .i64 x, .int .i64 y] 84) = w1 := ⟨_, rfl⟩
  have s1 : w1.heap.size = W.heap.size + 1 := by rw [← hw1]; simp
  have n1 : Nw W w1 := by rw [← hw1]; exact (Fr.refl _ _).alloc _
  have bx : w1.heap[W.heap.size]? = some (.cells #[.int .i64 x, .int .i64 y] 84) := by rw [← hw1]; exact heap_new _ _
  have b1 := (n1.block _ lb (fun e => e)).trans hb
  have c0 : w1.cell? ⟨W.heap.size, 0, none⟩ = some (.int .i64 x) := (cell_of bx 0).trans rfl
  have c1 : w1.cell? ⟨W.heap.size, 1, none⟩ = some (.int .i64 y) := (cell_of bx 1).trans rfl
  have d1 : w1.cell? ⟨b, 1, none⟩ = some (.slice va L.length vc) := (cell_of b1 1).trans rfl
  have HW1 : Hid (W.alloc (.cells #[.int .i64 x, .int .i64 y] 84) = w1) := hw1
  have HOWN : Hid (∀ w2, Nw (w1.alloc (.cells #[.int .i64 x, .int .i64 y] 84)) w2 → w2.ownsRow w1.heap.size 84 2 (.slice (some ⟨w1.heap.size, 0, none⟩) 1 1) [(x, y)].length (flI [(x, y)])) := fun w2 n2 => ownsRow_keep (item_own w1 x y) (fun g hg => n2.block g ((item_own w1 x y).lt g hg).2 (fun f => f))
  have HI : Hid (∀ w2, Nw w1 w2 → Iw w2 S b va vc L) := fun w2 n2 => hi.fr (n1.tr n2) (fun _ _ _ _ e => e)
  have HF : Hid (∀ v' w2 w3, Nw w1 w2 → w1.heap.size < w2.heap.size → w3.ownsRow w1.heap.size 84 2 v' ([(x, y)] ++ L).length (flI ([(x, y)] ++ L)) → Fr (fun k => (Value.slice (some ⟨w1.heap.size, 0, none⟩) 1 1).ownBlock = some k) w2 w3 → (∃ xa xc, v' = .slice xa (L.length + 1) xc) ∧ w3.heap[b]? = some (dcc most (.slice va L.length vc)) ∧ Dc (w3.setCell ⟨b, 1, none⟩ v') (fun k => S k ∨ W.heap.size ≤ k) b most ((x, y) :: L) ∧ Fr (fun k => k = b) W (w3.setCell ⟨b, 1, none⟩ v')) := by
    intro v' w2 w3 n2 hsz o3 f3
    have e1 : ∀ k, (Value.slice (some ⟨w1.heap.size, 0, none⟩) 1 1).ownBlock = some k → k = w1.heap.size := fun k hk => by simpa [Value.ownBlock] using hk.symm
    have b3 : w3.heap[b]? = some (dcc most (.slice va L.length vc)) := (f3.block b (Nat.lt_of_lt_of_le lb (n1.tr n2).size) (fun e => by have := e1 b e; omega)).trans ((n2.block b (by omega) (fun e => e)).trans b1)
    obtain ⟨xa, xc, rfl, iw⟩ := Iw.own (b := b) (S := fun k => S k ∨ W.heap.size ≤ k) (L := (x, y) :: L) o3 (by omega) (fun k hk => .inr (by omega))
    have fw : Fr (fun k => k = b) W w3 := ((n1.tr n2).mono (S' := fun k => k = b) (fun _ _ e => e.elim)).trans f3 (fun j hj e => by have := e1 j e; omega)
    refine ⟨⟨xa, xc, rfl⟩, b3, ⟨xa, xc, ?_, ?_, .inl hS⟩, fw.setCell _ _ (fun _ => rfl)⟩
    · rw [heap_set b3]; rfl
    · exact iw.fr (T := fun k => k = b) ((Fr.refl _ _).setCell _ _ (fun _ => rfl)) (fun k _ _ hne e => hne e)
  have HS1 : Hid (w1.heap.size = W.heap.size + 1) := s1
  have lb1 : b < w1.heap.size := by omega
  have lx1 : W.heap.size < w1.heap.size := by omega
  clear hi hb b1 n1 bx hw1 s1
  go_enter Tryz.func25, Tryz.ntmps25
  go_wp2
  rw [HW1.out]
  go_region_law (show if Region.wanted (Oper.mk _ (.call ⟨.builtin .append, _, _⟩) _ _ _ _) _ = true then _ else _; refine step_items rfl (.tmp 6) (.tmp 10) rfl w1.heap.size (.slice (some ⟨w1.heap.size, 0, none⟩) 1 1) [(x, y)] rfl (HOWN.out _ (by first | exact Fr.refl _ _ | exact (Fr.refl _ _).drew)) S b va vc L.length L rfl rfl (HI.out _ (by first | exact (Fr.refl _ _).alloc _ | exact ((Fr.refl _ _).alloc _).drew)) (by simp; omega) (by simp) ?_; intro v9 w9 o9 f9; have HF9 := HF.out v9 _ w9 (by first | exact (Fr.refl _ _).alloc _ | exact ((Fr.refl _ _).alloc _).drew) (by simp) o9 f9; have HFF : Hid _ := HF9.2.2; obtain ⟨⟨xa, xc, rfl⟩, hb9, _⟩ := HF9; have c9 : w9.cell? ⟨b, 1, none⟩ = some (.slice va L.length vc) := (cell_of hb9 1).trans rfl; have f99 := frozen_of hb9 1; have lb9 := heap_lt hb9; clear o9 f9 hb9)
  all_goals
    try simp only [List.getElem_toArray, List.getElem_cons_succ, List.getElem_cons_zero, Act.put, List.setIfInBounds_toArray, List.set_cons_succ, List.set_cons_zero]
    go_wp2
    go_end0
    exact ⟨rfl, HFF.out⟩
end RC
end Go.Proofs.YtgdjoaiahigjpaaGreatDoor
