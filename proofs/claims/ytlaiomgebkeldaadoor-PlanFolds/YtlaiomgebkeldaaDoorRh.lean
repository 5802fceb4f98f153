/- A hash's bytes as a text: letters, the document's bytes. -/
import Derived.Test.YtlaiomgebkeldaaDoorH2
import Derived.Laws.MakeOwn
import Derived.Laws.AppendOwn
import Derived.Lib.AppendStr
namespace Go.Proofs.YtlaiomgebkeldaaDoor.Rf
open Go.RowKit
set_option linter.unusedVariables false
set_option linter.unusedSimpArgs false

theorem info8 : (Tryd.prog.info? 5).map (fun i => (i.zero, i.size, i.bytes)) = some (some (.int .u8 0), 1, 1) := by kernel_rfl
theorem info_parts8 : ∃ i, Tryd.prog.info? 5 = some i ∧ i.zero = some (.int .u8 0) ∧ i.size = 1 ∧ i.bytes = 1 := by
  obtain ⟨i, hi, he⟩ := Option.map_eq_some_iff.1 info8
  simp only [Prod.mk.injEq] at he
  exact ⟨i, hi, he.1, he.2.1, he.2.2⟩
/-- A row of bytes of the call's own, from block B on. -/
abbrev Own (B : Nat) (w : World) (v : Value) (l : List UInt8) : Prop := w.ownsRow B 5 1 v l.length (bc l)
theorem ownsRow_form {w : World} {base : Nat} {e : TypeId} {size : Nat} {v : Value} {n : Nat} {xs : List Value} (h : w.ownsRow base e size v n xs) : ∃ a c, v = .slice a n c := by
  rcases h.2 with ⟨rfl, rfl⟩ | ⟨g, cap, cur, rfl, _⟩
  · exact ⟨_, _, rfl⟩
  · exact ⟨_, _, rfl⟩
theorem one_new (w : World) (x : Value) (t : TypeId) : ∀ j u, [x][j]? = some u → (w.alloc (.cells #[x] t)).cell? ((⟨w.heap.size, 0, none⟩ : Addr).add j) = some u := by
  intro j u hj
  match j, hj with
  | 0, hj => simp at hj; subst hj; simp [Addr.add]
theorem conv_nil (w : World) : (convert 110 9 (.slice none 0 0)).run Tryd.prog w = .ok (.string ⟨#[]⟩) w := by kernel_rfl
theorem conv_own {B : Nat} {w : World} {v : Value} {l : List UInt8} (h : Own B w v l) : (convert 110 9 v).run Tryd.prog w = .ok (.string ⟨l.toArray⟩) w := by
  have h' := h
  rcases h.2 with ⟨rfl, hn⟩ | ⟨g, cap, cur, rfl, _⟩
  · have : l = [] := List.eq_nil_of_length_eq_zero hn
    subst this
    exact conv_nil w
  · refine run_convert_bytes_back w _ _ _ _ _ _ Tryd.underlying110 Tryd.underlying5 Tryd.underlying9 (fun j hj => ?_)
    exact h'.cells (g := g) rfl j _ (by simp [bc, hj])
theorem make_own (B : Nat) (w : World) (c : Nat) (hc : c ≤ 281474976710656) (hB : B ≤ w.heap.size) : ∃ w', (Instr.makeSlice 110 (.int .i64 0) (.int .i64 (c : Int))).run Tryd.prog w = .ok (.slice (some ⟨w.heap.size, 0, none⟩) 0 c) w' ∧ Own B w' (.slice (some ⟨w.heap.size, 0, none⟩) 0 c) [] ∧ Nw w w' := by
  obtain ⟨i0, hi, hz0, hz1, hz2⟩ := info_parts8
  obtain ⟨w', h1, h2, h3⟩ := run_make_own (P := Tryd.prog) w B 110 5 i0 (.int .u8 0) 1 Tryd.underlying110 hi hz0 hz1 .i64 .i64 c (by rw [hz2]; omega) (by unfold maxLen; omega) hB
  exact ⟨w', h1, h2, (Fr.refl _ _).grown h3 (fun k e _ => by cases e)⟩
theorem u8_of (m : Nat) (h : m < 256) : (Value.int .u8 (m : Int)) = .int .u8 ((UInt8.ofNat m).toNat : Nat) := by
  rw [UInt8.toNat_ofNat', Nat.mod_eq_of_lt (by omega)]
/-- Behind an append of one byte. -/
theorem own_put {B : Nat} {W w w1 : World} {v v' : Value} {l : List UInt8} {n : Nat} {c : UInt8} {x : Int} {t : TypeId} (hw : Below B W w) (h : Own B w v l) (hx : x = (c.toNat : Int)) (ho : w1.ownsRow B 5 1 v' n (bc l ++ [.int .u8 x])) (hn : n = l.length + 1) (hg : (w.alloc (.cells #[.int .u8 x] t)).grownBy w1 v.ownBlock) (hB : B ≤ W.heap.size) : Own B w1 v' (l ++ [c]) ∧ Below B W w1 := by
  subst hx hn
  refine ⟨?_, ?_⟩
  · unfold Own
    rw [List.length_append, bc_app]
    exact ho
  · refine ⟨hg.os.trans hw.os, hg.tape.trans hw.tape, hg.output.trans hw.output, ?_, fun k hk => ?_⟩
    · have := hg.size; simp at this; have := hw.size; omega
    · have h1 := hg.block k (by simp; have := hw.size; omega) (fun e => by have := h.lt k e.symm; omega)
      rw [h1, Below.heap_alloc _ _ _ (by have := hw.size; omega)]
      exact hw.block k hk

set_option maxRecDepth 100000 in
set_option maxHeartbeats 1000000 in
theorem refbytes_any (A : List UInt8) (hA : A.length = 32) (w : World) :
    Calls Tryd.prog 75 #[.agg (hbs A)] w fun e w' => e = .returned (.string ⟨A.toArray⟩) ∧ Nw w w' := by
  obtain ⟨a, ha⟩ : ∃ a, a = hbs A := ⟨_, rfl⟩
  rw [← ha]
  have HG : Hid (∀ k, k < 32 → a[k]? = some (.int .u8 ((A.getD k 0).toNat : Nat))) := fun k hk => by rw [ha]; exact hbs_get A k (by omega)
  have HA : Hid (A.length = 32) := hA
  have has : a.size = 32 := by rw [ha, hbs_size, hA]
  clear ha hA
  obtain ⟨i0, hi, hz0, hz1, hz2⟩ := info_parts8
  have hz2i := hz2
  clear hz2
  go_enter Tryd.func75, Tryd.ntmps75
  go_wp2
  obtain ⟨w0, hw0⟩ : ∃ w0, w0 = w.alloc (.cells a 26) := ⟨_, rfl⟩
  have j0 : w0.heap[w.heap.size]? = some (.cells a 26) := by rw [hw0]; exact heap_new w _
  have n0 : Nw w w0 := by rw [hw0]; exact (Fr.refl _ _).alloc _
  have hs0 : w0.heap.size = w.heap.size + 1 := by rw [hw0]; simp
  have HS : Hid (w0.heap.size = w.heap.size + 1) := hs0
  rw [← hw0]
  clear hw0 hs0
  go_loopw [3, 4] (fun b i wr => ∃ k : Nat, k ≤ 32 ∧ i = .int .i64 k ∧ Own w0.heap.size wr b (A.take k) ∧ Below w0.heap.size w0 wr) (fun _ i _ => 32 - (intOf i).toNat)
  case atStart => exact ⟨0, by omega, rfl, World.ownsRow_nil _ _ _ _, Below.refl _ _⟩
  case round =>
    obtain ⟨k, hk, rfl, ho, hb⟩ := hrel
    by_cases hlt : k < 32
    · have hki : (k : Int) < 32 := by omega
      have hsz : w0.heap.size ≤ wr.heap.size := hb.size
      have hcl : wr.cell? ⟨w.heap.size, k, none⟩ = some (.int .u8 ((A.getD k 0).toNat : Nat)) := (cell_of ((hb.block _ (heap_lt j0)).trans j0) k).trans (HG.out k hlt)
      have hll : (A.take k).length ≤ 32 := by rw [List.length_take]; omega
      have HM : Hid (A.take (k + 1) = A.take k ++ [A.getD k 0]) := by
        unfold Hid
        rw [List.take_add_one, List.getElem?_eq_getElem (by have := HA.out; omega), List.getD_eq_getElem?_getD, List.getElem?_eq_getElem (by have := HA.out; omega)]; rfl
      generalize A.getD k 0 = c at hcl HM
      generalize A.take k = T at ho hll HM
      obtain ⟨ca, cc, rfl⟩ := ownsRow_form ho
      go_wp2_with (at_builtin; refine wpList_append_own _ rfl _ _ 110 rfl w0.heap.size 5 i0 (.int .u8 0) 1 1 Tryd.underlying110 hi hz0 hz1 hz2i rfl (by decide) _ _ _ rfl (ho.alloc _) ⟨wr.heap.size, 0, none⟩ 1 1 [.int .u8 _] rfl rfl (one_new _ _ _) (by simp [Value.oneCell']) (by unfold maxLen; omega) (by omega) (by simp; omega) ?_; intro v' w3 hown' hgrow _; obtain ⟨ga, gc, rfl⟩ := ownsRow_form hown')
      obtain ⟨h1, h2⟩ := own_put hb ho rfl hown' (by omega) hgrow (Nat.le_refl _)
      refine ⟨⟨k + 1, by omega, by go_num, ?_, h2⟩, by simp [intOf]; omega⟩
      rw [HM.out]
      exact h1
    · obtain rfl : k = 32 := by omega
      have hTA : A.take 32 = A := List.take_of_length_le (by have := HA.out; omega)
      rw [hTA] at ho
      have hcv := conv_own ho
      obtain ⟨ca, cc, rfl⟩ := ownsRow_form ho
      go_wp2
      go_ret
      exact ⟨rfl, n0.tr (Fr.ofBelow hb)⟩
end Go.Proofs.YtlaiomgebkeldaaDoor.Rf
