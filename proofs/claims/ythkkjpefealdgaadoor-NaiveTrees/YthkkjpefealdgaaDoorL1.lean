/- A log of package naive in memory: New, Size, whether it is there, whether it has a size; strings.Clone. -/
import Derived.Test.YthkkjpefealdgaaDoorS3
import Derived.Test.YthkkjpefealdgaaDoorMt
import Derived.Test.YthkkjpefealdgaaDoorCl
namespace Go.Proofs.YthkkjpefealdgaaDoor
open Go.RowKit
set_option linter.unusedVariables false
set_option linter.unusedSimpArgs false

/-- Texts as cells. -/
def ts (L : List ByteArray) : List Value := L.map Value.string
theorem ts_len (L : List ByteArray) : (ts L).length = L.length * 1 := by simp [ts]
theorem ts_app (L M : List ByteArray) : ts (L ++ M) = ts L ++ ts M := by simp [ts]
theorem ts_one (L : List ByteArray) : ∀ u ∈ ts L, u.oneCell' = true := by
  intro u hu
  simp only [ts, List.mem_map] at hu
  obtain ⟨x, _, rfl⟩ := hu
  rfl
/-- A log in memory: its block; its leaves in a row of its own, from block base on. -/
structure Lg (w : World) (b base : Nat) (v : Value) (L : List ByteArray) : Prop where
  blk : w.heap[b]? = some (.cells #[.bool true, v] 64)
  own : w.ownsRow base 9 1 v L.length (ts L)
  lt : b < base ∧ base ≤ w.heap.size
  len : L.length ≤ 1048576
  sz : ∀ x ∈ L, x.size ≤ 65536
theorem Lg.fr {S : Nat → Prop} {w w' : World} {b base : Nat} {v : Value} {L : List ByteArray} (h : Lg w b base v L) (f : Fr S w w') (h1 : ¬ S b) (h2 : ∀ g, v.ownBlock = some g → ¬ S g) : Lg w' b base v L :=
  ⟨(f.block _ (heap_lt h.blk) h1).trans h.blk, ownsRow_keep h.own (fun g hg => f.block g (h.own.lt g hg).2 (h2 g hg)), by have := h.lt; have := f.size; omega, h.len, h.sz⟩
theorem Lg.nw {w w' : World} {b base : Nat} {v : Value} {L : List ByteArray} (h : Lg w b base v L) (f : Nw w w') : Lg w' b base v L := h.fr f (fun q => q) (fun _ _ q => q)
theorem Lg.form {w : World} {b base : Nat} {v : Value} {L : List ByteArray} (h : Lg w b base v L) : ∃ p c, v = .slice p L.length c ∧ Strs w p L ∧ L.length ≤ c ∧ (p = none → L = [] ∧ c = 0) ∧ (∀ a, p = some a → ∃ g, a = ⟨g, 0, none⟩) := by
  have hl := h.own.lt
  have ho := h.own
  rcases h.own.2 with ⟨hv, hn⟩ | ⟨g, cap, cur, hv, hb, hh, h3, h4, h5, h6⟩
  · have : L = [] := List.length_eq_zero_iff.1 hn
    subst this
    exact ⟨none, 0, hv, fun j x hx => by simp at hx, by simp, fun _ => ⟨rfl, rfl⟩, fun a ha => by cases ha⟩
  · subst hv
    refine ⟨_, cap, rfl, fun j x hx => ⟨g, 0, rfl, ?_⟩, by omega, fun q => (by cases q), fun a ha => by cases ha; exact ⟨_, rfl⟩⟩
    have := ho.cells (g := g) rfl j (.string x) (by rw [ts, List.getElem?_map, hx]; rfl)
    rw [addZ] at this
    rw [Nat.zero_add]; exact this
theorem Lg.cm {w : World} {b base : Nat} {v : Value} {L : List ByteArray} (h : Lg w b base v L) : w.cell? ⟨b, 0, none⟩ = some (.bool true) := cell2a h.blk
theorem Lg.cv {w : World} {b base : Nat} {v : Value} {L : List ByteArray} (h : Lg w b base v L) : w.cell? ⟨b, 1, none⟩ = some v := cell2b h.blk
/-- A log that is not there, or that no call made. -/
def NoL (w : World) (p : Value) : Prop := p = .pointer none ∨ ∃ b v, p = .pointer (some ⟨b, 0, none⟩) ∧ w.heap[b]? = some (.cells #[.bool false, v] 64)
theorem NoL.nw {w w' : World} {p : Value} (h : NoL w p) (f : Nw w w') : NoL w' p := h.imp id fun ⟨b, v, e, hb⟩ => ⟨b, v, e, (f.block _ (heap_lt hb) (fun q => q)).trans hb⟩
theorem clone_any (s : ByteArray) (w : World) (hs : s.size ≤ 281474976710656) : Calls Tryd.prog 36 #[.string s] w fun e w' => e = .returned (.string s) ∧ Nw w w' := by
  have h0 := Tryd.stringslite_Clone s w hs
  go_enter Tryd.func36, Tryd.ntmps36
  go_wp2_with (go_at_call 47; refine h0.mono ?_; rintro e w1 ⟨rfl, hb⟩)
  go_ret
  exact ⟨rfl, Fr.ofBelow hb⟩
theorem there_any (b : Nat) (m : Bool) (v : Value) (w : World) (h : w.heap[b]? = some (.cells #[.bool m, v] 64)) :
    Calls Tryd.prog 35 #[.pointer (some ⟨b, 0, none⟩)] w fun e w' => e = .returned (.bool m) ∧ w' = w := by
  have c0 := cell2a h
  have lb := heap_lt h
  clear h
  go_enter Tryd.func35, Tryd.ntmps35
  go_wp2
  go_ret
  exact ⟨rfl, rfl⟩
theorem there_nil (w : World) : Calls Tryd.prog 35 #[.pointer none] w fun e w' => e = .returned (.bool false) ∧ w' = w := by
  go_enter Tryd.func35, Tryd.ntmps35
  go_wp2
  go_ret
  exact ⟨rfl, rfl⟩
theorem there_no {w : World} {p : Value} (h : NoL w p) : Calls Tryd.prog 35 #[p] w fun e w' => e = .returned (.bool false) ∧ w' = w := by
  rcases h with rfl | ⟨b, v, rfl, hb⟩
  · exact there_nil w
  · exact there_any b false v w hb
theorem lsize_any {w : World} {b base : Nat} {v : Value} {L : List ByteArray} (h : Lg w b base v L) :
    Calls Tryd.prog 28 #[.pointer (some ⟨b, 0, none⟩)] w fun e w' => e = .returned (.int .u64 (L.length : Int)) ∧ w' = w := by
  have q := there_any b true v w h.blk
  have hl := h.len
  have c1 := h.cv
  have lb := heap_lt h.blk
  obtain ⟨p, c, rfl, _⟩ := h.form
  clear h
  go_enter Tryd.func28, Tryd.ntmps28
  go_wp2_with fail
  refine q.mono ?_
  rintro e w1 ⟨rfl, rfl⟩
  go_wp2
  go_ret
  exact ⟨rfl, rfl⟩
theorem size_no {w : World} {p : Value} (h : NoL w p) :
    Calls Tryd.prog 28 #[p] w fun e w' => e = .returned (.int .u64 0) ∧ w' = w := by
  have q := there_no h
  clear h
  go_enter Tryd.func28, Tryd.ntmps28
  go_wp2_with fail
  refine q.mono ?_
  rintro e w1 ⟨rfl, rfl⟩
  go_wp2
  go_ret
  exact ⟨rfl, rfl⟩
theorem has_any {w : World} {b base : Nat} {v : Value} {L : List ByteArray} (h : Lg w b base v L) (n : Nat) (hn : n < 18446744073709551616) {B : Nat} {a : Nat → Addr} (hS : Sent B w a) :
    Calls Tryd.prog 30 #[.pointer (some ⟨b, 0, none⟩), .int .u64 (n : Int)] w fun e w' => e = .returned (if n ≤ L.length then .nilIface else sen (a 4)) ∧ w' = w := by
  have q := there_any b true v w h.blk
  have q2 := lsize_any h
  have c4 := hS.c4
  have hl := h.len
  clear h hS
  by_cases hc : n ≤ L.length
  · rw [if_pos hc]
    have hc2 : ¬ (L.length : Int) < (n : Int) := by omega
    go_enter Tryd.func30, Tryd.ntmps30
    go_wp2_with fail
    refine q.mono ?_
    rintro e w1 ⟨rfl, rfl⟩
    go_wp2_with fail
    refine q2.mono ?_
    rintro e w1 ⟨rfl, rfl⟩
    go_wp2
    go_ret
    exact ⟨rfl, rfl⟩
  · rw [if_neg hc]
    have hc2 : (L.length : Int) < (n : Int) := by omega
    go_enter Tryd.func30, Tryd.ntmps30
    go_wp2_with fail
    refine q.mono ?_
    rintro e w1 ⟨rfl, rfl⟩
    go_wp2_with fail
    refine q2.mono ?_
    rintro e w1 ⟨rfl, rfl⟩
    go_wp2
    go_ret
    exact ⟨rfl, rfl⟩
theorem has_no {w : World} {p : Value} (h : NoL w p) (n : Nat) {B : Nat} {a : Nat → Addr} (hS : Sent B w a) :
    Calls Tryd.prog 30 #[p, .int .u64 (n : Int)] w fun e w' => e = .returned (sen (a 0)) ∧ w' = w := by
  have q := there_no h
  have c0 := hS.c0
  clear h hS
  go_enter Tryd.func30, Tryd.ntmps30
  go_wp2_with fail
  refine q.mono ?_
  rintro e w1 ⟨rfl, rfl⟩
  go_wp2
  go_ret
  exact ⟨rfl, rfl⟩
theorem new_any (w : World) : Calls Tryd.prog 29 #[] w fun e w' => e = .returned (.pointer (some ⟨w.heap.size, 0, none⟩)) ∧ Lg w' w.heap.size (w.heap.size + 1) (.slice none 0 0) [] ∧ w'.heap.size = w.heap.size + 1 ∧ Nw w w' := by
  go_enter Tryd.func29, Tryd.ntmps29
  go_wp2
  go_ret
  refine ⟨rfl, ⟨heap_new _ _, World.ownsRow_nil _ _ _ _, by simp, by simp, by simp⟩, by simp, nwa w _⟩
end Go.Proofs.YthkkjpefealdgaaDoor
