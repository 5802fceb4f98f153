/- compact: Copy. -/
import Derived.Test.YthbimomhbeoieaaDoorX10
namespace Go.Proofs.YthbimomhbeoieaaDoor
open Go.RowKit
set_option linter.unusedVariables false
set_option linter.unusedSimpArgs false
set_option maxRecDepth 100000 in
theorem tclone_nil (w : World) : Calls Tryd.prog 30 #[.slice none 0 0] w fun e w' => e = .returned (.slice none 0 0) ∧ w' = w := by
  have eq0 : ∀ W : World, (binOp .eql 28 (.slice none 0 0) (.slice none 0 0)).run Tryd.prog W = .ok (.bool true) W := fun W => by kernel_rfl
  go_enter Tryd.func30, Tryd.ntmps30
  go_wp2
  go_ret
  exact ⟨rfl, rfl⟩
theorem own_empty (w : World) : (w.alloc (.cells #[] 68)).ownsRow w.heap.size 68 34 (.slice (some ⟨w.heap.size, 0, none⟩) 0 0) 0 [] :=
  ⟨rfl, .inr ⟨w.heap.size, 0, #[], rfl, Nat.le_refl _, heap_new _ _, Nat.le_refl _, Nat.zero_le _, rfl, rfl⟩⟩
set_option maxRecDepth 100000 in
set_option maxHeartbeats 1000000 in
theorem tclone_some {w : World} {base : Nat} {g n c : Nat} {T : List Tre} (h : w.ownsRow base 68 34 (.slice (some ⟨g, 0, none⟩) n c) n (tsc T)) (hn : T.length = n) (hok : ∀ t ∈ T, t.ok) (hl : n ≤ 1000000) :
    Calls Tryd.prog 30 #[.slice (some ⟨g, 0, none⟩) n c] w fun e w' => ∃ v', e = .returned v' ∧ w'.ownsRow w.heap.size 68 34 v' n (tsc T) ∧ Nw w w' := by
  obtain ⟨i0, hi, hz0, hz1, hz2⟩ := info_parts infoTr
  have HC : Hid (∀ j u, (tsc T)[j]? = some u → (w.alloc (.cells #[] 68)).cell? ((⟨g, 0, none⟩ : Addr).add j) = some u) := fun j u hu => (nwa w _).cellOf (h.cells (g := g) rfl j u hu)
  have HLn : Hid ((tsc T).length = n * 34) := h.1
  have H1 : Hid (∀ u ∈ tsc T, u.oneCell' = true) := fun u hu => by
    simp only [tsc, List.mem_flatMap] at hu
    obtain ⟨t, _, hu⟩ := hu
    exact Tre.one t u hu
  clear h hok
  have eq0 : ∀ W : World, (binOp .eql 28 (.slice (some ⟨g, 0, none⟩) n c) (.slice none 0 0)).run Tryd.prog W = .ok (.bool false) W := fun W => by kernel_rfl
  go_enter Tryd.func30, Tryd.ntmps30
  go_wp2_with (at_builtin; refine wpList_two _ rfl (.tmp 5) (.tmp 6) 28 rfl w.heap.size 68 i0 (.agg zt.c) 34 48 Tryd.underlying28 hi hz0 hz1 hz2 zt34 (by decide) (.slice (some ⟨w.heap.size, 0, none⟩) 0 0) 0 [] rfl (own_empty w) ⟨g, 0, none⟩ n c (tsc T) rfl HLn.out HC.out H1.out (by unfold maxLen; omega) (by omega) (by simp) ?_; intro v' w5 o5 t5; rw [Nat.zero_add, List.nil_append] at o5; have N5 : Nw w w5 := (nwa w _).trans t5.fr (fun j hj q => by simp [Value.ownBlock] at q; omega); clear t5)
  go_ret
  exact ⟨_, rfl, o5, N5⟩
theorem tclone_any {w : World} {b base : Nat} {v : Value} {B E : Nat} {T : List Tre} (h : Rg w b base v B E T) (hl : T.length ≤ 1000000) :
    Calls Tryd.prog 30 #[v] w fun e w' => ∃ v', e = .returned v' ∧ w'.ownsRow w.heap.size 68 34 v' T.length (tsc T) ∧ Nw w w' := by
  have ho := h.own
  rcases h.own.2 with ⟨hv, hn⟩ | ⟨g, cap, cur, hv, _⟩
  · subst hv
    have hT : T = [] := List.length_eq_zero_iff.1 hn
    subst hT
    refine (tclone_nil w).mono ?_
    rintro e w' ⟨rfl, rfl⟩
    exact ⟨_, rfl, World.ownsRow_nil _ _ _ _, Fr.refl _ _⟩
  · subst hv
    exact tclone_some ho rfl h.ok hl
end Go.Proofs.YthbimomhbeoieaaDoor
