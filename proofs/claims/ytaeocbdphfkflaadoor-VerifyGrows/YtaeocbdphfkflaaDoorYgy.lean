/- plan: the tiles that trees need: one more tree. -/
import Derived.Test.YtaeocbdphfkflaaDoorYgx
namespace Go.Proofs.YtaeocbdphfkflaaDoor
open Go.RowKit Go.Maps Go.WideMaps
set_option linter.unusedVariables false
set_option linter.unusedSimpArgs false
theorem gen_wq {Q : World → Prop} (P : World → Prop) {W : World} (h : P W) (k : ∀ W, P W → Q W) : Q W := k W h
instance : DecidableEq Ti := fun a b => if h : a.L = b.L ∧ a.I = b.I ∧ a.W = b.W then .isTrue (by obtain ⟨x, y, z⟩ := a; obtain ⟨p, q, r⟩ := b; simp only at h; obtain ⟨rfl, rfl, rfl⟩ := h; rfl) else .isFalse (fun e => h (by subst e; exact ⟨rfl, rfl, rfl⟩))
def tiN (S : Nat) (c : Nat × Nat) : Ti := ⟨c.1 / 8, ofA c.1 c.2 / 256, wid (c.1 / 8) (ofA c.1 c.2 / 256) S⟩
def addT (out : List Ti) (t : Ti) : List Ti := if t ∈ out then out else out ++ [t]
/-- The trees' tiles, as they are met. -/
def tls (S : Nat) (cs : List (Nat × Nat)) : List Ti := cs.foldl (fun o c => addT o (tiN S c)) []
theorem tls_add (S : Nat) (cs : List (Nat × Nat)) (c : Nat × Nat) : tls S (cs ++ [c]) = addT (tls S cs) (tiN S c) := by simp [tls]
theorem addT_len (out : List Ti) (t : Ti) : (addT out t).length ≤ out.length + 1 := by unfold addT; split <;> simp
theorem tls_len (S : Nat) (cs : List (Nat × Nat)) : (tls S cs).length ≤ cs.length := by
  have : ∀ (l : List (Nat × Nat)) (o : List Ti), (l.foldl (fun o c => addT o (tiN S c)) o).length ≤ o.length + l.length := by
    intro l
    induction l with
    | nil => intro o; simp
    | cons c r ih =>
      intro o
      have h1 := ih (addT o (tiN S c))
      have h2 := addT_len o (tiN S c)
      simp only [List.foldl_cons, List.length_cons]
      omega
  simpa [tls] using this cs []
theorem tl_new {w : World} (x y z : Value) (t : TypeId) : ∀ j u, [x, y, z][j]? = some u → (w.alloc (.cells #[x, y, z] t)).cell? ((⟨w.heap.size, 0, none⟩ : Addr).add j) = some u := by
  intro j u h
  have hb := heap_new w (.cells #[x, y, z] t)
  obtain ⟨a, b, c⟩ := cell3 hb
  rcases j with _ | _ | _ | j
  · simp at h; subst h; exact a
  · simp at h; subst h; exact b
  · simp at h; subst h; exact c
  · simp at h
end Go.Proofs.YtaeocbdphfkflaaDoor
namespace Go.Proofs.YtaeocbdphfkflaaDoor
open Go.RowKit Go.Maps Go.WideMaps
set_option linter.unusedVariables false
set_option linter.unusedSimpArgs false
/-- Parts in memory. -/
def Prt (w : World) (v : Value) (ls : List (List (Nat × Nat))) : Prop :=
  ∃ ad cap, v = .slice ad ls.length cap ∧ ∀ k l, ls[k]? = some l → ∃ g off x, ad = some ⟨g, off, none⟩ ∧ g < w.heap.size ∧ w.cell? ⟨g, off + k, none⟩ = some x ∧ Crd w x l
theorem Prt.nw {w w' : World} {v : Value} {ls : List (List (Nat × Nat))} (h : Prt w v ls) (n : Nw w w') : Prt w' v ls := by
  obtain ⟨ad, cap, rfl, h⟩ := h
  refine ⟨ad, cap, rfl, fun k t ht => ?_⟩
  obtain ⟨g, off, x, rfl, h1, h2, h3⟩ := h k t ht
  exact ⟨g, off, x, rfl, Nat.lt_of_lt_of_le h1 n.size, n.cellOf h2, h3.nw n⟩
/-- All trees are a log's. -/
def gdA (S : Nat) (cs : List (Nat × Nat)) : Prop := ∀ c ∈ cs, gdT S c
end Go.Proofs.YtaeocbdphfkflaaDoor
