/- taken: those of the things that may be put, and their forms, one behind the other. -/
import Derived.Test.YtebbgpnhkpbefaaDoorcY2
import Derived.Test.YtebbgpnhkpbefaaDoorcL1
import Derived.Test.YtebbgpnhkpbefaaDoorcY0
namespace Go.Proofs.YtebbgpnhkpbefaaDoor
open Go.RowKit
set_option linter.unusedVariables false
set_option linter.unusedSimpArgs false

/-- A thing that was taken: its cells, its fields, its form. -/
structure Kt where
  A : Array Value
  kd : Int
  n : Int
  wd : Int
  t : ByteArray
  lh : List UInt8
  F : List UInt8
def Kt.ok (x : Kt) : Prop := Tf x.A x.kd x.n x.wd x.t x.lh ∧ fmT x.kd x.n x.wd x.t x.lh = some x.F ∧ (x.kd % 4 = 2 → x.wd = x.t.size) ∧ x.t.size ≤ 1048576
def flatA (ks : List Kt) : List Value := ks.flatMap fun x => x.A.toList
def flatF (ks : List Kt) : List UInt8 := ks.flatMap fun x => x.F
theorem flatA_snoc (ks : List Kt) (x : Kt) : flatA (ks ++ [x]) = flatA ks ++ x.A.toList := by simp [flatA]
theorem flatF_snoc (ks : List Kt) (x : Kt) : flatF (ks ++ [x]) = flatF ks ++ x.F := by simp [flatF]

theorem Tf.setW {A : Array Value} {kd n wd : Int} {t : ByteArray} {lh : List UInt8} (h : Tf A kd n wd t lh) {x : Nat} (hx : x ≤ 9223372036854775807) : Tf (A.setIfInBounds 3 (.int .i64 (x : Int))) kd n x t lh := by
  have hz := h.g.size
  refine ⟨⟨by simp [hz], ?_, ?_, h.g.k1, h.g.k2, by omega, by omega⟩, ?_, ?_, h.hl, fun j hj => ?_, h.n1, h.n2, ?_⟩
  · rw [Array.getElem?_setIfInBounds_ne (by omega)]; exact h.g.k
  · rw [Array.getElem?_setIfInBounds_self_of_lt (by omega)]
  · rw [Array.getElem?_setIfInBounds_ne (by omega)]; exact h.cn
  · rw [Array.getElem?_setIfInBounds_ne (by omega)]; exact h.ct
  · rw [Array.getElem?_setIfInBounds_ne (by omega)]; exact h.ch j hj
  · intro u hu
    rw [Array.toList_setIfInBounds] at hu
    rcases List.mem_or_eq_of_mem_set hu with hu | rfl
    · exact h.one u hu
    · rfl
theorem rows_apart {w : World} {b1 b2 s1 s2 : Nat} {v1 v2 : Value} {n1 n2 : Nat} {x1 x2 : List Value} (h1 : w.ownsRow b1 5 s1 v1 n1 x1) (h2 : w.ownsRow b2 40 s2 v2 n2 x2) : ∀ g, v1.ownBlock = some g → v2.ownBlock = some g → False := by
  intro g e1 e2
  rcases h1.2 with ⟨rfl, _⟩ | ⟨g1, _, _, rfl, _, hh1, _⟩
  · cases e1
  · rcases h2.2 with ⟨rfl, _⟩ | ⟨g2, _, _, rfl, _, hh2, _⟩
    · cases e2
    · simp [Value.ownBlock] at e1 e2
      subst e1 e2
      rw [hh1] at hh2
      cases hh2
theorem agg_new (w : World) (A : Array Value) (t : TypeId) : ∀ j u, A.toList[j]? = some u → (w.alloc (.cells A t)).cell? ((⟨w.heap.size, 0, none⟩ : Addr).add j) = some u := by
  intro j u hj
  rw [addZ, cell_of (heap_alloc_new w _)]
  simpa using hj
/-- Things that came in, all their fields told; no text is longer than so much. -/
def Thf (w : World) (v : Value) (n : Nat) (A : Nat → Array Value) : Prop :=
  (∀ i, i < n → ∃ kd m wd t lh, Tf (A i) kd m wd t lh ∧ t.size ≤ 1048576) ∧ Ths w v n A

theorem info34 : (Tryd.prog.info? 40).map (fun i => (i.zero, i.size, i.bytes)) = some (some (.agg (tZ 0 0 0 ⟨#[]⟩)), 37, 80) := by kernel_rfl
theorem info_parts34 : ∃ i, Tryd.prog.info? 40 = some i ∧ i.zero = some (.agg (tZ 0 0 0 ⟨#[]⟩)) ∧ i.size = 37 ∧ i.bytes = 80 := by
  obtain ⟨i, hi, he⟩ := Option.map_eq_some_iff.1 info34
  simp only [Prod.mk.injEq] at he
  exact ⟨i, hi, he.1, he.2.1, he.2.2⟩
theorem fm_len {kd n wd : Int} {t : ByteArray} {lh F : List UInt8} (h : fmT kd n wd t lh = some F) (h1 : 0 ≤ n) (h2 : n ≤ 18446744073709551615) (hl : lh.length = 32) (ht : t.size ≤ 1048576) : F.length ≤ t.size + 32 := by
  unfold fmT at h
  split at h
  · split at h
    · cases h; rw [fixB_len]; omega
    · cases h
  · split at h
    · cases h; have := varB_ten n.toNat (by omega); omega
    · split at h
      · cases h
        have := varB_ten t.size (by omega)
        have e : t.data.toList.length = t.size := by rw [Array.length_toList]; rfl
        rw [List.length_append]; omega
      · cases h; omega
end Go.Proofs.YtebbgpnhkpbefaaDoor
