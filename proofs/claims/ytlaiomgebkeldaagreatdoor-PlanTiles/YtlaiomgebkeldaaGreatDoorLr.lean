/- What came in: parts. -/
import Derived.Test.YtlaiomgebkeldaaGreatDoorLa
import Derived.Test.YtlaiomgebkeldaaGreatDoorLh
import Derived.Test.YtlaiomgebkeldaaGreatDoorYf
import Derived.Deep.Slices
import Derived.Deep.SlicePairs
import Derived.SizedLaws
namespace Go.Proofs.YtlaiomgebkeldaaGreatDoor
open Go.RowKit Go.ChangeShapes Go.WideShapes Go.ChangeAt
set_option linter.unusedVariables false
set_option linter.unusedSimpArgs false
theorem cE8P : Tryz.prog.cellsOf 5 = 1 := by kernel_rfl
theorem cellsCP : Tryz.prog.cellsOf 87 = 2 := by kernel_rfl
theorem cells64P : Tryz.prog.cellsOf 22 = 1 := by kernel_rfl
theorem cellsPP : Tryz.prog.cellsOf 27 = 1 := by kernel_rfl
theorem cellsCsP : Tryz.prog.cellsOf 25 = 1 := by kernel_rfl
theorem wall_mem {H : Type} {P : Program} {e : TypeId} : ∀ (l : List (DataW H)) (d : DataW H) (q : Nat), d ∈ l → q ∈ d.weights P e → q ∈ DataW.weightsAll P e l
  | [], d, q, h, _ => by cases h
  | x :: r, d, q, h, hq => by
    rw [DataW.weightsAll]
    rcases List.mem_cons.1 h with rfl | h
    · exact List.mem_append_left _ hq
    · exact List.mem_append_right _ (wall_mem r d q h hq)
theorem bytesCP : Tryz.prog.bytesOf 87 = 16 := by kernel_rfl
set_option maxRecDepth 100000 in
/-- Trees that came in within something else. -/
theorem coords_in {H : Type} {enc : TypeId × Value → H} {W : World} {m0 : Nat} {x : Value} {y : DataW H × List MemPlace} (h : DataW.trod enc Tryz.prog W 0 (fun _ => true) true m0 25 [x] = some y) :
    ∃ l : List (Nat × Nat), Crd W x l ∧ (∀ c ∈ l, c.1 ≤ 255 ∧ c.2 < 18446744073709551616) ∧ ((∀ q ∈ y.1.weights Tryz.prog 25, q ≤ reachBytes) → l.length ≤ reachBytes) := by
  rcases Deep.open_slice_pairs Tryz.underlying25 Tryz.underlying87 cellsCP rfl rfl cE8P cells64P h with ⟨hcs, _⟩ | ⟨a, len, cap, m, n, V0, V1, D0, D1, P0, P1, hcs, _, hl, hm, hmm, hx, hel⟩
  · simp at hcs
    subst hcs
    exact ⟨[], ⟨none, 0, rfl, fun k t ht => by simp at ht⟩, by simp, by simp⟩
  · simp at hcs
    subst hcs
    simp only [if_true] at hmm
    subst hmm
    have hch : ∀ i, i < len → ∃ c : Nat × Nat, W.cell? (a.add (i * 2)) = some (.int .u8 (c.1 : Int)) ∧ W.cell? (a.add (i * 2 + 1)) = some (.int .u64 (c.2 : Int)) ∧ c.1 ≤ 255 ∧ c.2 < 18446744073709551616 := by
      intro i hi
      obtain ⟨c0, c1, h0, h1⟩ := hel i (by omega)
      obtain ⟨p, ep, _, wp⟩ := DataW.trod_int Tryz.underlying5 h0
      obtain ⟨q, eq, _, wq⟩ := DataW.trod_int Tryz.underlying22 h1
      have hp : 0 ≤ p ∧ p ≤ 255 := by simpa [Lit.wf, IntKind.min, IntKind.max, IntKind.signed, IntKind.bits] using wp
      have hq : 0 ≤ q ∧ q ≤ 18446744073709551615 := by simpa [Lit.wf, IntKind.min, IntKind.max, IntKind.signed, IntKind.bits] using wq
      refine ⟨(p.toNat, q.toNat), ?_, ?_, by show p.toNat ≤ 255; omega, by show q.toNat < _; omega⟩
      · rw [c0, List.singleton_inj.1 ep, show ((p.toNat : Nat) : Int) = p by omega]
      · rw [c1, List.singleton_inj.1 eq, show ((q.toNat : Nat) : Int) = q by omega]
    obtain ⟨f, hfun⟩ := Deep.choose_lt hch
    refine ⟨(List.range len).map f, ⟨some a, m, by simp, fun k t hk => ?_⟩, fun c hc => ?_, fun hw => ?_⟩
    rotate_left 2
    · have hxd : y.1 = .slice _ _ := congrArg Prod.fst hx
      have h1 := hw ((len + (m - len)) * 16) (by rw [hxd]; simp [DataW.weights, Tryz.underlying25, bytesCP])
      simp only [List.length_map, List.length_range]
      omega
    · have hkl : k < len := by
        have := (List.getElem?_eq_some_iff.1 hk).1
        simpa using this
      have hfk : f k = t := by simpa [hkl] using hk
      obtain ⟨e0, e1, _⟩ := hfun k hkl
      obtain ⟨g, off, spot⟩ := a
      have hspot : spot = none := by
        have q := World.cell?_spot (hfun 0 (by omega)).1
        simpa [Addr.add] using q
      subst hspot
      rw [addO, hfk] at e0
      rw [addO, hfk] at e1
      exact ⟨g, off, rfl, World.block_lt_of_cell? _ _ e0, e0, by rw [Nat.add_assoc]; exact e1⟩
    · obtain ⟨i, hi, rfl⟩ := List.mem_map.1 hc
      exact (hfun i (List.mem_range.1 hi)).2.2
set_option maxRecDepth 100000 in
/-- Parts that came in. -/
theorem parts_of {H : Type} {enc : TypeId × Value → H} {W : World} {v : Value} {d : DataW H} {p : List MemPlace} (hv : ∃ a l c, v = .slice a l c) (h : DataW.Trod enc Tryz.prog W 0 (fun _ => true) true 38 v d p) {ts : List TypeId} {ds : List (DataW H)} (hsz : (DataW.weightsEach Tryz.prog ts ds).all (· ≤ reachBytes) = true) (j : Nat) (ht : ts[j]? = some 38) (hd : ds[j]? = some d) :
    ∃ ls : List (List (Nat × Nat)), Prt W v ls ∧ (∀ c ∈ ls.flatten, c.1 ≤ 255 ∧ c.2 < 18446744073709551616) ∧ ls.length < 4611686018427387904 ∧ ∀ l ∈ ls, l.length < 4611686018427387904 := by
  obtain ⟨fuel, hf⟩ := h
  obtain ⟨a0, l0, c0, rfl⟩ := hv
  have h4 := reachBytes_lt
  rcases Deep.open_slice Tryz.underlying38 hf with ⟨hcs, _⟩ | ⟨a, len, cap, m, n, D, Pl, hcs, _, hl, hm, hmm, hx, hel⟩
  · simp [Value.cells] at hcs
    obtain ⟨rfl, rfl, rfl⟩ := hcs
    exact ⟨[], ⟨none, 0, rfl, fun k t ht => by simp at ht⟩, by simp, by simp, by simp⟩
  · simp [Value.cells] at hcs
    obtain ⟨rfl, rfl, rfl⟩ := hcs
    simp only [if_true] at hmm
    subst hmm
    rw [cellsPP] at hel
    have hxd : d = .slice ((List.range l0).map D) ((List.range (m - l0)).map fun j => D (l0 + j)) := congrArg Prod.fst hx
    have hb1 : Tryz.prog.bytesOf 27 = 24 := by kernel_rfl
    have hw0 := sized_slice hsz ht (by rw [hd, hxd]) Tryz.underlying38
    rw [hb1] at hw0
    simp only [List.length_map, List.length_range] at hw0
    have hch : ∀ i, i < l0 → ∃ q : Value × List (Nat × Nat), W.cell? (a.add i) = some q.1 ∧ Crd W q.1 q.2 ∧ (∀ c ∈ q.2, c.1 ≤ 255 ∧ c.2 < 18446744073709551616) ∧ q.2.length ≤ reachBytes := by
      intro i hi
      obtain ⟨cs, hc, htr⟩ := hel i (by omega)
      obtain ⟨y0, n2, hD, hcl, h0⟩ := trod_struct1 Tryz.underlying27 htr
      rw [cellsPP] at hcl
      unfold World.cells? at hc
      rw [if_pos (Nat.zero_le _)] at hc
      match cs, hcl, hc, h0 with
      | [x], _, hc, h0 =>
        obtain ⟨l, l1, l2, l3⟩ := coords_in (show DataW.trod enc Tryz.prog W 0 (fun _ => true) true n2 25 [x] = some y0 from by have h9 := h0; rw [show Tryz.prog.cellsOf _ = 1 from cellsCsP] at h9; exact h9)
        have q := mapM_some_get hc 0 0 (by simp)
        have hDi : D i = .agg [y0.1] := congrArg Prod.fst hD
        refine ⟨(x, l), by simpa [Addr.add] using q, l1, l2, l3 (fun q hq => ?_)⟩
        have hq2 : q ∈ (D i).weights Tryz.prog 27 := by
          rw [hDi]
          simp only [DataW.weights, Tryz.underlying27]
          show q ∈ DataW.weightsEach Tryz.prog [25] [y0.1]
          simp only [DataW.weightsEach]
          exact List.mem_append_left _ hq
        have hq3 : q ∈ d.weights Tryz.prog 38 := by
          rw [hxd]
          simp only [DataW.weights, Tryz.underlying38]
          exact List.mem_cons_of_mem _ (List.mem_append_left _ (wall_mem _ (D i) q (List.mem_map.2 ⟨i, List.mem_range.2 hi, rfl⟩) hq2))
        have := List.all_eq_true.1 hsz _ (DataW.weights_mem_each ht hd q hq3)
        simpa using this
    obtain ⟨f, hfun⟩ := Deep.choose_lt hch
    refine ⟨(List.range l0).map fun i => (f i).2, ⟨some a, m, by simp, fun k l hk => ?_⟩, fun c hc => ?_, by simp; omega, fun l hl => ?_⟩
    · have hkl : k < l0 := by
        have := (List.getElem?_eq_some_iff.1 hk).1
        simpa using this
      have hfk : (f k).2 = l := by simpa [hkl] using hk
      obtain ⟨e0, e1, _⟩ := hfun k hkl
      obtain ⟨g, off, spot⟩ := a
      have hspot : spot = none := by
        have q := World.cell?_spot (hfun 0 (by omega)).1
        simpa [Addr.add] using q
      subst hspot
      rw [addO] at e0
      rw [hfk] at e1
      exact ⟨g, off, _, rfl, World.block_lt_of_cell? _ _ e0, e0, e1⟩
    · obtain ⟨l, h1, h2⟩ := List.mem_flatten.1 hc
      obtain ⟨i, hi, rfl⟩ := List.mem_map.1 h1
      exact (hfun i (List.mem_range.1 hi)).2.2.1 c h2
    · obtain ⟨i, hi, rfl⟩ := List.mem_map.1 hl
      have := (hfun i (List.mem_range.1 hi)).2.2.2
      omega
end Go.Proofs.YtlaiomgebkeldaaGreatDoor
