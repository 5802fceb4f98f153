/- What came in: texts, a stretch. -/
import Derived.Test.YtdhlmpjoggnkkaaGreatDoorLa
import Derived.Test.YtdhlmpjoggnkkaaGreatDoorCg
import Derived.SliceStrings
namespace Go.Proofs.YtdhlmpjoggnkkaaGreatDoor
open Go.RowKit Go.ChangeShapes Go.WideShapes Go.ChangeAt
set_option linter.unusedVariables false
set_option linter.unusedSimpArgs false

theorem weights_all_mem {H : Type} {P : Program} {e : TypeId} : ∀ {l : List (DataW H)} {d : DataW H}, d ∈ l → ∀ n ∈ d.weights P e, n ∈ DataW.weightsAll P e l
  | x :: l, d, hd, n, hn => by
    simp only [DataW.weightsAll, List.mem_append]
    rcases List.mem_cons.1 hd with rfl | hd
    · exact .inl hn
    · exact .inr (weights_all_mem hd n hn)
  | [], d, hd, n, hn => by simp at hd
theorem sized_elem {H : Type} {P : Program} {ts : List TypeId} {ds : List (DataW H)} (h : (DataW.weightsEach P ts ds).all (· ≤ reachBytes) = true) {j : Nat} {t e : TypeId} {elems spare : List (DataW H)} (ht : ts[j]? = some t) (hd : ds[j]? = some (.slice elems spare)) (hu : P.underlying t = some (.slice e)) (d : DataW H) (hm : d ∈ elems) (n : Nat) (hn : n ∈ d.weights P e) : n ≤ reachBytes := by
  have := List.all_eq_true.1 h _ (DataW.weights_mem_each ht hd n (by
    simp only [DataW.weights, hu]
    exact List.mem_cons_of_mem _ (List.mem_append_left _ (weights_all_mem hm n hn))))
  simpa using this
theorem cells1S : Tryz.prog.cellsOf 9 = 1 := by kernel_rfl
/-- Texts that came in. -/
theorem texts_of {H : Type} {enc : TypeId × Value → H} {W : World} {v : Value} {d : DataW H} {p : List MemPlace} (hv : ∃ a l c, v = .slice a l c) (h : DataW.Trod enc Tryz.prog W 0 (fun _ => true) true 25 v d p) {ts : List TypeId} {ds : List (DataW H)} (hsz : (DataW.weightsEach Tryz.prog ts ds).all (· ≤ reachBytes) = true) (j : Nat) (ht : ts[j]? = some 25) (hd : ds[j]? = some d) :
    ∃ a c ss, v = .slice a (List.length ss) c ∧ Strs W a ss ∧ (ss.length ≤ 140737488355328 ∧ ∀ x ∈ ss, x.size ≤ 140737488355328) := by
  obtain ⟨a, l, c, rfl⟩ := hv
  obtain ⟨fuel, hf⟩ := h
  rcases open_strings Tryz.underlying25 Tryz.underlying9 cells1S hf with ⟨hcs, _⟩ | ⟨x, l', c', zs, hcs, _, hl, hm, hz, hx, hcell, hwz⟩
  · simp [Value.cells] at hcs
    obtain ⟨rfl, rfl, rfl⟩ := hcs
    exact ⟨none, 0, [], rfl, fun j x hj => by simp at hj, by simp, by simp⟩
  · simp [Value.cells] at hcs
    obtain ⟨rfl, rfl, rfl⟩ := hcs
    have hzl : zs.length = c := by simpa using hz
    have hxd : d = .slice (strs (zs.take l)) (strs (zs.drop l)) := by simpa using congrArg Prod.fst hx
    have hw := sized_slice hsz ht (by rw [hd, hxd]) Tryz.underlying25
    have h4 := reachBytes_lt
    refine ⟨some x, c, zs.take l, by rw [List.length_take, Nat.min_eq_left (by omega)], ?_, ?_, ?_⟩
    · intro k y hk
      have hkl : k < l := by
        have := (List.getElem?_eq_some_iff.1 hk).1
        simp only [List.length_take] at this
        omega
      have hkz : k < zs.length := by omega
      obtain ⟨b, o, spot⟩ := x
      have hc := hcell k hkz
      have hspot : spot = none := by
        have h0 := hcell 0 (by omega)
        simpa [Addr.add] using World.cell?_spot h0
      subst hspot
      rw [addO] at hc
      refine ⟨b, o, rfl, hc.trans ?_⟩
      rw [List.getElem?_take, if_pos hkl] at hk
      rw [List.getD_eq_getElem?_getD, hk]
      rfl
    · have hb1 : Tryz.prog.bytesOf 9 = 16 := by kernel_rfl
      rw [hb1] at hw
      simp only [strs, List.length_map, List.length_take, List.length_drop] at hw ⊢
      omega
    · intro y hy
      have := sized_elem (elems := strs (zs.take l)) (spare := strs (zs.drop l)) hsz ht (by rw [hd, hxd]) Tryz.underlying25 (.lit (.string y.data.toList)) (by unfold strs; exact List.mem_map.2 ⟨y, hy, rfl⟩) y.data.toList.length (by simp [DataW.weights])
      rw [Array.length_toList] at this
      have h5 : y.data.size = y.size := rfl
      omega
theorem cellsSp : Tryz.prog.cellsOf 91 = 2 := by kernel_rfl
theorem cells64 : Tryz.prog.cellsOf 51 = 1 := by kernel_rfl
theorem two_of {xs : Array Value} {a b : Value} (h : xs.toList.length = 2) (h0 : (xs.toList.drop 0).take 1 = [a]) (h1 : (xs.toList.drop 1).take 1 = [b]) : xs = #[a, b] := by
  apply Array.ext'
  match hx : xs.toList, h, h0, h1 with
  | [x, y], _, h0, h1 => simp at h0 h1; subst h0 h1; rfl
set_option maxRecDepth 100000 in
/-- A stretch that came in. -/
theorem span_of {H : Type} {enc : TypeId × Value → H} {W : World} {r : Reach} {b0 : Nat} {v : Value} {d : DataW H} {p : List MemPlace} (hv : Value.okWide Tryz.prog W r b0 91 v) (h : DataW.Trod enc Tryz.prog W 0 (fun _ => true) true 91 v d p) :
    ∃ b e : Nat, v = sp b e ∧ b < 18446744073709551616 ∧ e < 18446744073709551616 := by
  simp only [Value.okWide, Tryz.underlying91] at hv
  obtain ⟨xs, rfl, hn, _⟩ := hv
  obtain ⟨fuel, hf⟩ := h
  obtain ⟨y0, y1, n, _, hl, h0, h1⟩ := trod_struct2 Tryz.underlying91 hf
  obtain ⟨a, ea, _, wa⟩ := DataW.trod_int Tryz.underlying51 h0
  obtain ⟨b, eb, _, wb⟩ := DataW.trod_int Tryz.underlying51 h1
  have ha : 0 ≤ a ∧ a ≤ 18446744073709551615 := by simpa [Lit.wf, IntKind.min, IntKind.max, IntKind.signed, IntKind.bits] using wa
  have hb : 0 ≤ b ∧ b ≤ 18446744073709551615 := by simpa [Lit.wf, IntKind.min, IntKind.max, IntKind.signed, IntKind.bits] using wb
  rw [cells64] at ea
  rw [cells64] at eb
  rw [cellsSp] at hl
  refine ⟨a.toNat, b.toNat, ?_, by omega, by omega⟩
  have e1 : ((a.toNat : Nat) : Int) = a := by omega
  have e2 : ((b.toNat : Nat) : Int) = b := by omega
  unfold sp
  rw [e1, e2]
  exact congrArg Value.agg (two_of hl ea eb)
end Go.Proofs.YtdhlmpjoggnkkaaGreatDoor
