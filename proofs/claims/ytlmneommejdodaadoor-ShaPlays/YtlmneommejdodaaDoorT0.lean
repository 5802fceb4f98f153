/- What came in: texts; the powers of ten. -/
import Derived.Test.YtlmneommejdodaaDoorLa
import Derived.Test.YtlmneommejdodaaDoorSh
import Derived.SliceStrings
import Derived.Lib.AppendIntMem
namespace Go.Proofs.YtlmneommejdodaaDoor
open Go.RowKit Go.ChangeShapes Go.WideShapes Go.ChangeAt
set_option linter.unusedVariables false
set_option linter.unusedSimpArgs false

theorem weights_all_mem {H : Type} {P : Program} {e : TypeId} : ∀ {l : List (DataW H)} {d : DataW H}, d ∈ l → ∀ n ∈ d.weights P e, n ∈ DataW.weightsAll P e l
  | x :: l, d, hd, n, hn => by
    simp only [DataW.weightsAll, List.mem_append]
    rcases List.mem_cons.1 hd with rfl | hd
    · exact .inl hn
    · exact .inr (weights_all_mem hd n hn)
  | [], d, hd, n, hn => by simp at hd
theorem sized_elem {H : Type} {P : Program} {ts : List TypeId} {ds : List (DataW H)} (h : (DataW.weightsEach P ts ds).all (· ≤ reachBytes) = true) {j : Nat} {t e : TypeId} {elems spare : List (DataW H)} (ht : ts[j]? = some t) (hd : ds[j]? = some (.slice elems spare)) (hu : P.underlying t = some (.slice e)) (d : DataW H) (hm : d ∈ elems) (n : Nat) (hn : n ∈ d.weights P e) : n ≤ reachBytes := by
  have := List.all_eq_true.1 h _ (DataW.weights_mem_each ht hd n (by
    simp only [DataW.weights, hu]
    exact List.mem_cons_of_mem _ (List.mem_append_left _ (weights_all_mem hm n hn))))
  simpa using this
theorem cells1S : Tryd.prog.cellsOf 9 = 1 := by kernel_rfl
/-- Texts that came in. -/
theorem texts_of {H : Type} {enc : TypeId × Value → H} {W : World} {v : Value} {d : DataW H} {p : List MemPlace} (hv : ∃ a l c, v = .slice a l c) (h : DataW.Trod enc Tryd.prog W 0 (fun _ => true) true 22 v d p) {ts : List TypeId} {ds : List (DataW H)} (hsz : (DataW.weightsEach Tryd.prog ts ds).all (· ≤ reachBytes) = true) (j : Nat) (ht : ts[j]? = some 22) (hd : ds[j]? = some d) :
    ∃ a c ss, v = .slice a (List.length ss) c ∧ Strs W a ss ∧ (ss.length ≤ 140737488355328 ∧ ∀ x ∈ ss, x.size ≤ 140737488355328) := by
  obtain ⟨a, l, c, rfl⟩ := hv
  obtain ⟨fuel, hf⟩ := h
  rcases open_strings Tryd.underlying22 Tryd.underlying9 cells1S hf with ⟨hcs, _⟩ | ⟨x, l', c', zs, hcs, _, hl, hm, hz, hx, hcell, hwz⟩
  · simp [Value.cells] at hcs
    obtain ⟨rfl, rfl, rfl⟩ := hcs
    exact ⟨none, 0, [], rfl, fun j x hj => by simp at hj, by simp, by simp⟩
  · simp [Value.cells] at hcs
    obtain ⟨rfl, rfl, rfl⟩ := hcs
    have hzl : zs.length = c := by simpa using hz
    have hxd : d = .slice (strs (zs.take l)) (strs (zs.drop l)) := by simpa using congrArg Prod.fst hx
    have hw := sized_slice hsz ht (by rw [hd, hxd]) Tryd.underlying22
    have h4 := reachBytes_lt
    refine ⟨some x, c, zs.take l, by rw [List.length_take, Nat.min_eq_left (by omega)], ?_, ?_, ?_⟩
    · intro k y hk
      have hkl : k < l := by
        have := (List.getElem?_eq_some_iff.1 hk).1
        simp only [List.length_take] at this
        omega
      have hkz : k < zs.length := by omega
      obtain ⟨b, o, spot⟩ := x
      have hc := hcell k hkz
      have hspot : spot = none := by
        have h0 := hcell 0 (by omega)
        simpa [Addr.add] using World.cell?_spot h0
      subst hspot
      rw [addO] at hc
      refine ⟨b, o, rfl, hc.trans ?_⟩
      rw [List.getElem?_take, if_pos hkl] at hk
      rw [List.getD_eq_getElem?_getD, hk]
      rfl
    · have hb1 : Tryd.prog.bytesOf 9 = 16 := by kernel_rfl
      rw [hb1] at hw
      simp only [strs, List.length_map, List.length_take, List.length_drop] at hw ⊢
      omega
    · intro y hy
      have := sized_elem (elems := strs (zs.take l)) (spare := strs (zs.drop l)) hsz ht (by rw [hd, hxd]) Tryd.underlying22 (.lit (.string y.data.toList)) (by unfold strs; exact List.mem_map.2 ⟨y, hy, rfl⟩) y.data.toList.length (by simp [DataW.weights])
      rw [Array.length_toList] at this
      have h5 : y.data.size = y.size := rfl
      omega
/-- The powers of ten lie as the library lays them. -/
abbrev Pow (w : World) : Prop := Lib.TabIs Tryd.prog w "internal/strconv.uint64pow10" .u64 Lib.pow10Tab
theorem Pow.fr {w w' : World} (h : Pow w) (hf : Nw w w') : Pow w' := Lib.tabBelow_of_tabIs h w' hf.bel
def keepP (x : String × DataW Unit) : Bool := x.1 == "internal/strconv.uint64pow10"
theorem gP : Tryd.prog.globalNamed "internal/strconv.uint64pow10" = some 2 := by kernel_rfl
theorem tP : (Tryd.prog.globals[2]?).map (·.type) = some 92 := by kernel_rfl
theorem cP : Tryd.prog.cellsOf 51 = 1 := by kernel_rfl
theorem cPs : Tryd.prog.cellsOf 92 = 20 := by kernel_rfl
theorem pow_of {l : List (String × DataW Unit)} {W : World} (h : laidMetH Tryd.prog l W) (e : l.filter keepP = [("internal/strconv.uint64pow10", Rows.laid_internal_strconv_uint64pow10)]) : Pow W := by
  have h1 := h.filter keepP
  rw [e, MakeChecks.laidMetH_plain _ _ _ (by kernel_rfl)] at h1
  have h2 : laidMet Tryd.prog (("internal/strconv.uint64pow10", Lib.tabData .u64 Lib.pow10Tab) :: []) W := by
    have ed : (Rows.laid_internal_strconv_uint64pow10 : DataW Unit) = Lib.tabData .u64 Lib.pow10Tab := by kernel_rfl
    rw [← ed]; exact h1
  exact Lib.tabIs_of_head gP tP Tryd.underlying92 Tryd.underlying51 cP cPs h2
end Go.Proofs.YtlmneommejdodaaDoor
