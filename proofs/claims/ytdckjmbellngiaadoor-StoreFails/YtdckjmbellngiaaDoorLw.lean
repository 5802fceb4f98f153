/- What came in: a call of a script; writes; numbers; texts. -/
import Derived.Test.YtdckjmbellngiaaDoorLs
import Derived.Test.YtdckjmbellngiaaDoorFi
import Derived.Deep.Slices
import Derived.OpenShut
import Derived.SliceStrings
namespace Go.Proofs.YtdckjmbellngiaaDoor
open Go.RowKit Go.ChangeShapes Go.WideShapes Go.ChangeAt
set_option linter.unusedVariables false
set_option linter.unusedSimpArgs false
theorem weights_all_mem {H : Type} {P : Program} {e : TypeId} : ∀ {l : List (DataW H)} {d : DataW H}, d ∈ l → ∀ n ∈ d.weights P e, n ∈ DataW.weightsAll P e l
  | x :: l, d, hd, n, hn => by
    simp only [DataW.weightsAll, List.mem_append]
    rcases List.mem_cons.1 hd with rfl | hd
    · exact .inl hn
    · exact .inr (weights_all_mem hd n hn)
  | [], d, hd, n, hn => by simp at hd
theorem sized_elem {H : Type} {P : Program} {ts : List TypeId} {ds : List (DataW H)} (h : (DataW.weightsEach P ts ds).all (· ≤ reachBytes) = true) {j : Nat} {t e : TypeId} {elems spare : List (DataW H)} (ht : ts[j]? = some t) (hd : ds[j]? = some (.slice elems spare)) (hu : P.underlying t = some (.slice e)) (d : DataW H) (hm : d ∈ elems) (n : Nat) (hn : n ∈ d.weights P e) : n ≤ reachBytes := by
  have := List.all_eq_true.1 h _ (DataW.weights_mem_each ht hd n (by
    simp only [DataW.weights, hu]
    exact List.mem_cons_of_mem _ (List.mem_append_left _ (weights_all_mem hm n hn))))
  simpa using this
theorem cells1S : Tryd.prog.cellsOf 9 = 1 := by kernel_rfl
theorem cellsO12 : Tryd.prog.cellsOf 26 = 5 := by kernel_rfl
theorem cellsT : Tryd.prog.cellsOf 24 = 2 := by kernel_rfl
theorem cellsI : Tryd.prog.cellsOf 3 = 1 := by kernel_rfl
set_option maxRecDepth 100000 in
theorem op12_of {H : Type} {enc : TypeId × Value → H} {W : World} {r : Reach} {b0 : Nat} {v : Value} {d : DataW H} {p : List MemPlace} (hv : Value.okWide Tryd.prog W r b0 26 v) (h : DataW.Trod enc Tryd.prog W 0 (fun _ => true) true 26 v d p) :
    ∃ (k x y : Value) (s t : ByteArray), v = .agg #[k, .string s, .string t, x, y] := by
  simp only [Value.okWide, Tryd.underlying26] at hv
  obtain ⟨arr, rfl, hn, _⟩ := hv
  obtain ⟨fuel, hf0⟩ := h
  obtain ⟨xs, n, _, hx, hl, hxl, hf⟩ := DataW.trod_struct Tryd.underlying26 hf0
  rw [cellsO12] at hl
  obtain ⟨cs, hcs⟩ : ∃ cs, cs = (Value.agg arr).cells.toList := ⟨_, rfl⟩
  have hca : cs = arr.toList := by rw [hcs]; rfl
  rw [← hcs] at hl hf
  have h1 : DataW.trod enc Tryd.prog W 0 (fun _ => true) true n 9 ((cs.drop 1).take (Tryd.prog.cellsOf 9)) = xs[1]? := hf 1 _ rfl
  have h2 : DataW.trod enc Tryd.prog W 0 (fun _ => true) true n 9 ((cs.drop 2).take (Tryd.prog.cellsOf 9)) = xs[2]? := hf 2 _ rfl
  rw [cells1S] at h1 h2
  have hxl' : xs.length = 4 := hxl
  rw [List.getElem?_eq_getElem (show 1 < xs.length by omega)] at h1
  rw [List.getElem?_eq_getElem (show 2 < xs.length by omega)] at h2
  match cs, hl, h1, h2, hca with
  | [c0, c1, c2, c3, c4], _, h1, h2, hca =>
    simp only [List.drop_succ_cons, List.drop_zero, List.take_succ_cons, List.take_zero] at h1 h2
    obtain ⟨s, hs, _⟩ := DataW.trod_string Tryd.underlying9 h1
    obtain ⟨t, ht, _⟩ := DataW.trod_string Tryd.underlying9 h2
    refine ⟨c0, c3, c4, s, t, ?_⟩
    congr 1
    apply Array.ext'
    rw [← hca, List.singleton_inj.1 hs, List.singleton_inj.1 ht]
/-- Numbers that came in. -/
theorem ints_of {H : Type} {enc : TypeId × Value → H} {W : World} {v : Value} {d : DataW H} {p : List MemPlace} (hv : ∃ a l c, v = .slice a l c) (h : DataW.Trod enc Tryd.prog W 0 (fun _ => true) true 22 v d p) :
    ∃ a c zs, v = .slice a (List.length zs) c ∧ Iz W a zs := by
  obtain ⟨a, l, c, rfl⟩ := hv
  obtain ⟨fuel, hf⟩ := h
  rcases open_ints Tryd.underlying22 Tryd.underlying3 cellsI hf with ⟨hcs, _⟩ | ⟨x, l', c', zs, hcs, _, hl, hm, hz, hx, hcell, hwz⟩
  · simp [Value.cells] at hcs
    obtain ⟨rfl, rfl, rfl⟩ := hcs
    exact ⟨none, 0, [], rfl, fun j hj => by simp at hj⟩
  · simp [Value.cells] at hcs
    obtain ⟨rfl, rfl, rfl⟩ := hcs
    have hzl : zs.length = c := by simpa using hz
    refine ⟨some x, c, zs.take l, by rw [List.length_take, Nat.min_eq_left (by omega)], ?_⟩
    intro k hk
    simp only [List.length_take] at hk
    have hkz : k < zs.length := by omega
    obtain ⟨b, o, spot⟩ := x
    have hc := hcell k hkz
    have hspot : spot = none := by
      have h0 := hcell 0 (by omega)
      simpa [Addr.add] using World.cell?_spot h0
    subst hspot
    rw [addO] at hc
    refine ⟨b, o, rfl, hc.trans ?_⟩
    rw [List.getD_eq_getElem?_getD, List.getD_eq_getElem?_getD, List.getElem?_take, if_pos (by omega)]
/-- Texts that came in. -/
theorem texts_of {H : Type} {enc : TypeId × Value → H} {W : World} {v : Value} {d : DataW H} {p : List MemPlace} (hv : ∃ a l c, v = .slice a l c) (h : DataW.Trod enc Tryd.prog W 0 (fun _ => true) true 41 v d p) :
    ∃ a c ss, v = .slice a (List.length ss) c ∧ Strs W a ss := by
  obtain ⟨a, l, c, rfl⟩ := hv
  obtain ⟨fuel, hf⟩ := h
  rcases open_strings Tryd.underlying41 Tryd.underlying9 cells1S hf with ⟨hcs, _⟩ | ⟨x, l', c', zs, hcs, _, hl, hm, hz, hx, hcell, hwz⟩
  · simp [Value.cells] at hcs
    obtain ⟨rfl, rfl, rfl⟩ := hcs
    exact ⟨none, 0, [], rfl, fun j x hj => by simp at hj⟩
  · simp [Value.cells] at hcs
    obtain ⟨rfl, rfl, rfl⟩ := hcs
    have hzl : zs.length = c := by simpa using hz
    refine ⟨some x, c, zs.take l, by rw [List.length_take, Nat.min_eq_left (by omega)], ?_⟩
    intro k y hk
    have hkl : k < l := by
      have := (List.getElem?_eq_some_iff.1 hk).1
      simp only [List.length_take] at this
      omega
    have hkz : k < zs.length := by omega
    obtain ⟨b, o, spot⟩ := x
    have hc := hcell k hkz
    have hspot : spot = none := by
      have h0 := hcell 0 (by omega)
      simpa [Addr.add] using World.cell?_spot h0
    subst hspot
    rw [addO] at hc
    refine ⟨b, o, rfl, hc.trans ?_⟩
    rw [List.getElem?_take, if_pos hkl] at hk
    rw [List.getD_eq_getElem?_getD, hk]
    rfl
/-- Writes in memory. -/
def Wrs (w : World) (p : Option Addr) (ls : List (ByteArray × ByteArray)) : Prop := ∀ j, j < ls.length → ∃ g o, p = some ⟨g, o, none⟩ ∧ w.cell? ⟨g, o + j * 2, none⟩ = some (.string (ls.getD j (e0t, e0t)).1) ∧ w.cell? ⟨g, o + j * 2 + 1, none⟩ = some (.string (ls.getD j (e0t, e0t)).2)
theorem Wrs.nw {w w' : World} {p : Option Addr} {ls : List (ByteArray × ByteArray)} (h : Wrs w p ls) (k : Nw w w') : Wrs w' p ls := fun j hj => by
  obtain ⟨g, o, hp, hc, hd⟩ := h j hj
  exact ⟨g, o, hp, k.cellOf hc, k.cellOf hd⟩
theorem cellsW : Tryd.prog.cellsOf 49 = 2 := by kernel_rfl
set_option maxRecDepth 100000 in
theorem wr_of {H : Type} {enc : TypeId × Value → H} {W : World} {m : Nat} {cs : List Value} {x : DataW H × List MemPlace} (h : DataW.trod enc Tryd.prog W 0 (fun _ => true) true m 49 cs = some x) (hw0 : ∀ n ∈ x.1.weights Tryd.prog 49, n ≤ reachBytes) : ∃ o : ByteArray × ByteArray, cs = [.string o.1, .string o.2] ∧ o.2.size ≤ 140737488355328 := by
  obtain ⟨xs, n, _, hx, hl, hxl, hf⟩ := DataW.trod_struct Tryd.underlying49 h
  rw [cellsW] at hl
  have h0 : DataW.trod enc Tryd.prog W 0 (fun _ => true) true n 9 ((cs.drop 0).take (Tryd.prog.cellsOf 9)) = xs[0]? := hf 0 _ rfl
  have h1 : DataW.trod enc Tryd.prog W 0 (fun _ => true) true n 9 ((cs.drop 1).take (Tryd.prog.cellsOf 9)) = xs[1]? := hf 1 _ rfl
  rw [cells1S] at h0 h1
  have hxl' : xs.length = 2 := hxl
  rw [List.getElem?_eq_getElem (show 0 < xs.length by omega)] at h0
  rw [List.getElem?_eq_getElem (show 1 < xs.length by omega)] at h1
  obtain ⟨s, hs, _⟩ := DataW.trod_string Tryd.underlying9 h0
  obtain ⟨t, ht, hxt, _⟩ := DataW.trod_string Tryd.underlying9 h1
  refine ⟨(s, t), ?_, ?_⟩
  · match cs, hl, hs, ht with
    | [x0, x1], _, hs, ht =>
      simp at hs ht
      simp [hs, ht]
  · have := hw0 t.data.toList.length (by
      rw [hx]
      simp only [DataW.weights, Tryd.underlying49]
      refine DataW.weights_mem_each (j := 1) (t := 9) (d := .lit (.string t.data.toList)) rfl ?_ _ (by simp [DataW.weights])
      rw [List.getElem?_map, List.getElem?_eq_getElem (show 1 < xs.length by omega), hxt]; rfl)
    have h4 := reachBytes_lt
    rw [Array.length_toList] at this
    have h5 : t.data.size = t.size := rfl
    show t.size ≤ _
    omega
theorem writes_of {H : Type} {enc : TypeId × Value → H} {W : World} {v : Value} {d : DataW H} {p : List MemPlace} (hv : ∃ a l c, v = .slice a l c) (h : DataW.Trod enc Tryd.prog W 0 (fun _ => true) true 44 v d p) {ts : List TypeId} {ds : List (DataW H)} (hsz : (DataW.weightsEach Tryd.prog ts ds).all (· ≤ reachBytes) = true) (j : Nat) (ht : ts[j]? = some 44) (hd : ds[j]? = some d) :
    ∃ a c ls, v = .slice a (List.length ls) c ∧ Wrs W a ls ∧ ∀ x ∈ ls, x.2.size ≤ 140737488355328 := by
  obtain ⟨fuel, hf⟩ := h
  obtain ⟨a0, l0, c0, rfl⟩ := hv
  rcases Deep.open_slice Tryd.underlying44 hf with ⟨hcs, _⟩ | ⟨a, len, cap, m, n, D, Pl, hcs, _, hl, hm, hmm, hx, hel⟩
  · simp [Value.cells] at hcs
    obtain ⟨rfl, rfl, rfl⟩ := hcs
    exact ⟨none, 0, [], rfl, fun i hi => absurd hi (by simp), by simp⟩
  · simp [Value.cells] at hcs
    obtain ⟨rfl, rfl, rfl⟩ := hcs
    simp only [if_true] at hmm
    subst hmm
    rw [cellsW] at hel
    have hxd : d = .slice ((List.range l0).map D) ((List.range (m - l0)).map fun j => D (l0 + j)) := congrArg Prod.fst hx
    have hch : ∀ i, i < l0 → ∃ o : ByteArray × ByteArray, (∀ j, j < 2 → W.cell? ((a.add (i * 2)).add j) = [Value.string o.1, .string o.2][j]?) ∧ o.2.size ≤ 140737488355328 := by
      intro i hi
      obtain ⟨cs, hc, htr⟩ := hel i (by omega)
      obtain ⟨o, hoc, hok⟩ := wr_of htr (fun k hk => sized_elem (elems := (List.range l0).map D) hsz ht (by rw [hd, hxd]) Tryd.underlying44 (D i) (List.mem_map.2 ⟨i, List.mem_range.2 hi, rfl⟩) k hk)
      unfold World.cells? at hc
      rw [if_pos (Nat.zero_le _)] at hc
      exact ⟨o, fun j hj => by rw [← hoc]; exact mapM_some_get hc j j (by simp [hj]), hok⟩
    obtain ⟨f, hfun⟩ := Deep.choose_lt hch
    refine ⟨some a, m, (List.range l0).map f, by simp, fun i hi => ?_, fun x hx => ?_⟩
    · have hil : i < l0 := by simpa using hi
      have hc0 := (hfun 0 (by omega)).1 0 (by omega)
      obtain ⟨g, off, spot⟩ := a
      have hspot : spot = none := by
        have : ([Value.string (f 0).1, .string (f 0).2])[0]? = some (.string (f 0).1) := rfl
        rw [this] at hc0
        simpa [Addr.add] using World.cell?_spot hc0
      subst hspot
      have hg : ((List.range l0).map f).getD i (e0t, e0t) = f i := by simp [List.getD_eq_getElem?_getD, hil]
      refine ⟨g, off, rfl, ?_, ?_⟩
      · have := (hfun i hil).1 0 (by omega)
        rw [addO, addO] at this
        rw [hg]; exact this
      · have := (hfun i hil).1 1 (by omega)
        rw [addO, addO] at this
        rw [hg]; exact this
    · obtain ⟨i, hi, rfl⟩ := List.mem_map.1 hx
      exact (hfun i (List.mem_range.1 hi)).2
end Go.Proofs.YtdckjmbellngiaaDoor
