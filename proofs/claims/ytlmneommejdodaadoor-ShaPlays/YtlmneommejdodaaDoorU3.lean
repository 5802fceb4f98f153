/- A script of calls that came in. -/
import Derived.Test.YtlmneommejdodaaDoorT0
import Derived.Deep.Slices
import Derived.OpenShut
namespace Go.Proofs.YtlmneommejdodaaDoor
open Go.RowKit Go.ChangeShapes Go.WideShapes Go.ChangeAt
set_option linter.unusedVariables false
set_option linter.unusedSimpArgs false

theorem cellsO : Tryd.prog.cellsOf 41 = 3 := by kernel_rfl
theorem cellsI : Tryd.prog.cellsOf 3 = 1 := by kernel_rfl
theorem cellsB : Tryd.prog.cellsOf 39 = 1 := by kernel_rfl
/-- A call of the script. -/
structure OpD where
  K : Int
  O : Int
  q : Option Addr
  L : List UInt8
  c : Nat
instance : Inhabited OpD := ⟨⟨0, 0, none, [], 0⟩⟩
def OpD.cells (x : OpD) : List Value := [.int .i64 x.K, .int .i64 x.O, .slice x.q x.L.length x.c]
structure OpD.ok (W : World) (x : OpD) : Prop where
  k0 : -9223372036854775808 ≤ x.K
  k1 : x.K ≤ 9223372036854775807
  o0 : -9223372036854775808 ≤ x.O
  o1 : x.O ≤ 9223372036854775807
  bys : Bys W x.q x.L
  len : x.L.length ≤ 140737488355328
/-- The script in memory. -/
def Opl (W : World) (p : Option Addr) (n : Nat) (A : Nat → OpD) : Prop := ∀ i, i < n → (A i).ok W ∧ ∃ g o, p = some ⟨g, o, none⟩ ∧ ∀ j, j < 3 → W.cell? ⟨g, o + i * 3 + j, none⟩ = (A i).cells[j]?
theorem bytes_in {H : Type} {enc : TypeId × Value → H} {W : World} {m : Nat} {cs : List Value} {x : DataW H × List MemPlace} (hf : DataW.trod enc Tryd.prog W 0 (fun _ => true) true m 39 cs = some x) (hw0 : ∀ n ∈ x.1.weights Tryd.prog 39, n ≤ reachBytes) :
    ∃ a c L, cs = [.slice a (List.length L) c] ∧ Bys W a L ∧ L.length ≤ 140737488355328 := by
  rcases open_ints Tryd.underlying39 Tryd.underlying5 (by kernel_rfl) hf with ⟨hcs, _⟩ | ⟨x0, l, c, zs, hcs, _, hl, hm, hz, hx, hcell, hwz⟩
  · exact ⟨none, 0, [], hcs, fun j hj => by simp at hj, by simp⟩
  · subst hcs
    have hzl : zs.length = c := by simpa using hz
    have hxd : x.1 = .slice (lits .u8 (zs.take l)) (lits .u8 (zs.drop l)) := by simpa using congrArg Prod.fst hx
    rw [hxd] at hw0
    have hw := hw0 ((lits (H := H) .u8 (zs.take l)).length * 1 + (lits (H := H) .u8 (zs.drop l)).length * 1) (by
      have hb1 : Tryd.prog.bytesOf 5 = 1 := by kernel_rfl
      simp only [DataW.weights, Tryd.underlying39, hb1]
      rw [← Nat.add_mul]
      exact List.mem_cons_self ..)
    refine ⟨some x0, c, (zs.take l).map fun z => UInt8.ofNat z.toNat, by rw [List.length_map, List.length_take, Nat.min_eq_left (by omega)], ?_, ?_⟩
    · intro k hk
      simp only [List.length_map, List.length_take] at hk
      have hkz : k < zs.length := by omega
      obtain ⟨b, o, spot⟩ := x0
      have hc := hcell k hkz
      have hspot : spot = none := by
        have h0 := hcell 0 (by omega)
        simpa [Addr.add] using World.cell?_spot h0
      subst hspot
      rw [addO] at hc
      refine ⟨b, o, rfl, hc.trans ?_⟩
      have hz2 : zs.getD k 0 = zs[k] := by rw [List.getD_eq_getElem?_getD, List.getElem?_eq_getElem hkz]; rfl
      have hw2 := hwz zs[k] (List.getElem_mem hkz)
      have hb : 0 ≤ zs[k] ∧ zs[k] ≤ 255 := by simpa [Lit.wf, IntKind.min, IntKind.max, IntKind.signed, IntKind.bits] using hw2
      have hg : ((zs.take l).map fun z => UInt8.ofNat z.toNat).getD k 0 = UInt8.ofNat (zs[k]).toNat := by
        rw [List.getD_eq_getElem?_getD, List.getElem?_map, List.getElem?_take, if_pos (by omega), List.getElem?_eq_getElem hkz]; rfl
      rw [hg, hz2, UInt8.toNat_ofNat', Nat.mod_eq_of_lt (by omega)]
      congr 2
      omega
    · have h4 := reachBytes_lt
      simp only [lits, List.length_map, List.length_take, List.length_drop] at hw ⊢
      omega
theorem weights_each_mem {H : Type} {P : Program} {ts : List TypeId} {ds : List (DataW H)} {j : Nat} {t : TypeId} {d : DataW H} (ht : ts[j]? = some t) (hd : ds[j]? = some d) : ∀ n ∈ d.weights P t, n ∈ DataW.weightsEach P ts ds := DataW.weights_mem_each ht hd
theorem op_of {H : Type} {enc : TypeId × Value → H} {W : World} {m : Nat} {cs : List Value} {x : DataW H × List MemPlace} (h : DataW.trod enc Tryd.prog W 0 (fun _ => true) true m 41 cs = some x) (hw0 : ∀ n ∈ x.1.weights Tryd.prog 41, n ≤ reachBytes) : ∃ o : OpD, cs = o.cells ∧ o.ok W := by
  obtain ⟨xs, n, _, hx, hl, hxl, hf⟩ := DataW.trod_struct Tryd.underlying41 h
  rw [cellsO] at hl
  have h0 : DataW.trod enc Tryd.prog W 0 (fun _ => true) true n 3 ((cs.drop 0).take (Tryd.prog.cellsOf 3)) = xs[0]? := hf 0 _ rfl
  have h1 : DataW.trod enc Tryd.prog W 0 (fun _ => true) true n 3 ((cs.drop 1).take (Tryd.prog.cellsOf 3)) = xs[1]? := hf 1 _ rfl
  have h2 : DataW.trod enc Tryd.prog W 0 (fun _ => true) true n 39 ((cs.drop 2).take (Tryd.prog.cellsOf 39)) = xs[2]? := hf 2 _ rfl
  rw [cellsI] at h0 h1
  rw [cellsB] at h2
  have hxl' : xs.length = 3 := hxl
  rw [List.getElem?_eq_getElem (show 0 < xs.length by omega)] at h0
  rw [List.getElem?_eq_getElem (show 1 < xs.length by omega)] at h1
  rw [List.getElem?_eq_getElem (show 2 < xs.length by omega)] at h2
  obtain ⟨K, hK, _, wK⟩ := DataW.trod_int Tryd.underlying3 h0
  obtain ⟨O, hO, _, wO⟩ := DataW.trod_int Tryd.underlying3 h1
  obtain ⟨a, c, L, hL, hb, hll⟩ := bytes_in h2 (fun k hk => hw0 k (by
    rw [hx]
    simp only [DataW.weights, Tryd.underlying41]
    exact weights_each_mem (j := 2) (t := 39) rfl (by rw [List.getElem?_map, List.getElem?_eq_getElem (show 2 < xs.length by omega)]; rfl) k hk))
  have bK : -9223372036854775808 ≤ K ∧ K ≤ 9223372036854775807 := by simpa [Lit.wf, IntKind.min, IntKind.max, IntKind.signed, IntKind.bits] using wK
  have bO : -9223372036854775808 ≤ O ∧ O ≤ 9223372036854775807 := by simpa [Lit.wf, IntKind.min, IntKind.max, IntKind.signed, IntKind.bits] using wO
  refine ⟨⟨K, O, a, L, c⟩, ?_, ⟨bK.1, bK.2, bO.1, bO.2, hb, hll⟩⟩
  match cs, hl, hK, hO, hL with
  | [x0, x1, x2], _, hK, hO, hL =>
    simp at hK hO hL
    simp [OpD.cells, hK, hO, hL]
theorem ops_of {H : Type} {enc : TypeId × Value → H} {W : World} {v : Value} {d : DataW H} {p : List MemPlace} (hv : ∃ a l c, v = .slice a l c) (h : DataW.Trod enc Tryd.prog W 0 (fun _ => true) true 31 v d p) {ts : List TypeId} {ds : List (DataW H)} (hsz : (DataW.weightsEach Tryd.prog ts ds).all (· ≤ reachBytes) = true) (j : Nat) (ht : ts[j]? = some 31) (hd : ds[j]? = some d) :
    ∃ a c n A, v = .slice a n c ∧ Opl W a n A ∧ n ≤ 140737488355328 := by
  obtain ⟨fuel, hf⟩ := h
  obtain ⟨a0, l0, c0, rfl⟩ := hv
  rcases Deep.open_slice Tryd.underlying31 hf with ⟨hcs, _⟩ | ⟨a, len, cap, m, n, D, Pl, hcs, _, hl, hm, hmm, hx, hel⟩
  · simp [Value.cells] at hcs
    obtain ⟨rfl, rfl, rfl⟩ := hcs
    exact ⟨none, 0, 0, fun _ => default, rfl, fun i hi => absurd hi (by omega), by omega⟩
  · simp [Value.cells] at hcs
    obtain ⟨rfl, rfl, rfl⟩ := hcs
    simp only [if_true] at hmm
    subst hmm
    rw [cellsO] at hel
    have hxd : d = .slice ((List.range l0).map D) ((List.range (m - l0)).map fun j => D (l0 + j)) := congrArg Prod.fst hx
    have hsl := sized_slice hsz ht (by rw [hd, hxd]) Tryd.underlying31
    have hch : ∀ i, i < l0 → ∃ o : OpD, (∀ j, j < 3 → W.cell? ((a.add (i * 3)).add j) = o.cells[j]?) ∧ o.ok W := by
      intro i hi
      obtain ⟨cs, hc, htr⟩ := hel i (by omega)
      obtain ⟨o, hoc, hok⟩ := op_of htr (fun k hk => sized_elem (elems := (List.range l0).map D) hsz ht (by rw [hd, hxd]) Tryd.underlying31 (D i) (List.mem_map.2 ⟨i, List.mem_range.2 hi, rfl⟩) k hk)
      unfold World.cells? at hc
      rw [if_pos (Nat.zero_le _)] at hc
      exact ⟨o, fun j hj => by rw [← hoc]; exact mapM_some_get hc j j (by simp [hj]), hok⟩
    obtain ⟨f, hfun⟩ := Deep.choose_lt hch
    refine ⟨some a, m, l0, f, rfl, fun i hi => ⟨(hfun i hi).2, ?_⟩, ?_⟩
    · have hc0 := (hfun 0 (by omega)).1 0 (by omega)
      obtain ⟨g, off, spot⟩ := a
      have hspot : spot = none := by
        have : (f 0).cells[0]? = some (.int .i64 (f 0).K) := rfl
        rw [this] at hc0
        simpa [Addr.add] using World.cell?_spot hc0
      subst hspot
      refine ⟨g, off, rfl, fun j hj => ?_⟩
      have := (hfun i hi).1 j hj
      rw [addO, addO] at this
      exact this
    · have h4 := reachBytes_lt
      have hb : Tryd.prog.bytesOf 41 = 40 := by kernel_rfl
      rw [hb] at hsl
      simp only [List.length_map, List.length_range] at hsl
      omega
end Go.Proofs.YtlmneommejdodaaDoor
