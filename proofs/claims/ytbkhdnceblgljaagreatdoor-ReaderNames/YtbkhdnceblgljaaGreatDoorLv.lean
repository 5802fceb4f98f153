/- What came in: numbers with their bounds; trees. -/
import Derived.Test.YtbkhdnceblgljaaGreatDoorJgz
import Derived.Test.YtbkhdnceblgljaaGreatDoorLc
import Derived.Deep.Slices
import Derived.OpenShut
import Derived.SliceStrings
import Derived.SizedLaws
namespace Go.Proofs.YtbkhdnceblgljaaGreatDoor
open Go.RowKit Go.ChangeShapes Go.WideShapes Go.ChangeAt
set_option linter.unusedVariables false
set_option linter.unusedSimpArgs false
theorem cellsIv : Tryz.prog.cellsOf 3 = 1 := by kernel_rfl
theorem ints_ofB {H : Type} {enc : TypeId × Value → H} {W : World} {v : Value} {d : DataW H} {p : List MemPlace} (hv : ∃ a l c, v = .slice a l c) (h : DataW.Trod enc Tryz.prog W 0 (fun _ => true) true 22 v d p) {ts : List TypeId} {ds : List (DataW H)} (hsz : (DataW.weightsEach Tryz.prog ts ds).all (· ≤ reachBytes) = true) (j : Nat) (ht : ts[j]? = some 22) (hd : ds[j]? = some d) :
    ∃ a c zs, v = .slice a (List.length zs) c ∧ Iz W a zs ∧ (∀ j, -9223372036854775808 ≤ zs.getD j 0 ∧ zs.getD j 0 ≤ 9223372036854775807) ∧ zs.length ≤ 17592186044416 := by
  obtain ⟨a, l, c, rfl⟩ := hv
  obtain ⟨fuel, hf⟩ := h
  rcases open_ints Tryz.underlying22 Tryz.underlying3 cellsIv hf with ⟨hcs, _⟩ | ⟨x, l', c', zs, hcs, _, hl, hm, hz, hx, hcell, hwz⟩
  · simp [Value.cells] at hcs
    obtain ⟨rfl, rfl, rfl⟩ := hcs
    exact ⟨none, 0, [], rfl, fun j hj => by simp at hj, fun j => by simp, by simp⟩
  · simp [Value.cells] at hcs
    obtain ⟨rfl, rfl, rfl⟩ := hcs
    have hzl : zs.length = c := by simpa using hz
    have hxd : d = .slice (lits .i64 (zs.take l)) (lits .i64 (zs.drop l)) := congrArg Prod.fst hx
    have hw := sized_slice hsz ht (by rw [hd, hxd]) Tryz.underlying22
    have h4 := reachBytes_lt
    have hb1 : Tryz.prog.bytesOf 3 = 8 := by kernel_rfl
    rw [hb1] at hw
    have hle : (lits (H := H) .i64 (zs.take l)).length = l := by simp [lits]; omega
    refine ⟨some x, c, zs.take l, by rw [List.length_take, Nat.min_eq_left (by omega)], ?_, fun k => ?_, by rw [List.length_take]; omega⟩
    · intro k hk
      simp only [List.length_take] at hk
      have hkz : k < zs.length := by omega
      obtain ⟨b, o, spot⟩ := x
      have hc := hcell k hkz
      have hspot : spot = none := by
        have h0 := hcell 0 (by omega)
        simpa [Addr.add] using World.cell?_spot h0
      subst hspot
      rw [addO] at hc
      refine ⟨b, o, rfl, hc.trans ?_⟩
      rw [List.getD_eq_getElem?_getD, List.getD_eq_getElem?_getD, List.getElem?_take, if_pos (by omega)]
    · rw [List.getD_eq_getElem?_getD]
      cases hq : (zs.take l)[k]? with
      | none => simp
      | some y =>
        have := hwz y (List.mem_of_mem_take (List.mem_of_getElem? hq))
        simpa [Lit.wf, IntKind.min, IntKind.max, IntKind.signed, IntKind.bits] using this
/-- Trees in memory. -/
def Cds (w : World) (p : Option Addr) (ls : List (Nat × Nat)) : Prop := ∀ j, j < ls.length → ∃ g o, p = some ⟨g, o, none⟩ ∧ w.cell? ⟨g, o + j * 2, none⟩ = some (.int .u8 ((ls.getD j (0, 0)).1 : Int)) ∧ w.cell? ⟨g, o + j * 2 + 1, none⟩ = some (.int .u64 ((ls.getD j (0, 0)).2 : Int))
theorem Cds.nw {w w' : World} {p : Option Addr} {ls : List (Nat × Nat)} (h : Cds w p ls) (k : Nw w w') : Cds w' p ls := fun j hj => by
  obtain ⟨g, o, hp, hc, hd⟩ := h j hj
  exact ⟨g, o, hp, k.cellOf hc, k.cellOf hd⟩
set_option maxRecDepth 100000 in
theorem crd_of {H : Type} {enc : TypeId × Value → H} {W : World} {m : Nat} {cs : List Value} {x : DataW H × List MemPlace} (h : DataW.trod enc Tryz.prog W 0 (fun _ => true) true m 47 cs = some x) : ∃ o : Nat × Nat, cs = [.int .u8 (o.1 : Int), .int .u64 (o.2 : Int)] ∧ o.1 ≤ 255 ∧ o.2 < 18446744073709551616 := by
  obtain ⟨xs, n, _, hx, hl, hxl, hf⟩ := DataW.trod_struct Tryz.underlying47 h
  rw [cellsC] at hl
  have h0 : DataW.trod enc Tryz.prog W 0 (fun _ => true) true n 5 ((cs.drop 0).take (Tryz.prog.cellsOf 5)) = xs[0]? := hf 0 _ rfl
  have h1 : DataW.trod enc Tryz.prog W 0 (fun _ => true) true n 45 ((cs.drop 1).take (Tryz.prog.cellsOf 45)) = xs[1]? := hf 1 _ rfl
  rw [cE8] at h0
  rw [cells64] at h1
  have hxl' : xs.length = 2 := hxl
  rw [List.getElem?_eq_getElem (show 0 < xs.length by omega)] at h0
  rw [List.getElem?_eq_getElem (show 1 < xs.length by omega)] at h1
  obtain ⟨a, ea, _, wa⟩ := DataW.trod_int Tryz.underlying5 h0
  obtain ⟨b, eb, _, wb⟩ := DataW.trod_int Tryz.underlying45 h1
  have ha : 0 ≤ a ∧ a ≤ 255 := by simpa [Lit.wf, IntKind.min, IntKind.max, IntKind.signed, IntKind.bits] using wa
  have hb : 0 ≤ b ∧ b ≤ 18446744073709551615 := by simpa [Lit.wf, IntKind.min, IntKind.max, IntKind.signed, IntKind.bits] using wb
  refine ⟨(a.toNat, b.toNat), ?_, by simp only; omega, by simp only; omega⟩
  have e1 : ((a.toNat : Nat) : Int) = a := by omega
  have e2 : ((b.toNat : Nat) : Int) = b := by omega
  simp only [e1, e2]
  match cs, hl, ea, eb with
  | [x0, x1], _, ea, eb =>
    simp at ea eb
    simp [ea, eb]
theorem crds_of {H : Type} {enc : TypeId × Value → H} {W : World} {v : Value} {d : DataW H} {p : List MemPlace} (hv : ∃ a l c, v = .slice a l c) (h : DataW.Trod enc Tryz.prog W 0 (fun _ => true) true 23 v d p) {ts : List TypeId} {ds : List (DataW H)} (hsz : (DataW.weightsEach Tryz.prog ts ds).all (· ≤ reachBytes) = true) (j : Nat) (ht : ts[j]? = some 23) (hd : ds[j]? = some d) :
    ∃ a c ls, v = .slice a (List.length ls) c ∧ Cds W a ls ∧ (∀ x ∈ ls, x.1 ≤ 255 ∧ x.2 < 18446744073709551616) ∧ ls.length ≤ 17592186044416 := by
  obtain ⟨fuel, hf⟩ := h
  obtain ⟨a0, l0, c0, rfl⟩ := hv
  rcases Deep.open_slice Tryz.underlying23 hf with ⟨hcs, _⟩ | ⟨a, len, cap, m, n, D, Pl, hcs, _, hl, hm, hmm, hx, hel⟩
  · simp [Value.cells] at hcs
    obtain ⟨rfl, rfl, rfl⟩ := hcs
    exact ⟨none, 0, [], rfl, fun i hi => absurd hi (by simp), by simp, by simp⟩
  · simp [Value.cells] at hcs
    obtain ⟨rfl, rfl, rfl⟩ := hcs
    simp only [if_true] at hmm
    subst hmm
    rw [cellsC] at hel
    have hxd : d = .slice ((List.range l0).map D) ((List.range (m - l0)).map fun j => D (l0 + j)) := congrArg Prod.fst hx
    have hch : ∀ i, i < l0 → ∃ o : Nat × Nat, (∀ j, j < 2 → W.cell? ((a.add (i * 2)).add j) = [Value.int .u8 (o.1 : Int), .int .u64 (o.2 : Int)][j]?) ∧ o.1 ≤ 255 ∧ o.2 < 18446744073709551616 := by
      intro i hi
      obtain ⟨cs, hc, htr⟩ := hel i (by omega)
      obtain ⟨o, hoc, hok⟩ := crd_of htr
      unfold World.cells? at hc
      rw [if_pos (Nat.zero_le _)] at hc
      exact ⟨o, fun j hj => by rw [← hoc]; exact mapM_some_get hc j j (by simp [hj]), hok⟩
    obtain ⟨f, hfun⟩ := Deep.choose_lt hch
    have hw := sized_slice hsz ht (by rw [hd, hxd]) Tryz.underlying23
    have h4 := reachBytes_lt
    have hb1 : Tryz.prog.bytesOf 47 = 16 := by kernel_rfl
    rw [hb1] at hw
    simp only [List.length_map, List.length_range] at hw
    refine ⟨some a, m, (List.range l0).map f, by simp, fun i hi => ?_, fun x hx => ?_, by simp; omega⟩
    · have hil : i < l0 := by simpa using hi
      have hc0 := (hfun 0 (by omega)).1 0 (by omega)
      obtain ⟨g, off, spot⟩ := a
      have hspot : spot = none := by
        have : ([Value.int .u8 ((f 0).1 : Int), .int .u64 ((f 0).2 : Int)])[0]? = some (.int .u8 ((f 0).1 : Int)) := rfl
        rw [this] at hc0
        simpa [Addr.add] using World.cell?_spot hc0
      subst hspot
      have hg : ((List.range l0).map f).getD i (0, 0) = f i := by simp [List.getD_eq_getElem?_getD, hil]
      refine ⟨g, off, rfl, ?_, ?_⟩
      · have := (hfun i hil).1 0 (by omega)
        rw [addO, addO] at this
        rw [hg]; exact this
      · have := (hfun i hil).1 1 (by omega)
        rw [addO, addO] at this
        rw [hg]; exact this
    · obtain ⟨i, hi, rfl⟩ := List.mem_map.1 hx
      exact (hfun i (List.mem_range.1 hi)).2
end Go.Proofs.YtbkhdnceblgljaaGreatDoor
