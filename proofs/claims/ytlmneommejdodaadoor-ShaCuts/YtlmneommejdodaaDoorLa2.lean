/- Bytes that came in, with the room behind them. -/
import Derived.Test.YtlmneommejdodaaDoorRows
import Derived.Test.YtlmneommejdodaaDoorLa
import Derived.LaidLaws
import Derived.LaidSub
import Derived.LaidHandle
import Derived.Lib.LaidTab
import Derived.ProofKit
import Derived.OpenShut
import Derived.ChangeOld
import Derived.SizedLaws
namespace Go.Proofs.YtlmneommejdodaaDoor
open Go.RowKit Go.ChangeShapes Go.WideShapes Go.ChangeAt
set_option linter.unusedVariables false
set_option linter.unusedSimpArgs false

/-- Bytes that came in, with the room behind them. -/
theorem bytes_ofc {H : Type} {enc : TypeId × Value → H} {W : World} {v : Value} {d : DataW H} {p : List MemPlace} (hv : ∃ a l c, v = .slice a l c) (h : DataW.Trod enc Tryd.prog W 0 (fun _ => true) true 39 v d p) {ts : List TypeId} {ds : List (DataW H)} (hsz : (DataW.weightsEach Tryd.prog ts ds).all (· ≤ reachBytes) = true) (j : Nat) (ht : ts[j]? = some 39) (hd : ds[j]? = some d) :
    ∃ a c L, v = .slice a (List.length L) c ∧ Bys W a L ∧ L.length ≤ 140737488355328 ∧ L.length ≤ c := by
  obtain ⟨a, l, c, rfl⟩ := hv
  obtain ⟨fuel, hf⟩ := h
  rcases open_ints Tryd.underlying39 Tryd.underlying5 (by kernel_rfl) hf with ⟨hcs, _⟩ | ⟨x, l', c', zs, hcs, _, hl, hm, hz, hx, hcell, hwz⟩
  · simp [Value.cells] at hcs
    obtain ⟨rfl, rfl, rfl⟩ := hcs
    exact ⟨none, 0, [], rfl, fun j hj => by simp at hj, by simp, by simp⟩
  · simp [Value.cells] at hcs
    obtain ⟨rfl, rfl, rfl⟩ := hcs
    have hzl : zs.length = c := by simpa using hz
    have hxd : d = .slice (lits .u8 (zs.take l)) (lits .u8 (zs.drop l)) := by simpa using congrArg Prod.fst hx
    have hw := sized_slice hsz ht (by rw [hd, hxd]) Tryd.underlying39
    refine ⟨some x, c, (zs.take l).map fun z => UInt8.ofNat z.toNat, by rw [List.length_map, List.length_take, Nat.min_eq_left (by omega)], ?_, ?_, by rw [List.length_map, List.length_take, Nat.min_eq_left (by omega)]; omega⟩
    · intro k hk
      simp only [List.length_map, List.length_take] at hk
      have hkz : k < zs.length := by omega
      obtain ⟨b, o, spot⟩ := x
      have hc := hcell k hkz
      have hspot : spot = none := by
        have h0 := hcell 0 (by omega)
        simpa [Addr.add] using World.cell?_spot h0
      subst hspot
      rw [addO] at hc
      refine ⟨b, o, rfl, hc.trans ?_⟩
      have hz2 : zs.getD k 0 = zs[k] := by rw [List.getD_eq_getElem?_getD, List.getElem?_eq_getElem hkz]; rfl
      have hw2 := hwz zs[k] (List.getElem_mem hkz)
      have hb : 0 ≤ zs[k] ∧ zs[k] ≤ 255 := by simpa [Lit.wf, IntKind.min, IntKind.max, IntKind.signed, IntKind.bits] using hw2
      have hg : ((zs.take l).map fun z => UInt8.ofNat z.toNat).getD k 0 = UInt8.ofNat (zs[k]).toNat := by
        rw [List.getD_eq_getElem?_getD, List.getElem?_map, List.getElem?_take, if_pos (by omega), List.getElem?_eq_getElem hkz]; rfl
      rw [hg, hz2, UInt8.toNat_ofNat', Nat.mod_eq_of_lt (by omega)]
      congr 2
      omega
    · have hb1 : Tryd.prog.bytesOf 5 = 1 := by kernel_rfl
      have h4 := reachBytes_lt
      rw [hb1] at hw
      simp only [lits, List.length_map, List.length_take, List.length_drop] at hw ⊢
      omega
end Go.Proofs.YtlmneommejdodaaDoor
