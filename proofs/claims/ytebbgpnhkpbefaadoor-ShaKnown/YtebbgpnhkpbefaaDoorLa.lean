/- What is laid, and what came in: tables, bytes, numbers. -/
import Derived.Test.YtebbgpnhkpbefaaDoorRows
import Derived.Test.YtebbgpnhkpbefaaDoorP10
import Derived.LaidLaws
import Derived.LaidSub
import Derived.LaidHandle
import Derived.Lib.LaidTab
import Derived.ProofKit
import Derived.OpenShut
import Derived.ChangeOld
import Derived.SizedLaws
namespace Go.Proofs.YtebbgpnhkpbefaaDoor
open Go.RowKit Go.ChangeShapes Go.WideShapes Go.ChangeAt
set_option linter.unusedVariables false
set_option linter.unusedSimpArgs false

def keepK (x : String × DataW Unit) : Bool := x.1 == "cartulary/sha.constants"
def keepH (x : String × DataW Unit) : Bool := x.1 == "cartulary/sha.beginning"
theorem gK : Tryd.prog.globalNamed "cartulary/sha.constants" = some 18 := by kernel_rfl
theorem tK : (Tryd.prog.globals[18]?).map (·.type) = some 80 := by kernel_rfl
theorem gH : Tryd.prog.globalNamed "cartulary/sha.beginning" = some 2 := by kernel_rfl
theorem tH : (Tryd.prog.globals[2]?).map (·.type) = some 75 := by kernel_rfl
theorem c32 : Tryd.prog.cellsOf 74 = 1 := by kernel_rfl
theorem c64s : Tryd.prog.cellsOf 80 = 64 := by kernel_rfl
theorem c8s : Tryd.prog.cellsOf 75 = 8 := by kernel_rfl
def KlI : List Int := Kl.map fun (x : Nat) => (x : Int)
def HlI : List Int := (wl H0).map fun (x : Nat) => (x : Int)
theorem dataK : (Rows.laid_cartulary_sha_constants : DataW Unit) = Lib.tabData .u32 KlI := by kernel_rfl
theorem dataH : (Rows.laid_cartulary_sha_beginning : DataW Unit) = Lib.tabData .u32 HlI := by kernel_rfl
theorem laid_of {l : List (String × DataW Unit)} {W : World} (h : laidMetH Tryd.prog l W) (e1 : l.filter keepK = [("cartulary/sha.constants", Rows.laid_cartulary_sha_constants)]) (e2 : l.filter keepH = [("cartulary/sha.beginning", Rows.laid_cartulary_sha_beginning)]) : Laid W := by
  have h1 := h.filter keepK
  have h2 := h.filter keepH
  rw [e1, MakeChecks.laidMetH_plain _ _ _ (by kernel_rfl), dataK] at h1
  rw [e2, MakeChecks.laidMetH_plain _ _ _ (by kernel_rfl), dataH] at h2
  have t1 := Lib.tabIs_of_head gK tK Tryd.underlying80 Tryd.underlying74 c32 c64s h1
  have t2 := Lib.tabIs_of_head gH tH Tryd.underlying75 Tryd.underlying74 c32 c8s h2
  refine ⟨fun i hi => ?_, fun i hi => ?_⟩
  · rw [t1.cell gK i hi]
    have e : ∀ j : Fin 64, KlI.getD j.val 0 = ((Kc j.val : Nat) : Int) := by decide +kernel
    rw [e ⟨i, hi⟩]
  · rw [t2.cell gH i hi, vals_at H0 i hi]
    have e : ∀ j : Fin 8, HlI.getD j.val 0 = (((wl H0).getD j.val 0 : Nat) : Int) := by decide +kernel
    rw [e ⟨i, hi⟩]
/-- Bytes that came in. -/
theorem bytes_of {H : Type} {enc : TypeId × Value → H} {W : World} {v : Value} {d : DataW H} {p : List MemPlace} (hv : ∃ a l c, v = .slice a l c) (h : DataW.Trod enc Tryd.prog W 0 (fun _ => true) true 53 v d p) {ts : List TypeId} {ds : List (DataW H)} (hsz : (DataW.weightsEach Tryd.prog ts ds).all (· ≤ reachBytes) = true) (j : Nat) (ht : ts[j]? = some 53) (hd : ds[j]? = some d) :
    ∃ a c L, v = .slice a (List.length L) c ∧ Bys W a L ∧ L.length ≤ 140737488355328 := by
  obtain ⟨a, l, c, rfl⟩ := hv
  obtain ⟨fuel, hf⟩ := h
  rcases open_ints Tryd.underlying53 Tryd.underlying5 (by kernel_rfl) hf with ⟨hcs, _⟩ | ⟨x, l', c', zs, hcs, _, hl, hm, hz, hx, hcell, hwz⟩
  · simp [Value.cells] at hcs
    obtain ⟨rfl, rfl, rfl⟩ := hcs
    exact ⟨none, 0, [], rfl, fun j hj => by simp at hj, by simp⟩
  · simp [Value.cells] at hcs
    obtain ⟨rfl, rfl, rfl⟩ := hcs
    have hzl : zs.length = c := by simpa using hz
    have hxd : d = .slice (lits .u8 (zs.take l)) (lits .u8 (zs.drop l)) := by simpa using congrArg Prod.fst hx
    have hw := sized_slice hsz ht (by rw [hd, hxd]) Tryd.underlying53
    refine ⟨some x, c, (zs.take l).map fun z => UInt8.ofNat z.toNat, by rw [List.length_map, List.length_take, Nat.min_eq_left (by omega)], ?_, ?_⟩
    · intro k hk
      simp only [List.length_map, List.length_take] at hk
      have hkz : k < zs.length := by omega
      obtain ⟨b, o, spot⟩ := x
      have hc := hcell k hkz
      have hspot : spot = none := by
        have h0 := hcell 0 (by omega)
        simpa [Addr.add] using World.cell?_spot h0
      subst hspot
      rw [addO] at hc
      refine ⟨b, o, rfl, hc.trans ?_⟩
      have hz2 : zs.getD k 0 = zs[k] := by rw [List.getD_eq_getElem?_getD, List.getElem?_eq_getElem hkz]; rfl
      have hw2 := hwz zs[k] (List.getElem_mem hkz)
      have hb : 0 ≤ zs[k] ∧ zs[k] ≤ 255 := by simpa [Lit.wf, IntKind.min, IntKind.max, IntKind.signed, IntKind.bits] using hw2
      have hg : ((zs.take l).map fun z => UInt8.ofNat z.toNat).getD k 0 = UInt8.ofNat (zs[k]).toNat := by
        rw [List.getD_eq_getElem?_getD, List.getElem?_map, List.getElem?_take, if_pos (by omega), List.getElem?_eq_getElem hkz]; rfl
      rw [hg, hz2, UInt8.toNat_ofNat', Nat.mod_eq_of_lt (by omega)]
      congr 2
      omega
    · have hb1 : Tryd.prog.bytesOf 5 = 1 := by kernel_rfl
      have h4 := reachBytes_lt
      rw [hb1] at hw
      simp only [lits, List.length_map, List.length_take, List.length_drop] at hw ⊢
      omega
/-- Whole numbers that came in. -/
def Nums (w : World) (p : Option Addr) (zs : List Int) : Prop := ∀ j, j < zs.length → ∃ g o, p = some ⟨g, o, none⟩ ∧ w.cell? ⟨g, o + j, none⟩ = some (.int .i64 (zs.getD j 0))
end Go.Proofs.YtebbgpnhkpbefaaDoor
