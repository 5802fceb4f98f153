/- The powers of ten, as the program lays them. -/
import Derived.Test.YtebbgpnhkpbefaaGreatDoorLa
import Derived.Test.YtebbgpnhkpbefaaGreatDoorWd
import Derived.Lib.LaidTab
namespace Go.Proofs.YtebbgpnhkpbefaaGreatDoor
open Go.RowKit
def keepP (x : String × DataW Unit) : Bool := x.1 == "internal/strconv.uint64pow10"
theorem gP : Tryz.prog.globalNamed "internal/strconv.uint64pow10" = some 21 := by kernel_rfl
theorem tP : (Tryz.prog.globals[21]?).map (·.type) = some 246 := by kernel_rfl
theorem cP : Tryz.prog.cellsOf 69 = 1 := by kernel_rfl
theorem cPs : Tryz.prog.cellsOf 246 = 20 := by kernel_rfl
theorem pow_of {l : List (String × DataW Unit)} {W : World} (h : laidMetH Tryz.prog l W) (e : l.filter keepP = [("internal/strconv.uint64pow10", Rows.laid_internal_strconv_uint64pow10)]) : Pow W := by
  have h1 := h.filter keepP
  rw [e, MakeChecks.laidMetH_plain _ _ _ (by kernel_rfl)] at h1
  have h2 : laidMet Tryz.prog (("internal/strconv.uint64pow10", Lib.tabData .u64 Lib.pow10Tab) :: []) W := by
    have ed : (Rows.laid_internal_strconv_uint64pow10 : DataW Unit) = Lib.tabData .u64 Lib.pow10Tab := by kernel_rfl
    rw [← ed]; exact h1
  exact Lib.tabIs_of_head gP tP Tryz.underlying246 Tryz.underlying69 cP cPs h2
end Go.Proofs.YtebbgpnhkpbefaaGreatDoor
