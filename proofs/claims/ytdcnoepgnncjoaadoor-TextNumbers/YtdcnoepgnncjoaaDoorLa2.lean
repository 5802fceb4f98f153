/- The powers of ten, as the program lays them. -/
import Derived.Test.YtdcnoepgnncjoaaDoorLa
import Derived.Test.YtdcnoepgnncjoaaDoorH3
namespace Go.Proofs.YtdcnoepgnncjoaaDoor
open Go.RowKit
def keepP (x : String × DataW Unit) : Bool := x.1 == "internal/strconv.uint64pow10"
theorem gP : Tryd.prog.globalNamed "internal/strconv.uint64pow10" = some 21 := by kernel_rfl
theorem tP : (Tryd.prog.globals[21]?).map (·.type) = some 116 := by kernel_rfl
theorem cP : Tryd.prog.cellsOf 34 = 1 := by kernel_rfl
theorem cPs : Tryd.prog.cellsOf 116 = 20 := by kernel_rfl
theorem pow_of {l : List (String × DataW Unit)} {W : World} (h : laidMetH Tryd.prog l W) (e : l.filter keepP = [("internal/strconv.uint64pow10", Rows.laid_internal_strconv_uint64pow10)]) : Pow W := by
  have h1 := h.filter keepP
  rw [e, MakeChecks.laidMetH_plain _ _ _ (by kernel_rfl)] at h1
  have h2 : laidMet Tryd.prog (("internal/strconv.uint64pow10", Lib.tabData .u64 Lib.pow10Tab) :: []) W := by
    have ed : (Rows.laid_internal_strconv_uint64pow10 : DataW Unit) = Lib.tabData .u64 Lib.pow10Tab := by kernel_rfl
    rw [← ed]; exact h1
  exact Lib.tabIs_of_head gP tP Tryd.underlying116 Tryd.underlying34 cP cPs h2
end Go.Proofs.YtdcnoepgnncjoaaDoor
