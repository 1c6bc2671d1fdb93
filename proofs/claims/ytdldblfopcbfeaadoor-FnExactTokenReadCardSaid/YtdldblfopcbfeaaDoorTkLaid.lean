/- The library's table out of what the row lists. -/
import Derived.Test.YtdldblfopcbfeaaDoorTkWalk
import Derived.Stop.LaidErr
namespace Go.Proofs.YtdldblfopcbfeaaDoor
open Go.RowKit

theorem pow_data : Rows.laid_internal_strconv_uint64pow10 (H := Unit) = Lib.tabData .u64 Lib.pow10Tab := by kernel_rfl
theorem of_laid_list {w : World} (h : laidMet Tryd.prog Rows.fnExactTokenTextRow.laid w) : TabL w := by
  have h2 := laidMet.tail (laidMet.tail (show laidMet Tryd.prog (_ :: _ :: _) w from h))
  rw [pow_data] at h2
  exact Lib.tabIs_of_head (g := 0) (t := 44) (e := 37) (n := 20) (by kernel_rfl) (by kernel_rfl) Tryd.underlying44 Tryd.underlying37 (by kernel_rfl) (by kernel_rfl) h2
end Go.Proofs.YtdldblfopcbfeaaDoor
