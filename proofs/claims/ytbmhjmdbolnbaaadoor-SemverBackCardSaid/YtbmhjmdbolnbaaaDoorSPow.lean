/-
  The table that strconv.Itoa reads, out of the row's condition.
-/
import Derived.Test.YtbmhjmdbolnbaaaDoorSDoor
import Derived.Test.YtbmhjmdbolnbaaaDoorSDigR
import Derived.MakeChecks
import Derived.Stop.LaidErr
namespace Go.Proofs.YtbmhjmdbolnbaaaDoor
theorem sem_pow {w : World} (h : laidMetH Tryd.prog Rows.semverParsesRow.laid w) : PowAt w := by
  rw [MakeChecks.laidMetH_plain _ _ _ (by kernel_rfl)] at h
  exact Lib.tabIs_of_head (g := 4) (by kernel_rfl) (by kernel_rfl) Tryd.underlying146 Tryd.underlying127 (by kernel_rfl) (by kernel_rfl) h.tail.tail
end Go.Proofs.YtbmhjmdbolnbaaaDoor
