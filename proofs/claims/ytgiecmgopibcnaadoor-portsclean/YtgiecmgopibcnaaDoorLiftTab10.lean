/- From a walk to the row: the table that the row lists and that is read. -/
import Derived.Test.YtgiecmgopibcnaaDoorCi5
import Derived.Test.YtgiecmgopibcnaaDoorTie
import Derived.LaidSub
import Derived.MakeChecks
import Derived.Lib.LaidTab
namespace Go.Proofs.YtgiecmgopibcnaaDoor
open Go.RowKit
set_option linter.unusedVariables false
set_option maxRecDepth 100000
theorem tab_pow10 {W : World} (h : laidMetH Tryd.prog Rows.portsAllRow.laid W) : Tb W := by
  have h1 := h.filter (fun x => x.1 == "internal/strconv.uint64pow10")
  rw [MakeChecks.laidMetH_plain _ _ _ (by kernel_rfl)] at h1
  have e : (Rows.portsAllRow.laid.filter fun x => x.1 == "internal/strconv.uint64pow10") = [("internal/strconv.uint64pow10", Lib.tabData .u64 Lib.pow10Tab)] := by kernel_rfl
  rw [e] at h1
  exact Lib.tabIs_of_head (g := 1) (t := 105) (e := 85) (n := 20) (by kernel_rfl) (by kernel_rfl) Tryd.underlying105 Tryd.underlying85 (by kernel_rfl) (by kernel_rfl) h1
end Go.Proofs.YtgiecmgopibcnaaDoor
