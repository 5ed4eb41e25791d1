/- Layer 9 as landed: what is needless. -/
import Derived.Test.YtgiecmgopibcnaaDoorCi2
namespace Go.Proofs.YtgiecmgopibcnaaDoor
open Go.RowKit
set_option linter.unusedVariables false
set_option maxRecDepth 20000
end Go.Proofs.YtgiecmgopibcnaaDoor
