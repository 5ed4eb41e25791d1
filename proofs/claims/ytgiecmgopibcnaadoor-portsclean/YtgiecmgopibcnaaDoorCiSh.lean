/- The library's functions that layer 9 calls: contains, decimal, join. -/
import Derived.Test.YtgiecmgopibcnaaDoorShelf
import Derived.Shelf.SlicesQ.IndexFunc
import Derived.Test.YtgiecmgopibcnaaDoorRefCi3
import Derived.Deep.LoopGhost
namespace Go.Proofs.YtgiecmgopibcnaaDoor
open Go.RowKit Go.Shelf
set_option linter.unusedVariables false
set_option maxRecDepth 20000
end Go.Proofs.YtgiecmgopibcnaaDoor
