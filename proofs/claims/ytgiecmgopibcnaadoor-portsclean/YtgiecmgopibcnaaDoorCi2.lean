/- Layer 9 as landed: which sets may be, what they have, what is needless. -/
import Derived.Test.YtgiecmgopibcnaaDoorCiSh
import Derived.Test.YtgiecmgopibcnaaDoorRefCi2
namespace Go.Proofs.YtgiecmgopibcnaaDoor
open Go.RowKit
set_option linter.unusedVariables false
set_option maxRecDepth 20000
theorem pred_of {α : Type} {g : Nat} {lb : Array Value} {enc : α → Value} {f : α → Bool} {w : World} (h : ∀ (W : World) (x : α), Below w.heap.size w W → Calls Tryd.prog g (#[enc x] ++ lb) W fun e w' => e = .returned (.bool (f x)) ∧ Below W.heap.size W w') : PredBelow Tryd.prog g lb enc f w :=
  fun W x hW => (h W x hW).mono fun _ _ ⟨he, hb'⟩ => ⟨he, hW.trans (hb'.mono hW.size)⟩
end Go.Proofs.YtgiecmgopibcnaaDoor
