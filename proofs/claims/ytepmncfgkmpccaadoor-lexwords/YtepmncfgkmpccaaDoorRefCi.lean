/- Layer 9's own answer: masks, nets, digits. -/
import Derived.Test.YtepmncfgkmpccaaDoorCi1
namespace Go.Proofs.YtepmncfgkmpccaaDoor
open Go.RowKit
set_option linter.unusedVariables false
set_option maxRecDepth 20000
theorem msk_up : ∀ k : Nat, k < 33 → k ≠ 0 → (4294967295 * 2 ^ (32 - k) % 4294967296 : Int) = ((msk k).toNat : Int) := by decide
end Go.Proofs.YtepmncfgkmpccaaDoor
