/- Contracts of the document's own layer 3: Same. -/
import Derived.Test.YthfncbcnokkmiaaIps2
namespace Go.Proofs.Ythfncbcnokkmiaa
open Go.RowKit
set_option linter.unusedVariables false
set_option maxHeartbeats 2000000 in
theorem ipSame_yes (h : Ip) (w : World) :
    Calls Try.prog 12 #[.agg (ipV h), .agg (ipV h)] w fun e w' => e = .returned (.bool true) ∧ Below w.heap.size w w' := by
  go_enter Try.func12, Try.ntmps12
  go_wp2
  go_ret
  exact ⟨rfl, below2 _ _ _⟩
theorem ipSame_zero (w : World) :
    Calls Try.prog 12 #[.agg ipZ, .agg ipZ] w fun e w' => e = .returned (.bool true) ∧ Below w.heap.size w w' := ipSame_yes ⟨0, 0, false, false, 0, 0, 0, 0, 0, ⟨#[]⟩⟩ w
end Go.Proofs.Ythfncbcnokkmiaa
