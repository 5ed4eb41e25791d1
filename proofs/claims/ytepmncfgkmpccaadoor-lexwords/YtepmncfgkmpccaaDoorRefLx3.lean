/- The reference of layer 8: number. -/
import Derived.Test.YtepmncfgkmpccaaDoorRefLx2
namespace Go.Proofs.YtepmncfgkmpccaaDoor
open Go.RowKit
set_option linter.unusedVariables false
set_option linter.unusedSimpArgs false

theorem val_snoc (l : List UInt8) (x : UInt8) : Lx.val (l ++ [x]) = Lx.val l * 10 + (x.toNat - 48) := by
  unfold Lx.val
  rw [List.foldl_append]
  rfl
/-- a number that is never more than 2^50 -/
def capv (n : Nat) : Nat := if n ≤ 1125899906842624 then n else 1125899906842624
theorem capv_step (n d : Nat) (hd : d ≤ 9) : capv (n * 10 + d) = (if capv n * 10 + d ≤ 1125899906842624 then capv n * 10 + d else 1125899906842624) := by
  unfold capv
  repeat' split
  all_goals omega
end Go.Proofs.YtepmncfgkmpccaaDoor
