/- Two arrays of six bytes that are the same one. -/
import Derived.Test.YthfncbcnokkmiaaNets
import Derived.Laws.StructEq
namespace Go.Proofs.Ythfncbcnokkmiaa
open Go.RowKit
set_option linter.unusedVariables false
set_option maxRecDepth 100000 in
theorem eq_six (a0 a1 a2 a3 a4 a5 : UInt8) (w : World) : Sem.run Try.prog (Op.equalIn 10000 22 (.agg #[bv a0, bv a1, bv a2, bv a3, bv a4, bv a5]) (.agg #[bv a0, bv a1, bv a2, bv a3, bv a4, bv a5])) w = .ok true w := by
  have u5 := Try.underlying5
  have g5 := Try.isAgg5
  have z5 := Try.sizeOf5
  rw [show (10000 : Nat) = 9999 + 1 from rfl, Op.equalIn]
  simp only [Sem.run_bind, run_underlying Try.underlying22, Result.andThen_ok]
  simp only [Std.Legacy.Range.forIn_eq_forIn_range', Std.Legacy.Range.size, Nat.sub_zero, Nat.add_sub_cancel, Nat.div_one, List.range'_succ, List.range'_zero, List.forIn_cons, List.forIn_nil]
  go_simp
end Go.Proofs.Ythfncbcnokkmiaa
