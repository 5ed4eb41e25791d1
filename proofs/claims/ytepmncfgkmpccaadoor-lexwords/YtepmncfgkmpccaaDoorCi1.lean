/- Layer 9: what asks of one net or two. -/
import Derived.BigQuiet
import Derived.WalkKit
import Derived.Test.YtepmncfgkmpccaaDoorCiPl
import Derived.Test.YtepmncfgkmpccaaDoorCalm
namespace Go.Proofs.YtepmncfgkmpccaaDoor
open Go.RowKit
set_option linter.unusedVariables false
set_option maxRecDepth 20000
theorem cDrewN {B : Nat} {a w : World} (h : Below B a w) (q : Nat) : Below B a (w.drewN q) := ⟨h.os, h.tape, h.output, h.size, h.block⟩
theorem ciLt {w : World} {a : Addr} {v : Value} (h : w.cell? a = some v) : a.block < w.heap.size := by
  unfold World.cell? at h
  by_cases hl : a.block < w.heap.size
  · exact hl
  · rw [Array.getElem?_eq_none (by omega)] at h
    simp at h
theorem hidB {p : Prop} (h : p) : Hid p := h
end Go.Proofs.YtepmncfgkmpccaaDoor
