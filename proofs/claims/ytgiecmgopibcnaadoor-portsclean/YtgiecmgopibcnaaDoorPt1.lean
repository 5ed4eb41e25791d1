/- Layer 10: what asks of one span. -/
import Derived.Test.YtgiecmgopibcnaaDoorPtPl
import Derived.BigQuiet
import Derived.WalkKit
import Derived.Test.YtgiecmgopibcnaaDoorCalm
namespace Go.Proofs.YtgiecmgopibcnaaDoor
open Go.RowKit
set_option linter.unusedVariables false
set_option maxRecDepth 20000
theorem ptBroken (s : Sp) (w : World) :
    Calls Tryd.prog 21 #[.agg (spC s).toArray] w fun e w' => e = .returned (.bool (badS s)) ∧ Below w.heap.size w w' := by
  obtain ⟨a, b⟩ := s
  show Calls Tryd.prog 21 #[.agg #[.int .i64 a, .int .i64 b]] w fun e w' => e = .returned (.bool (decide (a < 0) || decide (b < a) || decide (65535 < b))) ∧ _
  by_cases h : a < 0
  · rw [show decide (a < 0) = true by simp [h], Bool.true_or, Bool.true_or]
    go_enter Tryd.func21, Tryd.ntmps21
    go_wp2
    go_ret
    exact ⟨rfl, (Below.refl _ w).alloc (Nat.le_refl _) _⟩
  · rw [show decide (a < 0) = false by simp [h], Bool.false_or]
    by_cases h2 : b < a
    · rw [show decide (b < a) = true by simp [h2], Bool.true_or]
      go_enter Tryd.func21, Tryd.ntmps21
      go_wp2
      go_ret
      exact ⟨rfl, (Below.refl _ w).alloc (Nat.le_refl _) _⟩
    · rw [show decide (b < a) = false by simp [h2], Bool.false_or]
      go_enter Tryd.func21, Tryd.ntmps21
      go_wp2
      go_ret
      exact ⟨rfl, (Below.refl _ w).alloc (Nat.le_refl _) _⟩
/-- Has's own: a number kept in a cell -/
theorem ptHas1 (s : Sp) (n : Int) (B : Nat) (w : World) (hB : w.cell? ⟨B, 0, none⟩ = some (.int .i64 n)) :
    Calls Tryd.prog 25 #[.agg (spC s).toArray, .pointer (some ⟨B, 0, none⟩)] w fun e w' => e = .returned (.bool (inS n s)) ∧ Below w.heap.size w w' := by
  have hb := (Below.refl w.heap.size w).alloc (Nat.le_refl _) (.cells (spC s).toArray 34)
  have hBl : B < w.heap.size := ciLt hB
  obtain ⟨a, b⟩ := s
  simp only [spC] at hb ⊢
  show Calls Tryd.prog _ _ w fun e w' => e = .returned (.bool (decide (a ≤ n) && decide (n ≤ b))) ∧ _
  by_cases h : a ≤ n
  · rw [show decide (a ≤ n) = true by simp [h], Bool.true_and]
    go_enter Tryd.func25, Tryd.ntmps25
    go_wp2
    go_ret
    exact ⟨rfl, hb⟩
  · rw [show decide (a ≤ n) = false by simp [h], Bool.false_and]
    go_enter Tryd.func25, Tryd.ntmps25
    go_wp2
    go_ret
    exact ⟨rfl, hb⟩
end Go.Proofs.YtgiecmgopibcnaaDoor
