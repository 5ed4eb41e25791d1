/- Layer 9 as landed: a clean set. -/
import Derived.Test.YtgiecmgopibcnaaDoorCi3
import Derived.Test.YtgiecmgopibcnaaDoorCiMid
import Derived.Deep.CutRange
import Derived.Deep.DeepCutAuto
import Derived.Deep.LoopGhost
namespace Go.Proofs.YtgiecmgopibcnaaDoor
open Go.RowKit
set_option linter.unusedVariables false
set_option maxRecDepth 20000
theorem cleanUpto_len (L : List Nt) : ∀ k, (cleanUpto L k).length ≤ k
  | 0 => Nat.le_refl _
  | k + 1 => by
    have := cleanUpto_len L k
    unfold cleanUpto
    rw [List.length_append]
    split <;> simp <;> omega
theorem two_set {x : World} {B : Nat} {a b : Value} (h0 : x.cell? ⟨B, 0, none⟩ = some a) (h1 : x.cell? ⟨B, 1, none⟩ = some b) (u v : Value) :
    (x.setCell ⟨B, 0, none⟩ u).cell? ⟨B, 0, none⟩ = some u ∧ ((x.setCell ⟨B, 0, none⟩ u).setCell ⟨B, 1, none⟩ v).cell? ⟨B, 1, none⟩ = some v := by
  refine ⟨World.cell?_setCell_same' x ⟨B, 0, none⟩ u (by rw [h0]; rfl), World.cell?_setCell_same' _ ⟨B, 1, none⟩ v ?_⟩
  rw [World.cell?_setCell_other (w := x) (a := ⟨B, 0, none⟩) (b := ⟨B, 1, none⟩) (v := u) (by simp), h1]
  rfl
end Go.Proofs.YtgiecmgopibcnaaDoor
