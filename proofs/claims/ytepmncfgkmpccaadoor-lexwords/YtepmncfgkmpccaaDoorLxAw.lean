/- Layer 8: the document's example; elements of tokens of one's own. -/
import Derived.Test.YtepmncfgkmpccaaDoorLxs9
namespace Go.Proofs.YtepmncfgkmpccaaDoor
open Go.RowKit
set_option linter.unusedVariables false
set_option linter.unusedSimpArgs false

def exT : ByteArray := ⟨#[34, 97, 124, 48, 100, 32, 48, 65, 124, 98, 34]⟩
set_option maxRecDepth 100000 in
theorem exT_is : Lx.allP exT.data.toList = ⟨[⟨3, [97, 13, 10, 98], 0, 1⟩], 0, 0⟩ := by kernel_rfl
/-- a token's cells in memory -/
theorem OwnT.at {e : TypeId} {w : World} {base : Nat} {v : Value} {ts : List Lx.Tok} (h : OwnT e w base v ts) (hne : ts ≠ []) : ∃ g c, v = .slice (some ⟨g, 0, none⟩) ts.length c ∧ base ≤ g ∧ ∀ j, j < ts.length * 4 → w.cell? ⟨g, j, none⟩ = (ts.flatMap tokL)[j]? := by
  have h0 := h
  unfold OwnT at h0
  rcases h0.2 with ⟨rfl, hn⟩ | ⟨g, cap, cur, rfl, hb, _⟩
  · exact absurd (List.eq_nil_of_length_eq_zero hn) hne
  · exact ⟨g, cap, rfl, hb, fun j hj => World.ownsRow.cellAt h j hj⟩
theorem awake_any (w : World) : Calls Tryd.prog 7 #[] w fun e w' => e = .returned (.bool true) ∧ Below w.heap.size w w' := by
  have c1 := lexAll_any exT w (by decide)
  rw [exT_is] at c1
  unfold exT at c1
  go_enter Tryd.func7, Tryd.ntmps7
  go_wp2_with (go_at_call 5; go_must (refine c1.mono ?_; rintro e w1 ⟨⟨v, rfl, ho⟩, hb⟩; obtain ⟨g, c, rfl, hg, hc⟩ := ho.at (by simp); have hc0 : w1.cell? ⟨g, 0, none⟩ = some (.int .i64 3) := hc 0 (by decide); have hc1 : w1.cell? ⟨g, 1, none⟩ = some (.string ⟨#[97, 13, 10, 98]⟩) := hc 1 (by decide); clear hc ho))
  go_ret
  exact ⟨rfl, hb⟩
end Go.Proofs.YtepmncfgkmpccaaDoor
