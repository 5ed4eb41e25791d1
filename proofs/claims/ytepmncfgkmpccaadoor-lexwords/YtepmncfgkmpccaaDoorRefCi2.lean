/- Layer 9's own answer: which sets may be, what they have. -/
import Derived.Deep.LoopGhost
import Derived.Test.YtepmncfgkmpccaaDoorRefCi
namespace Go.Proofs.YtepmncfgkmpccaaDoor
open Go.RowKit
set_option linter.unusedVariables false
set_option maxRecDepth 20000
/-- a set's two fields -/
abbrev setC (no : Bool) (p : Option Addr) (n c : Nat) : Array Value := #[.bool no, .slice p n c]
theorem any_take_step {α : Type} (p : α → Bool) (L : List α) (k : Nat) (x : α) (h : L[k]? = some x) : (L.take (k + 1)).any p = ((L.take k).any p || p x) := by
  have hk := (List.getElem?_eq_some_iff.1 h)
  obtain ⟨hk, rfl⟩ := hk
  rw [List.take_succ_eq_append_getElem hk, List.any_append]
  simp
theorem any_of_at {α : Type} (p : α → Bool) (L : List α) (k : Nat) (x : α) (h : L[k]? = some x) (hp : p x = true) : L.any p = true := by
  rw [List.any_eq_true]
  exact ⟨x, List.mem_of_getElem? h, hp⟩
theorem vn_any (M : List Vn) (f : Nt → Bool) : (M.map Vn.nt).any f = M.any (fun x => f x.nt) := by rw [List.any_map]; rfl
theorem vn_at {M : List Vn} {k : Nat} {x : Vn} (h : M[k]? = some x) : (M.map Vn.nt)[k]? = some x.nt := by rw [List.getElem?_map, h]; rfl
theorem zero_b (n : Nat) : Value.bool ((n : Int) == 0) = .bool (false || decide (n = 0)) := by
  congr 1
  rw [Bool.eq_iff_iff]
  simp
end Go.Proofs.YtepmncfgkmpccaaDoor
