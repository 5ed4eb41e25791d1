/- The reference of layer 8: letter, digit, hex. -/
import Derived.Test.YtepmncfgkmpccaaDoorLxs2
namespace Go.Proofs.YtepmncfgkmpccaaDoor
open Go.RowKit
set_option linter.unusedVariables false
set_option linter.unusedSimpArgs false

theorem begins_drop (p : Int → Bool) (s : ByteArray) (i : Nat) : Lx.begins p (s.data.toList.drop i) = (if h : i < s.size then p ((s[i]'h).toNat : Int) else false) := by
  by_cases h : i < s.size
  · rw [dif_pos h, drop_at' s i h]
    show p _ = p _
    congr 2
    rcases s with ⟨⟨l⟩⟩
    have h' : i < l.length := h
    show (l.getD i 0).toNat = _
    rw [List.getD, List.getElem?_eq_getElem h']
    rfl
  · rw [dif_neg h, drop_nil_of s i h]
    rfl
theorem getD_at (s : ByteArray) (i : Nat) (h : i < s.size) : s.data.toList.getD i 0 = s[i]'h := by
  rcases s with ⟨⟨l⟩⟩
  have h' : i < l.length := h
  show l.getD i 0 = _
  rw [List.getD, List.getElem?_eq_getElem h']
  rfl
/-- the digit of sixteen at a place; -1: none -/
def hexAt (l : List UInt8) (i : Nat) : Int := if i < l.length then Lx.hexv ((l.getD i 0).toNat : Int) else -1
end Go.Proofs.YtepmncfgkmpccaaDoor
