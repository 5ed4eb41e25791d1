/- The reference of layer 8: word, number. -/
import Derived.Test.YtepmncfgkmpccaaDoorRefLx
import Derived.Test.YtepmncfgkmpccaaDoorLxRows
namespace Go.Proofs.YtepmncfgkmpccaaDoor
open Go.RowKit
set_option linter.unusedVariables false
set_option linter.unusedSimpArgs false

theorem small_low (x : UInt8) (h : Lx.bt Lx.ofWord x = true) (hg : ¬ (x.toNat ≤ 90 ∧ 65 ≤ x.toNat)) : Lx.smallB x = x := by
  unfold Lx.smallB Lx.small
  rw [if_neg (by omega)]
  simp
theorem small_great (x : UInt8) (h1 : x.toNat ≤ 90) (h2 : 65 ≤ x.toNat) : ((Lx.smallB x).toNat : Int) = (x.toNat : Int) + 32 := by
  unfold Lx.smallB Lx.small
  rw [if_pos (by omega)]
  have : ((x.toNat : Int) + 32).toNat = x.toNat + 32 := by omega
  rw [this]
  simp
  omega
theorem wordP_len (l : List UInt8) : (Lx.wordP l).1.length = (Lx.wordP l).2 := by
  unfold Lx.wordP
  split <;> simp
theorem wordP_no (l : List UInt8) (h : Lx.begins Lx.letter l = false) : Lx.wordP l = ([], 0) := by
  unfold Lx.wordP
  rw [if_neg (by rw [h]; simp)]
theorem wordP_yes (l : List UInt8) (h : Lx.begins Lx.letter l = true) (h2 : (Lx.front Lx.ofWord l).length ≤ 20) : Lx.wordP l = ((Lx.front Lx.ofWord l).map Lx.smallB, (Lx.front Lx.ofWord l).length) := by
  unfold Lx.wordP
  rw [if_pos ⟨h, h2⟩]
theorem wordP_long (l : List UInt8) (h2 : ¬ (Lx.front Lx.ofWord l).length ≤ 20) : Lx.wordP l = ([], 0) := by
  unfold Lx.wordP
  rw [if_neg (by omega)]
end Go.Proofs.YtepmncfgkmpccaaDoor
