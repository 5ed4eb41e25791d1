/- Layer 9's own answer: dotted, the same. -/
import Derived.Test.YtgiecmgopibcnaaDoorRefCi3
import Derived.Deep.CutRange
import Derived.Deep.DeepCutAuto
namespace Go.Proofs.YtgiecmgopibcnaaDoor
open Go.RowKit
set_option linter.unusedVariables false
set_option maxRecDepth 20000
/-- four numbers with points between -/
def dotL (x y z u : Nat) : List UInt8 := Lib.decDigits x ++ [46] ++ Lib.decDigits y ++ [46] ++ Lib.decDigits z ++ [46] ++ Lib.decDigits u
def dotA (a : UInt32) : List UInt8 := dotL (a.toNat / 16777216) (a.toNat / 65536 % 256) (a.toNat / 256 % 256) (a.toNat % 256)
theorem dec_le3 (v : Nat) (h : v < 256) : (Lib.decDigits v).length ≤ 3 := dec_len 3 v (by omega) (by omega)
theorem wrap_small (n : Nat) (h : n < 256) : wrap64 (n : Int) = (n : Int) := by rw [wrap64]; omega
theorem ofNat32s (n : Nat) (h : n < 4294967296) : (BitVec.ofInt 32 (n : Int)).toNat = n := by
  rw [BitVec.ofInt_natCast, BitVec.toNat_ofNat]
  exact Nat.mod_eq_of_lt (by omega)
theorem and_255 (n : Nat) (h : n < 4294967296) : bits .and .u32 (n : Int) 255 = ((n % 256 : Nat) : Int) := by
  show IntKind.u32.wrap ((BitVec.ofInt 32 (n : Int) &&& BitVec.ofInt 32 ((255 : Nat) : Int)).toNat : Nat) = _
  rw [BitVec.toNat_and, ofNat32s n h, ofNat32s 255 (by omega)]
  rw [show n &&& 255 = n % 256 from Nat.and_two_pow_sub_one_eq_mod n 8]
  show ((n % 256 : Nat) : Int) % 4294967296 = _
  omega
theorem dot_nums (a : UInt32) (x y z u : Nat) (hx : x = a.toNat / 16777216) (hy : y = a.toNat / 65536 % 256) (hz : z = a.toNat / 256 % 256) (hu : u = a.toNat % 256) :
    wrap64 ((a.toNat : Int) / 16777216) = (x : Int) ∧ bits .and .u32 ((a.toNat : Int) / 65536) 255 = (y : Int) ∧ bits .and .u32 ((a.toNat : Int) / 256) 255 = (z : Int) ∧ bits .and .u32 (a.toNat : Int) 255 = (u : Int) ∧
      wrap64 (y : Int) = (y : Int) ∧ wrap64 (z : Int) = (z : Int) ∧ wrap64 (u : Int) = (u : Int) := by
  have ha := a.toNat_lt
  have e1 : (a.toNat : Int) / 16777216 = (x : Int) := by omega
  refine ⟨?_, ?_, ?_, ?_, wrap_small y (by omega), wrap_small z (by omega), wrap_small u (by omega)⟩
  · rw [e1, wrap_small x (by omega)]
  · rw [show (a.toNat : Int) / 65536 = ((a.toNat / 65536 : Nat) : Int) by omega, and_255 _ (by omega), hy]
  · rw [show (a.toNat : Int) / 256 = ((a.toNat / 256 : Nat) : Int) by omega, and_255 _ (by omega), hz]
  · rw [and_255 _ (by omega), hu]
end Go.Proofs.YtgiecmgopibcnaaDoor
