/- Contracts of both Ofs. -/
import Derived.Test.YtepmncfgkmpccaaDoorLeafs
namespace Go.Proofs.YtepmncfgkmpccaaDoor
open Go.RowKit
set_option linter.unusedVariables false

theorem fld_le (ss : List ByteArray) (h : (Pl.cat ss).length ≤ 1000000) : 0 ≤ Pl.wt true (Pl.cat ss) ∧ Pl.wt true (Pl.cat ss) ≤ 65280000000 := by
  have := Pl.wt_bd true (Pl.cat ss)
  omega

theorem val_int {k : IntKind} {a b : Int} (h : a = b) : Value.int k a = .int k b := by rw [h]
theorem st0 (T V : Int) (x : Nat) (h0 : 0 ≤ T + V) (h1 : T + V ≤ 1000000000000) (hx : x < 256) : wrap64 (T + V + (x : Int)) = T + (V + ((x : Int) + 0)) := by
  unfold wrap64
  omega
theorem st1 (T V : Int) (x : Nat) (h0 : 0 ≤ T + V) (h1 : T + V ≤ 1000000000000) (hx : x < 256) : wrap64 (T + V + wrap64 ((x : Int) * 256)) = T + (V + (256 * (x : Int) + 0)) := by
  unfold wrap64
  omega
def shv : Bool → Int
  | true => 8
  | false => 0

theorem take_two (s : ByteArray) (k : Nat) (h : k + 1 < s.size) : s.data.toList.take (k + 2) = s.data.toList.take k ++ [s[k], s[k + 1]] := by
  rw [Pl.take_snoc s (k + 1) h, Pl.take_snoc s k (by omega)]
  simp
theorem take_last (s : ByteArray) (k : Nat) (h : k < s.size) (h2 : ¬ k + 1 < s.size) : s.data.toList.take (k + 2) = s.data.toList.take k ++ [s[k]] := by
  rw [← Pl.take_snoc s k h, List.take_of_length_le (by simp; omega), List.take_of_length_le (by simp; omega)]
theorem par_even (l : List UInt8) (h : l.length % 2 = 0) : Pl.par true l = true := by rw [Pl.par_length, if_pos h]
theorem sum_two (V : Int) (x y : Nat) (h0 : 0 ≤ V) (hx : x < 256) (hy : y < 256) : Pl.fld (Pl.fld V % 65536 + (wrap64 (wrap64 ((x : Int) * 256) + (y : Int))) % 65536) = Pl.fld (V + (256 * (x : Int) + ((y : Int) + 0))) := by
  have e : (wrap64 (wrap64 ((x : Int) * 256) + (y : Int))) % 65536 = 256 * (x : Int) + ((y : Int) + 0) := by unfold wrap64; omega
  have hb := Pl.fld_bd V h0
  rw [e, Int.emod_eq_of_lt hb.1 (by omega), Pl.fld_add V _ h0 (by omega)]
theorem sum_one (V : Int) (x : Nat) (h0 : 0 ≤ V) (hx : x < 256) : Pl.fld (Pl.fld V % 65536 + (wrap64 ((x : Int) * 256)) % 65536) = Pl.fld (V + (256 * (x : Int) + 0)) := by
  have e : (wrap64 ((x : Int) * 256)) % 65536 = 256 * (x : Int) + 0 := by unfold wrap64; omega
  have hb := Pl.fld_bd V h0
  rw [e, Int.emod_eq_of_lt hb.1 (by omega), Pl.fld_add V _ h0 (by omega)]


end Go.Proofs.YtepmncfgkmpccaaDoor
