/- Contracts of the small functions: Place, fold, both Adds, both Nums. -/
import Derived.Test.YthhgkiihegmedaaDoorRows
import Derived.Test.YthhgkiihegmedaaDoorPlain
import Derived.WalkKit
import Derived.WalkSpells
import Derived.WalkLawsBesides
namespace Go.Proofs.YthhgkiihegmedaaDoor
open Go.RowKit
set_option linter.unusedVariables false

theorem ret_int {k : IntKind} {a b : Int} (h : a = b) : Ending.returned (.int k a) = .returned (.int k b) := by rw [h]

theorem place_eq (v n : Int) (h1 : 1 ≤ n) : v % n = (if v.tmod n < 0 then v.tmod n + n else v.tmod n) ∧ -n < v.tmod n ∧ v.tmod n < n := by
  have e0 := Int.emod_nonneg v (show n ≠ 0 from by omega)
  have e1 := Int.emod_lt_of_pos v (show 0 < n from by omega)
  rcases Int.le_total 0 v with h | h
  · rw [Int.tmod_eq_emod_of_nonneg h]
    rw [if_neg (by omega)]
    omega
  · have hn : v.tmod n = -((-v) % n) := by
      rw [← Int.tmod_eq_emod_of_nonneg (show 0 ≤ -v from by omega), Int.neg_tmod, Int.neg_neg]
    have r0 := Int.emod_nonneg (-v) (show n ≠ 0 from by omega)
    have r1 := Int.emod_lt_of_pos (-v) (show 0 < n from by omega)
    have hd := Int.emod_add_mul_ediv (-v) n
    rw [hn]
    generalize (-v) % n = r at *
    generalize (-v) / n = q at *
    by_cases hr : r = 0
    · subst hr
      have : v = 0 + n * (-q) := by rw [Int.mul_neg]; omega
      rw [this, Int.add_mul_emod_self_left]
      simp
      omega
    · have : v = (n - r) + n * (-q - 1) := by rw [Int.mul_sub, Int.mul_neg]; omega
      rw [if_pos (by omega), this, Int.add_mul_emod_self_left, Int.emod_eq_of_lt (by omega) (by omega)]
      omega

theorem ext7 (s : ByteArray) (h : 7 < s.size) : (s.extract (s.size - 7) s.size).size = 7 ∧ (s.extract (s.size - 7) s.size).data.toList = Pl.last7 s.data.toList := by
  constructor
  · simp
    omega
  · simp [Pl.last7]
    rw [List.take_of_length_le (by simp)]


end Go.Proofs.YthhgkiihegmedaaDoor
