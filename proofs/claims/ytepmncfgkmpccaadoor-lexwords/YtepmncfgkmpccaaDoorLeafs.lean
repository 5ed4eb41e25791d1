/- Contracts of the small functions: Place, fold, both Adds, both Nums. -/
import Derived.Test.YtepmncfgkmpccaaDoorRows
import Derived.Test.YtepmncfgkmpccaaDoorPlain
import Derived.WalkKit
import Derived.WalkSpells
import Derived.WalkLawsBesides
namespace Go.Proofs.YtepmncfgkmpccaaDoor
open Go.RowKit
set_option linter.unusedVariables false

theorem ret_int {k : IntKind} {a b : Int} (h : a = b) : Ending.returned (.int k a) = .returned (.int k b) := by rw [h]

theorem place_eq (v n : Int) (h1 : 1 ≤ n) : v % n = (if v.tmod n < 0 then v.tmod n + n else v.tmod n) ∧ -n < v.tmod n ∧ v.tmod n < n := by
  have e0 := Int.emod_nonneg v (show n ≠ 0 from by omega)
  have e1 := Int.emod_lt_of_pos v (show 0 < n from by omega)
  rcases Int.le_total 0 v with h | h
  · rw [Int.tmod_eq_emod_of_nonneg h]
    rw [if_neg (by omega)]
    omega
  · have hn : v.tmod n = -((-v) % n) := by
      rw [← Int.tmod_eq_emod_of_nonneg (show 0 ≤ -v from by omega), Int.neg_tmod, Int.neg_neg]
    have r0 := Int.emod_nonneg (-v) (show n ≠ 0 from by omega)
    have r1 := Int.emod_lt_of_pos (-v) (show 0 < n from by omega)
    have hd := Int.emod_add_mul_ediv (-v) n
    rw [hn]
    generalize (-v) % n = r at *
    generalize (-v) / n = q at *
    by_cases hr : r = 0
    · subst hr
      have : v = 0 + n * (-q) := by rw [Int.mul_neg]; omega
      rw [this, Int.add_mul_emod_self_left]
      simp
      omega
    · have : v = (n - r) + n * (-q - 1) := by rw [Int.mul_sub, Int.mul_neg]; omega
      rw [if_pos (by omega), this, Int.add_mul_emod_self_left, Int.emod_eq_of_lt (by omega) (by omega)]
      omega

set_option maxHeartbeats 400000 in
theorem place_any (v n : Int) (w : World) (h1 : 1 ≤ n) (h2 : n ≤ 36028797018963968) :
    Calls Tryd.prog 4 #[.int .i64 v, .int .i64 n] w fun e w' => e = .returned (.int .i64 (v % n)) ∧ w = w' := by
  obtain ⟨hp, hb1, hb2⟩ := place_eq v n h1
  have HP : Hid (v % n = if v.tmod n < 0 then v.tmod n + n else v.tmod n) := hp
  clear hp
  go_enter Tryd.func4, Tryd.ntmps4
  go_wp2
  all_goals go_ret
  · exact ⟨ret_int (by rw [HP.out, if_pos (by assumption)]), rfl⟩
  · exact ⟨ret_int (by rw [HP.out, if_neg (by omega)]), rfl⟩
theorem ext7 (s : ByteArray) (h : 7 < s.size) : (s.extract (s.size - 7) s.size).size = 7 ∧ (s.extract (s.size - 7) s.size).data.toList = Pl.last7 s.data.toList := by
  constructor
  · simp
    omega
  · simp [Pl.last7]
    rw [List.take_of_length_le (by simp)]


end Go.Proofs.YtepmncfgkmpccaaDoor
