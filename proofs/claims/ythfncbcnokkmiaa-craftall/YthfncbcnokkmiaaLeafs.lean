/- Contracts of the small functions: Place, fold, both Adds, both Nums. -/
import Derived.Test.YthfncbcnokkmiaaRows
import Derived.Test.YthfncbcnokkmiaaPlain
import Derived.WalkKit
import Derived.WalkSpells
import Derived.WalkLawsBesides
namespace Go.Proofs.Ythfncbcnokkmiaa
open Go.RowKit
set_option linter.unusedVariables false

theorem ret_int {k : IntKind} {a b : Int} (h : a = b) : Ending.returned (.int k a) = .returned (.int k b) := by rw [h]

theorem place_eq (v n : Int) (h1 : 1 ≤ n) : v % n = (if v.tmod n < 0 then v.tmod n + n else v.tmod n) ∧ -n < v.tmod n ∧ v.tmod n < n := by
  have e0 := Int.emod_nonneg v (show n ≠ 0 from by omega)
  have e1 := Int.emod_lt_of_pos v (show 0 < n from by omega)
  rcases Int.le_total 0 v with h | h
  · rw [Int.tmod_eq_emod_of_nonneg h]
    rw [if_neg (by omega)]
    omega
  · have hn : v.tmod n = -((-v) % n) := by
      rw [← Int.tmod_eq_emod_of_nonneg (show 0 ≤ -v from by omega), Int.neg_tmod, Int.neg_neg]
    have r0 := Int.emod_nonneg (-v) (show n ≠ 0 from by omega)
    have r1 := Int.emod_lt_of_pos (-v) (show 0 < n from by omega)
    have hd := Int.emod_add_mul_ediv (-v) n
    rw [hn]
    generalize (-v) % n = r at *
    generalize (-v) / n = q at *
    by_cases hr : r = 0
    · subst hr
      have : v = 0 + n * (-q) := by rw [Int.mul_neg]; omega
      rw [this, Int.add_mul_emod_self_left]
      simp
      omega
    · have : v = (n - r) + n * (-q - 1) := by rw [Int.mul_sub, Int.mul_neg]; omega
      rw [if_pos (by omega), this, Int.add_mul_emod_self_left, Int.emod_eq_of_lt (by omega) (by omega)]
      omega

set_option maxHeartbeats 400000 in
theorem place_any (v n : Int) (w : World) (h1 : 1 ≤ n) (h2 : n ≤ 36028797018963968) :
    Calls Try.prog 26 #[.int .i64 v, .int .i64 n] w fun e w' => e = .returned (.int .i64 (v % n)) ∧ w = w' := by
  obtain ⟨hp, hb1, hb2⟩ := place_eq v n h1
  have HP : Hid (v % n = if v.tmod n < 0 then v.tmod n + n else v.tmod n) := hp
  clear hp
  go_enter Try.func26, Try.ntmps26
  go_wp2
  all_goals go_ret
  · exact ⟨ret_int (by rw [HP.out, if_pos (by assumption)]), rfl⟩
  · exact ⟨ret_int (by rw [HP.out, if_neg (by omega)]), rfl⟩
set_option maxHeartbeats 400000 in
theorem fold_any (v : Int) (w : World) (h1 : 0 ≤ v) (h2 : v ≤ 1000000000000) :
    Calls Try.prog 78 #[.int .i64 v] w fun e w' => e = .returned (.int .i64 (Pl.fld v)) ∧ w = w' := by
  go_enter Try.func78, Try.ntmps78
  go_wp2
  go_loop [0] (fun t => ∃ y : Int, 0 ≤ y ∧ y ≤ v ∧ t = .int .i64 y ∧ Hid (Pl.fld y = Pl.fld v)) (fun t => (intOf t).toNat)
  case atStart => exact ⟨v, by omega, by omega, rfl, rfl⟩
  case round =>
    obtain ⟨y, hy1, hy2, rfl, H⟩ := hrel
    have ha := Pl.and_word y
    by_cases hlt : 65535 < y
    · go_wp2
      go_round
      case rel => exact ⟨y / 65536 + y % 65536, by omega, by omega, rfl, by rw [Hid, Pl.fld_step y hlt]; exact H.out⟩
      case measure => simp [intOf]; omega
    · go_wp2
      go_ret
      exact ⟨ret_int (by rw [← H.out, Pl.fld_small y hy1 (by omega)]), rfl⟩
set_option maxHeartbeats 400000 in
theorem refAdd_any (a b : Int) (w : World) :
    Calls Try.prog 79 #[.int .i64 a, .int .i64 b] w fun e w' => e = .returned (.int .i64 (Pl.fld (a % 65536 + b % 65536))) ∧ w = w' := by
  have ha := Pl.and_word a
  have hb := Pl.and_word b
  go_enter Try.func79, Try.ntmps79
  go_wp2
  clear ha hb
  go_loop [5] (fun t => ∃ y : Int, 0 ≤ y ∧ y ≤ 131070 ∧ t = .int .i64 y ∧ Hid (Pl.fld y = Pl.fld (a % 65536 + b % 65536))) (fun t => (intOf t).toNat)
  case atStart => exact ⟨a % 65536 + b % 65536, by omega, by omega, rfl, rfl⟩
  case round =>
    obtain ⟨y, hy1, hy2, rfl, H⟩ := hrel
    have ha := Pl.and_word y
    by_cases hlt : 65535 < y
    · go_wp2
      go_round
      case rel => exact ⟨y % 65536 + y / 65536, by omega, by omega, rfl, by rw [Hid, Int.add_comm, Pl.fld_step y hlt]; exact H.out⟩
      case measure => simp [intOf]; omega
    · go_wp2
      go_ret
      exact ⟨ret_int (by rw [← H.out, Pl.fld_small y hy1 (by omega)]), rfl⟩
theorem ext7 (s : ByteArray) (h : 7 < s.size) : (s.extract (s.size - 7) s.size).size = 7 ∧ (s.extract (s.size - 7) s.size).data.toList = Pl.last7 s.data.toList := by
  constructor
  · simp
    omega
  · simp [Pl.last7]
    rw [List.take_of_length_le (by simp)]

set_option maxHeartbeats 400000 in
theorem num_any (s : ByteArray) (w : World) (hs : s.size ≤ 1000000) :
    Calls Try.prog 46 #[.string s] w fun e w' => e = .returned (.int .i64 (Pl.numL (Pl.last7 s.data.toList))) ∧ w = w' := by
  obtain ⟨t, htz, htl, hcase⟩ : ∃ t : ByteArray, t.size ≤ 7 ∧ t.data.toList = Pl.last7 s.data.toList ∧ ((s.size ≤ 7 ∧ decide (7 < (s.size : Int)) = false ∧ t = s) ∨ (7 < s.size ∧ decide (7 < (s.size : Int)) = true ∧ s.extract (s.size - 7) s.size = t)) := by
    by_cases h7 : s.size ≤ 7
    · exact ⟨s, h7, by simp [Pl.last7]; rw [show s.size - 7 = 0 from by omega]; rfl, .inl ⟨h7, by simp; omega, rfl⟩⟩
    · obtain ⟨a, b⟩ := ext7 s (by omega)
      exact ⟨_, by omega, b, .inr ⟨by omega, by simp; omega, rfl⟩⟩
  have HL : Hid (t.data.toList = Pl.last7 s.data.toList) := htl
  clear htl
  go_enter Try.func46, Try.ntmps46
  rcases hcase with ⟨h7, hd, rfl⟩ | ⟨h7, hd, hx⟩
  all_goals
    go_wp2
    go_loop [3, 4] (fun v i => ∃ k : Nat, k ≤ t.size ∧ i = .int .i64 k ∧ v = .int .i64 (Pl.numL (t.data.toList.take k))) (fun _ i => t.size - (intOf i).toNat)
    case atStart => exact ⟨0, Nat.zero_le _, rfl, rfl⟩
    case round =>
      obtain ⟨k, hk, rfl, rfl⟩ := hrel
      by_cases hlt : k < t.size
      · have hb := Pl.numL_lt6 (t.data.toList.take k) (by simp; omega)
        have hor := Pl.or_byte (Pl.numL (t.data.toList.take k)) (t[k].toNat : Int) hb.1 (by omega) (by omega) (by have := t[k].toNat_lt; omega)
        have HS : Hid (Pl.numL (t.data.toList.take (k + 1)) = Pl.numL (t.data.toList.take k) * 256 + (t[k].toNat : Int)) := by
          show _ = _
          rw [Pl.take_snoc t k hlt, Pl.numL_snoc]
        obtain ⟨hb1, hb2⟩ := hb
        have hwb : wrap64 (t[k].toNat : Int) = (t[k].toNat : Int) := IntWalk.wrap64_in _ (by have := t[k].toNat_lt; omega)
        go_wp2
        go_round
        case rel => exact ⟨k + 1, by omega, by go_num, by rw [HS.out]⟩
        case measure => simp [intOf]; omega
      · go_wp2
        go_ret
        exact ⟨ret_int (by rw [List.take_of_length_le (by simp; omega)]; exact congrArg Pl.numL HL.out), rfl⟩

end Go.Proofs.Ythfncbcnokkmiaa
