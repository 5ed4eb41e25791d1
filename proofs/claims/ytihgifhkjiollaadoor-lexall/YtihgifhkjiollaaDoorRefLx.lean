/- The reference of layer 8: letter, digit, hex. -/
import Derived.Test.YtihgifhkjiollaaDoorLxs2
namespace Go.Proofs.YtihgifhkjiollaaDoor
open Go.RowKit
set_option linter.unusedVariables false
set_option linter.unusedSimpArgs false

theorem begins_drop (p : Int → Bool) (s : ByteArray) (i : Nat) : Lx.begins p (s.data.toList.drop i) = (if h : i < s.size then p ((s[i]'h).toNat : Int) else false) := by
  by_cases h : i < s.size
  · rw [dif_pos h, drop_at' s i h]
    show p _ = p _
    congr 2
    rcases s with ⟨⟨l⟩⟩
    have h' : i < l.length := h
    show (l.getD i 0).toNat = _
    rw [List.getD, List.getElem?_eq_getElem h']
    rfl
  · rw [dif_neg h, drop_nil_of s i h]
    rfl
theorem getD_at (s : ByteArray) (i : Nat) (h : i < s.size) : s.data.toList.getD i 0 = s[i]'h := by
  rcases s with ⟨⟨l⟩⟩
  have h' : i < l.length := h
  show l.getD i 0 = _
  rw [List.getD, List.getElem?_eq_getElem h']
  rfl
set_option maxHeartbeats 1000000 in
theorem rLetter (s : ByteArray) (i : Nat) (w : World) (hs : s.size ≤ maxLen) :
    Calls Tryd.prog 26 #[.string s, .int .i64 (i : Int)] w fun e w' => e = .returned (.bool (Lx.begins Lx.letter (s.data.toList.drop i))) ∧ w' = w := by
  rw [begins_drop]
  by_cases h : i < s.size
  · rw [dif_pos h]
    unfold Lx.letter
    by_cases h1 : 97 ≤ ((s[i]'h).toNat : Int)
    · by_cases h2 : ((s[i]'h).toNat : Int) ≤ 122
      · go_enter Tryd.func26, Tryd.ntmps26
        go_wp2
        all_goals go_ret
        all_goals exact ⟨ret_bool (by simp; omega), rfl⟩
      · have h3 : 65 ≤ ((s[i]'h).toNat : Int) := by omega
        have h4 : ¬ ((s[i]'h).toNat : Int) ≤ 90 := by omega
        go_enter Tryd.func26, Tryd.ntmps26
        go_wp2
        all_goals go_ret
        all_goals exact ⟨ret_bool (by simp; omega), rfl⟩
    · by_cases h3 : 65 ≤ ((s[i]'h).toNat : Int)
      · go_enter Tryd.func26, Tryd.ntmps26
        go_wp2
        all_goals go_ret
        all_goals exact ⟨ret_bool (by simp; omega), rfl⟩
      · go_enter Tryd.func26, Tryd.ntmps26
        go_wp2
        all_goals go_ret
        all_goals exact ⟨ret_bool (by simp; omega), rfl⟩
  · rw [dif_neg h]
    go_enter Tryd.func26, Tryd.ntmps26
    go_wp2
    all_goals go_ret
    all_goals exact ⟨rfl, rfl⟩
set_option maxHeartbeats 1000000 in
theorem rDigit (s : ByteArray) (i : Nat) (w : World) (hs : s.size ≤ maxLen) :
    Calls Tryd.prog 28 #[.string s, .int .i64 (i : Int)] w fun e w' => e = .returned (.bool (Lx.begins Lx.digit (s.data.toList.drop i))) ∧ w' = w := by
  rw [begins_drop]
  by_cases h : i < s.size
  · rw [dif_pos h]
    unfold Lx.digit
    by_cases h1 : 48 ≤ ((s[i]'h).toNat : Int)
    · go_enter Tryd.func28, Tryd.ntmps28
      go_wp2
      all_goals go_ret
      all_goals exact ⟨ret_bool (by simp; omega), rfl⟩
    · go_enter Tryd.func28, Tryd.ntmps28
      go_wp2
      all_goals go_ret
      all_goals exact ⟨ret_bool (by simp; omega), rfl⟩
  · rw [dif_neg h]
    go_enter Tryd.func28, Tryd.ntmps28
    go_wp2
    all_goals go_ret
    all_goals exact ⟨rfl, rfl⟩
/-- the digit of sixteen at a place; -1: none -/
def hexAt (l : List UInt8) (i : Nat) : Int := if i < l.length then Lx.hexv ((l.getD i 0).toNat : Int) else -1
set_option maxHeartbeats 2000000 in
theorem rHex (s : ByteArray) (i : Nat) (w : World) (hs : s.size ≤ maxLen) :
    Calls Tryd.prog 53 #[.string s, .int .i64 (i : Int)] w fun e w' => e = .returned (.int .i64 (hexAt s.data.toList i)) ∧ w' = w := by
  have cD := rDigit s i w hs
  rw [begins_drop] at cD
  have hlen : s.data.toList.length = s.size := by simp
  unfold hexAt
  by_cases h : i < s.size
  · rw [if_pos (by omega), getD_at s i h]
    rw [dif_pos h] at cD
    have hb := (s[i]'h).toNat_lt
    unfold Lx.hexv
    by_cases h1 : 48 ≤ ((s[i]'h).toNat : Int) ∧ ((s[i]'h).toNat : Int) ≤ 57
    · rw [if_pos h1]
      rw [show Lx.digit ((s[i]'h).toNat : Int) = true from by simp [Lx.digit]; omega] at cD
      obtain ⟨h1, h2⟩ := h1
      go_enter Tryd.func53, Tryd.ntmps53
      go_wp2_with (go_at_call 28; go_must (refine cD.mono ?_; rintro e W' ⟨rfl, rfl⟩))
      all_goals go_ret
      all_goals exact ⟨by first | rfl | (congr 2; done) | (congr 2; omega) | (congr 2; simp; omega), rfl⟩
    · rw [if_neg h1]
      rw [show Lx.digit ((s[i]'h).toNat : Int) = false from by simp [Lx.digit]; omega] at cD
      by_cases h2 : 97 ≤ ((s[i]'h).toNat : Int)
      · by_cases h3 : ((s[i]'h).toNat : Int) ≤ 102
        · rw [if_pos ⟨h2, h3⟩]
          go_enter Tryd.func53, Tryd.ntmps53
          go_wp2_with (go_at_call 28; go_must (refine cD.mono ?_; rintro e W' ⟨rfl, rfl⟩))
          all_goals go_ret
          all_goals exact ⟨by first | rfl | (congr 2; done) | (congr 2; omega) | (congr 2; simp; omega), rfl⟩
        · rw [if_neg (by omega), if_neg (by omega)]
          have h4 : 65 ≤ ((s[i]'h).toNat : Int) := by omega
          have h5 : ¬ ((s[i]'h).toNat : Int) ≤ 70 := by omega
          go_enter Tryd.func53, Tryd.ntmps53
          go_wp2_with (go_at_call 28; go_must (refine cD.mono ?_; rintro e W' ⟨rfl, rfl⟩))
          all_goals go_ret
          all_goals exact ⟨rfl, rfl⟩
      · rw [if_neg (by omega)]
        by_cases h4 : 65 ≤ ((s[i]'h).toNat : Int)
        · by_cases h5 : ((s[i]'h).toNat : Int) ≤ 70
          · rw [if_pos ⟨h4, h5⟩]
            go_enter Tryd.func53, Tryd.ntmps53
            go_wp2_with (go_at_call 28; go_must (refine cD.mono ?_; rintro e W' ⟨rfl, rfl⟩))
            all_goals go_ret
            all_goals exact ⟨by first | rfl | (congr 2; done) | (congr 2; omega) | (congr 2; simp; omega), rfl⟩
          · rw [if_neg (by omega)]
            go_enter Tryd.func53, Tryd.ntmps53
            go_wp2_with (go_at_call 28; go_must (refine cD.mono ?_; rintro e W' ⟨rfl, rfl⟩))
            all_goals go_ret
            all_goals exact ⟨rfl, rfl⟩
        · rw [if_neg (by omega)]
          go_enter Tryd.func53, Tryd.ntmps53
          go_wp2_with (go_at_call 28; go_must (refine cD.mono ?_; rintro e W' ⟨rfl, rfl⟩))
          all_goals go_ret
          all_goals exact ⟨rfl, rfl⟩
  · rw [if_neg (by omega)]
    rw [dif_neg h] at cD
    go_enter Tryd.func53, Tryd.ntmps53
    go_wp2_with (go_at_call 28; go_must (refine cD.mono ?_; rintro e W' ⟨rfl, rfl⟩))
    all_goals go_ret
    all_goals exact ⟨rfl, rfl⟩
end Go.Proofs.YtihgifhkjiollaaDoor
