/- Layer 8: the small functions on runes. -/
import Derived.Test.YtepmncfgkmpccaaDoorLeafs
import Derived.Test.YtepmncfgkmpccaaDoorLxPl
import Derived.Test.YtepmncfgkmpccaaDoorBytes
namespace Go.Proofs.YtepmncfgkmpccaaDoor
open Go.RowKit
set_option linter.unusedVariables false
set_option linter.unusedSimpArgs false

theorem ret_bool {a b : Bool} (h : a = b) : Ending.returned (.bool a) = .returned (.bool b) := by rw [h]
theorem isGreat_any (r : Int) (w : World) :
    Calls Tryd.prog 20 #[.int .i32 r] w fun e w' => e = .returned (.bool (Lx.great r)) ∧ w' = w := by
  go_enter Tryd.func20, Tryd.ntmps20
  by_cases h1 : 65 ≤ r
  · by_cases h2 : r ≤ 90
    · go_wp2
      go_ret
      exact ⟨ret_bool (by simp [Lx.great]; try omega), rfl⟩
    · go_wp2
      go_ret
      exact ⟨ret_bool (by simp [Lx.great]; try omega), rfl⟩
  · go_wp2
    go_ret
    exact ⟨ret_bool (by simp [Lx.great]; try omega), rfl⟩
theorem isDigit_any (r : Int) (w : World) :
    Calls Tryd.prog 15 #[.int .i32 r] w fun e w' => e = .returned (.bool (Lx.digit r)) ∧ w' = w := by
  go_enter Tryd.func15, Tryd.ntmps15
  by_cases h1 : 48 ≤ r
  · by_cases h2 : r ≤ 57
    · go_wp2
      go_ret
      exact ⟨ret_bool (by simp [Lx.digit]; try omega), rfl⟩
    · go_wp2
      go_ret
      exact ⟨ret_bool (by simp [Lx.digit]; try omega), rfl⟩
  · go_wp2
    go_ret
    exact ⟨ret_bool (by simp [Lx.digit]; try omega), rfl⟩
theorem isInLine_any (r : Int) (w : World) :
    Calls Tryd.prog 10 #[.int .i32 r] w fun e w' => e = .returned (.bool (Lx.inLine r)) ∧ w' = w := by
  go_enter Tryd.func10, Tryd.ntmps10
  by_cases h1 : r = 10
  · go_wp2
    go_ret
    exact ⟨ret_bool (by simp [Lx.inLine, h1]), rfl⟩
  · go_wp2
    go_ret
    exact ⟨ret_bool (by simp [Lx.inLine, h1]), rfl⟩
theorem isBlank_any (r : Int) (w : World) :
    Calls Tryd.prog 8 #[.int .i32 r] w fun e w' => e = .returned (.bool (Lx.blank r)) ∧ w' = w := by
  go_enter Tryd.func8, Tryd.ntmps8
  by_cases h1 : r = 32
  · go_wp2
    go_ret
    exact ⟨ret_bool (by simp [Lx.blank]; try omega), rfl⟩
  · by_cases h2 : r = 9
    · go_wp2
      go_ret
      exact ⟨ret_bool (by simp [Lx.blank]; try omega), rfl⟩
    · by_cases h3 : r = 13
      · go_wp2
        go_ret
        exact ⟨ret_bool (by simp [Lx.blank, h1, h2, h3]), rfl⟩
      · go_wp2
        go_ret
        exact ⟨ret_bool (by simp [Lx.blank, h1, h2, h3]), rfl⟩
theorem isEscaped_any (r : Int) (w : World) :
    Calls Tryd.prog 26 #[.int .i32 r] w fun e w' => e = .returned (.bool (Lx.escaped r)) ∧ w' = w := by
  go_enter Tryd.func26, Tryd.ntmps26
  by_cases h1 : r = 34
  · go_wp2
    go_ret
    exact ⟨ret_bool (by simp [Lx.escaped]; try omega), rfl⟩
  · by_cases h2 : r = 124
    · go_wp2
      go_ret
      exact ⟨ret_bool (by simp [Lx.escaped]; try omega), rfl⟩
    · by_cases h3 : r = 92
      · go_wp2
        go_ret
        exact ⟨ret_bool (by simp [Lx.escaped, h1, h2, h3]), rfl⟩
      · go_wp2
        go_ret
        exact ⟨ret_bool (by simp [Lx.escaped, h1, h2, h3]), rfl⟩
theorem isLetter_any (r : Int) (w : World) :
    Calls Tryd.prog 13 #[.int .i32 r] w fun e w' => e = .returned (.bool (Lx.letter r)) ∧ w' = w := by
  have hg := isGreat_any r w
  obtain ⟨g, hg0⟩ : ∃ g, Lx.great r = g := ⟨_, rfl⟩
  rw [hg0] at hg
  go_enter Tryd.func13, Tryd.ntmps13
  have he : Lx.letter r = (decide (97 ≤ r ∧ r ≤ 122) || g) := by rw [← hg0]; rfl
  rw [he]
  clear he hg0
  by_cases h1 : 97 ≤ r
  · by_cases h2 : r ≤ 122
    · go_wp2
      go_ret
      exact ⟨ret_bool (by simp; try omega), rfl⟩
    · go_wp2_with (go_at_call 20; refine hg.mono ?_; rintro e w1 ⟨rfl, rfl⟩)
      all_goals go_ret
      all_goals exact ⟨ret_bool (by simp; try omega), rfl⟩
  · go_wp2_with (go_at_call 20; refine hg.mono ?_; rintro e w1 ⟨rfl, rfl⟩)
    all_goals go_ret
    all_goals exact ⟨ret_bool (by simp; try omega), rfl⟩
theorem isOfWord_any (r : Int) (w : World) :
    Calls Tryd.prog 21 #[.int .i32 r] w fun e w' => e = .returned (.bool (Lx.ofWord r)) ∧ w' = w := by
  have hg := isLetter_any r w
  have hd := isDigit_any r w
  have he : Lx.ofWord r = (Lx.letter r || Lx.digit r) := rfl
  rw [he]
  clear he
  generalize Lx.letter r = g at *
  generalize Lx.digit r = d at *
  go_enter Tryd.func21, Tryd.ntmps21
  cases g
  · go_wp2_with (first | (go_at_call 13; refine hg.mono ?_; rintro e w1 ⟨rfl, rfl⟩) | (go_at_call 15; refine hd.mono ?_; rintro e w1 ⟨rfl, rfl⟩))
    all_goals go_ret
    all_goals exact ⟨ret_bool (by simp), rfl⟩
  · go_wp2_with (first | (go_at_call 13; refine hg.mono ?_; rintro e w1 ⟨rfl, rfl⟩) | (go_at_call 15; refine hd.mono ?_; rintro e w1 ⟨rfl, rfl⟩))
    all_goals go_ret
    all_goals exact ⟨ret_bool (by simp), rfl⟩
theorem smallOf_any (r : Int) (w : World) (h0 : 0 ≤ r) (h1 : r ≤ 1114111) :
    Calls Tryd.prog 24 #[.int .i32 r] w fun e w' => e = .returned (.int .i32 (Lx.small r)) ∧ w' = w := by
  have hg := isGreat_any r w
  by_cases h : 65 ≤ r ∧ r ≤ 90
  · have e1 : Lx.great r = true := by simp [Lx.great, h]
    have e2 : Lx.small r = r + 32 := by simp [Lx.small, h]
    rw [e1] at hg
    rw [e2]
    obtain ⟨h2, h3⟩ := h
    go_enter Tryd.func24, Tryd.ntmps24
    go_wp2_with (go_at_call 20; refine hg.mono ?_; rintro e w1 ⟨rfl, rfl⟩)
    go_wp2
    all_goals go_ret
    exact ⟨by first | rfl | omega | (congr 2; done) | (congr 2; omega) | (simp [wrap32]; omega), rfl⟩
  · have e1 : Lx.great r = false := by simp [Lx.great]; omega
    have e2 : Lx.small r = r := by simp [Lx.small, h]
    rw [e1] at hg
    rw [e2]
    go_enter Tryd.func24, Tryd.ntmps24
    go_wp2_with (go_at_call 20; refine hg.mono ?_; rintro e w1 ⟨rfl, rfl⟩)
    go_wp2
    all_goals go_ret
    exact ⟨rfl, rfl⟩
theorem digitOf_any (r : Int) (w : World) (h0 : 0 ≤ r) (h1 : r ≤ 1114111) :
    Calls Tryd.prog 37 #[.int .i32 r] w fun e w' => e = .returned (.int .i64 (Lx.hexv r)) ∧ w' = w := by
  have hd := isDigit_any r w
  have hs := smallOf_any r w h0 h1
  by_cases h : 48 ≤ r ∧ r ≤ 57
  · have e1 : Lx.digit r = true := by simp [Lx.digit, h]
    have e2 : Lx.hexv r = r - 48 := by simp [Lx.hexv, h]
    have e3 : Lx.small r = r := by unfold Lx.small; rw [if_neg (by omega)]
    rw [e1] at hd
    rw [e3] at hs
    rw [e2]
    obtain ⟨h2, h3⟩ := h
    go_enter Tryd.func37, Tryd.ntmps37
    go_wp2_with (first | (go_at_call 24; refine hs.mono ?_; rintro e w1 ⟨rfl, rfl⟩) | (go_at_call 15; refine hd.mono ?_; rintro e w1 ⟨rfl, rfl⟩))
    go_wp2
    all_goals go_ret
    all_goals exact ⟨by first | rfl | omega | (congr 2; done) | (congr 2; omega) | (simp [wrap64, wrap32]; omega), rfl⟩
  · have e1 : Lx.digit r = false := by simp [Lx.digit]; omega
    have e2 : Lx.hexv r = if 97 ≤ Lx.small r ∧ Lx.small r ≤ 102 then Lx.small r - 87 else -1 := by
      unfold Lx.hexv Lx.small
      repeat' split
      all_goals omega
    have b1 : 0 ≤ Lx.small r ∧ Lx.small r ≤ 1114143 := by unfold Lx.small; split <;> omega
    obtain ⟨b1, b2⟩ := b1
    rw [e1] at hd
    rw [e2]
    generalize Lx.small r = s at *
    clear e1 e2
    by_cases h2 : 97 ≤ s
    · by_cases h3 : s ≤ 102
      · rw [if_pos ⟨h2, h3⟩]
        go_enter Tryd.func37, Tryd.ntmps37
        go_wp2_with (first | (go_at_call 24; refine hs.mono ?_; rintro e w1 ⟨rfl, rfl⟩) | (go_at_call 15; refine hd.mono ?_; rintro e w1 ⟨rfl, rfl⟩))
        go_wp2
        all_goals go_ret
        all_goals exact ⟨by first | rfl | omega | (congr 2; done) | (congr 2; omega) | (simp [wrap64, wrap32]; omega), rfl⟩
      · rw [if_neg (by omega)]
        go_enter Tryd.func37, Tryd.ntmps37
        go_wp2_with (first | (go_at_call 24; refine hs.mono ?_; rintro e w1 ⟨rfl, rfl⟩) | (go_at_call 15; refine hd.mono ?_; rintro e w1 ⟨rfl, rfl⟩))
        go_wp2
        all_goals go_ret
        all_goals exact ⟨rfl, rfl⟩
    · rw [if_neg (by omega)]
      go_enter Tryd.func37, Tryd.ntmps37
      go_wp2_with (first | (go_at_call 24; refine hs.mono ?_; rintro e w1 ⟨rfl, rfl⟩) | (go_at_call 15; refine hd.mono ?_; rintro e w1 ⟨rfl, rfl⟩))
      go_wp2
      all_goals go_ret
      all_goals exact ⟨rfl, rfl⟩
end Go.Proofs.YtepmncfgkmpccaaDoor
