/- Layer 8, no program: a text with a line behind it, lines ahead of it. -/
import Derived.Test.YtepmncfgkmpccaaDoorLxToks
namespace Go.Proofs.YtepmncfgkmpccaaDoor
open Go.RowKit
set_option linter.unusedVariables false
set_option linter.unusedSimpArgs false

theorem front_app (p : Int → Bool) (c : UInt8) (h : Lx.bt p c = false) (R : List UInt8) : ∀ l : List UInt8, Lx.front p (l ++ c :: R) = Lx.front p l := by
  intro l
  induction l with
  | nil => rw [List.nil_append, Lx.front_cons, if_neg (by rw [h]; simp)]; rfl
  | cons x l ih => rw [List.cons_append, Lx.front_cons, Lx.front_cons, ih]
theorem begins_app (p : Int → Bool) (c : UInt8) (h : Lx.bt p c = false) (R : List UInt8) : ∀ l : List UInt8, Lx.begins p (l ++ c :: R) = Lx.begins p l := by
  intro l
  cases l with
  | nil => exact h
  | cons x l => rfl
/-- what no token goes over: another byte than all that tokens are of, or are next to -/
structure Stop (c : UInt8) : Prop where
  w : Lx.bt Lx.ofWord c = false
  l : Lx.bt Lx.letter c = false
  d : Lx.bt Lx.digit c = false
theorem stop10 : Stop 10 := ⟨by decide, by decide, by decide⟩
theorem wordP_app {c : UInt8} (h : Stop c) (R l : List UInt8) : Lx.wordP (l ++ c :: R) = Lx.wordP l := by
  unfold Lx.wordP
  rw [begins_app _ c h.l, front_app _ c h.w]
theorem drop_app (l R : List UInt8) (n : Nat) (h : n ≤ l.length) : (l ++ R).drop n = l.drop n ++ R := by
  rw [List.drop_append_of_le_length h]
theorem numP_app {c : UInt8} (h : Stop c) (R l : List UInt8) : Lx.numP (l ++ c :: R) = Lx.numP l := by
  unfold Lx.numP
  rw [front_app _ c h.d, drop_app l (c :: R) _ (Lx.front_le _ l), begins_app _ c h.l]
theorem prs_app (R : List UInt8) : ∀ l : List UInt8, Lx.prs (l ++ (10 : UInt8) :: R) = Lx.prs l := by
  have h10 : ∀ S, Lx.prs ((10 : UInt8) :: S) = none := fun S => prs_bad 10 S (by decide) (by decide) (by decide)
  intro l
  induction l using Lx.prs.induct with
  | case1 => rw [List.nil_append, h10]; rfl
  | case2 c l h => rw [List.cons_append, prs_bar c _ h, prs_bar c _ h]
  | case3 c l h1 h2 ih => rw [List.cons_append, prs_blank c _ h2, prs_blank c _ h2, ih]
  | case4 c h1 h2 =>
    show Lx.prs (c :: (10 : UInt8) :: R) = Lx.prs [c]
    by_cases hc : 0 ≤ Lx.hexv (c.toNat : Int)
    · rw [prs_half c 10 R hc (by decide), prs_last c hc]
    · rw [prs_bad c _ h1 h2 (by omega), prs_bad c _ h1 h2 (by omega)]
  | case5 c h1 h2 d l' h3 ih => rw [List.cons_append, List.cons_append, prs_two c d _ h3.1 h3.2, prs_two c d _ h3.1 h3.2, ih]
  | case6 c h1 h2 d l' h3 =>
    rw [List.cons_append, List.cons_append]
    by_cases hc : 0 ≤ Lx.hexv (c.toNat : Int)
    · have hd : Lx.hexv (d.toNat : Int) < 0 := by
        by_cases h : 0 ≤ Lx.hexv (d.toNat : Int)
        · exact absurd ⟨hc, h⟩ h3
        · omega
      rw [prs_half c d _ hc hd, prs_half c d _ hc hd]
    · rw [prs_bad c _ h1 h2 (by omega), prs_bad c _ h1 h2 (by omega)]
theorem pairsP_app (R l : List UInt8) (c : UInt8) : Lx.pairsP (c :: l ++ (10 : UInt8) :: R) = Lx.pairsP (c :: l) := by
  rw [List.cons_append, pairsP_R, pairsP_R, prs_app]
theorem pairsP_fits (c : UInt8) (l : List UInt8) (hc : c.toNat < 128) : (Lx.pairsP (c :: l)).2 ≤ (c :: l).length := (Lx.pairsP_low c l hc).1
/-- any fuel that is enough -/
theorem quoted_app (R : List UInt8) : ∀ (f g : Nat) (l : List UInt8), l.length + R.length + 1 ≤ f → l.length ≤ g → Lx.quoted f (l ++ (10 : UInt8) :: R) = Lx.quoted g l := by
  intro f
  induction f with
  | zero => intro g l h; omega
  | succ f ih =>
    intro g l hf hg
    cases l with
    | nil =>
      rw [List.nil_append, quoted_nil, quoted_bad f 10 R (by decide) (by decide) (by decide) (by decide)]
    | cons c l =>
      obtain ⟨g, rfl⟩ : ∃ g', g = g' + 1 := ⟨g - 1, by simp at hg; omega⟩
      simp only [List.length_cons] at hf hg
      rw [List.cons_append]
      by_cases h1 : c.toNat = 34
      · rw [quoted_end _ _ _ h1, quoted_end _ _ _ h1]
      · by_cases h2 : c.toNat = 124
        · rw [quoted_pairs _ _ _ h2, quoted_pairs _ _ _ h2, ← List.cons_append, pairsP_app]
          by_cases hz : (Lx.pairsP (c :: l)).2 = 0
          · rw [if_pos hz, if_pos hz]
          · rw [if_neg hz, if_neg hz]
            have hle := pairsP_fits c l (by omega)
            rw [drop_app _ _ _ hle, ih g ((c :: l).drop (Lx.pairsP (c :: l)).2) (by rw [List.length_drop]; simp only [List.length_cons] at hle ⊢; omega) (by rw [List.length_drop]; simp only [List.length_cons] at hle ⊢; omega)]
        · by_cases h3 : c.toNat = 92
          · rw [quoted_escape _ _ _ h3, quoted_escape _ _ _ h3, begins_app _ 10 (by decide)]
            by_cases hb : Lx.begins Lx.escaped l = true
            · rw [if_pos hb, if_pos hb]
              cases l with
              | nil => simp [Lx.begins] at hb
              | cons d l =>
                simp only [List.length_cons] at hf hg
                show Option.map _ (Lx.quoted f (l ++ (10 : UInt8) :: R)) = Option.map _ (Lx.quoted g l)
                rw [ih g l (by omega) (by omega)]
                rfl
            · rw [if_neg hb, if_neg hb]
          · by_cases h4 : 32 ≤ c.toNat ∧ c.toNat ≤ 126
            · rw [quoted_plain _ _ _ h1 h2 h3 h4, quoted_plain _ _ _ h1 h2 h3 h4, ih g l (by omega) (by omega)]
            · rw [quoted_bad _ _ _ h1 h2 h3 h4, quoted_bad _ _ _ h1 h2 h3 h4]
theorem bytesP_app (R l : List UInt8) (c : UInt8) : Lx.bytesP (c :: l ++ (10 : UInt8) :: R) = Lx.bytesP (c :: l) := by
  rw [List.cons_append, bytesP_R, bytesP_R, quoted_app R _ l.length l (by simp; omega) (Nat.le_refl _)]
theorem signP_app (R l : List UInt8) (c : UInt8) : Lx.signP (c :: l ++ (10 : UInt8) :: R) = Lx.signP (c :: l) := by
  cases l with
  | nil =>
    have e1 : ¬ (([c] ++ (10 : UInt8) :: R).take 2 = [45, 62] ∨ ([c] ++ (10 : UInt8) :: R).take 2 = [60, 62]) := by simp
    have e2 : ¬ ([c].take 2 = [45, 62] ∨ [c].take 2 = [60, 62]) := by simp
    unfold Lx.signP
    rw [if_neg e1, if_neg e2]
    rfl
  | cons d l => rfl
theorem one_app (R l : List UInt8) (c : UInt8) : Lx.one (c :: l ++ (10 : UInt8) :: R) = Lx.one (c :: l) := by
  have e : c :: l ++ (10 : UInt8) :: R = c :: (l ++ (10 : UInt8) :: R) := rfl
  rw [e, Lx.one_cons, Lx.one_cons, ← e, wordP_app stop10, numP_app stop10, bytesP_app, signP_app, e, Lx.varP_cons, Lx.varP_cons, wordP_app stop10]
theorem one_fits (l : List UInt8) : (Lx.one l).2 ≤ l.length := (Lx.one_low l).1
/-- enough fuel is enough -/
theorem lex_fuel : ∀ (f g : Nat) (l : List UInt8) (line : Int), l.length ≤ f → l.length ≤ g → Lx.lexF f l line = Lx.lexF g l line := by
  intro f
  induction f with
  | zero =>
    intro g l line hf hg
    have : l = [] := List.eq_nil_of_length_eq_zero (by omega)
    subst this
    rw [lex_nil, lex_nil]
  | succ f ih =>
    intro g l line hf hg
    cases l with
    | nil => rw [lex_nil, lex_nil]
    | cons c l =>
      obtain ⟨g, rfl⟩ : ∃ g', g = g' + 1 := ⟨g - 1, by simp at hg; omega⟩
      simp only [List.length_cons] at hf hg
      by_cases h1 : c.toNat = 10
      · rw [lex_line _ _ _ _ h1, lex_line _ _ _ _ h1, ih g l _ (by omega) (by omega)]
      · cases h2 : Lx.bt Lx.blank c with
        | true => rw [lex_blank _ _ _ _ h1 h2, lex_blank _ _ _ _ h1 h2, ih g l _ (by omega) (by omega)]
        | false =>
          by_cases h3 : c.toNat = 35
          · rw [lex_rem _ _ _ _ h3, lex_rem _ _ _ _ h3, ih g _ _ (by rw [List.length_drop]; omega) (by rw [List.length_drop]; omega)]
          · by_cases h4 : (Lx.one (c :: l)).2 = 0
            · rw [lex_bad _ _ _ _ h1 h2 h3 h4, lex_bad _ _ _ _ h1 h2 h3 h4]
            · rw [lex_tok _ _ _ _ h1 h2 h3 h4, lex_tok _ _ _ _ h1 h2 h3 h4, ih g _ _ (by rw [List.length_drop]; simp only [List.length_cons]; omega) (by rw [List.length_drop]; simp only [List.length_cons]; omega)]
/-- a text's tokens -/
def lexL (l : List UInt8) (line : Int) : Except Int (List Lx.Tok) := Lx.lexF l.length l line
theorem lexL_nil (line : Int) : lexL [] line = .ok [] := lex_nil _ _
theorem lexL_line (c : UInt8) (l : List UInt8) (line : Int) (h : c.toNat = 10) : lexL (c :: l) line = lexL l (line + 1) := lex_line _ _ _ _ h
theorem lexL_blank (c : UInt8) (l : List UInt8) (line : Int) (h0 : c.toNat ≠ 10) (h : Lx.bt Lx.blank c = true) : lexL (c :: l) line = lexL l line := lex_blank _ _ _ _ h0 h
theorem lexL_rem (c : UInt8) (l : List UInt8) (line : Int) (h : c.toNat = 35) : lexL (c :: l) line = lexL (l.drop (Lx.front Lx.inLine l).length) line := by
  unfold lexL
  rw [List.length_cons, lex_rem _ _ _ _ h]
  exact lex_fuel _ _ _ _ (by rw [List.length_drop]; omega) (Nat.le_refl _)
theorem lexL_bad (c : UInt8) (l : List UInt8) (line : Int) (h0 : c.toNat ≠ 10) (h1 : Lx.bt Lx.blank c = false) (h2 : c.toNat ≠ 35) (h : (Lx.one (c :: l)).2 = 0) : lexL (c :: l) line = .error line := lex_bad _ _ _ _ h0 h1 h2 h
theorem lexL_tok (c : UInt8) (l : List UInt8) (line : Int) (h0 : c.toNat ≠ 10) (h1 : Lx.bt Lx.blank c = false) (h2 : c.toNat ≠ 35) (h : (Lx.one (c :: l)).2 ≠ 0) : lexL (c :: l) line = Lx.more [(Lx.one (c :: l)).1.at line] (lexL ((c :: l).drop (Lx.one (c :: l)).2) line) := by
  unfold lexL
  rw [List.length_cons, lex_tok _ _ _ _ h0 h1 h2 h]
  congr 1
  exact lex_fuel _ _ _ _ (by rw [List.length_drop, List.length_cons]; omega) (Nat.le_refl _)
theorem allP_lex (l : List UInt8) (h : l.length ≤ 8192) : Lx.allP l = Lx.ansOf (lexL l 1) := by
  unfold Lx.allP
  rw [if_neg (by omega)]
  rfl
/-- induction on a text as it is read -/
theorem lex_ind {Q : List UInt8 → Prop} (h0 : Q []) (h : ∀ c l, (∀ n, n ≤ l.length → Q (l.drop n)) → Q (c :: l)) : ∀ l, Q l := by
  intro l
  suffices H : ∀ k (l : List UInt8), l.length ≤ k → Q l from H _ l (Nat.le_refl _)
  intro k
  induction k with
  | zero => intro l hl; rw [List.eq_nil_of_length_eq_zero (by omega : l.length = 0)]; exact h0
  | succ k ih =>
    intro l hl
    cases l with
    | nil => exact h0
    | cons c l => exact h c l (fun n hn => ih _ (by rw [List.length_drop]; simp at hl; omega))
/-- a line behind a text, and what says nothing -/
theorem lexL_app (R : List UInt8) (hR : ∀ ln, lexL R ln = .ok []) : ∀ (l : List UInt8) (line : Int), lexL (l ++ (10 : UInt8) :: R) line = lexL l line := by
  intro l
  induction l using lex_ind with
  | h0 => intro line; rw [List.nil_append, lexL_line _ _ _ rfl, hR, lexL_nil]
  | h c l ih =>
    intro line
    have ih0 := ih 0 (Nat.zero_le _)
    rw [List.drop_zero] at ih0
    by_cases h1 : c.toNat = 10
    · rw [List.cons_append, lexL_line _ _ _ h1, lexL_line _ _ _ h1, ih0]
    · cases h2 : Lx.bt Lx.blank c with
      | true => rw [List.cons_append, lexL_blank _ _ _ h1 h2, lexL_blank _ _ _ h1 h2, ih0]
      | false =>
        by_cases h3 : c.toNat = 35
        · rw [List.cons_append, lexL_rem _ _ _ h3, lexL_rem _ _ _ h3, front_app _ 10 (by decide), drop_app _ _ _ (Lx.front_le _ _), ih _ (Lx.front_le _ _)]
        · by_cases h4 : (Lx.one (c :: l)).2 = 0
          · rw [lexL_bad _ _ _ h1 h2 h3 h4, List.cons_append, lexL_bad _ _ _ h1 h2 h3 (by rw [← List.cons_append, one_app]; exact h4)]
          · have hle := one_fits (c :: l)
            obtain ⟨m, hm⟩ : ∃ m, (Lx.one (c :: l)).2 = m + 1 := ⟨(Lx.one (c :: l)).2 - 1, by omega⟩
            rw [lexL_tok _ _ _ h1 h2 h3 h4, List.cons_append, lexL_tok _ _ _ h1 h2 h3 (by rw [← List.cons_append, one_app]; exact h4), ← List.cons_append, one_app, drop_app _ _ _ hle, hm, List.drop_succ_cons]
            rw [hm, List.length_cons] at hle
            rw [ih m (by omega)]
/-- lines ahead -/
def shift (n : Int) : Except Int (List Lx.Tok) → Except Int (List Lx.Tok)
  | .ok l => .ok (l.map fun t => t.at (t.line + n))
  | .error k => .error (k + n)
theorem shift_more (n : Int) (t : Lx.Tok) (line : Int) (r : Except Int (List Lx.Tok)) : shift n (Lx.more [t.at line] r) = Lx.more [t.at (line + n)] (shift n r) := by
  cases r <;> rfl
theorem lexL_shift (n : Int) : ∀ (l : List UInt8) (line : Int), lexL l (line + n) = shift n (lexL l line) := by
  intro l
  induction l using lex_ind with
  | h0 => intro line; rw [lexL_nil, lexL_nil]; rfl
  | h c l ih =>
    intro line
    have ih0 := ih 0 (Nat.zero_le _)
    rw [List.drop_zero] at ih0
    by_cases h1 : c.toNat = 10
    · rw [lexL_line _ _ _ h1, lexL_line _ _ _ h1, ← ih0]
      congr 1
      omega
    · cases h2 : Lx.bt Lx.blank c with
      | true => rw [lexL_blank _ _ _ h1 h2, lexL_blank _ _ _ h1 h2, ih0]
      | false =>
        by_cases h3 : c.toNat = 35
        · rw [lexL_rem _ _ _ h3, lexL_rem _ _ _ h3, ih _ (Lx.front_le _ _)]
        · by_cases h4 : (Lx.one (c :: l)).2 = 0
          · rw [lexL_bad _ _ _ h1 h2 h3 h4, lexL_bad _ _ _ h1 h2 h3 h4]; rfl
          · have hle := one_fits (c :: l)
            obtain ⟨m, hm⟩ : ∃ m, (Lx.one (c :: l)).2 = m + 1 := ⟨(Lx.one (c :: l)).2 - 1, by omega⟩
            rw [lexL_tok _ _ _ h1 h2 h3 h4, lexL_tok _ _ _ h1 h2 h3 h4, shift_more, hm, List.drop_succ_cons]
            rw [hm, List.length_cons] at hle
            rw [ih m (by omega)]
/-- a line that says nothing -/
def Mute (m : List UInt8) : Prop := ∀ (R : List UInt8) (line : Int), lexL (m ++ R) line = lexL R (line + 1)
theorem mute1 : Mute [10] := fun R line => lexL_line _ _ _ rfl
theorem mute2 : Mute [32, 13, 10] := fun R line => by
  show lexL (32 :: 13 :: 10 :: R) line = _
  rw [lexL_blank _ _ _ (by decide) (by decide), lexL_blank _ _ _ (by decide) (by decide), lexL_line _ _ _ rfl]
theorem mute3 : Mute [35, 32, 119, 111, 114, 100, 115, 32, 34, 32, 36, 10] := fun R line => by
  show lexL (35 :: ([32, 119, 111, 114, 100, 115, 32, 34, 32, 36] ++ (10 : UInt8) :: R)) line = _
  rw [lexL_rem _ _ _ rfl, front_app _ 10 (by decide)]
  exact lexL_line _ _ _ rfl
def reps (m : List UInt8) : Nat → List UInt8
  | 0 => []
  | n + 1 => reps m n ++ m
theorem reps_mute {m : List UInt8} (h : Mute m) : ∀ (n : Nat) (R : List UInt8) (line : Int), lexL (reps m n ++ R) line = lexL R (line + n) := by
  intro n
  induction n with
  | zero => intro R line; simp [reps]
  | succ n ih =>
    intro R line
    rw [reps, List.append_assoc, ih, h]
    congr 1
    simp
    omega
theorem blanks_all {m : List UInt8} (h : Mute m) (n : Nat) (l : List UInt8) (hl : l.length ≤ 8192) (hb : (reps m n ++ l ++ [10] ++ reps m n ++ [35]).length ≤ 8192) : Lx.allP (reps m n ++ l ++ [10] ++ reps m n ++ [35]) = Lx.ansOf (shift n (lexL l 1)) ∧ Lx.allP l = Lx.ansOf (lexL l 1) := by
  refine ⟨?_, allP_lex l hl⟩
  rw [allP_lex _ hb]
  congr 1
  have e : reps m n ++ l ++ [10] ++ reps m n ++ [35] = reps m n ++ (l ++ (10 : UInt8) :: (reps m n ++ [35])) := by simp
  rw [e, reps_mute h, lexL_app _ ?_, lexL_shift]
  intro ln
  rw [reps_mute h, lexL_rem _ _ _ rfl]
  rfl
theorem reps_len (m : List UInt8) (n : Nat) : (reps m n).length = n * m.length := by
  induction n with
  | zero => simp [reps]
  | succ n ih => rw [reps, List.length_append, ih, Nat.succ_mul]
end Go.Proofs.YtepmncfgkmpccaaDoor
