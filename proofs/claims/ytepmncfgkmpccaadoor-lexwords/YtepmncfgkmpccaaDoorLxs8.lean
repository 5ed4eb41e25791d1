/- Layer 8: signOf, tokenOf. -/
import Derived.Test.YtepmncfgkmpccaaDoorLxs6
import Derived.Test.YtepmncfgkmpccaaDoorLxs7
import Derived.Test.YtepmncfgkmpccaaDoorTail
namespace Go.Proofs.YtepmncfgkmpccaaDoor
open Go.RowKit
set_option linter.unusedVariables false
set_option linter.unusedSimpArgs false

theorem oneSign_high (r : Int) (h : 128 ≤ r) : Lx.oneSign r = false := by
  simp [Lx.oneSign]; omega
theorem containsRune_any (r : Int) (w : World) (h0 : 0 ≤ r) (h1 : r ≤ 1114111) :
    Calls Tryd.prog 28 #[.string signsT, .int .i32 r] w fun e w' => e = .returned (.bool (Lx.oneSign r)) ∧ Below w.heap.size w w' := by
  by_cases h : r < 128
  · have hr : decide (0 ≤ Lib.indexByte signsT.data.toList r.toNat.toUInt8) = Lx.oneSign r := by
      have := signsT_has ⟨r.toNat, by omega⟩
      rw [show ((r.toNat : Nat) : Int) = r from Int.toNat_of_nonneg h0] at this
      exact this
    refine (Tryd.strings_ContainsRune_ascii signsT r w h0 h).mono ?_
    rintro e w' ⟨rfl, rfl⟩
    rw [hr]
    exact ⟨rfl, Below.refl _ _⟩
  · have cI := indexRune_high r w (by omega) h1
    rw [oneSign_high r (by omega)]
    generalize signsT = S at *
    clear h h0 h1
    go_enter Tryd.func28, Tryd.ntmps28
    go_wp2_with (go_at_call 39; go_must (refine cI.mono ?_; rintro e w1 ⟨rfl, hb⟩))
    go_ret
    exact ⟨rfl, hb⟩
theorem prefix_take (a b : UInt8) : ∀ l : List UInt8, Lib.hasPrefix l [a, b] = decide (l.take 2 = [a, b]) := by
  intro l
  match l with
  | [] => rfl
  | [x] => simp [Lib.hasPrefix, List.isPrefixOf]
  | x :: y :: l =>
    simp only [Lib.hasPrefix, List.isPrefixOf, List.take_succ_cons, List.take_zero]
    by_cases h1 : a = x
    · subst h1
      by_cases h2 : b = y
      · subst h2; simp
      · simp [h2, Ne.symm h2]
    · simp [h1, Ne.symm h1]
theorem string_take (s : ByteArray) (n : Nat) (h : n ≤ s.size) : s.extract 0 n = ⟨(s.data.toList.take n).toArray⟩ := by
  have h2 := (extract_to s n h).2
  rw [← h2]
theorem take2_size (s : ByteArray) (a b : UInt8) (h : s.data.toList.take 2 = [a, b]) : 2 ≤ s.size := by
  have := congrArg List.length h
  rw [List.length_take] at this
  simp at this
  omega
/-- the rune that a text begins with -/
def Rune0 (s : ByteArray) (r : Int) : Prop := 0 < s.size ∧ 0 ≤ r ∧ r ≤ 1114111 ∧ (((s.data.toList.getD 0 0).toNat < 128 ∧ r = ((s.data.toList.getD 0 0).toNat : Int)) ∨ (128 ≤ (s.data.toList.getD 0 0).toNat ∧ 128 ≤ r))
theorem Rune0.at0 {s : ByteArray} {r : Int} (h : Rune0 s r) : s.data.toList = s.data.toList.getD 0 0 :: s.data.toList.drop 1 := by
  have := drop_at' s 0 h.1
  rwa [List.drop_zero] at this
theorem Rune0.bt {s : ByteArray} {r : Int} (h : Rune0 s r) (p : Int → Bool) (hp : ∀ r : Int, 128 ≤ r → p r = false) : Lx.bt p (s.data.toList.getD 0 0) = p r := by
  obtain ⟨h0, h1, h2, ⟨h3, h4⟩ | ⟨h3, h4⟩⟩ := h
  · rw [h4]; rfl
  · rw [hp r h4]; exact hp _ (by omega)
theorem Rune0.is {s : ByteArray} {r : Int} (h : Rune0 s r) (n : Nat) (hn : n < 128) : ((s.data.toList.getD 0 0).toNat = n) ↔ r = (n : Int) := by
  obtain ⟨h0, h1, h2, ⟨h3, h4⟩ | ⟨h3, h4⟩⟩ := h
  · omega
  · omega
set_option maxHeartbeats 1000000 in
theorem signOf_any (r : Int) (s : ByteArray) (w : World) (hr : Rune0 s r) :
    Calls Tryd.prog 19 #[.int .i32 r, .string s] w fun e w' => e = .returned (.string ⟨(Lx.signP s.data.toList).toArray⟩) ∧ Below w.heap.size w w' := by
  have c1 := Tryd.strings_HasPrefix s ⟨#[45, 62]⟩ w
  have c2 := Tryd.strings_HasPrefix s ⟨#[60, 62]⟩ w
  have c3 := containsRune_any r w hr.2.1 hr.2.2.1
  rw [show (⟨#[45, 62]⟩ : ByteArray).data.toList = [45, 62] from rfl, prefix_take] at c1
  rw [show (⟨#[60, 62]⟩ : ByteArray).data.toList = [60, 62] from rfl, prefix_take] at c2
  have hb : Lx.begins Lx.oneSign s.data.toList = Lx.oneSign r := by
    rw [hr.at0]
    exact hr.bt Lx.oneSign oneSign_high
  obtain ⟨A, hA⟩ : ∃ A : ByteArray, (⟨(Lx.signP s.data.toList).toArray⟩ : ByteArray) = A := ⟨_, rfl⟩
  rw [hA]
  unfold Lx.signP at hA
  rw [hb] at hA
  have h1 : (1 : Int) ≤ (s.size : Int) := by have := hr.1; omega
  have e1 := string_take s 1 (by omega)
  unfold signsT at c3
  by_cases ha : s.data.toList.take 2 = [45, 62]
  · rw [if_pos (Or.inl ha), ← string_take s 2 (take2_size s _ _ ha)] at hA
    rw [decide_eq_true ha] at c1
    have h2 : (2 : Int) ≤ (s.size : Int) := by have := take2_size s _ _ ha; omega
    subst hA
    clear c2 c3 hb ha e1
    go_enter Tryd.func19, Tryd.ntmps19
    go_wp2_with (go_at_call 27; go_must (refine c1.mono ?_; rintro e w1 ⟨rfl, rfl⟩))
    go_ret
    exact ⟨rfl, Below.refl _ _⟩
  · rw [decide_eq_false ha] at c1
    by_cases hb2 : s.data.toList.take 2 = [60, 62]
    · rw [if_pos (Or.inr hb2), ← string_take s 2 (take2_size s _ _ hb2)] at hA
      rw [decide_eq_true hb2] at c2
      have h2 : (2 : Int) ≤ (s.size : Int) := by have := take2_size s _ _ hb2; omega
      subst hA
      clear c3 hb ha hb2 e1
      go_enter Tryd.func19, Tryd.ntmps19
      go_wp2_with (first | (go_at_call 27; refine c1.mono ?_; rintro e w1 ⟨rfl, rfl⟩) | (go_at_call 27; refine c2.mono ?_; rintro e w1 ⟨rfl, rfl⟩))
      go_ret
      exact ⟨rfl, Below.refl _ _⟩
    · rw [decide_eq_false hb2] at c2
      rw [if_neg (by rintro (h | h); exact ha h; exact hb2 h)] at hA
      cases ho : Lx.oneSign r with
      | true =>
        rw [ho] at hA c3
        rw [if_pos rfl, ← e1] at hA
        subst hA
        clear hb ha hb2 e1 ho
        go_enter Tryd.func19, Tryd.ntmps19
        go_wp2_with (first | (go_at_call 28; refine c3.mono ?_; rintro e w1 ⟨rfl, hbw⟩) | (go_at_call 27; refine c1.mono ?_; rintro e w1 ⟨rfl, rfl⟩) | (go_at_call 27; refine c2.mono ?_; rintro e w1 ⟨rfl, rfl⟩))
        go_ret
        exact ⟨rfl, hbw⟩
      | false =>
        rw [ho] at hA c3
        rw [if_neg (by simp)] at hA
        subst hA
        clear hb ha hb2 e1 ho
        go_enter Tryd.func19, Tryd.ntmps19
        go_wp2_with (first | (go_at_call 28; refine c3.mono ?_; rintro e w1 ⟨rfl, hbw⟩) | (go_at_call 27; refine c1.mono ?_; rintro e w1 ⟨rfl, rfl⟩) | (go_at_call 27; refine c2.mono ?_; rintro e w1 ⟨rfl, rfl⟩))
        go_ret
        exact ⟨rfl, hbw⟩
/-- a token's cells -/
def tokV (t : Lx.Tok) : Array Value := #[.int .i64 t.kind, .string ⟨t.s.toArray⟩, .int .i64 t.n, .int .i64 t.line]
theorem letter_no (r : Int) (h : 128 ≤ r) : Lx.letter r = false := by simp [Lx.letter]; omega
theorem digit_no (r : Int) (h : 128 ≤ r) : Lx.digit r = false := by simp [Lx.digit]; omega
theorem tok_new {w w2 : World} {A : Array Value} {t : TypeId} (h : Below (w.alloc (.cells A t)).heap.size (w.alloc (.cells A t)) w2) :
    (∀ o, w2.cell? ⟨w.heap.size, o, none⟩ = A[o]?) ∧ (∀ o, w2.frozen? ⟨w.heap.size, o, none⟩ = false) ∧ w.heap.size < w2.heap.size ∧ Hid (Below w.heap.size w w2) := by
  have h' : Below (w.heap.size + 1) (w.alloc (.cells A t)) w2 := by simpa using h
  obtain ⟨h1, h2, h3⟩ := new_in h'
  exact ⟨h1, h2, h3, ((Below.refl _ _).alloc (Nat.le_refl _) _).trans (h'.mono (Nat.le_succ _))⟩
set_option maxHeartbeats 1000000 in
theorem tokenOf_any (r : Int) (s : ByteArray) (w : World) (hs : s.size ≤ 8192) (hr : Rune0 s r) :
    Calls Tryd.prog 11 #[.int .i32 r, .string s] w fun e w' => e = .returned (.tuple #[.agg (tokV (Lx.one s.data.toList).1), .int .i64 ((Lx.one s.data.toList).2 : Int)]) ∧ Below w.heap.size w w' := by
  have hL := hr.bt Lx.letter letter_no
  have hD := hr.bt Lx.digit digit_no
  have h36 := hr.is 36 (by omega)
  have h34 := hr.is 34 (by omega)
  have cL := fun u => isLetter_any r u
  have cD := fun u => isDigit_any r u
  have hat := hr.at0
  obtain ⟨x, hx⟩ : ∃ x, s.data.toList.getD 0 0 = x := ⟨_, rfl⟩
  rw [hx] at hL hD h36 h34 hat
  have hone := Lx.one_cons x (s.data.toList.drop 1)
  rw [← hat, hL, hD] at hone
  obtain ⟨T, hT⟩ : ∃ T, Lx.one s.data.toList = T := ⟨_, rfl⟩
  rw [hT]
  rw [hT] at hone
  cases hl : Lx.letter r with
  | true =>
    have c1 := fun u => wordOf_any s u hs
    rw [hl, if_pos rfl] at hone
    rw [hl] at cL
    generalize Lx.wordP s.data.toList = Z at *
    subst hone
    clear hT cD hL hD h36 h34 hat hx hl
    go_enter Tryd.func11, Tryd.ntmps11
    go_wp2_with (first | (go_at_call 13; go_must (refine (cL _).mono ?_; rintro e w1 ⟨rfl, rfl⟩)) | (go_at_call 14; go_must (refine (c1 _).mono ?_; rintro e w2 ⟨rfl, hb2⟩; obtain ⟨hc2, hf2, hz2, HB2⟩ := tok_new hb2; clear hb2)))
    obtain ⟨wx, hwx, hrw, HBX⟩ := set_row (vs := [.int .i64 1, .string ⟨Z.1.toArray⟩, .int .i64 0, .int .i64 0]) hc2 HB2 rfl
    change bodyPost _ _ _ _ _ (w2.setCells w.heap.size 0 [.int .i64 1, .string ⟨Z.1.toArray⟩, .int .i64 0, .int .i64 0])
    rw [hwx]
    clear hc2 hf2 HB2 hwx
    exact bodyPost_ret (v := .tuple #[.agg #[.int .i64 1, .string ⟨Z.1.toArray⟩, .int .i64 0, .int .i64 0], .int .i64 (Z.2 : Int)]) (by simp [results, Tryd.results11, go_sem, hrw]) rfl ⟨rfl, HBX.out⟩
  | false =>
    rw [hl, if_neg Bool.false_ne_true] at hone
    rw [hl] at cL
    cases hd : Lx.digit r with
    | true =>
      have c1 := fun u => numberOf_any s u hs
      rw [hd, if_pos rfl] at hone
      rw [hd] at cD
      generalize Lx.numP s.data.toList = Z at *
      subst hone
      clear hT hL hD h36 h34 hat hx hl hd
      go_enter Tryd.func11, Tryd.ntmps11
      go_wp2_with (first | (go_at_call 13; go_must (refine (cL _).mono ?_; rintro e w1 ⟨rfl, rfl⟩)) | (go_at_call 15; go_must (refine (cD _).mono ?_; rintro e w1 ⟨rfl, rfl⟩)) | (go_at_call 16; go_must (refine (c1 _).mono ?_; rintro e w2 ⟨rfl, hb2⟩; obtain ⟨hc2, hf2, hz2, HB2⟩ := tok_new hb2; clear hb2)))
      obtain ⟨wx, hwx, hrw, HBX⟩ := set_row (vs := [.int .i64 2, .string ⟨#[]⟩, .int .i64 (Z.1 : Int), .int .i64 0]) hc2 HB2 rfl
      change bodyPost _ _ _ _ _ (w2.setCells w.heap.size 0 [.int .i64 2, .string ⟨#[]⟩, .int .i64 (Z.1 : Int), .int .i64 0])
      rw [hwx]
      clear hc2 hf2 HB2 hwx
      exact bodyPost_ret (v := .tuple #[.agg #[.int .i64 2, .string ⟨#[]⟩, .int .i64 (Z.1 : Int), .int .i64 0], .int .i64 (Z.2 : Int)]) (by simp [results, Tryd.results11, go_sem, hrw]) rfl ⟨rfl, HBX.out⟩
    | false =>
      rw [hd, if_neg Bool.false_ne_true] at hone
      rw [hd] at cD
      by_cases h6 : x.toNat = 36
      · have hr6 : r = 36 := h36.1 h6
        subst hr6
        have c1 := fun u => varOf_any x s u hs hat
        rw [if_pos h6] at hone
        generalize Lx.varP s.data.toList = Z at *
        subst hone
        clear hT hL hD h36 h34 hat hx hl hd h6
        go_enter Tryd.func11, Tryd.ntmps11
        go_wp2_with (first | (go_at_call 13; go_must (refine (cL _).mono ?_; rintro e w1 ⟨rfl, rfl⟩)) | (go_at_call 15; go_must (refine (cD _).mono ?_; rintro e w1 ⟨rfl, rfl⟩)) | (go_at_call 17; go_must (refine (c1 _).mono ?_; rintro e w2 ⟨rfl, hb2⟩; obtain ⟨hc2, hf2, hz2, HB2⟩ := tok_new hb2; clear hb2)))
        obtain ⟨wx, hwx, hrw, HBX⟩ := set_row (vs := [.int .i64 5, .string ⟨Z.1.toArray⟩, .int .i64 0, .int .i64 0]) hc2 HB2 rfl
        change bodyPost _ _ _ _ _ (w2.setCells w.heap.size 0 [.int .i64 5, .string ⟨Z.1.toArray⟩, .int .i64 0, .int .i64 0])
        rw [hwx]
        clear hc2 hf2 HB2 hwx
        exact bodyPost_ret (v := .tuple #[.agg #[.int .i64 5, .string ⟨Z.1.toArray⟩, .int .i64 0, .int .i64 0], .int .i64 (Z.2 : Int)]) (by simp [results, Tryd.results11, go_sem, hrw]) rfl ⟨rfl, HBX.out⟩
      · rw [if_neg h6] at hone
        have hr6 : ¬ (r = 36) := fun h => h6 (h36.2 h)
        have hr6b : (r == 36) = false := by simpa using hr6
        by_cases h4 : x.toNat = 34
        · have hr4 : r = 34 := h34.1 h4
          subst hr4
          have c1 := fun u => bytesOf_any s u hs hr.1 (by rw [hx]; exact h4)
          rw [if_pos h4] at hone
          generalize Lx.bytesP s.data.toList = Z at *
          subst hone
          clear hT hL hD h36 h34 hat hx hl hd h6 h4 hr6 hr6b
          go_enter Tryd.func11, Tryd.ntmps11
          go_wp2_with (first | (go_at_call 13; go_must (refine (cL _).mono ?_; rintro e w1 ⟨rfl, rfl⟩)) | (go_at_call 15; go_must (refine (cD _).mono ?_; rintro e w1 ⟨rfl, rfl⟩)) | (go_at_call 18; go_must (refine (c1 _).mono ?_; rintro e w2 ⟨rfl, hb2⟩; obtain ⟨hc2, hf2, hz2, HB2⟩ := tok_new hb2; clear hb2)))
          obtain ⟨wx, hwx, hrw, HBX⟩ := set_row (vs := [.int .i64 3, .string ⟨Z.1.toArray⟩, .int .i64 0, .int .i64 0]) hc2 HB2 rfl
          change bodyPost _ _ _ _ _ (w2.setCells w.heap.size 0 [.int .i64 3, .string ⟨Z.1.toArray⟩, .int .i64 0, .int .i64 0])
          rw [hwx]
          clear hc2 hf2 HB2 hwx
          exact bodyPost_ret (v := .tuple #[.agg #[.int .i64 3, .string ⟨Z.1.toArray⟩, .int .i64 0, .int .i64 0], .int .i64 (Z.2 : Int)]) (by simp [results, Tryd.results11, go_sem, hrw]) rfl ⟨rfl, HBX.out⟩
        · rw [if_neg h4] at hone
          have hr4 : ¬ (r = 34) := fun h => h4 (h34.2 h)
          have hr4b : (r == 34) = false := by simpa using hr4
          have c1 := fun u => signOf_any r s u hr
          generalize Lx.signP s.data.toList = Z at *
          subst hone
          clear hT hL hD h36 h34 hat hx hl hd h6 h4
          go_enter Tryd.func11, Tryd.ntmps11
          go_wp2_with (first | (go_at_call 13; go_must (refine (cL _).mono ?_; rintro e w1 ⟨rfl, rfl⟩)) | (go_at_call 15; go_must (refine (cD _).mono ?_; rintro e w1 ⟨rfl, rfl⟩)) | (go_at_call 19; go_must (refine (c1 _).mono ?_; rintro e w2 ⟨rfl, hb2⟩; obtain ⟨hc2, hf2, hz2, HB2⟩ := tok_new hb2; clear hb2)))
          obtain ⟨wx, hwx, hrw, HBX⟩ := set_row (vs := [.int .i64 4, .string ⟨Z.toArray⟩, .int .i64 0, .int .i64 0]) hc2 HB2 rfl
          change bodyPost _ _ _ _ _ (w2.setCells w.heap.size 0 [.int .i64 4, .string ⟨Z.toArray⟩, .int .i64 0, .int .i64 0])
          rw [hwx]
          clear hc2 hf2 HB2 hwx
          exact bodyPost_ret (v := .tuple #[.agg #[.int .i64 4, .string ⟨Z.toArray⟩, .int .i64 0, .int .i64 0], .int .i64 (Z.length : Int)]) (by simp [results, Tryd.results11, go_sem, hrw]) rfl ⟨rfl, HBX.out⟩
end Go.Proofs.YtepmncfgkmpccaaDoor
