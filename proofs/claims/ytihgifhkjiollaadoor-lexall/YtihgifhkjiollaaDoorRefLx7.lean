/- The reference of layer 8: one. -/
import Derived.Test.YtihgifhkjiollaaDoorRefLx6
namespace Go.Proofs.YtihgifhkjiollaaDoor
open Go.RowKit
set_option linter.unusedVariables false
set_option linter.unusedSimpArgs false

theorem wordP_len2 (l : List UInt8) : (Lx.wordP l).1.length = (Lx.wordP l).2 := by
  unfold Lx.wordP
  split
  · simp
  · rfl
/-- what one answers -/
def OneP (s : ByteArray) (i : Nat) (e : Ending) : Prop := ∃ (t : Lx.Tok) (n : Nat) (ok : Bool), e = .returned (.tuple #[.agg (tokV t), .int .i64 (n : Int), .bool ok]) ∧
  ((ok = true ∧ (Lx.one (s.data.toList.drop i)).2 ≠ 0 ∧ t = (Lx.one (s.data.toList.drop i)).1 ∧ n = i + (Lx.one (s.data.toList.drop i)).2) ∨ (ok = false ∧ (Lx.one (s.data.toList.drop i)).2 = 0))
theorem OneP.of (s : ByteArray) (i : Nat) (T : Lx.Tok × Nat) (hT : Lx.one (s.data.toList.drop i) = T) (t : Lx.Tok) (n : Nat) (ok : Bool) (h : (ok = true ∧ T.2 ≠ 0 ∧ t = T.1 ∧ n = i + T.2) ∨ (ok = false ∧ T.2 = 0)) :
    OneP s i (.returned (.tuple #[.agg (tokV t), .int .i64 (n : Int), .bool ok])) := by
  subst hT
  exact ⟨t, n, ok, rfl, h⟩
/-- a string, empty or not -/
theorem emp_of (l : List UInt8) (W : ByteArray) (h : (⟨l.toArray⟩ : ByteArray) = W) : (W.toList == []) = decide (l.length = 0) := by
  rw [toList_data, ← h]
  cases l with
  | nil => rfl
  | cons a l => simp
set_option maxHeartbeats 4000000 in
set_option maxRecDepth 100000 in
theorem rOne (s : ByteArray) (i : Nat) (w : World) (hs : s.size ≤ 8192) (hi : i < s.size) :
    Calls Tryd.prog 17 #[.string s, .int .i64 (i : Int)] w fun e w' => OneP s i e ∧ Below w.heap.size w w' := by
  have hlen : s.data.toList.length = s.size := by simp
  have hms : s.size ≤ maxLen := by unfold maxLen; omega
  have cL := fun u => rLetter s i u hms
  have cD := fun u => rDigit s i u hms
  obtain ⟨p1, hp1⟩ : ∃ p, i + 1 = p := ⟨_, rfl⟩
  have hp1i : (i : Int) + 1 = (p1 : Int) := by omega
  have hp1b : (p1 : Int) ≤ 8193 := by omega
  have hii : (i : Int) < (s.size : Int) := by omega
  have hib : (i : Int) ≤ 8192 := by omega
  have hcons := drop_at' s i hi
  have hbyte := getD_at s i hi
  rw [hbyte] at hcons
  obtain ⟨x, hxd⟩ : ∃ x, s[i]'hi = x := ⟨_, rfl⟩
  rw [hxd] at hcons
  have hone := Lx.one_cons x (s.data.toList.drop (i + 1))
  rw [hcons] at cL cD
  have e1 : ∀ p, Lx.begins p (x :: s.data.toList.drop (i + 1)) = Lx.bt p x := fun _ => rfl
  rw [e1] at cL cD
  rw [← hcons] at hone
  cases hl : Lx.bt Lx.letter x with
  | true =>
    have c1 := fun u => rWord s i u hs (by omega)
    rw [hl, if_pos rfl] at hone
    rw [hl] at cL
    have hzl := wordP_len2 (s.data.toList.drop i)
    generalize Lx.wordP (s.data.toList.drop i) = Z at *
    obtain ⟨W, hW⟩ : ∃ W : ByteArray, (⟨Z.1.toArray⟩ : ByteArray) = W := ⟨_, rfl⟩
    have hemp := emp_of _ _ hW
    rw [hzl] at hemp
    rw [hW] at c1
    have fin : Hid (∀ n : Nat, (Z.2 ≠ 0 → n = i + Z.2) → OneP s i (.returned (.tuple #[.agg #[.int .i64 1, .string W, .int .i64 0, .int .i64 0], .int .i64 (n : Int), .bool (!decide (Z.2 = 0))]))) := by
      intro n hn
      have h := OneP.of s i _ hone ⟨1, Z.1, 0, 0⟩ n (!decide (Z.2 = 0)) (by
        by_cases h : Z.2 = 0
        · exact Or.inr ⟨by simp [h], h⟩
        · exact Or.inl ⟨by simp [h], h, rfl, hn h⟩)
      rw [← hW]
      exact h
    clear cD hcons hbyte hone e1 hl hp1 hzl hW
    go_enter Tryd.func17, Tryd.ntmps17
    go_wp2_with (first | (go_at_call 26; go_must (refine (cL _).mono ?_; rintro e w1 ⟨rfl, rfl⟩)) | (go_at_call 27; go_must (refine (c1 _).mono ?_; rintro e w2 ⟨⟨n, rfl, hn, hns⟩, hb2⟩; obtain ⟨hc2, hf2, hz2, HB2⟩ := tok_new hb2; clear hb2)))
    obtain ⟨wx, hwx, hrw, HBX⟩ := set_row (vs := [.int .i64 1, .string W, .int .i64 0, .int .i64 0]) hc2 HB2 rfl
    change bodyPost _ _ _ _ _ (w2.setCells w.heap.size 0 [.int .i64 1, .string W, .int .i64 0, .int .i64 0])
    rw [hwx]
    clear hc2 hf2 HB2 hwx
    exact bodyPost_ret (v := .tuple #[.agg #[.int .i64 1, .string W, .int .i64 0, .int .i64 0], .int .i64 (n : Int), .bool (!decide (Z.2 = 0))]) (by simp [results, Tryd.results17, go_sem, hrw]) rfl ⟨fin.out n hn, HBX.out⟩
  | false =>
    rw [hl, if_neg Bool.false_ne_true] at hone
    rw [hl] at cL
    cases hd : Lx.bt Lx.digit x with
    | true =>
      have c0 := fun u => rNumber s i u hs (by omega)
      rw [hd, if_pos rfl] at hone
      rw [hd] at cD
      have hfr : (Lx.front Lx.digit (s.data.toList.drop i)).length ≠ 0 := by
        rw [hcons, Lx.front_cons, if_pos hd]
        simp
      have fin : Hid (∀ v n : Nat, n = i + (Lx.front Lx.digit (s.data.toList.drop i)).length → v = capv (Lx.val (Lx.front Lx.digit (s.data.toList.drop i))) → OneP s i (.returned (.tuple #[.agg #[.int .i64 2, .string ⟨#[]⟩, .int .i64 (v : Int), .int .i64 0], .int .i64 (n : Int), .bool (decide (v ≤ 999999999999) && !Lx.begins Lx.letter (s.data.toList.drop n))]))) := by
        intro v n hn hv
        refine OneP.of s i _ hone ⟨2, [], (v : Int), 0⟩ n _ ?_
        have hdd : s.data.toList.drop n = (s.data.toList.drop i).drop (Lx.front Lx.digit (s.data.toList.drop i)).length := by rw [List.drop_drop, hn]
        rw [hdd]
        generalize s.data.toList.drop i = D at *
        unfold Lx.numP
        generalize Lx.front Lx.digit D = F at *
        by_cases hb : Lx.begins Lx.letter (D.drop F.length) = true
        · rw [if_pos (Or.inl hb), hb]
          exact Or.inr ⟨by simp, rfl⟩
        · by_cases hv2 : 999999999999 < Lx.val F
          · rw [if_pos (Or.inr hv2)]
            have : ¬ (v ≤ 999999999999) := by
              rw [hv]; unfold capv; split <;> omega
            exact Or.inr ⟨by simp [this], rfl⟩
          · rw [if_neg (by rintro (h | h); exact hb h; exact hv2 h)]
            have hvv : v = Lx.val F := by
              rw [hv]; unfold capv; rw [if_pos (by omega)]
            refine Or.inl ⟨?_, hfr, by rw [hvv], hn⟩
            have h1 : v ≤ 999999999999 := by omega
            have h2 : Lx.begins Lx.letter (D.drop F.length) = false := by simpa using hb
            rw [h2]; simp [h1]
      have cN : ∀ u, Calls Tryd.prog 29 #[.string s, .int .i64 (i : Int)] u fun e w' => (∃ (v n : Nat) (B : Bool), e = .returned (.tuple #[.int .i64 (v : Int), .int .i64 (n : Int), .bool B]) ∧ OneP s i (.returned (.tuple #[.agg #[.int .i64 2, .string ⟨#[]⟩, .int .i64 (v : Int), .int .i64 0], .int .i64 (n : Int), .bool B]))) ∧ Below u.heap.size u w' := by
        intro u
        refine (c0 u).mono ?_
        rintro e w' ⟨⟨v, n, rfl, hn, hv, hns⟩, rfl⟩
        exact ⟨⟨v, n, _, rfl, fin.out v n hn hv⟩, Below.refl _ _⟩
      clear hcons hbyte hone e1 hl hd hp1 c0 hfr fin
      go_enter Tryd.func17, Tryd.ntmps17
      go_wp2_with (first | (go_at_call 26; go_must (refine (cL _).mono ?_; rintro e w1 ⟨rfl, rfl⟩)) | (go_at_call 28; go_must (refine (cD _).mono ?_; rintro e w1 ⟨rfl, rfl⟩)) | (go_at_call 29; go_must (refine (cN _).mono ?_; rintro e w2 ⟨⟨v, n, B, rfl, hfin0⟩, hb2⟩; have hfin : Hid (OneP s i (.returned (.tuple #[.agg #[.int .i64 2, .string ⟨#[]⟩, .int .i64 (v : Int), .int .i64 0], .int .i64 (n : Int), .bool B]))) := hfin0; clear hfin0; obtain ⟨hc2, hf2, hz2, HB2⟩ := tok_new hb2; clear hb2)))
      obtain ⟨wx, hwx, hrw, HBX⟩ := set_row (vs := [.int .i64 2, .string ⟨#[]⟩, .int .i64 (v : Int), .int .i64 0]) hc2 HB2 rfl
      change bodyPost _ _ _ _ _ (w2.setCells w.heap.size 0 [.int .i64 2, .string ⟨#[]⟩, .int .i64 (v : Int), .int .i64 0])
      rw [hwx]
      clear hc2 hf2 HB2 hwx
      exact bodyPost_ret (v := .tuple #[.agg #[.int .i64 2, .string ⟨#[]⟩, .int .i64 (v : Int), .int .i64 0], .int .i64 (n : Int), .bool B]) (by simp [results, Tryd.results17, go_sem, hrw]) rfl ⟨hfin.out, HBX.out⟩
    | false =>
      rw [hd, if_neg Bool.false_ne_true] at hone
      rw [hd] at cD
      by_cases h36 : x.toNat = 36
      · have hx36 : ((x.toNat : Int) == 36) = true := by simp; omega
        have c1 := fun u => rWord s p1 u hs (by omega)
        rw [if_pos h36] at hone
        have hvp : Lx.varP (x :: s.data.toList.drop (i + 1)) = if (Lx.wordP (s.data.toList.drop p1)).2 = 0 then ([], 0) else ((Lx.wordP (s.data.toList.drop p1)).1, (Lx.wordP (s.data.toList.drop p1)).2 + 1) := by rw [Lx.varP_cons, hp1]
        rw [← hcons] at hvp
        rw [hvp] at hone
        have hzl := wordP_len2 (s.data.toList.drop p1)
        generalize Lx.wordP (s.data.toList.drop p1) = Z at *
        obtain ⟨W, hW⟩ : ∃ W : ByteArray, (⟨Z.1.toArray⟩ : ByteArray) = W := ⟨_, rfl⟩
        have hemp := emp_of _ _ hW
        rw [hzl] at hemp
        rw [hW] at c1
        have fin : Hid (∀ n : Nat, (Z.2 ≠ 0 → n = p1 + Z.2) → OneP s i (.returned (.tuple #[.agg #[.int .i64 5, .string W, .int .i64 0, .int .i64 0], .int .i64 (n : Int), .bool (!decide (Z.2 = 0))]))) := by
          intro n hn
          have h := OneP.of s i _ hone ⟨5, Z.1, 0, 0⟩ n (!decide (Z.2 = 0)) (by
            by_cases h : Z.2 = 0
            · exact Or.inr ⟨by simp [h], by simp [h]⟩
            · refine Or.inl ⟨by simp [h], by simp [h], by simp [h], ?_⟩
              rw [hn h, if_neg h]
              show p1 + Z.2 = i + (Z.2 + 1)
              omega)
          rw [← hW]
          exact h
        clear hcons hbyte hone e1 hl hd hp1 hzl hW hvp h36
        go_enter Tryd.func17, Tryd.ntmps17
        go_wp2_with (first | (go_at_call 26; go_must (refine (cL _).mono ?_; rintro e w1 ⟨rfl, rfl⟩)) | (go_at_call 28; go_must (refine (cD _).mono ?_; rintro e w1 ⟨rfl, rfl⟩)) | (go_at_call 27; go_must (refine (c1 _).mono ?_; rintro e w2 ⟨⟨n, rfl, hn, hns⟩, hb2⟩; obtain ⟨hc2, hf2, hz2, HB2⟩ := tok_new hb2; clear hb2)))
        obtain ⟨wx, hwx, hrw, HBX⟩ := set_row (vs := [.int .i64 5, .string W, .int .i64 0, .int .i64 0]) hc2 HB2 rfl
        change bodyPost _ _ _ _ _ (w2.setCells w.heap.size 0 [.int .i64 5, .string W, .int .i64 0, .int .i64 0])
        rw [hwx]
        clear hc2 hf2 HB2 hwx
        exact bodyPost_ret (v := .tuple #[.agg #[.int .i64 5, .string W, .int .i64 0, .int .i64 0], .int .i64 (n : Int), .bool (!decide (Z.2 = 0))]) (by simp [results, Tryd.results17, go_sem, hrw]) rfl ⟨fin.out n hn, HBX.out⟩
      · have hx36 : ((x.toNat : Int) == 36) = false := by simp; omega
        rw [if_neg h36] at hone
        by_cases h34 : x.toNat = 34
        · have hx34 : ((x.toNat : Int) == 34) = true := by simp; omega
          rw [if_pos h34] at hone
          have hbp : Lx.bytesP (s.data.toList.drop i) = bytesR (Lx.quoted (s.data.toList.drop p1).length (s.data.toList.drop p1)) := by rw [hcons, bytesP_R, hp1]
          rw [hcons, ← hcons, hbp] at hone
          have hlp : (s.data.toList.drop p1).length = s.size - p1 := by rw [List.length_drop, hlen]
          obtain ⟨RR, hRR⟩ : ∃ RR, Lx.quoted (s.data.toList.drop p1).length (s.data.toList.drop p1) = RR := ⟨_, rfl⟩
          rw [hRR] at hone
          have c0 := fun u => rBytes s p1 (s.data.toList.drop p1).length u hs (by omega) (by rw [hlp]; omega) RR hRR
          have cN : ∀ u, Calls Tryd.prog 30 #[.string s, .int .i64 (p1 : Int)] u fun e w' => (∃ (t : ByteArray) (n : Nat) (B : Bool), e = .returned (.tuple #[.string t, .int .i64 (n : Int), .bool B]) ∧ OneP s i (.returned (.tuple #[.agg #[.int .i64 3, .string t, .int .i64 0, .int .i64 0], .int .i64 (n : Int), .bool B]))) ∧ Below u.heap.size u w' := by
            intro u
            refine (c0 u).mono ?_
            rintro e w' ⟨⟨t, n, ok, rfl, hn, hk, hh⟩, hb⟩
            refine ⟨⟨t, n, ok, rfl, ?_⟩, hb⟩
            have h := OneP.of s i _ hone ⟨3, t.data.toList, 0, 0⟩ n ok (by
              rcases hh with ⟨p, rfl, rfl, rfl, rfl⟩ | ⟨rfl, rfl⟩
              · refine Or.inl ⟨rfl, ?_, rfl, ?_⟩
                · show p.2 + 1 ≠ 0
                  omega
                · show p1 + p.2 = i + (p.2 + 1)
                  omega
              · exact Or.inr ⟨rfl, rfl⟩)
            have e : tokV ⟨3, t.data.toList, 0, 0⟩ = #[.int .i64 3, .string t, .int .i64 0, .int .i64 0] := by
              unfold tokV
              rw [← ba_of t]
            rw [e] at h
            exact h
          clear hcons hbyte hone e1 hl hd hp1 c0 hRR hbp hlp h36 h34
          go_enter Tryd.func17, Tryd.ntmps17
          go_wp2_with (first | (go_at_call 26; go_must (refine (cL _).mono ?_; rintro e w1 ⟨rfl, rfl⟩)) | (go_at_call 28; go_must (refine (cD _).mono ?_; rintro e w1 ⟨rfl, rfl⟩)) | (go_at_call 30; go_must (refine (cN _).mono ?_; rintro e w2 ⟨⟨t, n, B, rfl, hfin0⟩, hb2⟩; have hfin : Hid (OneP s i (.returned (.tuple #[.agg #[.int .i64 3, .string t, .int .i64 0, .int .i64 0], .int .i64 (n : Int), .bool B]))) := hfin0; clear hfin0; obtain ⟨hc2, hf2, hz2, HB2⟩ := tok_new hb2; clear hb2)))
          obtain ⟨wx, hwx, hrw, HBX⟩ := set_row (vs := [.int .i64 3, .string t, .int .i64 0, .int .i64 0]) hc2 HB2 rfl
          change bodyPost _ _ _ _ _ (w2.setCells w.heap.size 0 [.int .i64 3, .string t, .int .i64 0, .int .i64 0])
          rw [hwx]
          clear hc2 hf2 HB2 hwx
          exact bodyPost_ret (v := .tuple #[.agg #[.int .i64 3, .string t, .int .i64 0, .int .i64 0], .int .i64 (n : Int), .bool B]) (by simp [results, Tryd.results17, go_sem, hrw]) rfl ⟨hfin.out, HBX.out⟩
        · have hx34 : ((x.toNat : Int) == 34) = false := by simp; omega
          rw [if_neg h34] at hone
          have c1 := fun u => rSign s i u hs hi
          have hlow := (Lx.signP_low (s.data.toList.drop i)).1
          rw [List.length_drop, hlen] at hlow
          generalize Lx.signP (s.data.toList.drop i) = Z at *
          obtain ⟨W, hW⟩ : ∃ W : ByteArray, (⟨Z.toArray⟩ : ByteArray) = W := ⟨_, rfl⟩
          have hemp := emp_of _ _ hW
          have hWs : W.size = Z.length := by rw [← hW]; show Z.toArray.size = Z.length; simp
          rw [hW] at c1
          obtain ⟨n, hn⟩ : ∃ n, i + Z.length = n := ⟨_, rfl⟩
          have hni : (i : Int) + (W.size : Int) = (n : Int) := by omega
          have hnb : (n : Int) ≤ 8192 := by omega
          have hwb : (W.size : Int) ≤ 8192 := by omega
          have fin : Hid (OneP s i (.returned (.tuple #[.agg #[.int .i64 4, .string W, .int .i64 0, .int .i64 0], .int .i64 (n : Int), .bool (!decide (Z.length = 0))]))) := by
            have h := OneP.of s i _ hone ⟨4, Z, 0, 0⟩ n (!decide (Z.length = 0)) (by
              by_cases h : Z.length = 0
              · exact Or.inr ⟨by simp [h], h⟩
              · exact Or.inl ⟨by simp [h], h, rfl, hn.symm⟩)
            rw [← hW]
            exact h
          clear hcons hbyte hone e1 hl hd hp1 hW hlow hn hWs h36 h34
          go_enter Tryd.func17, Tryd.ntmps17
          go_wp2_with (first | (go_at_call 26; go_must (refine (cL _).mono ?_; rintro e w1 ⟨rfl, rfl⟩)) | (go_at_call 28; go_must (refine (cD _).mono ?_; rintro e w1 ⟨rfl, rfl⟩)) | (go_at_call 31; go_must (refine (c1 _).mono ?_; rintro e w2 ⟨rfl, hb2⟩; obtain ⟨hc2, hf2, hz2, HB2⟩ := tok_new hb2; clear hb2)))
          obtain ⟨wx, hwx, hrw, HBX⟩ := set_row (vs := [.int .i64 4, .string W, .int .i64 0, .int .i64 0]) hc2 HB2 rfl
          change bodyPost _ _ _ _ _ (w2.setCells w.heap.size 0 [.int .i64 4, .string W, .int .i64 0, .int .i64 0])
          rw [hwx]
          clear hc2 hf2 HB2 hwx
          exact bodyPost_ret (v := .tuple #[.agg #[.int .i64 4, .string W, .int .i64 0, .int .i64 0], .int .i64 (n : Int), .bool (!decide (Z.length = 0))]) (by simp [results, Tryd.results17, go_sem, hrw]) rfl ⟨fin.out, HBX.out⟩
end Go.Proofs.YtihgifhkjiollaaDoor
