/- The reference of layer 8: number. -/
import Derived.Test.YtihgifhkjiollaaDoorRefLx2
namespace Go.Proofs.YtihgifhkjiollaaDoor
open Go.RowKit
set_option linter.unusedVariables false
set_option linter.unusedSimpArgs false

theorem val_snoc (l : List UInt8) (x : UInt8) : Lx.val (l ++ [x]) = Lx.val l * 10 + (x.toNat - 48) := by
  unfold Lx.val
  rw [List.foldl_append]
  rfl
/-- a number that is never more than 2^50 -/
def capv (n : Nat) : Nat := if n ≤ 1125899906842624 then n else 1125899906842624
theorem capv_step (n d : Nat) (hd : d ≤ 9) : capv (n * 10 + d) = (if capv n * 10 + d ≤ 1125899906842624 then capv n * 10 + d else 1125899906842624) := by
  unfold capv
  repeat' split
  all_goals omega
set_option maxHeartbeats 1000000 in
set_option maxRecDepth 100000 in
theorem rNumber (s : ByteArray) (i : Nat) (w : World) (hs : s.size ≤ 8192) (hi : i ≤ s.size) :
    Calls Tryd.prog 29 #[.string s, .int .i64 (i : Int)] w fun e w' => (∃ v n : Nat, e = .returned (.tuple #[.int .i64 (v : Int), .int .i64 (n : Int), .bool (decide (v ≤ 999999999999) && !Lx.begins Lx.letter (s.data.toList.drop n))]) ∧ n = i + (Lx.front Lx.digit (s.data.toList.drop i)).length ∧ v = capv (Lx.val (Lx.front Lx.digit (s.data.toList.drop i))) ∧ n ≤ s.size) ∧ w' = w := by
  obtain ⟨D, hD⟩ : ∃ D, s.data.toList.drop i = D := ⟨_, rfl⟩
  rw [hD]
  have hlen : s.data.toList.length = s.size := by simp
  go_enter Tryd.func29, Tryd.ntmps29
  go_wp2
  go_loopg [1, 7] (s.size - i) (fun gk p v wx => wx = w ∧ ∃ (pos V : Nat) (acc : List UInt8), p = .int .i64 (pos : Int) ∧ v = .int .i64 (V : Int) ∧ pos + gk = s.size ∧ Hid (capv (Lx.val acc) = V) ∧ Hid (acc ++ Lx.front Lx.digit (s.data.toList.drop pos) = Lx.front Lx.digit D ∧ acc.length + i = pos))
  case atStart =>
    refine ⟨rfl, i, 0, [], rfl, rfl, by omega, (by show capv 0 = 0; rfl), ?_⟩
    show _ ∧ _
    rw [hD]
    exact ⟨rfl, by simp⟩
  case round =>
    obtain ⟨rfl, pos, V, acc, rfl, rfl, hfu, HV, hH⟩ := hrel
    have cD := rDigit s pos wr (by unfold maxLen; omega)
    have cL := rLetter s pos wr (by unfold maxLen; omega)
    have hV := HV.out
    clear HV
    have hVb : V ≤ 1125899906842624 := by rw [← hV]; unfold capv; split <;> omega
    cases hb : Lx.begins Lx.digit (s.data.toList.drop pos) with
    | true =>
      have hlt : pos < s.size := by
        by_cases h : pos < s.size
        · exact h
        · rw [drop_nil_of s pos h] at hb
          simp [Lx.begins] at hb
      obtain ⟨g', rfl⟩ : ∃ g', gk = g' + 1 := ⟨gk - 1, by omega⟩
      have hcons := drop_at' s pos hlt
      have hbyte := getD_at s pos hlt
      rw [hbyte] at hcons
      obtain ⟨x, hxd⟩ : ∃ x, s[pos]'hlt = x := ⟨_, rfl⟩
      rw [hxd] at hcons
      have hx : Lx.bt Lx.digit x = true := by rw [hcons] at hb; exact hb
      have hx1 : 48 ≤ x.toNat ∧ x.toNat ≤ 57 := by simp [Lx.bt, Lx.digit] at hx; omega
      have hH2 : Hid (acc ++ [x] ++ Lx.front Lx.digit (s.data.toList.drop (pos + 1)) = Lx.front Lx.digit D ∧ (acc ++ [x]).length + i = pos + 1) := by
        obtain ⟨a1, a2⟩ := hH.out
        rw [hcons, Lx.front_cons, if_pos hx] at a1
        exact ⟨by rw [← a1, List.append_assoc]; rfl, by rw [List.length_append, List.length_singleton]; omega⟩
      have hst := capv_step (Lx.val acc) (x.toNat - 48) (by omega)
      rw [← val_snoc, hV] at hst
      have hW : Hid (capv (Lx.val (acc ++ [x])) = if V * 10 + (x.toNat - 48) ≤ 1125899906842624 then V * 10 + (x.toNat - 48) else 1125899906842624) := hst
      rw [hb] at cD
      have hw1 : wrap64 (10 * (V : Int)) = 10 * (V : Int) := by simp [wrap64]; omega
      have hw3 : wrap64 ((x.toNat : Int) - 48) = (x.toNat : Int) - 48 := by simp [wrap64]; omega
      have hw4 : wrap64 (10 * (V : Int) + ((x.toNat : Int) - 48)) = 10 * (V : Int) + ((x.toNat : Int) - 48) := by simp [wrap64]; omega
      have hpw : wrap64 ((pos : Int) + 1) = (pos : Int) + 1 := by simp [wrap64]; omega
      have HFU : Hid (pos + (g' + 1) = s.size) := hfu
      clear hst hcons hbyte hx hb hH hfu hD hlen cL hV
      go_wp2_with (go_at_call 28; go_must (refine cD.mono ?_; rintro e W' ⟨rfl, rfl⟩))
      all_goals go_roundg g'
      all_goals first
        | omega
        | (refine ⟨rfl, pos + 1, capv (Lx.val (acc ++ [x])), acc ++ [x], by go_num, ?_, by have := HFU.out; omega, rfl, hH2⟩
           rw [hW.out]
           congr 1
           first
             | (rw [if_pos (by omega)]; omega)
             | (rw [if_neg (by omega)]; omega))
    | false =>
      have hnf : Lx.front Lx.digit (s.data.toList.drop pos) = [] := by
        by_cases h : pos < s.size
        · rw [drop_at' s pos h] at hb ⊢
          rw [Lx.front_cons, if_neg (by rw [show Lx.bt Lx.digit (s.data.toList.getD pos 0) = false from hb]; exact Bool.false_ne_true)]
        · rw [drop_nil_of s pos h]; rfl
      have hF : Hid (pos = i + (Lx.front Lx.digit D).length ∧ V = capv (Lx.val (Lx.front Lx.digit D)) ∧ pos ≤ s.size) := by
        obtain ⟨a1, a2⟩ := hH.out
        rw [hnf, List.append_nil] at a1
        rw [← a1, hV]
        exact ⟨by omega, rfl, by omega⟩
      rw [hb] at cD
      clear hnf hb hH hD hlen hfu
      obtain ⟨bl, hbl⟩ : ∃ bl, Lx.begins Lx.letter (s.data.toList.drop pos) = bl := ⟨_, rfl⟩
      rw [hbl] at cL
      have HBL : Hid (Lx.begins Lx.letter (s.data.toList.drop pos) = bl) := hbl
      clear hbl hV
      by_cases hv : (V : Int) ≤ 999999999999
      · go_wp2_with (first
          | (go_at_call 28; go_must (refine cD.mono ?_; rintro e W' ⟨rfl, rfl⟩))
          | (go_at_call 26; go_must (refine cL.mono ?_; rintro e W' ⟨rfl, rfl⟩)))
        go_ret3
        refine ⟨⟨V, pos, ?_, hF.out.1, hF.out.2.1, hF.out.2.2⟩, rfl⟩
        rw [HBL.out, show decide (V ≤ 999999999999) = true from decide_eq_true (by omega)]
        rfl
      · go_wp2_with (first
          | (go_at_call 28; go_must (refine cD.mono ?_; rintro e W' ⟨rfl, rfl⟩))
          | (go_at_call 26; go_must (refine cL.mono ?_; rintro e W' ⟨rfl, rfl⟩)))
        go_ret3
        refine ⟨⟨V, pos, ?_, hF.out.1, hF.out.2.1, hF.out.2.2⟩, rfl⟩
        rw [HBL.out, show decide (V ≤ 999999999999) = false from decide_eq_false (by omega)]
        rfl
end Go.Proofs.YtihgifhkjiollaaDoor
