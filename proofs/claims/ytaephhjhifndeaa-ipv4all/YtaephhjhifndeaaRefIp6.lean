/- The document's own layer 3: Get, whatever the bytes. -/
import Derived.Test.YtaephhjhifndeaaRefIp4
import Derived.Test.YtaephhjhifndeaaRefIp5
namespace Go.Proofs.Ytaephhjhifndeaa
open Go.RowKit
set_option linter.unusedVariables false
theorem refAll (s : ByteArray) (w : World) (h : 4 ≤ s.size) :
    Calls Try.prog 25 #[.string (s.extract 2 4)] w fun e w' => e = .returned (.int .i64 ((alL s.data.toList : Nat) : Int)) ∧ w = w' := by
  obtain ⟨a, b, he, e0, e1⟩ := bytes2 s 2 (by omega)
  have hr : ((alL s.data.toList : Nat) : Int) = (a.toNat : Int) * 256 + (b.toNat : Int) := by unfold alL; rw [at_eq s 2 (by omega), at_eq s 3 (by omega), e0, e1]; omega
  rw [hr, he]
  exact refNum2 a b w
theorem refCut (s : ByteArray) (w : World) (h : 8 ≤ s.size) :
    Calls Try.prog 25 #[.string (s.extract 6 8)] w fun e w' => e = .returned (.int .i64 ((cwL s.data.toList : Nat) : Int)) ∧ w = w' := by
  obtain ⟨a, b, he, e0, e1⟩ := bytes2 s 6 (by omega)
  have hr : ((cwL s.data.toList : Nat) : Int) = (a.toNat : Int) * 256 + (b.toNat : Int) := by unfold cwL; rw [at_eq s 6 (by omega), at_eq s 7 (by omega), e0, e1]; omega
  rw [hr, he]
  exact refNum2 a b w
theorem refSum (s : ByteArray) (q : Nat) (w : World) (hs : s.size ≤ 1000000) :
    Calls Try.prog 20 #[.string (s.extract 0 q)] w fun e w' => e = .returned (.int .i64 (sumL (s.data.toList.take q))) ∧ w = w' := by
  have h := refOf_any (s.extract 0 q) w (by simp; omega)
  have e : (s.extract 0 q).data.toList = s.data.toList.take q := by rw [ext_list]; rfl
  rw [e] at h
  exact h
theorem refGet_any (s : ByteArray) (w : World) (hs : s.size ≤ 1000000) :
    Calls Try.prog 11 #[.string s] w fun e w' => e = .returned (answer (badL s.data.toList) (ipV (gotIp s.data.toList)) (s.extract (hdL s.data.toList) (alL s.data.toList))) ∧ Below w.heap.size w w' := by
  have hl : s.data.toList.length = s.size := toList_length s
  by_cases h1 : s.size < 20
  · have hb : badL s.data.toList = 2 := by unfold badL; rw [hl, if_pos h1]
    rw [hb]
    exact refGet_1 s w h1
  have k20 : (20 : Int) ≤ (s.size : Int) := by omega
  have cA := fun w => refAll s w (by omega)
  have cC := fun w => refCut s w (by omega)
  have cO := fun w => refSum s (hdL s.data.toList) w hs
  obtain ⟨a0, e0⟩ : ∃ a0, s[0] = a0 := ⟨_, rfl⟩
  have hb0 : byteAt s.data.toList 0 = a0.toNat := by rw [at_eq s 0 (by omega), e0]
  have hlow := and_low a0
  have hlt := a0.toNat_lt
  have hq : wrap64 ((a0.toNat % 16 : Nat) : Int) = ((a0.toNat % 16 : Nat) : Int) := by unfold wrap64; omega
  have hN0 : hdL s.data.toList = a0.toNat % 16 * 4 := by unfold hdL; rw [hb0]
  have hN : wrap64 (4 * ((a0.toNat % 16 : Nat) : Int)) = ((hdL s.data.toList : Nat) : Int) := by rw [hN0]; unfold wrap64; omega
  have lA := al_bd s.data.toList
  have lN := hd_bd s.data.toList
  have lC := cw_bd s.data.toList
  have hw : wrap64 (((alL s.data.toList : Nat) : Int) - ((hdL s.data.toList : Nat) : Int)) = ((alL s.data.toList : Nat) : Int) - ((hdL s.data.toList : Nat) : Int) := by unfold wrap64; omega
  by_cases h4 : a0.toNat / 16 = 4
  case neg =>
    have hb : badL s.data.toList = 3 := by unfold badL; rw [hl, if_neg h1, if_pos (.inl (by rw [hb0]; exact h4))]
    rw [hb]
    exact refGet_2a s _ _ a0 _ _ _ _ w k20 e0 hlow hN hq rfl rfl cA cC (by omega)
  have h4i : (a0.toNat : Int) / 16 = 4 := by omega
  by_cases h2 : hdL s.data.toList < 20
  · have hb : badL s.data.toList = 3 := by unfold badL; rw [hl, if_neg h1, if_pos (.inr h2)]
    rw [hb]
    exact refGet_2b s _ _ a0 _ _ _ _ w k20 e0 hlow hN hq rfl rfl cA cC h4i (by omega)
  have hn2 : ¬ (byteAt s.data.toList 0 / 16 ≠ 4 ∨ hdL s.data.toList < 20) := by rw [hb0]; omega
  by_cases h3 : s.size < hdL s.data.toList
  · have hb : badL s.data.toList = 2 := by unfold badL; rw [hl, if_neg h1, if_neg hn2, if_pos h3]
    rw [hb]
    exact refGet_3 s _ _ a0 _ _ _ _ w k20 e0 hlow hN hq rfl rfl cA cC h4i (by omega) (by omega)
  by_cases h5 : alL s.data.toList < hdL s.data.toList
  · have hb : badL s.data.toList = 3 := by unfold badL; rw [hl, if_neg h1, if_neg hn2, if_neg h3, if_pos h5]
    rw [hb]
    exact refGet_4 s _ _ a0 _ _ _ _ w k20 e0 hlow hN hq rfl rfl cA cC h4i (by omega) (by omega) (by omega)
  by_cases h6 : s.size < alL s.data.toList
  · have hb : badL s.data.toList = 2 := by unfold badL; rw [hl, if_neg h1, if_neg hn2, if_neg h3, if_neg h5, if_pos h6]
    rw [hb]
    exact refGet_5 s _ _ a0 _ _ _ _ w k20 e0 hlow hN hq rfl rfl cA cC h4i (by omega) (by omega) (by omega) (by omega)
  by_cases h7 : 32768 ≤ cwL s.data.toList
  · have hb : badL s.data.toList = 3 := by unfold badL; rw [hl, if_neg h1, if_neg hn2, if_neg h3, if_neg h5, if_neg h6, if_pos h7]
    rw [hb]
    exact refGet_6 s _ _ a0 _ _ _ _ w k20 e0 hlow hN hq rfl rfl cA cC h4i (by omega) (by omega) (by omega) (by omega) (by omega)
  by_cases h8 : hdL s.data.toList + 2000 < alL s.data.toList
  · have hb : badL s.data.toList = 5 := by unfold badL; rw [hl, if_neg h1, if_neg hn2, if_neg h3, if_neg h5, if_neg h6, if_neg h7, if_pos h8]
    rw [hb]
    exact refGet_7 s _ _ a0 _ _ _ _ w k20 e0 hlow hN hq rfl rfl cA cC h4i (by omega) (by omega) (by omega) (by omega) (by omega) hw (by omega)
  by_cases h9 : sumL (s.data.toList.take (hdL s.data.toList)) = 0
  case neg =>
    have hb : badL s.data.toList = 4 := by unfold badL; rw [hl, if_neg h1, if_neg hn2, if_neg h3, if_neg h5, if_neg h6, if_neg h7, if_neg h8, if_pos h9]
    rw [hb]
    exact refGet_8 s _ _ a0 _ _ _ _ w k20 e0 hlow hN hq rfl rfl cA cC h4i (by omega) (by omega) (by omega) (by omega) (by omega) hw (by omega) _ cO (by simpa using h9)
  have hb : badL s.data.toList = 0 := by unfold badL; rw [hl, if_neg h1, if_neg hn2, if_neg h3, if_neg h5, if_neg h6, if_neg h7, if_neg h8, if_neg (by simpa using h9)]
  rw [hb]
  obtain ⟨a1, a8, a9, t1, t2, t3, n1, n2, n3, z1, z2, z3, z4, S, D, m, k, e1, e8, e9, x1, x2, x3, y1, y2, y3, y4, y5, y6, ⟨u1, u2⟩, ⟨v1, v2, v3, s1, s2, s3⟩, hV⟩ := fields s (by omega)
  rw [← hV]
  have c3 := fun w => refNum_any t1 w (by omega)
  have c4 := fun w => refNum_any t2 w (by omega)
  have c5 := fun w => refNum_any t3 w (by omega)
  rw [v1] at c3
  rw [v2] at c4
  rw [v3] at c5
  exact refGet_9 s _ _ a0 _ _ _ _ w k20 e0 hlow hN hq rfl rfl cA cC h4i (by omega) (by omega) (by omega) (by omega) (by omega) hw (by omega) _ cO (by rw [h9]; rfl)
    a1 a8 a9 t1 t2 t3 n1 n2 n3 z1 z2 z3 z4 S D m k e1 e8 e9 x1 x2 x3 y1 y2 y3 y4 y5 y6 u1 u2 c3 c4 c5
end Go.Proofs.Ytaephhjhifndeaa
