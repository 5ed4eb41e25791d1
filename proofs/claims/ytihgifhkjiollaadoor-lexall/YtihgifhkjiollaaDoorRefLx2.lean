/- The reference of layer 8: word, number. -/
import Derived.Test.YtihgifhkjiollaaDoorRefLx
import Derived.Test.YtihgifhkjiollaaDoorLxRows
namespace Go.Proofs.YtihgifhkjiollaaDoor
open Go.RowKit
set_option linter.unusedVariables false
set_option linter.unusedSimpArgs false

theorem small_low (x : UInt8) (h : Lx.bt Lx.ofWord x = true) (hg : ¬ (x.toNat ≤ 90 ∧ 65 ≤ x.toNat)) : Lx.smallB x = x := by
  unfold Lx.smallB Lx.small
  rw [if_neg (by omega)]
  simp
theorem small_great (x : UInt8) (h1 : x.toNat ≤ 90) (h2 : 65 ≤ x.toNat) : ((Lx.smallB x).toNat : Int) = (x.toNat : Int) + 32 := by
  unfold Lx.smallB Lx.small
  rw [if_pos (by omega)]
  have : ((x.toNat : Int) + 32).toNat = x.toNat + 32 := by omega
  rw [this]
  simp
  omega
theorem wordP_len (l : List UInt8) : (Lx.wordP l).1.length = (Lx.wordP l).2 := by
  unfold Lx.wordP
  split <;> simp
theorem wordP_no (l : List UInt8) (h : Lx.begins Lx.letter l = false) : Lx.wordP l = ([], 0) := by
  unfold Lx.wordP
  rw [if_neg (by rw [h]; simp)]
theorem wordP_yes (l : List UInt8) (h : Lx.begins Lx.letter l = true) (h2 : (Lx.front Lx.ofWord l).length ≤ 20) : Lx.wordP l = ((Lx.front Lx.ofWord l).map Lx.smallB, (Lx.front Lx.ofWord l).length) := by
  unfold Lx.wordP
  rw [if_pos ⟨h, h2⟩]
theorem wordP_long (l : List UInt8) (h2 : ¬ (Lx.front Lx.ofWord l).length ≤ 20) : Lx.wordP l = ([], 0) := by
  unfold Lx.wordP
  rw [if_neg (by omega)]
set_option maxHeartbeats 4000000 in
set_option maxRecDepth 100000 in
theorem rWord (s : ByteArray) (i : Nat) (w : World) (hs : s.size ≤ 8192) (hi : i ≤ s.size) :
    Calls Tryd.prog 27 #[.string s, .int .i64 (i : Int)] w fun e w' => (∃ n : Nat, e = .returned (.tuple #[.string ⟨(Lx.wordP (s.data.toList.drop i)).1.toArray⟩, .int .i64 (n : Int)]) ∧ ((Lx.wordP (s.data.toList.drop i)).2 ≠ 0 → n = i + (Lx.wordP (s.data.toList.drop i)).2) ∧ n ≤ s.size) ∧ Below w.heap.size w w' := by
  obtain ⟨R, hR⟩ : ∃ R, Lx.wordP (s.data.toList.drop i) = R := ⟨_, rfl⟩
  obtain ⟨D, hD⟩ : ∃ D, s.data.toList.drop i = D := ⟨_, rfl⟩
  rw [hR]
  have HR : Hid (Lx.wordP D = R) := by rw [← hD]; exact hR
  clear hR
  have hlen : s.data.toList.length = s.size := by simp
  have hm : maxLen = 9223372036854775807 := rfl
  go_enter Tryd.func27, Tryd.ntmps27
  go_wp2
  go_loopg [1, 6] (s.size - i) (fun gk p v wx => ∃ (pos : Nat) (acc : List UInt8), p = .int .i64 (pos : Int) ∧ OwnB wx w.heap.size v acc ∧ Below w.heap.size w wx ∧ pos + gk = s.size ∧ Hid (acc ++ (Lx.front Lx.ofWord (s.data.toList.drop pos)).map Lx.smallB = (Lx.front Lx.ofWord D).map Lx.smallB ∧ acc.length + i = pos ∧ (i < pos → Lx.begins Lx.letter D = true)))
  case atStart =>
    refine ⟨i, [], rfl, OwnB.nil _ _, Below.refl _ _, by omega, ?_⟩
    show _ ∧ _ ∧ _
    rw [hD]
    exact ⟨rfl, by simp, by omega⟩
  case round =>
    obtain ⟨pos, acc, rfl, hown, hbw, hfu, hH⟩ := hrel
    obtain ⟨vp, vc, rfl⟩ := hown.form
    have cL := rLetter s pos wr (by omega)
    have cD := rDigit s pos wr (by omega)
    have HO : Hid (OwnB wr w.heap.size (.slice vp acc.length vc) acc) := hown
    have hsz : w.heap.size ≤ wr.heap.size := hbw.size
    have HB : Hid (Below w.heap.size w wr) := hbw
    have hcv := hown.string
    have HCV : Hid ((convert 37 9 (.slice vp acc.length vc)).run Tryd.prog wr = .ok (.string ⟨acc.toArray⟩) wr) := hcv
    clear hown hbw hcv
    have hgo : (Lx.begins Lx.letter (s.data.toList.drop pos) = true ∨ (0 < acc.length ∧ Lx.begins Lx.digit (s.data.toList.drop pos) = true)) ∨ (Lx.begins Lx.letter (s.data.toList.drop pos) = false ∧ (acc.length = 0 ∨ Lx.begins Lx.digit (s.data.toList.drop pos) = false)) := by
      cases Lx.begins Lx.letter (s.data.toList.drop pos)
      · cases Lx.begins Lx.digit (s.data.toList.drop pos)
        · exact Or.inr ⟨rfl, Or.inr rfl⟩
        · by_cases ha : 0 < acc.length
          · exact Or.inl (Or.inr ⟨ha, rfl⟩)
          · exact Or.inr ⟨rfl, Or.inl (by omega)⟩
      · exact Or.inl (Or.inl rfl)
    rcases hgo with hgo | hgo
    · -- on
      have hlt : pos < s.size := by
        by_cases h : pos < s.size
        · exact h
        · rw [drop_nil_of s pos h] at hgo
          simp [Lx.begins] at hgo
      obtain ⟨g', rfl⟩ : ∃ g', gk = g' + 1 := ⟨gk - 1, by omega⟩
      have hcons := drop_at' s pos hlt
      have hx : Lx.bt Lx.ofWord (s.data.toList.getD pos 0) = true := by
        rw [hcons] at hgo
        show (Lx.letter _ || Lx.digit _) = true
        rcases hgo with h | ⟨_, h⟩
        · rw [show Lx.letter ((s.data.toList.getD pos 0).toNat : Int) = true from h]; rfl
        · rw [show Lx.digit ((s.data.toList.getD pos 0).toNat : Int) = true from h]; simp
      have hH2 : Hid (acc ++ [Lx.smallB (s.data.toList.getD pos 0)] ++ (Lx.front Lx.ofWord (s.data.toList.drop (pos + 1))).map Lx.smallB = (Lx.front Lx.ofWord D).map Lx.smallB ∧ (acc ++ [Lx.smallB (s.data.toList.getD pos 0)]).length + i = pos + 1 ∧ (i < pos + 1 → Lx.begins Lx.letter D = true)) := by
        obtain ⟨a1, a2, a3⟩ := hH.out
        rw [hcons, Lx.front_cons, if_pos hx, List.map_cons] at a1
        refine ⟨by rw [← a1, List.append_assoc]; rfl, by rw [List.length_append, List.length_singleton]; omega, fun _ => ?_⟩
        by_cases hp : i < pos
        · exact a3 hp
        · have hpi : i = pos := by omega
          subst hpi
          rcases hgo with h | ⟨h, _⟩
          · rw [← hD]; exact h
          · omega
      have hbyte := getD_at s pos hlt
      rw [hbyte] at hH2 hx
      obtain ⟨x, hxd⟩ : ∃ x, s[pos]'hlt = x := ⟨_, rfl⟩
      have hxb := x.toNat_lt
      have hxlow := Lx.ofWord_low x (by rw [← hxd]; exact hx)
      clear hcons hH hbyte
      generalize hbl : Lx.begins Lx.letter (s.data.toList.drop pos) = bl at cL hgo
      generalize hbd : Lx.begins Lx.digit (s.data.toList.drop pos) = bd at cD hgo
      rw [hxd] at hH2 hx
      clear hbl hbd
      have hn6 : acc.length ≤ 1000000 := by have := hH2.out.2.1; rw [List.length_append] at this; simp at this; omega
      have hpm : (pos : Int) + 1 ≤ 9223372036854775807 := by omega
      have HFU : Hid (pos + (g' + 1) = s.size) := hfu
      clear hD hlen hm hxlow hfu
      have hab : bl = true ∨ (bl = false ∧ 0 < acc.length ∧ bd = true) := by
        cases bl
        · rcases hgo with h | h
          · cases h
          · exact Or.inr ⟨rfl, h⟩
        · exact Or.inl rfl
      clear hgo
      obtain ⟨y, hy⟩ : ∃ y, Lx.smallB x = y := ⟨_, rfl⟩
      rw [hy] at hH2
      have hgr : ((((x.toNat : Nat) : Int) ≤ 90 ∧ 65 ≤ ((x.toNat : Nat) : Int)) ∧ (x.toNat : Int) + 32 = (y.toNat : Int) ∧ (y.toNat : Int) < 256) ∨ ((90 < ((x.toNat : Nat) : Int)) ∧ x = y) ∨ ((((x.toNat : Nat) : Int) ≤ 90 ∧ ((x.toNat : Nat) : Int) < 65) ∧ x = y) := by
        by_cases h1 : x.toNat ≤ 90
        · by_cases h2 : 65 ≤ x.toNat
          · exact Or.inl ⟨⟨by omega, by omega⟩, by rw [← hy]; exact (small_great x h1 h2).symm, by have := y.toNat_lt; omega⟩
          · exact Or.inr (Or.inr ⟨⟨by omega, by omega⟩, by rw [← hy]; exact (small_low x hx (fun h => h2 h.2)).symm⟩)
        · exact Or.inr (Or.inl ⟨by omega, by rw [← hy]; exact (small_low x hx (fun h => h1 h.1)).symm⟩)
      clear hy hx
      have hpw : wrap64 ((pos : Int) + 1) = (pos : Int) + 1 := by simp [wrap64]; omega
      clear hxb hpm
      rcases hgr with ⟨⟨hg1, hg2⟩, hg3, hyb⟩ | ⟨hg1, rfl⟩ | ⟨⟨hg1, hg2⟩, rfl⟩
      all_goals rcases hab with rfl | ⟨rfl, hn0, rfl⟩
      all_goals (
        go_wp2_with (first
          | (go_at_call 26; go_must (refine cL.mono ?_; rintro e W' ⟨rfl, rfl⟩))
          | (go_at_call 28; go_must (refine cD.mono ?_; rintro e W' ⟨rfl, rfl⟩))
          | (at_builtin; go_must (refine app_byte rfl _ _ rfl w.heap.size _ acc rfl HO hsz (by omega) _ rfl ?_))
          | go_in)
        intro v' w1 HO1 HB1 _ hsz1
        have HB2 : Hid (Below w.heap.size w w1) := HB1.out _ _ (Nat.le_refl _) (Nat.le_refl _) HB.out
        clear HB1 HB HO HCV cL cD
        go_wp2
        go_roundg g'
        case rel => exact ⟨pos + 1, _, by go_num, HO1.out, HB2.out, by have := HFU.out; omega, hH2⟩
        case measure => omega)
    · -- the end
      have hfin : Hid (R.1 = (if acc.length ≤ 20 then acc else []) ∧ (R.2 ≠ 0 → pos = i + R.2)) := by
        obtain ⟨a1, a2, a3⟩ := hH.out
        have hr := HR.out
        by_cases hp : i < pos
        · have hnf : Lx.front Lx.ofWord (s.data.toList.drop pos) = [] := by
            by_cases h : pos < s.size
            · rw [drop_at' s pos h] at hgo ⊢
              rw [Lx.front_cons, if_neg]
              show ¬ ((Lx.letter _ || Lx.digit _) = true)
              rw [show Lx.letter ((s.data.toList.getD pos 0).toNat : Int) = false from hgo.1]
              rcases hgo.2 with h | h
              · omega
              · rw [show Lx.digit ((s.data.toList.getD pos 0).toNat : Int) = false from h]; simp
            · rw [drop_nil_of s pos h]; rfl
          rw [hnf, List.map_nil, List.append_nil] at a1
          have hl : acc.length = (Lx.front Lx.ofWord D).length := by rw [a1, List.length_map]
          have hb := a3 hp
          by_cases h20 : acc.length ≤ 20
          · rw [wordP_yes D hb (by omega)] at hr
            rw [← hr, if_pos h20]
            exact ⟨a1.symm, fun _ => by show pos = i + _; omega⟩
          · rw [wordP_long D (by omega)] at hr
            rw [← hr, if_neg h20]
            exact ⟨rfl, fun h => absurd rfl h⟩
        · have hpi : pos = i := by omega
          subst hpi
          have ha : acc = [] := List.eq_nil_of_length_eq_zero (by omega)
          rw [hD] at hgo
          rw [wordP_no D hgo.1] at hr
          rw [← hr, ha]
          exact ⟨rfl, fun h => absurd rfl h⟩
      clear hH HR
      obtain ⟨hgo1, hgo2⟩ := hgo
      rw [hgo1] at cL
      generalize Lx.begins Lx.digit (s.data.toList.drop pos) = bd at cD hgo2
      have hposs : pos ≤ s.size := by omega
      have hfu2 : Hid (pos ≤ s.size) := hposs
      by_cases h20 : acc.length ≤ 20
      · have hf : R.1 = acc := by rw [hfin.out.1, if_pos h20]
        have hf2 : Hid (R.2 ≠ 0 → pos = i + R.2) := hfin.out.2
        have hcv : (convert 37 9 (.slice vp acc.length vc)).run Tryd.prog wr = .ok (.string ⟨R.1.toArray⟩) wr := by rw [hf]; exact HCV.out
        clear hfin HCV hf
        by_cases h0 : acc.length = 0
        · rw [h0] at hcv
          go_wp2_with (first | (go_at_call 26; go_must (refine cL.mono ?_; rintro e W' ⟨rfl, rfl⟩)) | (go_at_call 28; go_must (refine cD.mono ?_; rintro e W' ⟨rfl, rfl⟩)))
          go_ret2
          exact ⟨⟨pos, rfl, hf2.out, hfu2.out⟩, HB.out⟩
        · have hb : bd = false := by
            rcases hgo2 with h | h
            · omega
            · exact h
          subst hb
          have h1 : 0 < acc.length := by omega
          clear hgo2
          go_wp2_with (first | (go_at_call 26; go_must (refine cL.mono ?_; rintro e W' ⟨rfl, rfl⟩)) | (go_at_call 28; go_must (refine cD.mono ?_; rintro e W' ⟨rfl, rfl⟩)))
          go_ret2
          exact ⟨⟨pos, rfl, hf2.out, hfu2.out⟩, HB.out⟩
      · have hf : R.1 = [] := by rw [hfin.out.1, if_neg h20]
        have hf2 : Hid (R.2 ≠ 0 → pos = i + R.2) := hfin.out.2
        have hb : bd = false := by
          rcases hgo2 with h | h
          · omega
          · exact h
        subst hb
        have h1 : 0 < acc.length := by omega
        clear hgo2 hfin HCV
        go_wp2_with (first | (go_at_call 26; go_must (refine cL.mono ?_; rintro e W' ⟨rfl, rfl⟩)) | (go_at_call 28; go_must (refine cD.mono ?_; rintro e W' ⟨rfl, rfl⟩)))
        go_ret2
        rw [hf]
        exact ⟨⟨pos, rfl, hf2.out, hfu2.out⟩, HB.out⟩
end Go.Proofs.YtihgifhkjiollaaDoor
