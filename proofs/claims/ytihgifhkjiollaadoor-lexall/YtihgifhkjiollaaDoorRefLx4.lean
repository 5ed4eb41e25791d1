/- The reference of layer 8: pairs. -/
import Derived.Test.YtihgifhkjiollaaDoorRefLx3
import Derived.Test.YtihgifhkjiollaaDoorLxs5
namespace Go.Proofs.YtihgifhkjiollaaDoor
open Go.RowKit
set_option linter.unusedVariables false
set_option linter.unusedSimpArgs false

theorem hexAt_of (l : List UInt8) (i : Nat) (c : UInt8) (r : List UInt8) (h : l.drop i = c :: r) : hexAt l i = Lx.hexv (c.toNat : Int) := by
  unfold hexAt
  have hi : i < l.length := by
    by_cases hl : i < l.length
    · exact hl
    · rw [List.drop_eq_nil_of_le (by omega)] at h; cases h
  rw [if_pos hi]
  rw [Lx.drop_at l i hi] at h
  injection h with h1 _
  rw [h1]
theorem hexAt_none (l : List UInt8) (i : Nat) (h : l.drop i = []) : hexAt l i = -1 := by
  unfold hexAt
  rw [if_neg]
  intro hi
  rw [Lx.drop_at l i hi] at h
  cases h
theorem hexAt_bd (l : List UInt8) (i : Nat) : -1 ≤ hexAt l i ∧ hexAt l i ≤ 15 := by
  unfold hexAt
  split
  · exact Lx.hexv_bd _
  · omega
/-- how far pairs is, k bytes behind its beginning -/
def Qst (L : List UInt8) (R : Option (List UInt8 × Nat)) (i pos : Nat) (acc : List UInt8) : Prop := ∃ k, pos = i + k ∧ plus acc k (Lx.prs (L.drop pos)) = R ∧ acc.length ≤ k
/-- what pairs answers -/
def PairsP (S i : Nat) (R : Option (List UInt8 × Nat)) (e : Ending) : Prop := ∃ (t : ByteArray) (n : Nat) (ok : Bool), e = .returned (.tuple #[.string t, .int .i64 (n : Int), .bool ok]) ∧ n ≤ S + 1 ∧ (ok = true → n ≤ S) ∧ ((∃ p, R = some p ∧ p.1 ≠ [] ∧ ok = true ∧ t = ⟨p.1.toArray⟩ ∧ n = i + p.2) ∨ (ok = false ∧ (pairsR R).2 = 0))
theorem PairsP.good {S i : Nat} {R : Option (List UInt8 × Nat)} {t : ByteArray} {n : Nat} (hn : n ≤ S) (h : ∃ p, R = some p ∧ p.1 ≠ [] ∧ t = ⟨p.1.toArray⟩ ∧ n = i + p.2) :
    PairsP S i R (.returned (.tuple #[.string t, .int .i64 (n : Int), .bool true])) := by
  obtain ⟨p, h1, h2, h3, h4⟩ := h
  exact ⟨t, n, true, rfl, by omega, fun _ => hn, Or.inl ⟨p, h1, h2, rfl, h3, h4⟩⟩
theorem PairsP.bad {S i : Nat} {R : Option (List UInt8 × Nat)} {t : ByteArray} {n : Nat} (hn : n ≤ S + 1) (h : (pairsR R).2 = 0) :
    PairsP S i R (.returned (.tuple #[.string t, .int .i64 (n : Int), .bool false])) := ⟨t, n, false, rfl, hn, by simp, Or.inr ⟨rfl, h⟩⟩
set_option maxHeartbeats 4000000 in
set_option maxRecDepth 100000 in
theorem rPairs (s : ByteArray) (i : Nat) (w : World) (hs : s.size ≤ 8192) (hi : i ≤ s.size) (R : Option (List UInt8 × Nat)) (hR : Lx.prs (s.data.toList.drop i) = R) :
    Calls Tryd.prog 41 #[.string s, .int .i64 (i : Int)] w fun e w' => PairsP s.size i R e ∧ Below w.heap.size w w' := by
  have hlen : s.data.toList.length = s.size := by simp
  have hst0 : Hid (Qst s.data.toList R i i []) := ⟨0, rfl, by rw [plus_nil]; exact hR, by simp⟩
  clear hR
  go_enter Tryd.func41, Tryd.ntmps41
  go_wp2
  go_loopg [1, 7] (s.size - i) (fun gk p v wx => ∃ (pos : Nat) (acc : List UInt8), p = .int .i64 (pos : Int) ∧ OwnB wx w.heap.size v acc ∧ Below w.heap.size w wx ∧ Hid (Qst s.data.toList R i pos acc) ∧ s.size ≤ pos + gk ∧ pos ≤ s.size)
  case atStart => exact ⟨i, [], rfl, OwnB.nil _ _, Below.refl _ _, hst0, by omega, hi⟩
  case round =>
    obtain ⟨pos, acc, rfl, hown, hbw, hst, hfu, hps⟩ := hrel
    clear hst0
    obtain ⟨vp, vc, rfl⟩ := hown.form
    have HO : Hid (OwnB wr w.heap.size (.slice vp acc.length vc) acc) := hown
    have HBW : Hid (Below w.heap.size w wr) := hbw
    have hszW : w.heap.size ≤ wr.heap.size := hbw.size
    have HCV : Hid ((convert 37 9 (.slice vp acc.length vc)).run Tryd.prog wr = .ok (.string ⟨acc.toArray⟩) wr) := hown.string
    obtain ⟨k, hk, hpl, hal⟩ := hst.out
    have hal6 : acc.length ≤ 1000000 := by omega
    have hposb : (pos : Int) ≤ 8192 := by omega
    clear hown hbw hst
    by_cases hlt : pos < s.size
    · obtain ⟨g', rfl⟩ : ∃ g', gk = g' + 1 := ⟨gk - 1, by omega⟩
      have hcons := drop_at' s pos hlt
      have hbyte := getD_at s pos hlt
      rw [hbyte] at hcons
      obtain ⟨x, hxd⟩ : ∃ x, s[pos]'hlt = x := ⟨_, rfl⟩
      rw [hxd] at hcons
      have hlti : (pos : Int) < (s.size : Int) := by omega
      have HFU : Hid (s.size ≤ pos + (g' + 1)) := hfu
      have HLT : Hid (pos < s.size) := hlt
      by_cases h124 : x.toNat = 124
      · rw [hcons, prs_bar x _ h124] at hpl
        obtain ⟨m, hm⟩ : ∃ m, pos + 1 = m := ⟨_, rfl⟩
        have hmi : (pos : Int) + 1 = (m : Int) := by omega
        have hmb : (m : Int) ≤ 8193 := by omega
        have hx124 : ((x.toNat : Int) != 124) = false := by simp; omega
        have hcv := HCV.out
        by_cases ha : acc.length = 0
        · have hacc : acc = [] := List.eq_nil_of_length_eq_zero ha
          have hfin : Hid ((pairsR R).2 = 0) := by show _ = _; rw [← hpl, hacc]; rfl
          have HM : Hid (m ≤ s.size + 1) := by show _ ≤ _; omega
          rw [ha] at hcv
          clear hcons hbyte hpl hk hal hfu h124 hm HCV HO hacc
          go_wp2
          go_ret3
          exact ⟨PairsP.bad HM.out hfin.out, HBW.out⟩
        · have hacc : acc ≠ [] := fun h => ha (by rw [h]; rfl)
          have ha0 : 0 < acc.length := by omega
          have hfin : Hid (∃ p, R = some p ∧ p.1 ≠ [] ∧ (⟨acc.toArray⟩ : ByteArray) = ⟨p.1.toArray⟩ ∧ m = i + p.2) := by
            refine ⟨(acc, k + 1), ?_, hacc, rfl, by show m = i + (k + 1); omega⟩
            rw [← hpl]
            simp [plus]
          have HM : Hid (m ≤ s.size) := by show _ ≤ _; omega
          clear hcons hbyte hpl hk hal hfu h124 hm HCV HO hacc ha
          go_wp2
          go_ret3
          exact ⟨PairsP.good HM.out hfin.out, HBW.out⟩
      · have hx124 : ((x.toNat : Int) != 124) = true := by simp; omega
        by_cases h32 : x.toNat = 32
        · rw [hcons, prs_blank x _ h32, plus_blank] at hpl
          have HST : Hid (Qst s.data.toList R i (pos + 1) acc) := ⟨k + 1, by omega, hpl, by omega⟩
          have hx32 : ((x.toNat : Int) == 32) = true := by simp; omega
          clear hcons hbyte hpl hk hal hfu h124 h32 HCV
          go_wp2
          go_roundg g'
          case measure => omega
          case rel => exact ⟨pos + 1, acc, by go_num, HO.out, HBW.out, HST, by have := HFU.out; omega, HLT.out⟩
        · have hx32 : ((x.toNat : Int) == 32) = false := by simp; omega
          obtain ⟨p1, hp1⟩ : ∃ p, pos + 1 = p := ⟨_, rfl⟩
          obtain ⟨p2, hp2⟩ : ∃ p, pos + 2 = p := ⟨_, rfl⟩
          have hp1i : (pos : Int) + 1 = (p1 : Int) := by omega
          have hp2i : (pos : Int) + 2 = (p2 : Int) := by omega
          have hp1b : (p1 : Int) ≤ 8193 := by omega
          have hp2b : (p2 : Int) ≤ 8194 := by omega
          have cX := fun u => rHex s pos u (by unfold maxLen; omega)
          have cY := fun u => rHex s p1 u (by unfold maxLen; omega)
          rw [hexAt_of _ pos x _ hcons] at cX
          have hbx := Lx.hexv_bd (x.toNat : Int)
          have hby := hexAt_bd s.data.toList p1
          obtain ⟨vx, hvx⟩ : ∃ v, Lx.hexv (x.toNat : Int) = v := ⟨_, rfl⟩
          obtain ⟨vy, hvy⟩ : ∃ v, hexAt s.data.toList p1 = v := ⟨_, rfl⟩
          rw [hvx] at cX hbx
          rw [hvy] at cY hby
          obtain ⟨hbx1, hbx2⟩ := hbx
          obtain ⟨hby1, hby2⟩ := hby
          rw [hcons, hp1] at hpl
          have HPS : Hid (pos ≤ s.size + 1) := by show _ ≤ _; omega
          by_cases hx0 : vx < 0
          · rw [prs_bad x _ h124 h32 (by omega)] at hpl
            have hfin : Hid ((pairsR R).2 = 0) := by show _ = _; rw [← hpl]; rfl
            clear hcons hbyte hpl hk hal hfu h124 h32 HCV HO hvx hvy hp1 hp2
            go_wp2_with (first
              | (go_at_call_of 53 pos; refine (cX _).mono ?_; rintro e w1 ⟨rfl, rfl⟩)
              | (go_at_call_of 53 p1; refine (cY _).mono ?_; rintro e w1 ⟨rfl, rfl⟩))
            go_ret3
            exact ⟨PairsP.bad HPS.out hfin.out, HBW.out⟩
          · have hx0' : 0 ≤ vx := by omega
            by_cases hy0 : vy < 0
            · have hnone : Lx.prs (x :: s.data.toList.drop p1) = none := by
                cases hd : s.data.toList.drop p1 with
                | nil => exact prs_last x (by omega)
                | cons d r => exact prs_half x d r (by omega) (by rw [hexAt_of _ p1 d r hd] at hvy; omega)
              rw [hnone] at hpl
              have hfin : Hid ((pairsR R).2 = 0) := by show _ = _; rw [← hpl]; rfl
              clear hcons hbyte hpl hk hal hfu h124 h32 HCV HO hvx hvy hp1 hp2 hnone
              go_wp2_with (first
                | (go_at_call_of 53 pos; refine (cX _).mono ?_; rintro e w1 ⟨rfl, rfl⟩)
                | (go_at_call_of 53 p1; refine (cY _).mono ?_; rintro e w1 ⟨rfl, rfl⟩))
              go_ret3
              exact ⟨PairsP.bad HPS.out hfin.out, HBW.out⟩
            · have hy0' : 0 ≤ vy := by omega
              obtain ⟨d, r, hd⟩ : ∃ d r, s.data.toList.drop p1 = d :: r := by
                cases hd : s.data.toList.drop p1 with
                | nil => rw [hexAt_none _ p1 hd] at hvy; omega
                | cons d r => exact ⟨d, r, rfl⟩
              have hvd : Lx.hexv (d.toNat : Int) = vy := by rw [← hexAt_of _ p1 d r hd]; exact hvy
              have hp1s : p1 < s.size := by
                by_cases h : p1 < s.size
                · exact h
                · rw [drop_nil_of s p1 h] at hd; cases hd
              have hr : r = s.data.toList.drop p2 := by
                have h := congrArg (List.drop 1) hd
                rw [List.drop_drop] at h
                rw [← hp2, show pos + 2 = p1 + 1 from by omega]
                exact h.symm
              rw [hd, prs_two x d r (by omega) (by omega), plus_two, hr] at hpl
              have htw := two_val x d (by omega) (by omega)
              rw [hvx, hvd] at htw
              obtain ⟨y, hy⟩ : ∃ y, Lx.two x d = y := ⟨_, rfl⟩
              rw [hy] at htw hpl
              have hyv : 16 * vx + vy = (y.toNat : Int) := by omega
              have hyb : (y.toNat : Int) < 256 := by have := y.toNat_lt; omega
              have HST : Hid (Qst s.data.toList R i p2 (acc ++ [y])) := ⟨k + 2, by omega, hpl, by rw [List.length_append, List.length_singleton]; omega⟩
              have HP2 : Hid (p2 ≤ s.size ∧ s.size ≤ p2 + g') := by constructor <;> omega
              clear hcons hbyte hpl hk hal hfu h124 h32 HCV hvx hvy hp1 hp2 hd hvd hr htw hy hp1s
              go_wp2_with (first
                | (go_at_call_of 53 pos; refine (cX _).mono ?_; rintro e w1 ⟨rfl, rfl⟩)
                | (go_at_call_of 53 p1; refine (cY _).mono ?_; rintro e w1 ⟨rfl, rfl⟩)
                | (at_builtin; go_must (refine app_byte rfl _ _ rfl w.heap.size _ acc rfl HO hszW hal6 _ rfl ?_)))
              intro v' w2 HO2 HB2 _ hsz2
              have HB3 : Hid (Below w.heap.size w w2) := HB2.out _ _ (Nat.le_refl _) (Nat.le_refl _) HBW.out
              clear HB2 HBW HO cX cY
              go_wp2
              go_roundg g'
              case measure => omega
              case rel => exact ⟨p2, _, by first | rfl | rw [hp2i], HO2.out, HB3.out, HST, HP2.out.2, HP2.out.1⟩
    · have hlti : ¬ ((pos : Int) < (s.size : Int)) := by omega
      rw [drop_nil_of s pos hlt] at hpl
      have hfin : Hid ((pairsR R).2 = 0) := by show _ = _; rw [← hpl]; rfl
      obtain ⟨m, hm⟩ : ∃ m, pos + 1 = m := ⟨_, rfl⟩
      have hmi : (pos : Int) + 1 = (m : Int) := by omega
      have hmb : (m : Int) ≤ 8193 := by omega
      have HM : Hid (m ≤ s.size + 1) := by show _ ≤ _; omega
      have hcv := HCV.out
      clear hpl hk hal hfu hm HCV HO
      go_wp2
      go_ret3
      exact ⟨PairsP.bad HM.out hfin.out, HBW.out⟩
end Go.Proofs.YtihgifhkjiollaaDoor
