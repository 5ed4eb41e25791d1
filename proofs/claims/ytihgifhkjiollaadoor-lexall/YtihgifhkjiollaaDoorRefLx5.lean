/- The reference of layer 8: bytes. -/
import Derived.Test.YtihgifhkjiollaaDoorRefLx4
import Derived.Test.YtihgifhkjiollaaDoorLxs8
namespace Go.Proofs.YtihgifhkjiollaaDoor
open Go.RowKit
set_option linter.unusedVariables false
set_option linter.unusedSimpArgs false

theorem PairsP.of_bad {S i : Nat} {R : Option (List UInt8 × Nat)} {e : Ending} (h : PairsP S i R e) (hz : (pairsR R).2 = 0) : ∃ (t : ByteArray) (n : Nat), e = .returned (.tuple #[.string t, .int .i64 (n : Int), .bool false]) := by
  obtain ⟨t, n, ok, rfl, hn, hk, ⟨p, rfl, hp, rfl, rfl, rfl⟩ | ⟨rfl, h⟩⟩ := h
  · exfalso
    unfold pairsR at hz
    simp [hp] at hz
  · exact ⟨t, n, rfl⟩
theorem PairsP.of_good {S i : Nat} {p : List UInt8 × Nat} {e : Ending} (h : PairsP S i (some p) e) (hz : (pairsR (some p)).2 ≠ 0) : e = .returned (.tuple #[.string ⟨p.1.toArray⟩, .int .i64 ((i + p.2 : Nat) : Int), .bool true]) ∧ i + p.2 ≤ S := by
  obtain ⟨t, n, ok, rfl, hn, hk, ⟨q, hq, hp, rfl, rfl, rfl⟩ | ⟨rfl, h⟩⟩ := h
  · cases hq
    exact ⟨rfl, hk rfl⟩
  · exact absurd h hz
/-- what bytes answers -/
def BytesP (S i : Nat) (R : Option (List UInt8 × Nat)) (e : Ending) : Prop := ∃ (t : ByteArray) (n : Nat) (ok : Bool), e = .returned (.tuple #[.string t, .int .i64 (n : Int), .bool ok]) ∧ n ≤ S + 1 ∧ (ok = true → n ≤ S) ∧ ((∃ p, R = some p ∧ ok = true ∧ t = ⟨p.1.toArray⟩ ∧ n = i + p.2) ∨ (ok = false ∧ R = none))
theorem BytesP.good {S i : Nat} {R : Option (List UInt8 × Nat)} {t : ByteArray} {n : Nat} (hn : n ≤ S) (h : ∃ p, R = some p ∧ t = ⟨p.1.toArray⟩ ∧ n = i + p.2) :
    BytesP S i R (.returned (.tuple #[.string t, .int .i64 (n : Int), .bool true])) := by
  obtain ⟨p, h1, h3, h4⟩ := h
  exact ⟨t, n, true, rfl, by omega, fun _ => hn, Or.inl ⟨p, h1, rfl, h3, h4⟩⟩
theorem BytesP.bad {S i : Nat} {R : Option (List UInt8 × Nat)} {t : ByteArray} {n : Nat} (hn : n ≤ S + 1) (h : R = none) :
    BytesP S i R (.returned (.tuple #[.string t, .int .i64 (n : Int), .bool false])) := ⟨t, n, false, rfl, hn, by simp, Or.inr ⟨rfl, h⟩⟩
theorem ba_of (b : ByteArray) : b = ⟨b.data.toList.toArray⟩ := by cases b; simp
theorem ba_append (a b : ByteArray) : (a ++ b).data.toList = a.data.toList ++ b.data.toList := by simp
theorem extract_one (s : ByteArray) (i j : Nat) (h : i < s.size) (hj : i + 1 = j) : (s.extract i j).size = 1 ∧ (s.extract i j).data.toList = [s.data.toList.getD i 0] := by
  subst hj
  have hlen : s.data.toList.length = s.size := by simp
  constructor
  · simp; omega
  · rw [Lib.extract_data, drop_at' s i h]
    have : i + 1 - i = 1 := by omega
    rw [this]
    rfl
/-- how far bytes is -/
def Bq (s : ByteArray) (R : Option (List UInt8 × Nat)) (i pos : Nat) (tb : ByteArray) : Prop := ∃ k f : Nat, pos = i + k ∧ s.size ≤ pos + f ∧ plus tb.data.toList k (Lx.quoted f (s.data.toList.drop pos)) = R ∧ tb.size ≤ k
set_option maxHeartbeats 4000000 in
set_option maxRecDepth 100000 in
theorem rBytes (s : ByteArray) (i f0 : Nat) (w : World) (hs : s.size ≤ 8192) (hi : i ≤ s.size) (hf0 : s.size ≤ i + f0) (R : Option (List UInt8 × Nat)) (hR : Lx.quoted f0 (s.data.toList.drop i) = R) :
    Calls Tryd.prog 30 #[.string s, .int .i64 (i : Int)] w fun e w' => BytesP s.size i R e ∧ Below w.heap.size w w' := by
  have hlen : s.data.toList.length = s.size := by simp
  have hst0 : Hid (Bq s R i i ⟨#[]⟩) := ⟨0, f0, rfl, hf0, by rw [hR]; exact plus_nil _, Nat.le_refl 0⟩
  clear hR hf0
  go_enter Tryd.func30, Tryd.ntmps30
  go_wp2
  go_loopg [1, 7] (s.size - i) (fun gk p v wx => ∃ (pos : Nat) (tb : ByteArray), p = .int .i64 (pos : Int) ∧ v = .string tb ∧ Below w.heap.size w wx ∧ Hid (Bq s R i pos tb) ∧ s.size ≤ pos + gk ∧ pos ≤ s.size)
  case atStart => exact ⟨i, ⟨#[]⟩, rfl, rfl, Below.refl _ _, hst0, by omega, hi⟩
  case round =>
    obtain ⟨pos, tb, rfl, rfl, hbw, hst, hfu, hps⟩ := hrel
    clear hst0
    have HBW : Hid (Below w.heap.size w wr) := hbw
    have hszW : w.heap.size ≤ wr.heap.size := hbw.size
    obtain ⟨k, f, hk, hf, hpl, hal⟩ := hst.out
    have htb : tb.size ≤ 8192 := by omega
    have hposb : (pos : Int) ≤ 8192 := by omega
    obtain ⟨p1, hp1⟩ : ∃ p, pos + 1 = p := ⟨_, rfl⟩
    have hp1i : (pos : Int) + 1 = (p1 : Int) := by omega
    have hp1b : (p1 : Int) ≤ 8193 := by omega
    have HP1 : Hid (p1 ≤ s.size + 1) := by show _ ≤ _; omega
    have HPS : Hid (pos ≤ s.size + 1) := by show _ ≤ _; omega
    clear hbw hst
    by_cases hlt : pos < s.size
    · obtain ⟨g', rfl⟩ : ∃ g', gk = g' + 1 := ⟨gk - 1, by omega⟩
      obtain ⟨f', rfl⟩ : ∃ f', f = f' + 1 := ⟨f - 1, by omega⟩
      have hcons := drop_at' s pos hlt
      have hbyte := getD_at s pos hlt
      obtain ⟨hxs, hxl⟩ := extract_one s pos p1 hlt hp1
      obtain ⟨x1, hx1⟩ : ∃ t, s.extract pos p1 = t := ⟨_, rfl⟩
      rw [hx1] at hxs hxl
      rw [hbyte] at hcons hxl
      obtain ⟨x, hxd⟩ : ∃ x, s[pos]'hlt = x := ⟨_, rfl⟩
      rw [hxd] at hcons hxl
      have hlti : (pos : Int) < (s.size : Int) := by omega
      have HLT : Hid (pos < s.size) := hlt
      rw [hcons, hp1] at hpl
      have hp1s : (p1 : Int) ≤ (s.size : Int) := by omega
      by_cases h34 : x.toNat = 34
      · rw [quoted_end f' x _ h34] at hpl
        have hx34 : ((x.toNat : Int) != 34) = false := by simp; omega
        have hfin : Hid (∃ p, R = some p ∧ tb = ⟨p.1.toArray⟩ ∧ p1 = i + p.2) := by
          refine ⟨(tb.data.toList, k + 1), ?_, ba_of tb, by show p1 = i + (k + 1); omega⟩
          rw [← hpl]
          simp [plus]
        have HM : Hid (p1 ≤ s.size) := by show _ ≤ _; omega
        clear hcons hbyte hpl hk hal hf hfu h34 hp1 hxs hxl
        go_wp2
        go_ret3
        exact ⟨BytesP.good HM.out hfin.out, HBW.out⟩
      · have hx34 : ((x.toNat : Int) != 34) = true := by simp; omega
        by_cases h124 : x.toNat = 124
        · rw [quoted_pairs f' x _ h124, pairsP_R] at hpl
          have hx124 : ((x.toNat : Int) == 124) = true := by simp; omega
          obtain ⟨RR, hRR⟩ : ∃ RR, Lx.prs (s.data.toList.drop p1) = RR := ⟨_, rfl⟩
          have cP := fun u => rPairs s p1 u hs (by omega) RR hRR
          rw [hRR] at hpl
          by_cases hz : (pairsR RR).2 = 0
          · rw [if_pos hz] at hpl
            have hfin : Hid (R = none) := by show _ = _; rw [← hpl]; rfl
            clear hcons hbyte hpl hk hal hf hfu h34 h124 hp1 hxs hxl hRR
            go_wp2_with (go_at_call 41; go_must (refine (cP _).mono ?_; rintro e w1 ⟨hP, hb1⟩; obtain ⟨t, n, rfl⟩ := hP.of_bad hz))
            go_ret3
            exact ⟨BytesP.bad HPS.out hfin.out, HBW.out.trans (hb1.mono hszW)⟩
          · rw [if_neg hz] at hpl
            obtain ⟨⟨ul, un⟩, rfl⟩ : ∃ p, RR = some p := by
              cases RR with
              | none => exact absurd rfl hz
              | some p => exact ⟨p, rfl⟩
            have hlow := pairsP_len _ _ hRR
            have hpr : pairsR (some (ul, un)) = (ul, un + 1) := by
              unfold pairsR at hz ⊢
              by_cases h : ul = []
              · simp [h] at hz
              · simp [h]
            rw [hpr, plus_some] at hpl
            obtain ⟨p2, hp2⟩ : ∃ p2, p1 + un = p2 := ⟨_, rfl⟩
            have hdr : (x :: s.data.toList.drop p1).drop (un + 1) = s.data.toList.drop p2 := by
              rw [List.drop_succ_cons, List.drop_drop, hp2]
            have hpl2 : plus (tb.data.toList ++ ul) (k + (un + 1)) (Lx.quoted f' (s.data.toList.drop p2)) = R := by rw [← hdr]; exact hpl
            obtain ⟨ub, hub⟩ : ∃ ub : ByteArray, (⟨ul.toArray⟩ : ByteArray) = ub := ⟨_, rfl⟩
            have hubl : ub.data.toList = ul := by rw [← hub]
            have hubs : ub.size = ul.length := by rw [← hub]; show ul.toArray.size = ul.length; simp
            have cG : ∀ u, Calls Tryd.prog 41 #[.string s, .int .i64 (p1 : Int)] u fun e w' => (e = .returned (.tuple #[.string ub, .int .i64 (p2 : Int), .bool true]) ∧ p2 ≤ s.size) ∧ Below u.heap.size u w' := by
              intro u
              refine (cP u).mono ?_
              rintro e w1 ⟨hP, hb1⟩
              have h := hP.of_good hz
              simp only [hub, hp2] at h
              exact ⟨h, hb1⟩
            obtain ⟨tb2, htb2⟩ : ∃ t, tb ++ ub = t := ⟨_, rfl⟩
            have hul : ul.length ≤ un := hlow
            have HST : Hid (p2 ≤ s.size → Bq s R i p2 tb2) := fun hle => ⟨k + (un + 1), f', by omega, by omega, by rw [← htb2, ba_append, hubl]; exact hpl2, by rw [← htb2, ByteArray.size_append]; omega⟩
            have HFU : Hid (s.size ≤ p2 + g') := by show _ ≤ _; omega
            have hun : ul.length ≤ s.size := by
              have := Lx.pairsP_low x (s.data.toList.drop p1) (by omega)
              rw [pairsP_R, hRR, hpr] at this
              have h1 := this.1
              simp only [List.length_cons, List.length_drop, hlen] at h1
              omega
            have hadd : ∀ u : World, (Op.stringOp .add tb ub).run Tryd.prog u = .ok (.string tb2) u := fun u => by
              rw [← htb2]
              exact run_string_add_sum u _ _ (by rw [hubs]; omega)
            clear hcons hbyte hpl hk hal hf hfu h34 h124 hp1 hxs hxl hRR hz cP hpr hdr hpl2 hub hubl hubs htb2 hun hul hlow hp2
            go_wp2_with (go_at_call 41; go_must (refine (cG _).mono ?_; rintro e w1 ⟨⟨rfl, hle0⟩, hb1⟩; have hle : Hid (p2 ≤ s.size) := hle0; clear hle0; have hadd1 := hadd w1))
            go_roundg g'
            case measure => omega
            case rel => exact ⟨p2, tb2, rfl, rfl, HBW.out.trans (hb1.mono hszW), HST.out hle.out, HFU.out, hle.out⟩
        · have hx124 : ((x.toNat : Int) == 124) = false := by simp; omega
          by_cases h92 : x.toNat = 92
          · rw [quoted_escape f' x _ h92] at hpl
            have hx92 : ((x.toNat : Int) == 92) = true := by simp; omega
            obtain ⟨p2, hp2⟩ : ∃ p, pos + 2 = p := ⟨_, rfl⟩
            have hp2i : (pos : Int) + 2 = (p2 : Int) := by omega
            have hp2b : (p2 : Int) ≤ 8194 := by omega
            by_cases hp1l : p1 < s.size
            · have hge : ¬ ((s.size : Int) ≤ (p1 : Int)) := by omega
              have hp1lt : (p1 : Int) < (s.size : Int) := by omega
              have hp2s : (p2 : Int) ≤ (s.size : Int) := by omega
              have hp12 : (p1 : Int) ≤ (p2 : Int) := by omega
              have hcons1 := drop_at' s p1 hp1l
              have hbyte1 := getD_at s p1 hp1l
              obtain ⟨hys, hyl⟩ := extract_one s p1 p2 hp1l (by omega)
              obtain ⟨y1, hy1⟩ : ∃ t, s.extract p1 p2 = t := ⟨_, rfl⟩
              rw [hy1] at hys hyl
              rw [hbyte1] at hcons1 hyl
              obtain ⟨y, hyd⟩ : ∃ y, s[p1]'hp1l = y := ⟨_, rfl⟩
              rw [hyd] at hcons1 hyl
              rw [hcons1, show p1 + 1 = p2 from by omega] at hpl
              by_cases hesc : y.toNat = 34 ∨ y.toNat = 124 ∨ y.toNat = 92
              · have hb : Lx.begins Lx.escaped (y :: s.data.toList.drop p2) = true := by
                  show Lx.bt Lx.escaped y = true
                  unfold Lx.bt Lx.escaped
                  exact decide_eq_true (by omega)
                rw [if_pos hb, List.drop_succ_cons, List.drop_zero, show (y :: s.data.toList.drop p2).getD 0 0 = y from rfl, plus_one, ← hyl] at hpl
                obtain ⟨tb2, htb2⟩ : ∃ t, tb ++ y1 = t := ⟨_, rfl⟩
                have HST : Hid (Bq s R i p2 tb2) := ⟨k + 2, f', by omega, by omega, by rw [← htb2, ba_append]; exact hpl, by rw [← htb2, ByteArray.size_append]; omega⟩
                have HP2 : Hid (p2 ≤ s.size ∧ s.size ≤ p2 + g') := by constructor <;> omega
                have hadd : (Op.stringOp .add tb y1).run Tryd.prog wr = .ok (.string tb2) wr := by
                  rw [← htb2]
                  exact run_string_add_sum wr _ _ (by omega)
                clear hcons hbyte hpl hk hal hf hfu h34 h124 h92 hp1 hxs hxl hcons1 hbyte1 hys hyl htb2 hb hp2
                rcases (show y.toNat = 34 ∨ (y.toNat ≠ 34 ∧ y.toNat = 124) ∨ (y.toNat ≠ 34 ∧ y.toNat ≠ 124 ∧ y.toNat = 92) by omega) with hy | hy | hy
                · have hz1 : ((y.toNat : Int) != 34) = false := by simp; omega
                  clear hesc hy
                  go_wp2
                  go_roundg g'
                  case measure => omega
                  case rel => exact ⟨p2, tb2, rfl, rfl, HBW.out, HST.out, HP2.out.2, HP2.out.1⟩
                · have hz1 : ((y.toNat : Int) != 34) = true := by simp; omega
                  have hz2 : ((y.toNat : Int) != 124) = false := by simp; omega
                  clear hesc hy
                  go_wp2
                  go_roundg g'
                  case measure => omega
                  case rel => exact ⟨p2, tb2, rfl, rfl, HBW.out, HST.out, HP2.out.2, HP2.out.1⟩
                · have hz1 : ((y.toNat : Int) != 34) = true := by simp; omega
                  have hz2 : ((y.toNat : Int) != 124) = true := by simp; omega
                  have hz3 : ((y.toNat : Int) != 92) = false := by simp; omega
                  clear hesc hy
                  go_wp2
                  go_roundg g'
                  case measure => omega
                  case rel => exact ⟨p2, tb2, rfl, rfl, HBW.out, HST.out, HP2.out.2, HP2.out.1⟩
              · have hb : Lx.begins Lx.escaped (y :: s.data.toList.drop p2) = false := by
                  show Lx.bt Lx.escaped y = false
                  unfold Lx.bt Lx.escaped
                  exact decide_eq_false (by omega)
                rw [hb, if_neg (by simp)] at hpl
                have hfin : Hid (R = none) := by show _ = _; rw [← hpl]; rfl
                have hz1 : ((y.toNat : Int) != 34) = true := by simp; omega
                have hz2 : ((y.toNat : Int) != 124) = true := by simp; omega
                have hz3 : ((y.toNat : Int) != 92) = true := by simp; omega
                clear hcons hbyte hpl hk hal hf hfu h34 h124 h92 hp1 hxs hxl hcons1 hbyte1 hys hyl hb hesc hp2
                go_wp2
                go_ret3
                exact ⟨BytesP.bad HPS.out hfin.out, HBW.out⟩
            · have hge : (s.size : Int) ≤ (p1 : Int) := by omega
              rw [drop_nil_of s p1 hp1l, if_neg (by simp [Lx.begins])] at hpl
              have hfin : Hid (R = none) := by show _ = _; rw [← hpl]; rfl
              clear hcons hbyte hpl hk hal hf hfu h34 h124 h92 hp1 hxs hxl hp2 hp1l
              go_wp2
              go_ret3
              exact ⟨BytesP.bad HPS.out hfin.out, HBW.out⟩
          · have hx92 : ((x.toNat : Int) == 92) = false := by simp; omega
            by_cases h32 : 32 ≤ x.toNat
            · have hx32 : (32 : Int) ≤ (x.toNat : Int) := by omega
              by_cases h126 : x.toNat ≤ 126
              · have hx126 : (x.toNat : Int) ≤ 126 := by omega
                have hpp : (pos : Int) ≤ (p1 : Int) := by omega
                rw [quoted_plain f' x _ h34 h124 h92 ⟨h32, h126⟩, plus_one, ← hxl] at hpl
                obtain ⟨tb2, htb2⟩ : ∃ t, tb ++ x1 = t := ⟨_, rfl⟩
                have HST : Hid (Bq s R i p1 tb2) := ⟨k + 1, f', by omega, by omega, by rw [← htb2, ba_append]; exact hpl, by rw [← htb2, ByteArray.size_append]; omega⟩
                have HP2 : Hid (p1 ≤ s.size ∧ s.size ≤ p1 + g') := by constructor <;> omega
                have hadd : (Op.stringOp .add tb x1).run Tryd.prog wr = .ok (.string tb2) wr := by
                  rw [← htb2]
                  exact run_string_add_sum wr _ _ (by omega)
                clear hcons hbyte hpl hk hal hf hfu h34 h124 h92 hp1 hxs hxl htb2 h32 h126
                go_wp2
                go_roundg g'
                case measure => omega
                case rel => exact ⟨p1, tb2, rfl, rfl, HBW.out, HST.out, HP2.out.2, HP2.out.1⟩
              · have hx126 : ¬ ((x.toNat : Int) ≤ 126) := by omega
                rw [quoted_bad f' x _ h34 h124 h92 (by omega)] at hpl
                have hfin : Hid (R = none) := by show _ = _; rw [← hpl]; rfl
                clear hcons hbyte hpl hk hal hf hfu h34 h124 h92 hp1 hxs hxl h32 h126
                go_wp2
                go_ret3
                exact ⟨BytesP.bad HPS.out hfin.out, HBW.out⟩
            · have hx32 : ¬ ((32 : Int) ≤ (x.toNat : Int)) := by omega
              rw [quoted_bad f' x _ h34 h124 h92 (by omega)] at hpl
              have hfin : Hid (R = none) := by show _ = _; rw [← hpl]; rfl
              clear hcons hbyte hpl hk hal hf hfu h34 h124 h92 hp1 hxs hxl h32
              go_wp2
              go_ret3
              exact ⟨BytesP.bad HPS.out hfin.out, HBW.out⟩
    · have hlti : ¬ ((pos : Int) < (s.size : Int)) := by omega
      rw [drop_nil_of s pos hlt, quoted_nil] at hpl
      have hfin : Hid (R = none) := by show _ = _; rw [← hpl]; rfl
      clear hpl hk hal hf hfu hp1
      go_wp2
      go_ret3
      exact ⟨BytesP.bad HP1.out hfin.out, HBW.out⟩
end Go.Proofs.YtihgifhkjiollaaDoor
