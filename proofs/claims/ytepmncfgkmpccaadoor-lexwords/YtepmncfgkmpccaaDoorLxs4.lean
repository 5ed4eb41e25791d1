/- Layer 8: pairsOf. -/
import Derived.Test.YtepmncfgkmpccaaDoorLxs3
namespace Go.Proofs.YtepmncfgkmpccaaDoor
open Go.RowKit
set_option linter.unusedVariables false
set_option linter.unusedSimpArgs false

/-- what was read so far, and what comes -/
def plus (acc : List UInt8) (k : Nat) (r : Option (List UInt8 × Nat)) : Option (List UInt8 × Nat) := r.map (fun p => (acc ++ p.1, k + p.2))
theorem plus_nil (r : Option (List UInt8 × Nat)) : plus [] 0 r = r := by
  cases r with
  | none => rfl
  | some p => simp [plus]
theorem prs_bar (c : UInt8) (l : List UInt8) (h : c.toNat = 124) : Lx.prs (c :: l) = some ([], 1) := by
  rw [Lx.prs.eq_def]; simp [h]
theorem prs_blank (c : UInt8) (l : List UInt8) (h : c.toNat = 32) : Lx.prs (c :: l) = (Lx.prs l).map (fun p => (p.1, p.2 + 1)) := by
  rw [Lx.prs.eq_def]; simp [h]
theorem prs_bad (c : UInt8) (l : List UInt8) (h1 : c.toNat ≠ 124) (h2 : c.toNat ≠ 32) (h3 : Lx.hexv (c.toNat : Int) < 0) : Lx.prs (c :: l) = none := by
  rw [Lx.prs.eq_def]
  simp only [h1, h2, if_false]
  cases l with
  | nil => rfl
  | cons d l => simp only []; rw [if_neg (by omega)]
theorem hexv_not (c : UInt8) (h : 0 ≤ Lx.hexv (c.toNat : Int)) : c.toNat ≠ 124 ∧ c.toNat ≠ 32 := by
  unfold Lx.hexv at h
  repeat' split at h
  all_goals omega
theorem prs_two (c d : UInt8) (l : List UInt8) (h1 : 0 ≤ Lx.hexv (c.toNat : Int)) (h2 : 0 ≤ Lx.hexv (d.toNat : Int)) : Lx.prs (c :: d :: l) = (Lx.prs l).map (fun p => (Lx.two c d :: p.1, p.2 + 2)) := by
  obtain ⟨a, b⟩ := hexv_not c h1
  rw [Lx.prs.eq_def]
  simp only [a, b, if_false]
  rw [if_pos ⟨h1, h2⟩]
theorem prs_half (c d : UInt8) (l : List UInt8) (h1 : 0 ≤ Lx.hexv (c.toNat : Int)) (h2 : Lx.hexv (d.toNat : Int) < 0) : Lx.prs (c :: d :: l) = none := by
  obtain ⟨a, b⟩ := hexv_not c h1
  rw [Lx.prs.eq_def]
  simp only [a, b, if_false]
  rw [if_neg (by omega)]
theorem prs_last (c : UInt8) (h1 : 0 ≤ Lx.hexv (c.toNat : Int)) : Lx.prs [c] = none := by
  obtain ⟨a, b⟩ := hexv_not c h1
  rw [Lx.prs.eq_def]
  simp only [a, b, if_false]
theorem plus_blank (acc : List UInt8) (k : Nat) (r : Option (List UInt8 × Nat)) : plus acc k (r.map (fun p => (p.1, p.2 + 1))) = plus acc (k + 1) r := by
  cases r with
  | none => rfl
  | some p => simp [plus]; omega
theorem plus_two (acc : List UInt8) (k : Nat) (x : UInt8) (r : Option (List UInt8 × Nat)) : plus acc k (r.map (fun p => (x :: p.1, p.2 + 2))) = plus (acc ++ [x]) (k + 2) r := by
  cases r with
  | none => rfl
  | some p => simp [plus]; omega
theorem hexv_high (r : Int) (h : 128 ≤ r) : Lx.hexv r = -1 := by
  unfold Lx.hexv
  rw [if_neg (by omega), if_neg (by omega), if_neg (by omega)]
theorem two_val (c d : UInt8) (h1 : 0 ≤ Lx.hexv (c.toNat : Int)) (h2 : 0 ≤ Lx.hexv (d.toNat : Int)) : ((Lx.two c d).toNat : Int) = Lx.hexv (c.toNat : Int) * 16 + Lx.hexv (d.toNat : Int) := by
  have a := Lx.hexv_bd (c.toNat : Int)
  have b := Lx.hexv_bd (d.toNat : Int)
  unfold Lx.two
  rw [UInt8.toNat_ofNat']
  omega
/-- what pairsOf answers, by what is read behind the bar -/
def pairsR (R : Option (List UInt8 × Nat)) : List UInt8 × Nat := match R with
  | none => ([], 0)
  | some p => if p.1 = [] then ([], 0) else (p.1, p.2 + 1)
theorem pairsR_none (acc : List UInt8) (k : Nat) : pairsR (plus acc k none) = ([], 0) := rfl
theorem pairsR_empty (k : Nat) : pairsR (plus [] k (some ([], 1))) = ([], 0) := rfl
theorem pairsR_end (acc : List UInt8) (k : Nat) (h : acc ≠ []) : pairsR (plus acc k (some ([], 1))) = (acc, k + 2) := by
  unfold pairsR plus
  simp [h]
theorem pairsP_R (c : UInt8) (l : List UInt8) : Lx.pairsP (c :: l) = pairsR (Lx.prs l) := rfl
/-- how far pairsOf is -/
def Pst (L : List UInt8) (R : Option (List UInt8 × Nat)) (pos : Nat) (acc : List UInt8) (high : Int) : Prop :=
  (pos = 0 ∧ acc = [] ∧ high = -1) ∨ (∃ k, pos = k + 1 ∧ high = -1 ∧ plus acc k (Lx.prs (L.drop pos)) = R) ∨ (∃ (k : Nat) (c : UInt8), pos = k + 2 ∧ high = Lx.hexv (c.toNat : Int) ∧ 0 ≤ Lx.hexv (c.toNat : Int) ∧ plus acc k (Lx.prs (c :: L.drop pos)) = R)
theorem or_bits (h d : Int) (h0 : 0 ≤ h) (h1 : h ≤ 15) (d0 : 0 ≤ d) (d1 : d ≤ 15) : bits .or .i64 (h * 16) d = h * 16 + d := by
  obtain ⟨a, rfl⟩ := Int.eq_ofNat_of_zero_le h0
  obtain ⟨b, rfl⟩ := Int.eq_ofNat_of_zero_le d0
  have key : ∀ a b : Fin 16, bits .or .i64 (((a.val : Nat) : Int) * 16) ((b.val : Nat) : Int) = ((a.val : Nat) : Int) * 16 + ((b.val : Nat) : Int) := by decide
  exact key ⟨a, by omega⟩ ⟨b, by omega⟩
set_option maxHeartbeats 4000000 in
set_option maxRecDepth 100000 in
theorem pairsOf_any (s : ByteArray) (w : World) (hs : s.size ≤ 8192) (h0 : 0 < s.size) (hc : (s.data.toList.getD 0 0).toNat = 124) :
    Calls Tryd.prog 25 #[.string s] w fun e w' => (∃ v, e = .returned (.tuple #[v, .int .i64 ((Lx.pairsP s.data.toList).2 : Int)]) ∧ OwnB w' w.heap.size v (Lx.pairsP s.data.toList).1) ∧ Below w.heap.size w w' ∧ w.heap.size ≤ w'.heap.size := by
  have hlen : s.data.toList.length = s.size := by simp
  obtain ⟨R, hR⟩ : ∃ R, Lx.prs (s.data.toList.drop 1) = R := ⟨_, rfl⟩
  have hP : Lx.pairsP s.data.toList = pairsR R := by
    have h := drop_at' s 0 h0
    rw [List.drop_zero] at h
    rw [h, pairsP_R, hR]
  rw [hP]
  clear hP
  obtain ⟨P, hPR⟩ : ∃ P, pairsR R = P := ⟨_, rfl⟩
  rw [hPR]
  have HPR : Hid (pairsR R = P) := hPR
  clear hPR
  go_enter Tryd.func25, Tryd.ntmps25
  go_wp2
  go_loopg [4, 5] s.size (fun gk v hi wx => ∃ (pos : Nat) (acc : List UInt8) (high : Int), hi = .int .i64 high ∧ OwnB wx w.heap.size v acc ∧ wx.heap[w.heap.size]? = some (.stringIter s pos) ∧ Below w.heap.size w wx ∧ Hid (Pst s.data.toList R pos acc high) ∧ s.size = pos + gk ∧ acc.length ≤ pos)
  case atStart =>
    exact ⟨0, [], -1, rfl, OwnB.nil _ _, World.iter_heap w s 0, below1 w _, (by show Pst _ _ _ _ _; exact Or.inl ⟨rfl, rfl, rfl⟩), by omega, by simp⟩
  case round =>
    obtain ⟨pos, acc, high, rfl, hown, hit, hbw, hst, hfu, hal⟩ := hrel
    obtain ⟨vp, vc, rfl⟩ := hown.form
    by_cases hlt : pos < s.size
    · obtain ⟨g', rfl⟩ : ∃ g', gk = g' + 1 := ⟨gk - 1, by omega⟩
      have hnx : ∀ ty, (Instr.next (.pointer (some ⟨w.heap.size, 0, none⟩)) true ty).run Tryd.prog wr = _ := fun ty => Lib.run_next_any_at wr w.heap.size s pos ty hit hlt
      have hrl := Lib.rune_le s pos
      have hcons := drop_at' s pos hlt
      have hrune : ((s.data.toList.getD pos 0).toNat < 128 ∧ (Utf8.decode s pos).1 = (s.data.toList.getD pos 0).toNat ∧ (Utf8.decode s pos).2 = 1) ∨ (128 ≤ (s.data.toList.getD pos 0).toNat ∧ 128 ≤ (Utf8.decode s pos).1) := by
        by_cases ha : (s.data.toList.getD pos 0).toNat < 128
        · rw [Lx.low_one s pos hlt ha]
          exact Or.inl ⟨ha, rfl, rfl⟩
        · exact Or.inr ⟨by omega, (Lx.high_rune s pos hlt (by omega)).1⟩
      obtain ⟨x, hx⟩ : ∃ x, s.data.toList.getD pos 0 = x := ⟨_, rfl⟩
      rw [hx] at hcons hrune
      obtain ⟨K, hK⟩ : ∃ K, (Utf8.decode s pos).2 = K := ⟨_, rfl⟩
      obtain ⟨r, hr⟩ : ∃ r, (Utf8.decode s pos).1 = r := ⟨_, rfl⟩
      rw [hK, hr] at hnx hrune
      rw [hr] at hrl
      have hit2 := Lib.iterAt_heap wr w.heap.size s pos (pos + K) hit
      have hbw2 := Lib.below_iterAt hbw (k := w.heap.size) (Nat.le_refl _) s (pos + K)
      have hown2 := hown.iterAt hit (pos + K)
      obtain ⟨W, hWd⟩ : ∃ W, wr.iterAt w.heap.size s (pos + K) = W := ⟨_, rfl⟩
      rw [hWd] at hnx hit2 hbw2 hown2
      have cD := digitOf_any (r : Int) W (by omega) (by omega)
      have HO : Hid (OwnB W w.heap.size (.slice vp acc.length vc) acc) := hown2
      have HBW : Hid (Below w.heap.size w W) := hbw2
      have HIT : Hid (W.heap[w.heap.size]? = some (.stringIter s (pos + K))) := hit2
      have hszW : w.heap.size ≤ W.heap.size := hbw2.size
      have hhex : Lx.hexv (r : Int) = Lx.hexv (x.toNat : Int) := by
        rcases hrune with ⟨_, h, _⟩ | ⟨h1, h2⟩
        · rw [h]
        · rw [hexv_high _ (by omega), hexv_high _ (by omega)]
      rw [hhex] at cD
      have hbd := Lx.hexv_bd (x.toNat : Int)
      obtain ⟨d, hd⟩ : ∃ d, Lx.hexv (x.toNat : Int) = d := ⟨_, rfl⟩
      rw [hd] at cD hbd
      have HFU : Hid (s.size = pos + (g' + 1)) := hfu
      have hal6 : acc.length ≤ 1000000 := by omega
      have HAL : Hid (acc.length ≤ pos) := hal
      have hposb : (pos : Int) ≤ 8192 := by omega
      obtain ⟨hbd1, hbd2⟩ := hbd
      clear hit hbw hown hWd hit2 hbw2 hown2 hfu hal hrl hhex hK hr
      rcases hst.out with ⟨rfl, rfl, rfl⟩ | ⟨k, hk, rfl, hplus⟩ | ⟨k, c, hk, hhi, hc0, hplus⟩
      · -- the bar that it begins with
        have hx124 : x.toNat = 124 := by rw [← hx]; exact hc
        obtain ⟨rfl, rfl⟩ : K = 1 ∧ r = x.toNat := by
          rcases hrune with ⟨_, h, h1⟩ | ⟨h1, h2⟩
          · exact ⟨h1, h⟩
          · first
              | omega
              | (rw [hexv_high _ (by omega)] at hd; omega)
        clear hrune hst hcons hx hx124
        go_wp2_with (go_at_call 37; go_must (refine cD.mono ?_; rintro e W' ⟨rfl, rfl⟩))
        go_roundg g'
        case measure => omega
        case rel => exact ⟨1, [], -1, rfl, HO.out, HIT.out, HBW.out, (by show Pst _ _ _ _ _; exact Or.inr (Or.inl ⟨0, rfl, rfl, by rw [plus_nil]; exact hR⟩)), by have := HFU.out; omega, by simp⟩
      · have hpos0 : ¬ ((pos : Int) = 0) := by omega
        rw [hcons] at hplus
        by_cases hd0 : 0 ≤ d
        · -- the first digit of a pair
          obtain ⟨rfl, rfl⟩ : K = 1 ∧ r = x.toNat := by
            rcases hrune with ⟨_, h, h1⟩ | ⟨h1, h2⟩
            · exact ⟨h1, h⟩
            · first
                | omega
                | (rw [hexv_high _ (by omega)] at hd; omega)
          have HST : Hid (Pst s.data.toList R (pos + 1) acc d) := by
            show Pst _ _ _ _ _
            exact Or.inr (Or.inr ⟨k, x, by omega, hd.symm, by omega, hplus⟩)
          clear hrune hst hcons hx hplus hd hk
          go_wp2_with (go_at_call 37; go_must (refine cD.mono ?_; rintro e W' ⟨rfl, rfl⟩))
          go_roundg g'
          case measure => omega
          case rel => exact ⟨pos + 1, acc, d, rfl, HO.out, HIT.out, HBW.out, HST, by have := HFU.out; omega, by have := HAL.out; omega⟩
        · have hd1 : d < 0 := by omega
          by_cases hx124 : x.toNat = 124
          · obtain ⟨rfl, rfl⟩ : K = 1 ∧ r = x.toNat := by
              rcases hrune with ⟨_, h, h1⟩ | ⟨h1, h2⟩
              · exact ⟨h1, h⟩
              · first
                  | omega
                  | (rw [hexv_high _ (by omega)] at hd; omega)
            rw [prs_bar x _ hx124] at hplus
            have hr124 : (x.toNat : Int) = 124 := by omega
            rw [hr124] at cD hnx
            by_cases ha : acc.length = 0
            · have hacc : acc = [] := List.eq_nil_of_length_eq_zero ha
              have hRR : P = ([], 0) := by rw [← HPR.out, ← hplus, hacc, pairsR_empty]
              subst hRR
              clear hrune hst hcons hx hplus hd hk hR
              go_wp2_with (go_at_call 37; go_must (refine cD.mono ?_; rintro e W' ⟨rfl, rfl⟩))
              go_ret2
              exact ⟨⟨_, rfl, OwnB.nil _ _⟩, HBW.out, hszW⟩
            · have ha0 : 0 < acc.length := by omega
              have hacc : acc ≠ [] := fun h => ha (by rw [h]; rfl)
              obtain ⟨m, hm⟩ : ∃ m, pos + 1 = m := ⟨_, rfl⟩
              have hRR : P = (acc, m) := by
                rw [← HPR.out, ← hplus, pairsR_end acc k hacc, ← hm, hk]
              subst hRR
              have hpw2 : (pos : Int) + 1 = (m : Int) := by omega
              have hmb : (m : Int) ≤ 8193 := by omega
              clear hrune hst hcons hx hplus hd hk hR hm ha hacc
              go_wp2_with (go_at_call 37; go_must (refine cD.mono ?_; rintro e W' ⟨rfl, rfl⟩))
              go_ret2
              exact ⟨⟨_, rfl, HO.out⟩, HBW.out, hszW⟩
          · by_cases hx32 : x.toNat = 32
            · obtain ⟨rfl, rfl⟩ : K = 1 ∧ r = x.toNat := by
                rcases hrune with ⟨_, h, h1⟩ | ⟨h1, h2⟩
                · exact ⟨h1, h⟩
                · first
                    | omega
                    | (rw [hexv_high _ (by omega)] at hd; omega)
              rw [prs_blank x _ hx32, plus_blank] at hplus
              have hr32 : (x.toNat : Int) = 32 := by omega
              rw [hr32] at cD hnx
              have HST : Hid (Pst s.data.toList R (pos + 1) acc (-1)) := by
                show Pst _ _ _ _ _
                exact Or.inr (Or.inl ⟨k + 1, by omega, rfl, hplus⟩)
              clear hrune hst hcons hx hplus hd hk hx124
              go_wp2_with (go_at_call 37; go_must (refine cD.mono ?_; rintro e W' ⟨rfl, rfl⟩))
              go_roundg g'
              case measure => omega
              case rel => exact ⟨pos + 1, acc, -1, rfl, HO.out, HIT.out, HBW.out, HST, by have := HFU.out; omega, by have := HAL.out; omega⟩
            · have hr1 : ¬ ((r : Int) = 124) := by rcases hrune with ⟨_, h, _⟩ | ⟨h1, h2⟩ <;> omega
              have hr2 : ¬ ((r : Int) = 32) := by rcases hrune with ⟨_, h, _⟩ | ⟨h1, h2⟩ <;> omega
              rw [prs_bad x _ hx124 hx32 (by omega)] at hplus
              have hRR : P = ([], 0) := by rw [← HPR.out, ← hplus, pairsR_none]
              subst hRR
              clear hrune hst hcons hx hplus hd hk hR
              go_wp2_with (go_at_call 37; go_must (refine cD.mono ?_; rintro e W' ⟨rfl, rfl⟩))
              go_ret2
              exact ⟨⟨_, rfl, OwnB.nil _ _⟩, HBW.out, hszW⟩
      · have hpos0 : ¬ ((pos : Int) = 0) := by omega
        have hbc := Lx.hexv_bd (c.toNat : Int)
        obtain ⟨hb1, hb2⟩ := hbc
        rw [hcons] at hplus
        by_cases hd0 : 0 ≤ d
        · -- the second digit
          obtain ⟨rfl, rfl⟩ : K = 1 ∧ r = x.toNat := by
            rcases hrune with ⟨_, h, h1⟩ | ⟨h1, h2⟩
            · exact ⟨h1, h⟩
            · first
                | omega
                | (rw [hexv_high _ (by omega)] at hd; omega)
          have htw := two_val c x hc0 (by omega)
          rw [prs_two c x _ hc0 (by omega), plus_two] at hplus
          rw [← hhi, hd] at htw
          rw [← hhi] at hb1 hb2 hc0
          have hor := or_bits high d hc0 hb2 hd0 hbd2
          rw [← htw] at hor
          obtain ⟨y, hy⟩ : ∃ y, Lx.two c x = y := ⟨_, rfl⟩
          rw [hy] at hor hplus
          have hyb : (y.toNat : Int) < 256 := by have := y.toNat_lt; omega
          have hb124 : ¬ (high < 0) := by omega
          have HST : Hid (Pst s.data.toList R (pos + 1) (acc ++ [y]) (-1)) := by
            show Pst _ _ _ _ _
            exact Or.inr (Or.inl ⟨k + 2, by omega, rfl, hplus⟩)
          clear hrune hst hcons hx hplus hd hk hhi htw hy
          go_wp2_with (first
            | (go_at_call 37; go_must (refine cD.mono ?_; rintro e W' ⟨rfl, rfl⟩))
            | (at_builtin; go_must (refine app_byte rfl _ _ rfl w.heap.size _ acc rfl HO hszW hal6 _ rfl ?_)))
          intro v' w1 HO1 HB1 HK1 hsz1
          have HB2 : Hid (Below w.heap.size w w1) := HB1.out _ _ (Nat.le_refl _) (Nat.le_refl _) HBW.out
          have HIT2 : Hid (w1.heap[w.heap.size]? = some (.stringIter s (pos + 1))) := Beside.iter HK1.out HIT.out
          clear HB1 HBW HO HIT cD HK1
          go_wp2
          go_roundg g'
          case measure => omega
          case rel => exact ⟨pos + 1, _, -1, rfl, HO1.out, HIT2.out, HB2.out, HST, by have := HFU.out; omega, by have := HAL.out; rw [List.length_append, List.length_singleton]; omega⟩
        · have hd1 : d < 0 := by omega
          rw [prs_half c x _ hc0 (by omega)] at hplus
          rw [← hhi] at hb1 hb2 hc0
          have hRR : P = ([], 0) := by rw [← HPR.out, ← hplus, pairsR_none]
          subst hRR
          have hb124 : ¬ (high < 0) := by omega
          clear hrune hst hcons hx hplus hd hk hhi hR
          go_wp2_with (go_at_call 37; go_must (refine cD.mono ?_; rintro e W' ⟨rfl, rfl⟩))
          go_ret2
          exact ⟨⟨_, rfl, OwnB.nil _ _⟩, HBW.out, hszW⟩
    · obtain rfl : pos = s.size := by omega
      have hnx : ∀ ty, (Instr.next (.pointer (some ⟨w.heap.size, 0, none⟩)) true ty).run Tryd.prog wr = _ := fun ty => Lib.run_next_end_at wr w.heap.size s s.size ty hit hlt
      have hRR : P = ([], 0) := by
        rw [← HPR.out]
        rcases hst.out with ⟨h, _, _⟩ | ⟨k, hk, _, hplus⟩ | ⟨k, c, hk, hhi, hc0, hplus⟩
        · omega
        · rw [drop_nil_of s s.size hlt] at hplus
          rw [← hplus]
          exact pairsR_none acc k
        · rw [drop_nil_of s s.size hlt, prs_last c hc0] at hplus
          rw [← hplus, pairsR_none]
      subst hRR
      have HBW : Hid (Below w.heap.size w wr) := hbw
      have hszW : w.heap.size ≤ wr.heap.size := hbw.size
      clear hR hst hown hit hbw hfu hal
      go_wp2
      go_ret2
      exact ⟨⟨_, rfl, OwnB.nil _ _⟩, HBW.out, hszW⟩
end Go.Proofs.YtepmncfgkmpccaaDoor
