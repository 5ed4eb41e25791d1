/- Layer 8: bytesOf, the walk. -/
import Derived.Test.YtepmncfgkmpccaaDoorLxs5
namespace Go.Proofs.YtepmncfgkmpccaaDoor
open Go.RowKit
set_option linter.unusedVariables false
set_option linter.unusedSimpArgs false

set_option maxHeartbeats 4000000 in
set_option maxRecDepth 100000 in
theorem bytesOf_any (s : ByteArray) (w : World) (hs : s.size ≤ 8192) (h0 : 0 < s.size) (hc : (s.data.toList.getD 0 0).toNat = 34) :
    Calls Tryd.prog 18 #[.string s] w fun e w' => e = .returned (.tuple #[.string ⟨(Lx.bytesP s.data.toList).1.toArray⟩, .int .i64 ((Lx.bytesP s.data.toList).2 : Int)]) ∧ Below w.heap.size w w' := by
  have hlen : s.data.toList.length = s.size := by simp
  obtain ⟨R, hR⟩ : ∃ R, Lx.quoted (s.data.toList.drop 1).length (s.data.toList.drop 1) = R := ⟨_, rfl⟩
  have hstart := Bst.start s h0 hc
  have hP : Lx.bytesP s.data.toList = bytesR R := by
    have h := drop_at' s 0 h0
    rw [List.drop_zero] at h
    rw [h, bytesP_R, hR]
  rw [hP]
  rw [hR] at hstart
  clear hP
  obtain ⟨P, hPR⟩ : ∃ P, bytesR R = P := ⟨_, rfl⟩
  rw [hPR]
  have HPR : Hid (bytesR R = P) := hPR
  have HST0 : Hid (Bst s R 0 1 []) := hstart
  clear hPR hR hstart hc hlen
  go_enter Tryd.func18, Tryd.ntmps18
  go_wp2
  go_loopg [4, 5] s.size (fun gk v nx wx => ∃ (pos next : Nat) (acc : List UInt8), nx = .int .i64 (next : Int) ∧ next ≤ 8192 ∧ OwnB wx w.heap.size v acc ∧ wx.heap[w.heap.size]? = some (.stringIter s pos) ∧ Below w.heap.size w wx ∧ Hid (Bst s R pos next acc) ∧ s.size ≤ pos + gk ∧ pos ≤ s.size)
  case atStart =>
    exact ⟨0, 1, [], rfl, by omega, OwnB.nil _ _, World.iter_heap w s 0, below1 w _, HST0, by omega, by omega⟩
  case round =>
    obtain ⟨pos, next, acc, rfl, hnb, hown, hit, hbw, hst, hfu, hps⟩ := hrel
    clear HST0
    obtain ⟨vp, vc, rfl⟩ := hown.form
    by_cases hlt : pos < s.size
    · obtain ⟨g', rfl⟩ : ∃ g', gk = g' + 1 := ⟨gk - 1, by omega⟩
      have hnx : ∀ ty, (Instr.next (.pointer (some ⟨w.heap.size, 0, none⟩)) true ty).run Tryd.prog wr = _ := fun ty => Lib.run_next_any_at wr w.heap.size s pos ty hit hlt
      have hwd : 1 ≤ (Utf8.decode s pos).2 := Lib.width_pos s pos
      have hsk := fun h => Bst.skip hst.out (next := next) h
      have hhere := fun h => Bst.here hst.out h hlt
      have hrune : ((s.data.toList.getD pos 0).toNat < 128 ∧ (Utf8.decode s pos).1 = (s.data.toList.getD pos 0).toNat ∧ (Utf8.decode s pos).2 = 1) ∨ (128 ≤ (s.data.toList.getD pos 0).toNat ∧ 128 ≤ (Utf8.decode s pos).1) := by
        by_cases ha : (s.data.toList.getD pos 0).toNat < 128
        · rw [Lx.low_one s pos hlt ha]
          exact Or.inl ⟨ha, rfl, rfl⟩
        · exact Or.inr ⟨by omega, (Lx.high_rune s pos hlt (by omega)).1⟩
      have hcons := drop_at' s pos hlt
      obtain ⟨x, hx⟩ : ∃ x, s.data.toList.getD pos 0 = x := ⟨_, rfl⟩
      rw [hx] at hcons hrune hhere
      obtain ⟨K, hK⟩ : ∃ K, (Utf8.decode s pos).2 = K := ⟨_, rfl⟩
      obtain ⟨r, hr⟩ : ∃ r, (Utf8.decode s pos).1 = r := ⟨_, rfl⟩
      rw [hK, hr] at hnx hrune
      rw [hK] at hwd hsk
      have hit2 := Lib.iterAt_heap wr w.heap.size s pos (pos + K) hit
      have hbw2 := Lib.below_iterAt hbw (k := w.heap.size) (Nat.le_refl _) s (pos + K)
      have hown2 := hown.iterAt hit (pos + K)
      obtain ⟨W, hWd⟩ : ∃ W, wr.iterAt w.heap.size s (pos + K) = W := ⟨_, rfl⟩
      rw [hWd] at hnx hit2 hbw2 hown2
      have HO : Hid (OwnB W w.heap.size (.slice vp acc.length vc) acc) := hown2
      have HBW : Hid (Below w.heap.size w W) := hbw2
      have HIT : Hid (W.heap[w.heap.size]? = some (.stringIter s (pos + K))) := hit2
      have hszW : w.heap.size < W.heap.size := (Array.getElem?_eq_some_iff.1 hit2).1
      have HCV : Hid ((convert 44 9 (.slice vp acc.length vc)).run Tryd.prog W = .ok (.string ⟨acc.toArray⟩) W) := hown2.string
      have HFU : Hid (s.size ≤ pos + (g' + 1)) := hfu
      have hposb : (pos : Int) ≤ 8192 := by omega
      clear hit hbw hown hWd hit2 hbw2 hown2 hfu hst hK hr
      by_cases hsk0 : pos < next
      · obtain ⟨hs1, hs2⟩ := hsk hsk0
        have HS : Hid (Bst s R (pos + K) next acc) := hs1
        have hsk0' : (pos : Int) < (next : Int) := by omega
        clear hhere hsk hs1 hcons hrune HCV
        go_wp2
        go_roundg g'
        case measure => omega
        case rel => exact ⟨pos + K, next, acc, rfl, hnb, HO.out, HIT.out, HBW.out, HS, by have := HFU.out; omega, hs2⟩
      · obtain ⟨k, f, hk, hf, hal, hq⟩ := hhere hsk0
        have hsk0' : ¬ (pos : Int) < (next : Int) := by omega
        have hal6 : acc.length ≤ 1000000 := by omega
        clear hhere hsk
        by_cases hx34 : x.toNat = 34
        · obtain ⟨rfl, rfl⟩ : K = 1 ∧ r = x.toNat := by
            rcases hrune with ⟨_, h, h1⟩ | ⟨h1, h2⟩
            · exact ⟨h1, h⟩
            · omega
          rw [quoted_end f x _ hx34] at hq
          obtain ⟨m, hm⟩ : ∃ m, pos + 1 = m := ⟨_, rfl⟩
          have hRR : P = (acc, m) := by rw [← HPR.out, ← hq, bytesR_end, ← hm, hk]
          subst hRR
          have hpw2 : (pos : Int) + 1 = (m : Int) := by omega
          have hmb : (m : Int) ≤ 8193 := by omega
          have hr34 : (x.toNat : Int) = 34 := by omega
          rw [hr34] at hnx
          have hcv := HCV.out
          clear hrune hcons hx hq hk hf hm HCV HO HIT HFU hx34
          go_wp2
          go_ret2
          exact ⟨rfl, HBW.out⟩
        · by_cases hx124 : x.toNat = 124
          · obtain ⟨rfl, rfl⟩ : K = 1 ∧ r = x.toNat := by
              rcases hrune with ⟨_, h, h1⟩ | ⟨h1, h2⟩
              · exact ⟨h1, h⟩
              · omega
            rw [quoted_pairs f x _ hx124, ← hcons] at hq
            obtain ⟨ht1, ht2⟩ := extract_from s pos (by omega)
            have hlow := Lx.pairsP_low x (s.data.toList.drop (pos + 1)) (by omega)
            have hfa := pairs_facts x (s.data.toList.drop (pos + 1))
            have hl1 := hlow.1
            rw [← hcons] at hlow hfa hl1
            have hlen : (s.data.toList.drop pos).length = s.size - pos := by rw [List.length_drop]; simp
            rw [hlen] at hl1
            obtain ⟨t, ht⟩ : ∃ t, s.extract pos s.size = t := ⟨_, rfl⟩
            rw [ht] at ht1 ht2
            have cP := pairsOf_any t W (by omega) (by omega) (by rw [ht2, hcons]; exact hx124)
            rw [ht2] at cP
            obtain ⟨u, n, hun⟩ : ∃ u n, Lx.pairsP (s.data.toList.drop pos) = (u, n) := ⟨_, _, rfl⟩
            rw [hun] at cP hq hlow hfa hl1
            have hr124 : (x.toNat : Int) = 124 := by omega
            rw [hr124] at hnx
            have hpz : (pos : Int) ≤ (s.size : Int) := by omega
            by_cases hn0 : n = 0
            · subst hn0
              rw [if_pos rfl] at hq
              have hRR : P = ([], 0) := by rw [← HPR.out, ← hq, bytesR_none]
              subst hRR
              clear hrune hcons hx hq hk hf HCV HO HIT HFU hx34 hx124 hlow hfa hl1 hlen ht1 ht2 hun
              go_wp2_with (go_at_call 25; go_must (refine cP.mono ?_; rintro e w1 ⟨⟨v2, rfl, hv2⟩, hb1, hz1⟩))
              go_ret2
              exact ⟨rfl, HBW.out.trans (hb1.mono (Nat.le_of_lt hszW))⟩
            · rw [if_neg hn0, plus_some] at hq
              obtain ⟨p2, hp2⟩ : ∃ p2, pos + n = p2 := ⟨_, rfl⟩
              have hne : u ≠ [] := hfa.2 hn0
              have hul0 : u.length ≤ n := hfa.1
              have hl1' : n ≤ s.size - pos := hl1
              have hul : u.length ≤ 1000000 := by omega
              have hst2 : Hid (Bst s R (pos + 1) p2 (acc ++ u)) := by
                refine Bst.go (n := n) (by omega) hk hf ?_ hlt hlow ?_ p2 (Or.inl hp2.symm)
                · rw [List.length_append]
                  omega
                · rw [List.drop_drop] at hq
                  exact hq
              have hp3 : (pos : Int) + (n : Int) = (p2 : Int) := by omega
              have hp2b : p2 ≤ 8192 := by omega
              have hp2b' : (p2 : Int) ≤ 8192 := by omega
              have hn0' : ¬ ((n : Int) = 0) := by omega
              have hn0b : ((n : Int) == 0) = false := by simpa using hn0'
              clear hrune hcons hx hq hk hf HCV hx34 hx124 hlow hfa hl1 hlen ht1 ht2 hun hn0 hp2 hul0 hl1'
              go_wp2_with (first
                | (go_at_call 25; go_must (refine cP.mono ?_; rintro e w1 ⟨⟨v2, rfl, hv2⟩, hb1, hz1⟩))
                | (at_builtin; go_must (refine app_bytes rfl _ _ rfl w.heap.size _ acc rfl (OwnB.below HO.out hb1 (Nat.le_refl _)) (Nat.le_trans (Nat.le_of_lt hszW) hz1) hal6 W.heap.size _ u rfl hv2 hul hne ?_)))
              intro v' w2 HO2 HB2 HK2 hsz2
              have HB3 : Hid (Below w.heap.size w w2) := HB2.out _ _ (Nat.le_refl _) (Nat.le_refl _) (HBW.out.trans (hb1.mono (Nat.le_of_lt hszW)))
              have HIT2 : Hid (w2.heap[w.heap.size]? = some (.stringIter s (pos + 1))) := Beside.iter HK2.out ((hb1.block _ hszW).trans HIT.out)
              clear HB2 HBW HO HIT cP HK2 hv2 hb1 hz1
              go_wp2
              go_roundg g'
              case measure => omega
              case rel => exact ⟨pos + 1, p2, _, by first | rfl | rw [hp3], hp2b, HO2.out, HIT2.out, HB3.out, hst2, by have := HFU.out; omega, by omega⟩
          · by_cases hx92 : x.toNat = 92
            · obtain ⟨rfl, rfl⟩ : K = 1 ∧ r = x.toNat := by
                rcases hrune with ⟨_, h, h1⟩ | ⟨h1, h2⟩
                · exact ⟨h1, h⟩
                · omega
              rw [quoted_escape f x _ hx92] at hq
              have hr92 : (x.toNat : Int) = 92 := by omega
              rw [hr92] at hnx
              obtain ⟨p1, hp1⟩ : ∃ p, pos + 1 = p := ⟨_, rfl⟩
              obtain ⟨p2, hp2⟩ : ∃ p, pos + 2 = p := ⟨_, rfl⟩
              have hp1i : (pos : Int) + 1 = (p1 : Int) := by omega
              have hp2i : (pos : Int) + 2 = (p2 : Int) := by omega
              have hp1b : (p1 : Int) ≤ 8193 := by omega
              have hp2b : (p2 : Int) ≤ 8194 := by omega
              have hp1z : (p1 : Int) ≤ (s.size : Int) := by omega
              obtain ⟨ht1, ht2⟩ := extract_from s p1 (by omega)
              obtain ⟨t, ht⟩ : ∃ t, s.extract p1 s.size = t := ⟨_, rfl⟩
              rw [ht] at ht1 ht2
              have cB := begins_any fits_escaped t W (by unfold maxLen; omega)
              rw [ht2] at cB
              rw [hp1] at hq
              by_cases hb : Lx.begins Lx.escaped (s.data.toList.drop p1) = true
              · rw [if_pos hb, plus_one] at hq
                rw [hb] at cB
                have hlt1 : p1 < s.size := by
                  by_cases h : p1 < s.size
                  · exact h
                  · rw [drop_nil_of s p1 h] at hb
                    simp [Lx.begins] at hb
                have hcons1 := drop_at' s p1 hlt1
                have hy0 : (s.data.toList.drop p1).getD 0 0 = s[p1]'hlt1 := by rw [hcons1, ← getD_at s p1 hlt1]; rfl
                rw [hy0] at hq
                obtain ⟨y, hy⟩ : ∃ y, s[p1]'hlt1 = y := ⟨_, rfl⟩
                have hylow : y.toNat < 128 := by
                  rw [hcons1, getD_at s p1 hlt1, hy] at hb
                  exact Lx.escaped_low y hb
                rw [hy] at hq
                have hst2 : Hid (Bst s R (pos + 1) p2 (acc ++ [y])) := by
                  refine Bst.go (n := 2) (by omega) hk hf ?_ hlt ?_ ?_ p2 (Or.inl hp2.symm)
                  · rw [List.length_append, List.length_singleton]
                    omega
                  · rw [hcons, hp1, hcons1]
                    exact ((Lx.Low.zero _).cons (by rw [getD_at s p1 hlt1, hy]; exact hylow)).cons (by omega)
                  · rw [List.drop_drop] at hq
                    rw [← hq, ← hp1]
                have hlt1' : (p1 : Int) < (s.size : Int) := by omega
                have hnb2 : p2 ≤ 8192 := by omega
                have HPZ : Hid (pos + 1 ≤ s.size) := hlt
                clear hrune hcons hx hq hk hf HCV hx34 hx124 hx92 ht1 ht2 hb hcons1 hy0 hylow hp1 hp2
                go_wp2_with (first
                  | (go_at_call 22; go_must (refine cB.mono ?_; rintro e w1 ⟨rfl, rfl⟩))
                  | (at_builtin; go_must (refine app_byte rfl _ _ rfl w.heap.size _ acc rfl HO (Nat.le_of_lt hszW) hal6 _ rfl ?_)))
                intro v' w2 HO2 HB2 HK2 hsz2
                have HB3 : Hid (Below w.heap.size w w2) := HB2.out _ _ (Nat.le_refl _) (Nat.le_refl _) HBW.out
                have HIT2 : Hid (w2.heap[w.heap.size]? = some (.stringIter s (pos + 1))) := Beside.iter HK2.out HIT.out
                clear HB2 HBW HO HIT cB HK2
                go_wp2
                go_roundg g'
                case measure => omega
                case rel => exact ⟨pos + 1, p2, _, by first | rfl | rw [hp2i], hnb2, HO2.out, HIT2.out, HB3.out, hst2, by have := HFU.out; omega, HPZ.out⟩
              · have hb' : Lx.begins Lx.escaped (s.data.toList.drop p1) = false := by simpa using hb
                rw [if_neg hb] at hq
                rw [hb'] at cB
                have hRR : P = ([], 0) := by rw [← HPR.out, ← hq, bytesR_none]
                subst hRR
                clear hrune hcons hx hq hk hf HCV hx34 hx124 hx92 ht1 ht2 hb hb' hp1 hp2 HO HIT HFU
                go_wp2_with (go_at_call 22; go_must (refine cB.mono ?_; rintro e w1 ⟨rfl, rfl⟩))
                go_ret2
                exact ⟨rfl, HBW.out⟩
            · by_cases hpl : 32 ≤ x.toNat ∧ x.toNat ≤ 126
              · obtain ⟨rfl, rfl⟩ : K = 1 ∧ r = x.toNat := by
                  rcases hrune with ⟨_, h, h1⟩ | ⟨h1, h2⟩
                  · exact ⟨h1, h⟩
                  · omega
                rw [quoted_plain f x _ hx34 hx124 hx92 hpl, plus_one] at hq
                have hst2 : Hid (Bst s R (pos + 1) next (acc ++ [x])) := by
                  refine Bst.go (n := 1) (by omega) hk hf ?_ hlt ?_ hq next (Or.inr ⟨by omega, rfl⟩)
                  · rw [List.length_append, List.length_singleton]
                    omega
                  · rw [hcons]
                    exact (Lx.Low.zero _).cons (by omega)
                have g1 : ¬ ((x.toNat : Int) = 34) := by omega
                have g2 : ¬ ((x.toNat : Int) = 124) := by omega
                have g3 : ¬ ((x.toNat : Int) = 92) := by omega
                have g4 : ¬ ((x.toNat : Int) < 32) := by omega
                have g5 : ¬ (126 < (x.toNat : Int)) := by omega
                have HPZ : Hid (pos + 1 ≤ s.size) := hlt
                clear hrune hcons hx hq hk hf HCV hx34 hx124 hx92 hpl
                go_wp2_with (at_builtin; go_must (refine app_byte rfl _ _ rfl w.heap.size _ acc rfl HO (Nat.le_of_lt hszW) hal6 x rfl ?_))
                intro v' w2 HO2 HB2 HK2 hsz2
                have HB3 : Hid (Below w.heap.size w w2) := HB2.out _ _ (Nat.le_refl _) (Nat.le_refl _) HBW.out
                have HIT2 : Hid (w2.heap[w.heap.size]? = some (.stringIter s (pos + 1))) := Beside.iter HK2.out HIT.out
                clear HB2 HBW HO HIT HK2
                go_wp2
                go_roundg g'
                case measure => omega
                case rel => exact ⟨pos + 1, next, _, rfl, hnb, HO2.out, HIT2.out, HB3.out, hst2, by have := HFU.out; omega, HPZ.out⟩
              · rw [quoted_bad f x _ hx34 hx124 hx92 hpl] at hq
                have hRR : P = ([], 0) := by rw [← HPR.out, ← hq, bytesR_none]
                subst hRR
                have g1 : ¬ ((r : Int) = 34) := by rcases hrune with ⟨_, h, _⟩ | ⟨h1, h2⟩ <;> omega
                have g2 : ¬ ((r : Int) = 124) := by rcases hrune with ⟨_, h, _⟩ | ⟨h1, h2⟩ <;> omega
                have g3 : ¬ ((r : Int) = 92) := by rcases hrune with ⟨_, h, _⟩ | ⟨h1, h2⟩ <;> omega
                have g4 : ((r : Int) < 32) ∨ (¬ ((r : Int) < 32) ∧ 126 < (r : Int)) := by rcases hrune with ⟨_, h, _⟩ | ⟨h1, h2⟩ <;> omega
                clear hrune hcons hx hq hk hf HCV hx34 hx124 hx92 hpl HO HIT HFU
                rcases g4 with g4 | ⟨g4, g5⟩
                · go_wp2
                  go_ret2
                  exact ⟨rfl, HBW.out⟩
                · go_wp2
                  go_ret2
                  exact ⟨rfl, HBW.out⟩
    · obtain rfl : pos = s.size := by omega
      have hnx : ∀ ty, (Instr.next (.pointer (some ⟨w.heap.size, 0, none⟩)) true ty).run Tryd.prog wr = _ := fun ty => Lib.run_next_end_at wr w.heap.size s s.size ty hit hlt
      have hRR : P = ([], 0) := by rw [← HPR.out, Bst.end_ hst.out]
      subst hRR
      have HBW : Hid (Below w.heap.size w wr) := hbw
      clear hst hown hit hbw hfu
      go_wp2
      go_ret2
      exact ⟨rfl, HBW.out⟩
end Go.Proofs.YtepmncfgkmpccaaDoor
