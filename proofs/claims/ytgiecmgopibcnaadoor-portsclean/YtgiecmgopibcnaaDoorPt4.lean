/- Layer 10 as landed: spans in as few as there may be. -/
import Derived.Test.YtgiecmgopibcnaaDoorPtKeys
namespace Go.Proofs.YtgiecmgopibcnaaDoor
open Go.RowKit Go.Maps Go.Sort Go.Shelf
set_option linter.unusedVariables false
set_option maxRecDepth 20000
theorem infoSp : (Tryd.prog.info? 34).map (fun i => (i.zero, i.size, i.bytes)) = some (some (.agg #[.int .i64 0, .int .i64 0]), 2, 16) := by kernel_rfl
theorem lit_span (w : World) (a b : Int) : (Instr.buildSlice 22 1 #[(0, .agg #[.int .i64 a, .int .i64 b])]).run Tryd.prog w = .ok (.slice (some ⟨w.heap.size, 0, none⟩) 1 1) (w.alloc (.cells #[.int .i64 a, .int .i64 b] 34)) := by
  obtain ⟨i0, hi, hz0, hz1, hz2⟩ := info_parts infoSp
  refine run_buildSlice w _ _ 1 _ _ i0 _ Tryd.underlying22 hi hz0 (by rw [hz1]; decide) (by rw [hz1]; decide) ?_
  rw [hz1]
  kernel_rfl
theorem own_below {H : Type} {P : Program} {k : TypeId} {R : Value → Option (DataW H × List MemPlace)} {w x : World} {b n : Nat} {D : DataW H} (h : w.ownsMap P k R b n D) (hb : Below w.heap.size w x) : x.ownsMap P k R b n D :=
  h.kept (grown_of hb) (by simp)
/-- what stands in the middle of going through the ports -/
structure Swp (x0 x : World) (base : Nat) (v : Value) (t : Int → Int) (ks : List Int) (R : List Sp) (k : Nat) (f o : Int) : Prop where
  bel : Below x0.heap.size x0 x
  out : ∃ O, O.length ≤ k ∧ x.ownsRow x0.heap.size base 2 v O.length (O.flatMap spC) ∧ O ++ sweep t (ks.drop k) f o = R
  of : -1 ≤ f ∧ f ≤ 65536
  oo : -(4 * (k : Int)) ≤ o ∧ o ≤ 4 * k
theorem Swp.skip {x0 x : World} {base : Nat} {v : Value} {t : Int → Int} {ks : List Int} {R : List Sp} {k : Nat} {f o n : Int} (h : Swp x0 x base v t ks R k f o) (hk : ks[k]? = some n) (ht : -4 ≤ t n ∧ t n ≤ 4) (hn : -1 ≤ n ∧ n ≤ 65536) (hc : o + t n ≠ 0) :
    Swp x0 x base v t ks R (k + 1) (if o = 0 then n else f) (o + t n) := by
  obtain ⟨O, h1, h2, h3⟩ := h.out
  obtain ⟨hkl, hkn⟩ := List.getElem?_eq_some_iff.1 hk
  have e : ks.drop k = n :: ks.drop (k + 1) := by rw [List.drop_eq_getElem_cons hkl, hkn]
  rw [e, sweep, if_neg hc] at h3
  refine ⟨h.bel, ⟨O, by omega, h2, h3⟩, ?_, ?_⟩
  · have := h.of; split <;> omega
  · have := h.oo; omega
theorem Swp.put {x0 x y : World} {base : Nat} {v v' : Value} {t : Int → Int} {ks : List Int} {R : List Sp} {k : Nat} {f o n : Int} {O : List Sp} (h : Swp x0 x base v t ks R k f o) (hO : O ++ sweep t (ks.drop k) f o = R) (hl : O.length ≤ k) (hk : ks[k]? = some n) (ht : -4 ≤ t n ∧ t n ≤ 4) (hn : -1 ≤ n ∧ n ≤ 65536) (hc : o + t n = 0)
    (hb : Below x0.heap.size x0 y) (hrow : y.ownsRow x0.heap.size base 2 v' (O.length + 1) (O.flatMap spC ++ [.int .i64 (if o = 0 then n else f), .int .i64 (n - 1)])) :
    Swp x0 y base v' t ks R (k + 1) (if o = 0 then n else f) (o + t n) := by
  obtain ⟨hkl, hkn⟩ := List.getElem?_eq_some_iff.1 hk
  have e : ks.drop k = n :: ks.drop (k + 1) := by rw [List.drop_eq_getElem_cons hkl, hkn]
  rw [e, sweep, if_pos hc] at hO
  refine ⟨hb, ⟨O ++ [((if o = 0 then n else f), n - 1)], by simp; omega, ?_, by rw [List.append_assoc]; exact hO⟩, ?_, ?_⟩
  · rw [List.length_append, List.length_cons, List.length_nil, List.flatMap_append]
    exact hrow
  · have := h.of; split <;> omega
  · have := h.oo; omega
set_option maxHeartbeats 1000000 in
theorem ptMerged (p : Option Addr) (c : Nat) (L : List Sp) (w : World) (h : Spans w p c L) (hok : ∀ s ∈ L, okS s) (h4 : L.length ≤ 4) :
    Calls Tryd.prog 22 #[.slice p L.length c] w fun e w' => ∃ p' c', e = .returned (.slice p' (rawS L).length c') ∧ Spans w' p' c' (rawS L) ∧ Below w.heap.size w w' := by
  have hT := ptTurns p c L w h hok h4
  have HOK := hidB hok
  have HH := hidB (And.intro h h4)
  clear h hok
  go_enter Tryd.func22, Tryd.ntmps22
  go_wp2_with (fail)
  refine hT.mono ?_
  rintro e w1 ⟨mb, rfl, hmb, D, hM, hD, hb1⟩
  have hK := ptKeysOf (some mb) w1
  go_wp2_with (fail)
  refine hK.mono ?_
  rintro e w2 ⟨rfl, rfl⟩
  have hsz := hM.size_le
  have hS := ptSortedOf mb 8 D _ w1 hM (by omega)
  clear hT hK
  go_wp2_with (fail)
  refine hS.mono ?_
  rintro e w3 ⟨v3, ss, rfl, hp, hrow, hb3⟩
  have hKeys := keys_sorted hD (hM.canon ptKeyed) HOK.out hp
  have hal := below_more (Below.refl w1.heap.size w1) (Nat.le_refl _) (.cells #[.map (some mb)] 46)
  have hm3 := own_below hM (hal.trans (hb3.mono (Nat.le_succ _)))
  have hbel := hb1.trans ((hal.trans (hb3.mono (Nat.le_succ _))).mono hb1.size)
  have hlen : ss.length ≤ 8 := by
    have := hp.length_eq
    obtain ⟨es, rfl⟩ := hD.map
    rw [this]
    show (es.map _).length ≤ 8
    rw [List.length_map]
    exact hsz
  have hraw := sweep_raw HOK.out _ hKeys 0
  have hlk : (ss.mergeSort (fun x y => decide (x ≤ y))).length = ss.length := List.length_mergeSort _
  generalize (ss.mergeSort (fun x y => decide (x ≤ y))) = ks at hKeys hrow hraw hlk
  obtain ⟨pa, ca, hv3⟩ := own_slice hrow
  subst hv3
  have HK := hidB hKeys
  have HR := hidB hrow
  have HM := hidB hm3
  have HD := hidB hD
  have HB := hidB hbel
  have HRW := hidB hraw
  generalize hq : ss.length = q at *
  have HLK := hidB hlk
  clear hS hKeys hrow hm3 hD hbel hM hb1 hal hb3 hp hraw hlk hq hsz hmb
  go_wp2
  go_loopg [4, 5, 6, 8, 15] q (fun g s4 s5 s6 s8 s15 wr => ∃ (k : Nat) (f o : Int) (v : Value), k ≤ q ∧ q - k ≤ g ∧ s15 = .int .i64 (k : Int) ∧ s4 = v ∧ s5 = .int .i64 f ∧ s6 = .int .i64 o ∧ Hid (Swp w3 wr 34 v (tv L) ks (rawS L) k f o))
  case atStart => exact ⟨0, 0, 0, _, Nat.zero_le _, by omega, rfl, rfl, rfl, rfl, ⟨Below.refl _ _, ⟨[], Nat.zero_le _, World.ownsRow_nil _ _ _ _, HRW.out⟩, by omega, by omega⟩⟩
  case round =>
    obtain ⟨k, f, o, v, hkq, hg, rfl, rfl, rfl, rfl, HSW⟩ := hrel
    by_cases hlt : k < q
    · have hlz : (k : Int) < (q : Int) := by omega
      obtain ⟨n, hx⟩ : ∃ n, ks[k]? = some n := ⟨_, List.getElem?_eq_getElem (by rw [HLK.out]; exact hlt)⟩
      obtain ⟨g3, cap3, hsl, hg3, _, hcell⟩ := own_some HR.out (by omega)
      have hc3 : w3.cell? ⟨g3, k, none⟩ = some (.int .i64 n) := hcell k _ (by rw [List.getElem?_map, hx]; rfl)
      have hcr := (HSW.out.bel.cell (p := ⟨g3, k, none⟩) hg3).trans hc3
      simp only [Value.slice.injEq] at hsl
      obtain ⟨rfl, _, rfl⟩ := hsl
      have hkb := HK.out.2.1 n (List.mem_of_getElem? hx)
      have hn1 := hkb.1
      have hn2 : n ≤ 65536 := by
        obtain ⟨_, s, hs, e⟩ := hkb
        have := HOK.out s hs
        unfold okS at this
        omega
      obtain ⟨tn, htn⟩ : ∃ tn, tn = tv L n := ⟨_, rfl⟩
      have hb := tv_len L n
      rw [← htn] at hb
      have ht1 : -4 ≤ tn := by have := HH.out.2; omega
      have ht2 : tn ≤ 4 := by have := HH.out.2; omega
      have HTN := hidB htn
      have HX := hidB hx
      have hown := own_below HM.out HSW.out.bel
      have HV := hidB (HD.out.val n)
      rw [← htn] at HV
      have hkey := keyI n (by omega) (by omega)
      have hoo := HSW.out.oo
      have ho1 : -32 ≤ o := by omega
      have ho2 : o ≤ 32 := by omega
      have hff := HSW.out.of
      have hf1 := hff.1
      have hf2 := hff.2
      clear hkb hb htn hx hoo hff hcell hc3 hg3
      by_cases ho : o = 0
      · by_cases hc : o + tn = 0
        · have hob : (o == 0) = true := by simpa using ho
          have hcb : (o + tn == 0) = true := by simpa using hc
          have HIF := hidB (show (if o = 0 then n else f) = n from if_pos ho)
          have HO := hidB ho
          have HC := hidB hc
          clear ho hc
          have hlit := lit_span wr n (n - 1)
          have hal := below_more (Below.refl wr.heap.size wr) (Nat.le_refl _) (.cells #[.int .i64 n, .int .i64 (n - 1)] 34)
          obtain ⟨O, hO1, hO2, hO3⟩ := HSW.out.out
          have hrow6 := ciRow_below hO2 hal
          have hnw := alloc_news wr [.int .i64 n, .int .i64 (n - 1)] 34
          rw [show ([Value.int .i64 n, .int .i64 (n - 1)]).toArray = (#[.int .i64 n, .int .i64 (n - 1)] : Array Value) from rfl] at hnw
          obtain ⟨i0, hi, hz0, hz1, hz2⟩ := info_parts infoSp
          have r1 : O.length + 1 ≤ maxLen := by simp only [maxLen]; omega
          have r2 : (O.length + 1) * 16 ≤ 140737488355328 := by omega
          have hb5 := HSW.out.bel.trans (hal.mono HSW.out.bel.size)
          have r3 := hb5.size
          have HO3 := hidB (And.intro hO1 hO3)
          have HB5 := hidB hb5
          have HR6 := hidB hrow6
          clear hal hO1 hO2 hO3 hb5
          go_wp2_with (first
            | (at_lookup; refine wpList_lookup_own_int _ rfl _ _ 46 rfl 3 3 .i64 ptKeyed Tryd.underlying46 Tryd.underlying3 (zeroI _) mb _ D rfl hown (.int .i64 n) (ki n) rfl hkey ?_; intro q1 hat1 hwc1; obtain rfl : q1 = tn := (by have h := hat1.symm.trans HV.out; simpa using h); clear hat1 hwc1)
            | (refine wpList_append_own2 rfl (.tmp 29) (.tmp 34) 22 rfl w3.heap.size 34 i0 _ 2 16 Tryd.underlying22 hi hz0 hz1 hz2 rfl (by decide) _ O.length _ rfl hrow6 ⟨wr.heap.size, 0, none⟩ 1 1 [.int .i64 n, .int .i64 (n - 1)] rfl rfl hnw (by intro u hu; simp at hu; rcases hu with rfl | rfl <;> rfl) r1 r2 r3 ?_; intro v6 w6 ho6 hg6 hv6))
          go_roundg (q - (k + 1))
          case measure => omega
          case rel => exact ⟨k + 1, _, _, _, by omega, by omega, by go_num, rfl, rfl, rfl, hidB (by
            have hb6 := HB5.out.grown hg6 HB5.out.size (fun j hj => (HR6.out.lt j hj).1)
            have h := HSW.out.put HO3.out.2 HO3.out.1 HX.out (by rw [← HTN.out]; exact ⟨ht1, ht2⟩) ⟨hn1, hn2⟩ (by rw [← HTN.out]; exact HC.out) hb6 (by rw [HIF.out]; exact ho6)
            rw [HIF.out, ← HTN.out] at h
            exact h)⟩
        · have hob : (o == 0) = true := by simpa using ho
          have hcb : (o + tn == 0) = false := by simpa using hc
          have HIF := hidB (show (if o = 0 then n else f) = n from if_pos ho)
          have HO := hidB ho
          have HC := hidB hc
          clear ho hc
          go_wp2_with ((at_lookup; refine wpList_lookup_own_int _ rfl _ _ 46 rfl 3 3 .i64 ptKeyed Tryd.underlying46 Tryd.underlying3 (zeroI _) mb _ D rfl hown (.int .i64 n) (ki n) rfl hkey ?_; intro q1 hat1 hwc1; obtain rfl : q1 = tn := (by have h := hat1.symm.trans HV.out; simpa using h); clear hat1 hwc1))
          go_roundg (q - (k + 1))
          case measure => omega
          case rel => exact ⟨k + 1, _, _, _, by omega, by omega, by go_num, rfl, rfl, rfl, hidB (by have h := HSW.out.skip HX.out (by rw [← HTN.out]; exact ⟨ht1, ht2⟩) ⟨hn1, hn2⟩ (by rw [← HTN.out]; exact HC.out); rw [HIF.out, ← HTN.out] at h; exact h)⟩
      · by_cases hc : o + tn = 0
        · have hob : (o == 0) = false := by simpa using ho
          have hcb : (o + tn == 0) = true := by simpa using hc
          have HIF := hidB (show (if o = 0 then n else f) = f from if_neg ho)
          have HO := hidB ho
          have HC := hidB hc
          clear ho hc
          have hlit := lit_span wr f (n - 1)
          have hal := below_more (Below.refl wr.heap.size wr) (Nat.le_refl _) (.cells #[.int .i64 f, .int .i64 (n - 1)] 34)
          obtain ⟨O, hO1, hO2, hO3⟩ := HSW.out.out
          have hrow6 := ciRow_below hO2 hal
          have hnw := alloc_news wr [.int .i64 f, .int .i64 (n - 1)] 34
          rw [show ([Value.int .i64 f, .int .i64 (n - 1)]).toArray = (#[.int .i64 f, .int .i64 (n - 1)] : Array Value) from rfl] at hnw
          obtain ⟨i0, hi, hz0, hz1, hz2⟩ := info_parts infoSp
          have r1 : O.length + 1 ≤ maxLen := by simp only [maxLen]; omega
          have r2 : (O.length + 1) * 16 ≤ 140737488355328 := by omega
          have hb5 := HSW.out.bel.trans (hal.mono HSW.out.bel.size)
          have r3 := hb5.size
          have HO3 := hidB (And.intro hO1 hO3)
          have HB5 := hidB hb5
          have HR6 := hidB hrow6
          clear hal hO1 hO2 hO3 hb5
          go_wp2_with (first
            | (at_lookup; refine wpList_lookup_own_int _ rfl _ _ 46 rfl 3 3 .i64 ptKeyed Tryd.underlying46 Tryd.underlying3 (zeroI _) mb _ D rfl hown (.int .i64 n) (ki n) rfl hkey ?_; intro q1 hat1 hwc1; obtain rfl : q1 = tn := (by have h := hat1.symm.trans HV.out; simpa using h); clear hat1 hwc1)
            | (refine wpList_append_own2 rfl (.tmp 29) (.tmp 34) 22 rfl w3.heap.size 34 i0 _ 2 16 Tryd.underlying22 hi hz0 hz1 hz2 rfl (by decide) _ O.length _ rfl hrow6 ⟨wr.heap.size, 0, none⟩ 1 1 [.int .i64 f, .int .i64 (n - 1)] rfl rfl hnw (by intro u hu; simp at hu; rcases hu with rfl | rfl <;> rfl) r1 r2 r3 ?_; intro v6 w6 ho6 hg6 hv6))
          go_roundg (q - (k + 1))
          case measure => omega
          case rel => exact ⟨k + 1, _, _, _, by omega, by omega, by go_num, rfl, rfl, rfl, hidB (by
            have hb6 := HB5.out.grown hg6 HB5.out.size (fun j hj => (HR6.out.lt j hj).1)
            have h := HSW.out.put HO3.out.2 HO3.out.1 HX.out (by rw [← HTN.out]; exact ⟨ht1, ht2⟩) ⟨hn1, hn2⟩ (by rw [← HTN.out]; exact HC.out) hb6 (by rw [HIF.out]; exact ho6)
            rw [HIF.out, ← HTN.out] at h
            exact h)⟩
        · have hob : (o == 0) = false := by simpa using ho
          have hcb : (o + tn == 0) = false := by simpa using hc
          have HIF := hidB (show (if o = 0 then n else f) = f from if_neg ho)
          have HO := hidB ho
          have HC := hidB hc
          clear ho hc
          go_wp2_with ((at_lookup; refine wpList_lookup_own_int _ rfl _ _ 46 rfl 3 3 .i64 ptKeyed Tryd.underlying46 Tryd.underlying3 (zeroI _) mb _ D rfl hown (.int .i64 n) (ki n) rfl hkey ?_; intro q1 hat1 hwc1; obtain rfl : q1 = tn := (by have h := hat1.symm.trans HV.out; simpa using h); clear hat1 hwc1))
          go_roundg (q - (k + 1))
          case measure => omega
          case rel => exact ⟨k + 1, _, _, _, by omega, by omega, by go_num, rfl, rfl, rfl, hidB (by have h := HSW.out.skip HX.out (by rw [← HTN.out]; exact ⟨ht1, ht2⟩) ⟨hn1, hn2⟩ (by rw [← HTN.out]; exact HC.out); rw [HIF.out, ← HTN.out] at h; exact h)⟩
    · have hlz : ¬ (k : Int) < (q : Int) := by omega
      have hkq' : k = q := by omega
      subst hkq'
      obtain ⟨O, hO1, hO2, hO3⟩ := HSW.out.out
      rw [List.drop_of_length_le (by rw [HLK.out]; exact Nat.le_refl _)] at hO3
      simp only [sweep, List.append_nil] at hO3
      subst hO3
      obtain ⟨p', c', rfl, hsp⟩ := row_spans hO2
      have HF := hidB (And.intro hsp (HB.out.trans (HSW.out.bel.mono HB.out.size)))
      clear hO1 hO2 hsp HSW
      go_wp2
      go_ret
      exact ⟨p', c', rfl, HF.out⟩
end Go.Proofs.YtgiecmgopibcnaaDoor
