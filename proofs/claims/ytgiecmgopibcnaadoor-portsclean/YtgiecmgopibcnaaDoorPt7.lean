/- Layer 10 as landed: spans as a text. -/
import Derived.Test.YtgiecmgopibcnaaDoorPt6
import Derived.Test.YtgiecmgopibcnaaDoorPt4
namespace Go.Proofs.YtgiecmgopibcnaaDoor
open Go.RowKit
set_option linter.unusedVariables false
set_option maxRecDepth 20000
set_option maxHeartbeats 2000000 in
theorem ptTextOf (p : Option Addr) (c : Nat) (R : List Sp) (w : World) (hT : Tb w) (h : Spans w p c R) (hok : ∀ s ∈ R, okS s) (h20 : R.length ≤ 20) :
    Calls Tryd.prog 26 #[.slice p R.length c] w fun e w' => e = .returned (.string (sL (listS R))) ∧ Below w.heap.size w w' := by
  obtain ⟨n, hn⟩ : ∃ n : Nat, n = R.length := ⟨_, rfl⟩
  rw [← hn] at h20 ⊢
  have HLn := hidB hn
  have HH := hidB h
  have HT := hidB hT
  have HOK := hidB hok
  clear h hT hok hn
  by_cases h0 : n = 0
  · subst h0
    have HF := hidB (show listS R = [97, 110, 121] by rw [List.eq_nil_of_length_eq_zero HLn.out.symm]; rfl)
    go_enter Tryd.func26, Tryd.ntmps26
    go_wp2
    go_ret
    exact ⟨by rw [HF.out]; rfl, Below.refl _ _⟩
  have hnb : ((n : Int) == 0) = false := by simp; omega
  go_enter Tryd.func26, Tryd.ntmps26
  go_wp2
  go_loopg [3, 5, 11] n (fun g s3 s5 s11 wr => ∃ (k : Nat) (v : Value), k ≤ n ∧ n - k ≤ g ∧ s11 = .int .i64 (k : Int) ∧ s3 = v ∧ Hid (Below w.heap.size w wr) ∧ Hid (wr.ownsRow w.heap.size 9 1 v k ((R.take k).map strS)))
  case atStart => exact ⟨0, _, Nat.zero_le _, by omega, rfl, rfl, Below.refl _ _, World.ownsRow_nil _ _ _ _⟩
  case round =>
    obtain ⟨k, v, hkn, hg, rfl, rfl, HB, HR⟩ := hrel
    by_cases hlt : k < n
    · have hlz : (k : Int) < (n : Int) := by omega
      obtain ⟨x, hx⟩ : ∃ x, R[k]? = some x := ⟨_, List.getElem?_eq_getElem (by rw [← HLn.out]; exact hlt)⟩
      have hN := HH.out.below HB.out
      have hcp : n ≤ c := by have := hN.1; rw [← HLn.out] at this; exact this
      have hxok := HOK.out x (List.mem_of_getElem? hx)
      rcases hN.2 with h3 | ⟨b, o, rfl, hbl, hcs⟩
      · rw [h3] at hx; cases hx
      · obtain ⟨c0, c1⟩ := hcs k x hx
        have hstep : (R.take (k + 1)).map strS = (R.take k).map strS ++ [strS x] := by
          obtain ⟨hk, rfl⟩ := List.getElem?_eq_some_iff.1 hx
          rw [List.take_succ_eq_append_getElem hk, List.map_append]
          rfl
        have HST := hidB hstep
        have hST := fun (W : World) (hW : Tb W) => ptSpanText x hxok W hW
        obtain ⟨x1, x2⟩ := x
        simp only at c0 c1
        have hSx : strS (x1, x2) = .string (sL (spanT (x1, x2))) := rfl
        rw [hSx] at HST
        generalize spanT (x1, x2) = T2 at hST HST
        have hal := below_more (Below.refl wr.heap.size wr) (Nat.le_refl _) (.cells #[.int .i64 x1, .int .i64 x2] 34)
        have hr4 := ciRow_below HR.out hal
        have hb4 := HB.out.trans (hal.mono HB.out.size)
        have hS := hST _ (HT.out.below hb4)
        have HR4 := hidB hr4
        have HB4 := hidB hb4
        clear hx hN hcs hal hr4 hb4 hSx hstep hxok hST
        go_wp2_with (fail)
        change Calls Tryd.prog 33 #[.agg (spC (x1, x2)).toArray] _ _
        refine hS.mono ?_
        rintro e w5 ⟨rfl, hb5⟩
        have hr5 := ciRow_below HR4.out hb5
        have HB5 := hidB (HB4.out.trans (hb5.mono HB4.out.size))
        have hl6 := lit_str w5 (sL T2)
        have hb7 := below_more (Below.refl w5.heap.size w5) (Nat.le_refl _) (.cells #[.string (sL T2)] 9)
        have hr7 := ciRow_below hr5 hb7
        have HB7 := hidB (HB5.out.trans (hb7.mono HB5.out.size))
        obtain ⟨i0, hi, hz0, hz1, hz2⟩ := info_parts infoS
        have hnw := alloc_news w5 [.string (sL T2)] 9
        rw [show ([Value.string (sL T2)]).toArray = (#[.string (sL T2)] : Array Value) from rfl] at hnw
        have q1 : k + 1 ≤ maxLen := by simp only [maxLen]; omega
        have q2 : (k + 1) * 16 ≤ 140737488355328 := by omega
        have q3 := HB7.out.size
        have HR7 := hidB hr7
        clear hr5 hb5 hb7 hS c0 c1
        go_wp2_with (refine wpList_append_own2 rfl (.tmp 15) (.tmp 18) 53 rfl w.heap.size 9 i0 _ 1 16 Tryd.underlying53 hi hz0 hz1 hz2 rfl (by decide) _ k _ rfl hr7 ⟨w5.heap.size, 0, none⟩ 1 1 [.string (sL T2)] rfl rfl hnw (by intro u hu; simp at hu; rw [hu]; rfl) q1 q2 q3 ?_; intro v3 w8 ho8 hg8 hv8)
        go_roundg (n - (k + 1))
        case measure => omega
        case rel => exact ⟨k + 1, v3, by omega, by omega, by go_num, rfl, hidB (HB7.out.grown hg8 HB7.out.size (fun q hq => (HR7.out.lt q hq).1)), hidB (by rw [HST.out]; exact ho8)⟩
    · have hlz : ¬ (k : Int) < (n : Int) := by omega
      have hkn' : k = n := by omega
      subst hkn'
      have hr := HR.out
      rw [List.take_of_length_le (by rw [← HLn.out]; exact Nat.le_refl _)] at hr
      have hfin := HB
      clear HB HR
      have hcase : (∃ x, R = [x]) ∨ ∃ x y R', R = x :: y :: R' := by
        rcases R with _ | ⟨x, _ | ⟨y, R'⟩⟩
        · exact absurd HLn.out h0
        · exact .inl ⟨x, rfl⟩
        · exact .inr ⟨x, y, R', rfl⟩
      rcases hcase with ⟨x, hR⟩ | ⟨x, y, R', hR⟩
      · have HF := hidB (show listS R = spanT x by rw [hR]; rfl)
        have hk0 : k = 1 := by rw [HLn.out, hR]; rfl
        subst hk0
        rw [hR] at hr
        obtain ⟨g, cp, rfl, _, _, hc⟩ := own_some hr (by omega)
        have h0 : wr.cell? ⟨g, 0, none⟩ = some (.string (sL (spanT x))) := hc 0 _ rfl
        clear hr hc hR
        generalize spanT x = T at h0 HF
        go_wp2
        go_ret
        exact ⟨by rw [HF.out]; rfl, hfin.out⟩
      · have HF := hidB (show listS R = [91] ++ Lib.join (R.map spanT) [44] ++ [93] by rw [hR]; rfl)
        have hk2 : 2 ≤ k := by rw [HLn.out, hR]; simp
        obtain ⟨g, cp, rfl, hgl, _, hc⟩ := own_some hr (by omega)
        have hcp : k ≤ cp := by
          rcases hr.2 with ⟨h1, _⟩ | ⟨_, _, _, h1, _, _, h4, _⟩
          · cases h1
          · cases h1; exact h4
        have hlen := join_le (R.map spanT) (fun z hz => by
          obtain ⟨u, hu, rfl⟩ := List.mem_map.1 hz
          exact spanT_len u (HOK.out u hu))
        rw [List.length_map, ← HLn.out] at hlen
        have e1 : ((R.map (fun n => sL (spanT n))).map (·.data.toList)) = R.map spanT := by
          rw [List.map_map]
          rfl
        have hJ := Any.strings_Join Tryd.lays156 Tryd.Builder_Extra_156 g 0 cp (R.map (fun n => sL (spanT n))) ⟨#[44]⟩ wr
          (fun j z hj => by
            rw [List.getElem?_map] at hj
            cases hRj : R[j]? with
            | none => rw [hRj] at hj; cases hj
            | some u =>
              rw [hRj] at hj
              cases hj
              rw [Nat.zero_add]
              exact hc j _ (by rw [List.getElem?_map, hRj]; rfl)) hgl (by simp; rw [← HLn.out]; omega) (by simp; rw [← HLn.out]; exact hcp) (by rw [e1]; show (Lib.join (R.map spanT) [44]).length ≤ _; omega)
        rw [e1, List.length_map, ← HLn.out] at hJ
        rw [show (⟨(Lib.join (R.map spanT) (⟨#[44]⟩ : ByteArray).data.toList).toArray⟩ : ByteArray) = sL (Lib.join (R.map spanT) [44]) from rfl] at hJ
        generalize hJJ : Lib.join (R.map spanT) [44] = J at hJ HF hlen
        have ad1 := fun w => addL (P := Tryd.prog) [91] J (by simp) (by omega) w
        have ad2 := fun w => addL (P := Tryd.prog) ([91] ++ J) [93] (by simp; omega) (by simp) w
        generalize [91] ++ J ++ [93] = J2 at ad2 HF
        generalize [91] ++ J = J1 at ad1 ad2
        rw [show sL [91] = ⟨#[91]⟩ from rfl] at ad1
        rw [show sL [93] = ⟨#[93]⟩ from rfl] at ad2
        have b1 : ((k : Int) == 1) = false := by simp; omega
        clear hr hc hR hJJ hlen hcp hgl e1
        go_wp2_with (fail)
        refine hJ.mono ?_
        rintro e w5 ⟨rfl, hb5⟩
        have HB5 := hidB (hfin.out.trans (hb5.mono hfin.out.size))
        clear hb5 hJ
        go_wp2
        go_ret
        exact ⟨by rw [HF.out]; rfl, HB5.out⟩
end Go.Proofs.YtgiecmgopibcnaaDoor
