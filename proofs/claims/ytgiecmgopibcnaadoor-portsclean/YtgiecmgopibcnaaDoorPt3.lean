/- Layer 10 as landed: the map of turns. -/
import Derived.Test.YtgiecmgopibcnaaDoorPt2
import Derived.Test.YtgiecmgopibcnaaDoorPtMap
import Derived.Test.YtgiecmgopibcnaaDoorLift
import Derived.WalkKit
import Derived.Deep.LoopGhost
namespace Go.Proofs.YtgiecmgopibcnaaDoor
open Go.RowKit Go.Maps
set_option linter.unusedVariables false
set_option maxRecDepth 20000
theorem ptKeyed : Keyed Tryd.prog 3 := int_keyed Tryd.underlying3
theorem zeroI (w : World) : (zeroValue 3).run Tryd.prog w = .ok (.int .i64 0) w := by kernel_rfl
theorem wf_small (k : Int) (h : -100000 ≤ k) (h2 : k ≤ 100000) : (Lit.int .i64 k).wf = true := by
  have e1 : IntKind.i64.min = -9223372036854775808 := rfl
  have e2 : IntKind.i64.max = 9223372036854775807 := rfl
  simp [Lit.wf, e1, e2]
  omega
theorem keyI (k : Int) (h : -100000 ≤ k) (h2 : k ≤ 100000) : keyOf Tryd.prog 3 (.int .i64 k) = some (ki k) := keyOf_int_mk Tryd.underlying3 (wf_small k h h2)
theorem readI (k : Int) (h : -100000 ≤ k) (h2 : k ≤ 100000) : plainElem (H := Unit) Tryd.prog 3 (.int .i64 k) = some (vi k, []) := plainElem_int Tryd.underlying3 (wf_small k h h2)
set_option maxHeartbeats 1000000 in
theorem ptTurns (p : Option Addr) (c : Nat) (L : List Sp) (w : World) (h : Spans w p c L) (hok : ∀ s ∈ L, okS s) (h4 : L.length ≤ 4) :
    Calls Tryd.prog 29 #[.slice p L.length c] w fun e w' => ∃ mb, e = .returned (.map (some mb)) ∧ w.heap.size ≤ mb ∧ ∃ D, w'.ownsMap Tryd.prog 3 (plainElem (H := Unit) Tryd.prog 3) mb 8 D ∧ Tn D (tv L) (Tk L) ∧ Below w.heap.size w w' := by
  have hmm := @run_makeMap Tryd.prog
  obtain ⟨n, hn⟩ : ∃ n : Nat, n = L.length := ⟨_, rfl⟩
  rw [← hn] at h4 ⊢
  have HLn := hidB hn
  have HH := hidB h
  have HOK := hidB hok
  clear hn h hok
  go_enter Tryd.func29, Tryd.ntmps29
  go_wp2
  go_loopg [9] n (fun g s9 wr => ∃ (k : Nat) (D : DU), k ≤ n ∧ n - k ≤ g ∧ s9 = .int .i64 (k : Int) ∧ Hid (wr.ownsMap Tryd.prog 3 (plainElem (H := Unit) Tryd.prog 3) w.heap.size (2 * k) D) ∧ Hid (Tn D (tv (L.take k)) (Tk (L.take k))) ∧ Hid (Below w.heap.size w wr))
  case atStart => exact ⟨0, .map [], Nat.zero_le _, by omega, rfl, World.ownsMap_made _ _ _ _, Tn.start.congr (fun k => rfl) (fun k => by simp [Tk]), (Below.refl _ _).alloc (Nat.le_refl _) _⟩
  case round =>
    obtain ⟨k, D, hkn, hg, rfl, HM, HT, HB⟩ := hrel
    by_cases hlt : k < n
    · have hlz : (k : Int) < (n : Int) := by omega
      obtain ⟨x, hx⟩ : ∃ x, L[k]? = some x := ⟨_, List.getElem?_eq_getElem (by rw [← HLn.out]; exact hlt)⟩
      have hN := HH.out.below HB.out
      have hcp : n ≤ c := by have := hN.1; rw [← HLn.out] at this; exact this
      have hxok := HOK.out x (List.mem_of_getElem? hx)
      rcases hN.2 with h3 | ⟨b, o, rfl, hbl, hcs⟩
      · rw [h3] at hx; cases hx
      · obtain ⟨c0, c1⟩ := hcs k x hx
        obtain ⟨x1, x2⟩ := x
        simp only at c0 c1
        have hst : L.take (k + 1) = L.take k ++ [(x1, x2)] := by
          obtain ⟨hk, e⟩ := List.getElem?_eq_some_iff.1 hx
          rw [List.take_succ_eq_append_getElem hk, e]
        have HST := hidB hst
        obtain ⟨o1, o2, o3⟩ := hxok
        simp only at o1 o2 o3
        have HT1 := hidB (HT.out.put x1 (tv (L.take k) x1 + 1))
        have HT2 := hidB (HT.out.step (x1, x2) o2)
        obtain ⟨t1, ht1⟩ : ∃ t, t = tv (L.take k) x1 := ⟨_, rfl⟩
        obtain ⟨t2, ht2⟩ : ∃ t, t = tv (L.take k) (x2 + 1) := ⟨_, rfl⟩
        have b1 := tv_len (L.take k) x1
        have b2 := tv_len (L.take k) (x2 + 1)
        have lk : (L.take k).length ≤ 4 := by rw [List.length_take]; omega
        have HV1 := hidB (HT.out.val x1)
        have HV2 := hidB (HT1.out.val (x2 + 1))
        change Hid (_ = vi (if x2 + 1 = x1 then _ else _)) at HV2
        rw [if_neg (by omega)] at HV2
        rw [← ht1] at b1 HT1 HV1 HV2
        rw [← ht2] at b2 HV2
        simp only [← ht1, ← ht2] at HT2
        have b11 : -4 ≤ t1 := by omega
        have b12 : t1 ≤ 4 := by omega
        have b21 : -4 ≤ t2 := by omega
        have b22 : t2 ≤ 4 := by omega
        have hown := HM.out.alloc (.cells #[.int .i64 x1, .int .i64 x2] 34)
        have hbl1 := below_more HB.out (Nat.le_refl _) (.cells #[.int .i64 x1, .int .i64 x2] 34)
        have hkey1 := keyI x1 (by omega) (by omega)
        have hkey2 := keyI (x2 + 1) (by omega) (by omega)
        have hval1 := readI (t1 + 1) (by omega) (by omega)
        have hval2 := readI (t2 - 1) (by omega) (by omega)
        have hmx1 : 2 * k < maxLen := by unfold maxLen; omega
        have hmx2 : 2 * k + 1 < maxLen := by unfold maxLen; omega
        have hne : wr.heap.size ≠ w.heap.size := by have := HM.out.lt; omega
        clear b1 b2 lk ht1 ht2 hst hN hcs hx HT
        go_upto_region 5 with fail
        have d1 : (wr.alloc (.cells #[.int .i64 x1, .int .i64 x2] 34)).cell? ⟨wr.heap.size, 1, none⟩ = some (.int .i64 x2) := by simp
        go_wp2_with (first
          | (at_lookup; refine wpList_lookup_own_int _ rfl _ _ 46 rfl 3 3 .i64 ptKeyed Tryd.underlying46 Tryd.underlying3 (zeroI _) w.heap.size _ D rfl hown (.int .i64 x1) (ki x1) rfl hkey1 ?_; intro q1 hat1 hwc1; obtain rfl : q1 = t1 := (by have h := hat1.symm.trans HV1.out; simpa using h); clear hat1 hwc1)
          | (at_mapUpdate; refine wpList_mapUpdate_own _ rfl _ _ _ 46 rfl 3 3 ptKeyed Tryd.underlying46 _ w.heap.size _ D rfl hown hmx1 (.int .i64 x1) _ (ki x1) rfl rfl hkey1 _ [] hval1 ?_; intro w1 hown1 hgrow1; have d2 := hgrow1.cell d1 (fun e => hne (Option.some.inj e)))
          | (at_lookup; refine wpList_lookup_own_int _ rfl _ _ 46 rfl 3 3 .i64 ptKeyed Tryd.underlying46 Tryd.underlying3 (zeroI _) w.heap.size _ _ rfl hown1 (.int .i64 (x2 + 1)) (ki (x2 + 1)) rfl hkey2 ?_; intro q2 hat2 hwc2; obtain rfl : q2 = t2 := (by have h := hat2.symm.trans HV2.out; simpa using h); clear hat2 hwc2)
          | (at_mapUpdate; refine wpList_mapUpdate_own _ rfl _ _ _ 46 rfl 3 3 ptKeyed Tryd.underlying46 _ w.heap.size _ _ rfl hown1 hmx2 (.int .i64 (x2 + 1)) _ (ki (x2 + 1)) rfl rfl hkey2 _ [] hval2 ?_; intro w2 hown2 hgrow2))
        go_roundg (n - (k + 1))
        case measure => omega
        case rel => exact ⟨k + 1, _, by omega, by omega, by go_num, hidB hown2, hidB (by rw [HST.out]; exact HT2.out), hidB ((hbl1.grown hgrow1 hbl1.size (fun j hj => by cases hj; exact Nat.le_refl _)).grown hgrow2 (Nat.le_trans hbl1.size hgrow1.size) (fun j hj => by cases hj; exact Nat.le_refl _))⟩
    · have hlz : ¬ (k : Int) < (n : Int) := by omega
      have hkn' : k = n := by omega
      subst hkn'
      have ht := HT.out
      rw [List.take_of_length_le (by rw [← HLn.out]; exact Nat.le_refl _)] at ht
      have HT2 := hidB ht
      clear ht HT
      go_wp2
      go_ret
      exact ⟨_, rfl, Nat.le_refl _, D, HM.out.mono (by omega), HT2.out, HB.out⟩
end Go.Proofs.YtgiecmgopibcnaaDoor
