/- PortsSpans: for any three numbers, with Not or without: a port is in a span from its first to its last one; no condition. -/
import Derived.Test.YtgiecmgopibcnaaDoorLiftTab10
import Derived.Test.YtgiecmgopibcnaaDoorLiftPt
import Derived.Test.YtgiecmgopibcnaaDoorPtAwake
import Derived.Test.YtgiecmgopibcnaaDoorLeafs
import Derived.Test.YtgiecmgopibcnaaDoorTie
import Derived.Test.YtgiecmgopibcnaaDoorCards
import Derived.LaidMore
import Derived.Lay
import Derived.SevenTiedAt
import Derived.Stop.Joined
namespace Go.Proofs.YtgiecmgopibcnaaDoor.portsSpans
open Go.ChangeShapes Go.WideShapes Go.ChangeAt Go.RowKit
set_option linter.unusedVariables false
set_option maxRecDepth 20000
theorem has_one (no : Bool) (f t n : Int) (h : okS (f, t)) : hasS no [(f, t)] n = (inS n (0, 65535) && (inS n (f, t) != no)) := by
  have hc : checkS [((f, t) : Sp)] = true := checkS_of (by simp) (fun s hs => by rw [List.mem_singleton] at hs; subst hs; exact h)
  unfold hasS
  rw [hc]
  simp
theorem has_in (no : Bool) (f t n : Int) (h : okS (f, t)) (h1 : f ≤ n) (h2 : n ≤ t) : hasS no [(f, t)] n = !no := by
  unfold okS at h
  simp only at h
  rw [has_one no f t n h, (inS_iff n (0, 65535)).2 (by simp only; omega), (inS_iff n (f, t)).2 ⟨h1, h2⟩]
  cases no <;> rfl
theorem has_off (no : Bool) (f t n : Int) (h : okS (f, t)) (hn : 0 ≤ n ∧ n ≤ 65535) (h1 : ¬ (f ≤ n ∧ n ≤ t)) : hasS no [(f, t)] n = no := by
  rw [has_one no f t n h, (inS_iff n (0, 65535)).2 hn, show inS n (f, t) = false by rw [← Bool.not_eq_true, inS_iff]; exact h1]
  cases no <;> rfl
theorem has_far (no : Bool) (L : List Sp) (n : Int) (hn : n < 0 ∨ 65535 < n) : hasS no L n = false := by
  unfold hasS
  rw [show inS n (0, 65535) = false by rw [← Bool.not_eq_true, inS_iff]; simp only; omega]
  simp
theorem check_bad (f t : Int) (h : ¬ okS (f, t)) : checkS [(f, t)] = false := by
  rw [← Bool.not_eq_true]
  exact fun e => h (checkS_ok e _ (by simp))
theorem spans_one (w : World) (f t : Int) : Spans (w.alloc (.cells #[.int .i64 f, .int .i64 t] 34)) (some ⟨w.heap.size, 0, none⟩) 1 [(f, t)] := by
  refine ⟨Nat.le_refl _, .inr ⟨_, _, rfl, by simp, fun j n hj => ?_⟩⟩
  match j, hj with
  | 0, hj => cases hj; exact ⟨by simp, by simp⟩
  | j + 1, hj => cases hj
set_option maxHeartbeats 4000000 in
theorem walk (a : Int) (wa : (Lit.int .i64 a).wf = true) (n : Int) (wn : (Lit.int .i64 n).wf = true) (ask : Int) (wk : (Lit.int .i64 ask).wf = true) (no : Bool) (w : World) (hT : Tb w) :
    Calls Tryd.prog 5 #[.int .i64 a, .int .i64 n, .int .i64 ask, .bool no] w fun e w' => e = .returned (.bool true) ∧ Below w.heap.size w w' := by
  have p1 := place_any a 65536 w (by omega) (by omega)
  have p2 := place_any n 1000 w (by omega) (by omega)
  obtain ⟨f, hf⟩ : ∃ f, f = a % 65536 := ⟨_, rfl⟩
  obtain ⟨m, hm⟩ : ∃ m, m = n % 1000 := ⟨_, rfl⟩
  obtain ⟨k, hk⟩ : ∃ k, k = ask % 65536 := ⟨_, rfl⟩
  have p3 := fun (W : World) => place_any ask 65536 W (by omega) (by omega)
  rw [← hf] at p1
  rw [← hm] at p2
  rw [← hk] at p3
  obtain ⟨t, ht⟩ : ∃ t, t = (if 65535 < f + m then 65535 else f + m) := ⟨_, rfl⟩
  have f1 : 0 ≤ f := by omega
  have f2 : f ≤ 65535 := by omega
  have m1 : 0 ≤ m := by omega
  have m2 : m < 1000 := by omega
  have k1 : 0 ≤ k := by omega
  have k2 : k ≤ 65535 := by omega
  have t1 : f ≤ t := by split at ht <;> omega
  have t2 : t ≤ 65535 := by split at ht <;> omega
  have htm : min (f + m) 65535 = t := by split at ht <;> omega
  have hok : okS (f, t) := ⟨f1, t1, t2⟩
  have c1 : checkS [((f, t) : Sp)] = true := checkS_of (by simp) (fun s hs => by rw [List.mem_singleton] at hs; subst hs; exact hok)
  have r2 := has_in no f t f hok (by omega) (by omega)
  have r3 := has_in no f t t hok (by omega) (by omega)
  have r4 := has_far no [(f, t)] (-1 - k) (by omega)
  have r5 := has_far no [(f, t)] (65536 + k) (by omega)
  have r6 := check_bad (t + 1) t (by unfold okS; simp only; omega)
  have r7 := check_bad f (65536 + k) (by unfold okS; simp only; omega)
  obtain ⟨q, hq⟩ : ∃ q, q = hasS no [(f, t)] k := ⟨_, rfl⟩
  have hq1 : f ≤ k → k ≤ t → q = !no := fun h1 h2 => by rw [hq]; exact has_in no f t k hok h1 h2
  have hq2 : ¬ (f ≤ k ∧ k ≤ t) → q = no := fun h => by rw [hq]; exact has_off no f t k hok ⟨k1, k2⟩ h
  have HT := hidB hT
  have HR := hidB (And.intro c1 (And.intro hq (And.intro r2 (And.intro r3 (And.intro r4 (And.intro r5 (And.intro r6 r7)))))))
  have HQ := hidB (And.intro hq1 hq2)
  have hlit := lit_span w f t
  clear hf hm hk ht hok c1 r2 r3 r4 r5 r6 r7 hq hq1 hq2 wa wn wk hT
  go_enter Tryd.func5, Tryd.ntmps5
  go_wp2_with (fail)
  refine p1.mono ?_
  rintro e w' ⟨rfl, rfl⟩
  go_wp2_with (fail)
  refine p2.mono ?_
  rintro e w' ⟨rfl, rfl⟩
  go_wp2_with (fail)
  have hb1 := below_more (Below.refl w.heap.size w) (Nat.le_refl _) (.cells #[.int .i64 f, .int .i64 t] 34)
  have hb2 := below_more hb1 (Nat.le_refl _) (.cells (ptC no (some ⟨w.heap.size, 0, none⟩) 1 1) 24)
  have hal := below_more (Below.refl (w.alloc (.cells #[.int .i64 f, .int .i64 t] 34)).heap.size (w.alloc (.cells #[.int .i64 f, .int .i64 t] 34))) (Nat.le_refl _) (.cells (ptC no (some ⟨w.heap.size, 0, none⟩) 1 1) 24)
  have hN := (spans_one w f t).below hal
  generalize hW0 : (w.alloc (.cells #[.int .i64 f, .int .i64 t] 34)).alloc (.cells (ptC no (some ⟨w.heap.size, 0, none⟩) 1 1) 24) = W0 at hb2 hN ⊢
  have z0 : w.heap.size + 1 < W0.heap.size := by rw [← hW0]; simp
  have e0 : W0.cell? ⟨w.heap.size + 1, 0, none⟩ = some (.bool no) := by rw [← hW0]; simp
  have e1 : W0.cell? ⟨w.heap.size + 1, 1, none⟩ = some (.slice (some ⟨w.heap.size, 0, none⟩) 1 1) := by rw [← hW0]; simp
  have HB := hidB hb2
  have HN := hidB hN
  clear hW0 hb1 hb2 hN hal hlit p1 p2 htm
  refine (p3 W0).mono ?_
  rintro e w' ⟨rfl, rfl⟩
  have C1 := fun (W : World) (hW : Below W0.heap.size W0 W) => ptCheck no _ _ _ W (HN.out.below hW) (by simp)
  have C2 := fun (v : Int) (W : World) (hW : Below W0.heap.size W0 W) => ptHas no _ _ _ v W (HN.out.below hW) (by simp)
  have C3 := fun (u v : Int) (W : World) => ptCheck false _ _ _ (W.alloc (.cells #[.int .i64 u, .int .i64 v] 34)) (spans_one W u v) (by simp)
  have C4 := fun (W : World) (hW : Below W0.heap.size W0 W) => ptAwake W (HT.out.below (HB.out.trans (hW.mono HB.out.size)))
  have D1 := C2 k
  have D2 := C2 f
  have D3 := C2 t
  have D4 := C2 (-1 - k)
  have D5 := C2 (65536 + k)
  have E1 := C3 (t + 1) t
  have E2 := C3 f (65536 + k)
  obtain ⟨s1, s2, s3, s4, s5, s6, s7, s8⟩ := HR.out
  rw [s1] at C1
  rw [← s2] at D1
  rw [s3] at D2
  rw [s4] at D3
  rw [s5] at D4
  rw [s6] at D5
  rw [s7] at E1
  rw [s8] at E2
  simp only [List.length_cons, List.length_nil, Nat.zero_add] at C1 D1 D2 D3 D4 D5 E1 E2
  clear C2 C3 s1 s2 s3 s4 s5 s6 s7 s8 HR
  generalize hr1 : decide (f ≤ k) = g1
  generalize hr2 : decide (k ≤ t) = g2
  clear p3
  cases g1 with
  | false =>
    have hqn : q = no := HQ.out.2 (fun h => by simp at hr1; omega)
    subst hqn
    clear HQ
    go_wp2_with (fail)
    refine (C1 W0 (Below.refl _ _)).mono ?_
    rintro e w1 ⟨rfl, hb1⟩
    have HB1 := hidB hb1
    have x0 := (HB1.out.cell (p := ⟨w.heap.size + 1, 0, none⟩) z0).trans e0
    have x1 := (HB1.out.cell (p := ⟨w.heap.size + 1, 1, none⟩) z0).trans e1
    have c1 := D1 w1 HB1.out
    clear hb1 D1
    go_wp2_with (fail)
    clear x0 x1
    refine c1.mono ?_
    rintro e w2 ⟨rfl, hb2⟩
    have HB2 := hidB (HB1.out.trans (hb2.mono HB1.out.size))
    have x0 := (HB2.out.cell (p := ⟨w.heap.size + 1, 0, none⟩) z0).trans e0
    have x1 := (HB2.out.cell (p := ⟨w.heap.size + 1, 1, none⟩) z0).trans e1
    have c2 := D2 w2 HB2.out
    clear hb2 D2 c1
    go_wp2_with (fail)
    clear x0 x1
    refine c2.mono ?_
    rintro e w3 ⟨rfl, hb3⟩
    have HB3 := hidB (HB2.out.trans (hb3.mono HB2.out.size))
    have x0 := (HB3.out.cell (p := ⟨w.heap.size + 1, 0, none⟩) z0).trans e0
    have x1 := (HB3.out.cell (p := ⟨w.heap.size + 1, 1, none⟩) z0).trans e1
    have c3 := D3 w3 HB3.out
    clear hb3 D3 c2
    go_wp2_with (fail)
    clear x0 x1
    refine c3.mono ?_
    rintro e w4 ⟨rfl, hb4⟩
    have HB4 := hidB (HB3.out.trans (hb4.mono HB3.out.size))
    have x0 := (HB4.out.cell (p := ⟨w.heap.size + 1, 0, none⟩) z0).trans e0
    have x1 := (HB4.out.cell (p := ⟨w.heap.size + 1, 1, none⟩) z0).trans e1
    have c4 := D4 w4 HB4.out
    clear hb4 D4 c3
    go_wp2_with (fail)
    clear x0 x1
    refine c4.mono ?_
    rintro e w5 ⟨rfl, hb5⟩
    have HB5 := hidB (HB4.out.trans (hb5.mono HB4.out.size))
    have x0 := (HB5.out.cell (p := ⟨w.heap.size + 1, 0, none⟩) z0).trans e0
    have x1 := (HB5.out.cell (p := ⟨w.heap.size + 1, 1, none⟩) z0).trans e1
    have c5 := D5 w5 HB5.out
    clear hb5 D5 c4
    go_wp2_with (fail)
    clear x0 x1
    refine c5.mono ?_
    rintro e w6 ⟨rfl, hb6⟩
    have HB6 := hidB (HB5.out.trans (hb6.mono HB5.out.size))
    clear hb6 c5
    have hl6 := lit_span w6 (t + 1) t
    have c6 := E1 w6
    go_wp2_with (fail)
    refine c6.mono ?_
    rintro e w7 ⟨rfl, hb7⟩
    have ha7 := below_more (Below.refl w6.heap.size w6) (Nat.le_refl _) (.cells #[.int .i64 (t + 1), .int .i64 t] 34)
    have HB7 := hidB (HB6.out.trans ((ha7.trans (hb7.mono ha7.size)).mono HB6.out.size))
    clear hb7 c6 E1 ha7 hl6
    have hl7 := lit_span w7 f (65536 + k)
    have c7 := E2 w7
    go_wp2_with (fail)
    refine c7.mono ?_
    rintro e w8 ⟨rfl, hb8⟩
    have ha8 := below_more (Below.refl w7.heap.size w7) (Nat.le_refl _) (.cells #[.int .i64 f, .int .i64 (65536 + k)] 34)
    have HB8 := hidB (HB7.out.trans ((ha8.trans (hb8.mono ha8.size)).mono HB7.out.size))
    have c8 := C4 w8 HB8.out
    clear hb8 c7 E2 ha8 hl7 C4
    go_wp2_with (fail)
    refine c8.mono ?_
    rintro e w9 ⟨rfl, hb9⟩
    have HB9 := hidB (HB8.out.trans (hb9.mono HB8.out.size))
    clear hb9 c8
    go_wp2_with (fail)
    go_ret
    exact ⟨rfl, HB.out.trans (HB9.out.mono HB.out.size)⟩
  | true =>
    cases g2 with
    | false =>
      have hqn : q = no := HQ.out.2 (fun h => by simp at hr2; omega)
      subst hqn
      clear HQ
      go_wp2_with (fail)
      refine (C1 W0 (Below.refl _ _)).mono ?_
      rintro e w1 ⟨rfl, hb1⟩
      have HB1 := hidB hb1
      have x0 := (HB1.out.cell (p := ⟨w.heap.size + 1, 0, none⟩) z0).trans e0
      have x1 := (HB1.out.cell (p := ⟨w.heap.size + 1, 1, none⟩) z0).trans e1
      have c1 := D1 w1 HB1.out
      clear hb1 D1
      go_wp2_with (fail)
      clear x0 x1
      refine c1.mono ?_
      rintro e w2 ⟨rfl, hb2⟩
      have HB2 := hidB (HB1.out.trans (hb2.mono HB1.out.size))
      have x0 := (HB2.out.cell (p := ⟨w.heap.size + 1, 0, none⟩) z0).trans e0
      have x1 := (HB2.out.cell (p := ⟨w.heap.size + 1, 1, none⟩) z0).trans e1
      have c2 := D2 w2 HB2.out
      clear hb2 D2 c1
      go_wp2_with (fail)
      clear x0 x1
      refine c2.mono ?_
      rintro e w3 ⟨rfl, hb3⟩
      have HB3 := hidB (HB2.out.trans (hb3.mono HB2.out.size))
      have x0 := (HB3.out.cell (p := ⟨w.heap.size + 1, 0, none⟩) z0).trans e0
      have x1 := (HB3.out.cell (p := ⟨w.heap.size + 1, 1, none⟩) z0).trans e1
      have c3 := D3 w3 HB3.out
      clear hb3 D3 c2
      go_wp2_with (fail)
      clear x0 x1
      refine c3.mono ?_
      rintro e w4 ⟨rfl, hb4⟩
      have HB4 := hidB (HB3.out.trans (hb4.mono HB3.out.size))
      have x0 := (HB4.out.cell (p := ⟨w.heap.size + 1, 0, none⟩) z0).trans e0
      have x1 := (HB4.out.cell (p := ⟨w.heap.size + 1, 1, none⟩) z0).trans e1
      have c4 := D4 w4 HB4.out
      clear hb4 D4 c3
      go_wp2_with (fail)
      clear x0 x1
      refine c4.mono ?_
      rintro e w5 ⟨rfl, hb5⟩
      have HB5 := hidB (HB4.out.trans (hb5.mono HB4.out.size))
      have x0 := (HB5.out.cell (p := ⟨w.heap.size + 1, 0, none⟩) z0).trans e0
      have x1 := (HB5.out.cell (p := ⟨w.heap.size + 1, 1, none⟩) z0).trans e1
      have c5 := D5 w5 HB5.out
      clear hb5 D5 c4
      go_wp2_with (fail)
      clear x0 x1
      refine c5.mono ?_
      rintro e w6 ⟨rfl, hb6⟩
      have HB6 := hidB (HB5.out.trans (hb6.mono HB5.out.size))
      clear hb6 c5
      have hl6 := lit_span w6 (t + 1) t
      have c6 := E1 w6
      go_wp2_with (fail)
      refine c6.mono ?_
      rintro e w7 ⟨rfl, hb7⟩
      have ha7 := below_more (Below.refl w6.heap.size w6) (Nat.le_refl _) (.cells #[.int .i64 (t + 1), .int .i64 t] 34)
      have HB7 := hidB (HB6.out.trans ((ha7.trans (hb7.mono ha7.size)).mono HB6.out.size))
      clear hb7 c6 E1 ha7 hl6
      have hl7 := lit_span w7 f (65536 + k)
      have c7 := E2 w7
      go_wp2_with (fail)
      refine c7.mono ?_
      rintro e w8 ⟨rfl, hb8⟩
      have ha8 := below_more (Below.refl w7.heap.size w7) (Nat.le_refl _) (.cells #[.int .i64 f, .int .i64 (65536 + k)] 34)
      have HB8 := hidB (HB7.out.trans ((ha8.trans (hb8.mono ha8.size)).mono HB7.out.size))
      have c8 := C4 w8 HB8.out
      clear hb8 c7 E2 ha8 hl7 C4
      go_wp2_with (fail)
      refine c8.mono ?_
      rintro e w9 ⟨rfl, hb9⟩
      have HB9 := hidB (HB8.out.trans (hb9.mono HB8.out.size))
      clear hb9 c8
      go_wp2_with (fail)
      go_ret
      exact ⟨rfl, HB.out.trans (HB9.out.mono HB.out.size)⟩
    | true =>
      have hqn : q = !no := HQ.out.1 (by simpa using hr1) (by simpa using hr2)
      subst hqn
      clear HQ
      go_wp2_with (fail)
      refine (C1 W0 (Below.refl _ _)).mono ?_
      rintro e w1 ⟨rfl, hb1⟩
      have HB1 := hidB hb1
      have x0 := (HB1.out.cell (p := ⟨w.heap.size + 1, 0, none⟩) z0).trans e0
      have x1 := (HB1.out.cell (p := ⟨w.heap.size + 1, 1, none⟩) z0).trans e1
      have c1 := D1 w1 HB1.out
      clear hb1 D1
      go_wp2_with (fail)
      clear x0 x1
      refine c1.mono ?_
      rintro e w2 ⟨rfl, hb2⟩
      have HB2 := hidB (HB1.out.trans (hb2.mono HB1.out.size))
      have x0 := (HB2.out.cell (p := ⟨w.heap.size + 1, 0, none⟩) z0).trans e0
      have x1 := (HB2.out.cell (p := ⟨w.heap.size + 1, 1, none⟩) z0).trans e1
      have c2 := D2 w2 HB2.out
      clear hb2 D2 c1
      go_wp2_with (fail)
      clear x0 x1
      refine c2.mono ?_
      rintro e w3 ⟨rfl, hb3⟩
      have HB3 := hidB (HB2.out.trans (hb3.mono HB2.out.size))
      have x0 := (HB3.out.cell (p := ⟨w.heap.size + 1, 0, none⟩) z0).trans e0
      have x1 := (HB3.out.cell (p := ⟨w.heap.size + 1, 1, none⟩) z0).trans e1
      have c3 := D3 w3 HB3.out
      clear hb3 D3 c2
      go_wp2_with (fail)
      clear x0 x1
      refine c3.mono ?_
      rintro e w4 ⟨rfl, hb4⟩
      have HB4 := hidB (HB3.out.trans (hb4.mono HB3.out.size))
      have x0 := (HB4.out.cell (p := ⟨w.heap.size + 1, 0, none⟩) z0).trans e0
      have x1 := (HB4.out.cell (p := ⟨w.heap.size + 1, 1, none⟩) z0).trans e1
      have c4 := D4 w4 HB4.out
      clear hb4 D4 c3
      go_wp2_with (fail)
      clear x0 x1
      refine c4.mono ?_
      rintro e w5 ⟨rfl, hb5⟩
      have HB5 := hidB (HB4.out.trans (hb5.mono HB4.out.size))
      have x0 := (HB5.out.cell (p := ⟨w.heap.size + 1, 0, none⟩) z0).trans e0
      have x1 := (HB5.out.cell (p := ⟨w.heap.size + 1, 1, none⟩) z0).trans e1
      have c5 := D5 w5 HB5.out
      clear hb5 D5 c4
      go_wp2_with (fail)
      clear x0 x1
      refine c5.mono ?_
      rintro e w6 ⟨rfl, hb6⟩
      have HB6 := hidB (HB5.out.trans (hb6.mono HB5.out.size))
      clear hb6 c5
      have hl6 := lit_span w6 (t + 1) t
      have c6 := E1 w6
      go_wp2_with (fail)
      refine c6.mono ?_
      rintro e w7 ⟨rfl, hb7⟩
      have ha7 := below_more (Below.refl w6.heap.size w6) (Nat.le_refl _) (.cells #[.int .i64 (t + 1), .int .i64 t] 34)
      have HB7 := hidB (HB6.out.trans ((ha7.trans (hb7.mono ha7.size)).mono HB6.out.size))
      clear hb7 c6 E1 ha7 hl6
      have hl7 := lit_span w7 f (65536 + k)
      have c7 := E2 w7
      go_wp2_with (fail)
      refine c7.mono ?_
      rintro e w8 ⟨rfl, hb8⟩
      have ha8 := below_more (Below.refl w7.heap.size w7) (Nat.le_refl _) (.cells #[.int .i64 f, .int .i64 (65536 + k)] 34)
      have HB8 := hidB (HB7.out.trans ((ha8.trans (hb8.mono ha8.size)).mono HB7.out.size))
      have c8 := C4 w8 HB8.out
      clear hb8 c7 E2 ha8 hl7 C4
      go_wp2_with (fail)
      refine c8.mono ?_
      rintro e w9 ⟨rfl, hb9⟩
      have HB9 := hidB (HB8.out.trans (hb9.mono HB8.out.size))
      clear hb9 c8
      go_wp2_with (fail)
      go_ret
      exact ⟨rfl, HB.out.trans (HB9.out.mono HB.out.size)⟩
/-! ### THE ROW's STEP: variables laid, a tied card -/
set_option maxRecDepth 100000 in
theorem lifted (os : Os) (started : os.Started) (H : Type) (enc : TypeId × Value → H) :
    ReturnsInHanded {} Tryd.checked os 5 .any (fun w args => (Rows.portsSpansSpec.pre enc Tryd.prog Tryd.f5 Rows.portsSpansRow.domain false w args ∧ laidMetH Tryd.prog Rows.portsSpansRow.laid w) ∧ sizedMet enc Tryd.prog Tryd.f5 (OpenSpec.ofChange Rows.portsSpansSpec) false w args)
      (Rows.portsSpansSpec.post enc Tryd.prog Tryd.f5 false true false false) := by
  refine returnsInHanded_of_change_and (C := Tryd.checked) (X := fun w _ => laidMetH Tryd.prog Rows.portsSpansRow.laid w) (fun _ _ _ hh h => h.of_heap hh) own started (by kernel_rfl) Tryd.func5
    (ChangeSpec.witness_shaped (enc := enc) (C := Tryd.checked) (os := os) (X := fun w _ => laidMetH Tryd.prog Rows.portsSpansRow.laid w) false (World.laidAll Tryd.prog os Rows.portsSpansRow.laid) #[.int .i64 0, .int .i64 0, .int .i64 0, .bool false] 8 (World.laidAll_os _ _ _)
      (World.shaped_of_ZipB (by kernel_rfl) (by kernel_rfl)) (by kernel_rfl) (by kernel_rfl) (by kernel_rfl)
      (by rw [MakeChecks.laidMetH_plain _ _ _ (by kernel_rfl)]; exact laidMet_laidAll _ (by kernel_rfl) (by kernel_rfl))) ?_
  intro W base args ds gs before hval0 hW _ _ hL _
  have hval : ∀ (j : Nat) t v, Tryd.f5.params[j]? = some t → args[j]? = some v → Value.okWide Tryd.prog W .any base t v := hval0
  have hW' := hW
  obtain ⟨p, q, hA0, hV, rfl, hfz, hnd⟩ := hW
  have hA : DataW.TrodAll enc Tryd.prog W 0 (fun _ => true) true Tryd.f5.params.toList args.toList ds p := hA0
  have hB := fun (W' : World) (bel : Below W.heap.size W W') => below_trodAll_of laidOut bel _ (by kernel_rfl) hA
  rw [Tryd.params5] at hA hval
  obtain ⟨v0, vs0, d0, ds0, p0, q0, hargs, rfl, rfl, h0, r0⟩ := trodAll_cons hA
  obtain ⟨v1, vs1, d1, ds1, p1, q1, rfl, rfl, rfl, h1, r1⟩ := trodAll_cons r0
  obtain ⟨v2, vs2, d2, ds2, p2, q2, rfl, rfl, rfl, h2, r2⟩ := trodAll_cons r1
  obtain ⟨v3, vs3, d3, ds3, p3, q3, rfl, rfl, rfl, h3, r3⟩ := trodAll_cons r2
  obtain ⟨rfl, rfl, rfl⟩ := trodAll_nil r3
  obtain rfl : args = #[v0, v1, v2, v3] := by cases args; simp_all
  obtain ⟨rfl, rfl⟩ := trodVars_none hV
  obtain ⟨a0, rfl, rfl, rfl, w0⟩ := open_int Tryd.underlying3 (hval 0 3 v0 rfl rfl) h0
  obtain ⟨a1, rfl, rfl, rfl, w1⟩ := open_int Tryd.underlying3 (hval 1 3 v1 rfl rfl) h1
  obtain ⟨a2, rfl, rfl, rfl, w2⟩ := open_int Tryd.underlying3 (hval 2 3 v2 rfl rfl) h2
  obtain ⟨a3, rfl, rfl, rfl⟩ := open_bool Tryd.underlying4 (hval 3 4 v3 rfl rfl) h3
  clear hA0 hval0
  refine (walk a0 w0 a1 w1 a2 w2 a3 W (tab_pow10 hL)).mono fun e W' ⟨he, bel⟩ => ?_
  subst he
  exact ⟨_, rfl, _, _, _, [], _, [], hW', trodAll_mk1 (shut_bool Tryd.underlying4 _), hB W' bel, rfl, bel.frame _, fun h => by cases h⟩

theorem over : Rows.PortsSpansSaid :=
  OpenClaim.holds_of_wide 5 Tryd.f5 rfl rfl rfl rfl rfl rfl rfl ⟨rfl, rfl, rfl, rfl, rfl⟩ rfl rfl rfl rfl rfl (by kernel_rfl) Tryd.func5 (by kernel_rfl)
    (of_decide_eq_true (by kernel_rfl)) (by unfold Func.isWrapper; first | (rw [if_pos (by decide +kernel)]; kernel_rfl) | (rw [if_neg (by decide +kernel)]; exact ⟨rfl, rfl⟩))
    (fun os started H enc _ => lifted os started H enc)

/-- THE STATEMENT: the card -/
theorem proved : Rows.PortsSpansCardSaid :=
  Claim7.holds_tied_plain_at .later [] [.data, .data, .data] true (true, "8f90354d35c42e9b57447291d953c5ed6eaefff3abf76116990a3b0ce82ff6be") false over (fun _ h => by cases h) (by kernel_rfl) (fun _ h => by cases h) portsSpans_row_tie rfl ⟨rfl, rfl⟩ (by kernel_rfl) rfl
    (fun f fn hf hfn => by
      obtain rfl : f = 5 := Option.some.inj ((show Tryd.prog.funcNamed "rampart/rampartlaw10.PortsSpans" = some 5 by kernel_rfl).symm.trans hf) |>.symm
      obtain rfl : fn = Tryd.f5 := (Option.some.inj (Tryd.func5.symm.trans hfn)).symm
      exact ⟨by kernel_rfl, fun j t ht => by
        rw [Tryd.params5] at ht
        have hm : t ∈ [3, 3, 3, 4] := by simpa using Array.mem_of_getElem? ht
        have hall : ([3, 3, 3, 4].all fun u => !Tryd.prog.wantsStandIn u) = true := by kernel_rfl
        exact (show Tryd.prog.wantsStandIn t = false by simpa using List.all_eq_true.1 hall t hm)⟩)
    (by kernel_rfl)
#print axioms proved
end Go.Proofs.YtgiecmgopibcnaaDoor.portsSpans
