/- Layer 10's own answer: which sets may be, what they have, the same. -/
import Derived.Test.YtgiecmgopibcnaaDoorPt2
import Derived.BigQuiet
import Derived.WalkKit
namespace Go.Proofs.YtgiecmgopibcnaaDoor
open Go.RowKit
set_option linter.unusedVariables false
set_option maxRecDepth 20000
theorem pt_in {w w2 : World} {no : Bool} {p : Option Addr} {n c : Nat} (hb2 : Below (w.alloc (.cells (ptC no p n c) 24)).heap.size (w.alloc (.cells (ptC no p n c) 24)) w2) :
    w2.cell? ⟨w.heap.size, 0, none⟩ = some (.bool no) ∧ w2.cell? ⟨w.heap.size, 1, none⟩ = some (.slice p n c) := by
  have hZ : w.heap.size < (w.alloc (.cells (ptC no p n c) 24)).heap.size := by simp
  exact ⟨(hb2.cell (p := ⟨w.heap.size, 0, none⟩) hZ).trans (by simp), (hb2.cell (p := ⟨w.heap.size, 1, none⟩) hZ).trans (by simp)⟩
set_option maxHeartbeats 1000000 in
theorem rpCheck (no : Bool) (p : Option Addr) (c : Nat) (L : List Sp) (w : World) (h : Spans w p c L) (h20 : L.length ≤ 20) :
    Calls Tryd.prog 9 #[.agg (ptC no p L.length c)] w fun e w' => e = .returned (.bool (checkS L)) ∧ Below w.heap.size w w' := by
  have hb := (Below.refl w.heap.size w).alloc (Nat.le_refl _) (.cells (ptC no p L.length c) 24)
  have h1 := hidB (h.below hb)
  have HB := hidB hb
  clear hb h
  obtain ⟨n, hn⟩ : ∃ n : Nat, n = L.length := ⟨_, rfl⟩
  have HL := hidB hn
  rw [← hn] at h1 HB h20 ⊢
  clear hn
  go_enter Tryd.func9, Tryd.ntmps9
  go_wp2
  generalize hW1 : w.alloc (.cells (ptC no p n c) 24) = w1 at h1 HB ⊢
  have e1 : w1.cell? ⟨w.heap.size, 1, none⟩ = some (.slice p n c) := by rw [← hW1]; simp
  have z1 : w.heap.size < w1.heap.size := by rw [← hW1]; simp
  clear hW1
  go_loopg [3] n (fun g s3 wr => ∃ k : Nat, k ≤ n ∧ n - k ≤ g ∧ s3 = .int .i64 (k : Int) ∧ Hid (Below w1.heap.size w1 wr) ∧ Hid ((L.take k).any badS = false))
  case atStart => exact ⟨0, Nat.zero_le _, by omega, rfl, Below.refl _ _, by rw [List.take_zero]; rfl⟩
  case round =>
    obtain ⟨k, hkn, hg, rfl, HR, HA⟩ := hrel
    have f1 : wr.cell? ⟨w.heap.size, 1, none⟩ = some (.slice p n c) := (HR.out.cell (p := ⟨w.heap.size, 1, none⟩) z1).trans e1
    by_cases hlt : k < n
    · have hlz : (k : Int) < (n : Int) := by omega
      obtain ⟨x, hx⟩ : ∃ x, L[k]? = some x := ⟨_, List.getElem?_eq_getElem (by rw [← HL.out]; exact hlt)⟩
      obtain ⟨_, h2⟩ := h1.out.below HR.out
      rcases h2 with h2 | ⟨b, o, rfl, h4, h5⟩
      · rw [h2] at hx; cases hx
      · obtain ⟨c0, c1⟩ := h5 k x hx
        have HX := hidB hx
        have rz : w.heap.size < wr.heap.size := Nat.lt_of_lt_of_le z1 HR.out.size
        clear hx h5 e1
        have hcl := Cls.cell (w := wr)
        obtain ⟨xa, xb⟩ := x
        simp only at c0 c1
        have hbad : badS (xa, xb) = (decide (xa < 0) || decide (xb < xa) || decide (65535 < xb)) := rfl
        have HBad := hidB hbad
        clear hbad
        generalize ha : decide (xa < 0) = r1 at HBad
        generalize hbb : decide (xb < xa) = r2 at HBad
        generalize hcc : decide (65535 < xb) = r3 at HBad
        have hout : (r1 || r2 || r3) = true → checkS L = false := fun e => by
          have := any_of_at badS L k _ HX.out (by rw [HBad.out]; exact e)
          simp only [checkS, this]; simp
        have HO := hidB hout
        have HS := hidB (any_take_step badS L k _ HX.out)
        rw [HA.out, HBad.out] at HS
        clear hout HX HA HBad
        cases r1 with
        | true =>
          have HF := hidB (HO.out (by simp))
          clear hbb hcc HO HS
          go_upto_region 4 with fail
          refine wp_region_calm (by kernel_rfl) (by kernel_rfl) (fun hne => ?_)
          repeat (go_big_quiet_step (fail))
          refine wpQuiet_nil ?_
          rintro _ ⟨y, rfl⟩
          go_wp2
          go_ret
          exact ⟨by rw [HF.out]; rfl, HB.out.trans ((HR.out.trans (y.bel.mono HR.out.size)).mono HB.out.size)⟩
        | false =>
          cases r2 with
          | true =>
            have HF := hidB (HO.out (by simp))
            clear hcc HO HS
            go_upto_region 4 with fail
            refine wp_region_calm (by kernel_rfl) (by kernel_rfl) (fun hne => ?_)
            repeat (go_big_quiet_step (fail))
            refine wpQuiet_nil ?_
            rintro _ ⟨y, rfl⟩
            go_wp2
            go_ret
            exact ⟨by rw [HF.out]; rfl, HB.out.trans ((HR.out.trans (y.bel.mono HR.out.size)).mono HB.out.size)⟩
          | false =>
            cases r3 with
            | true =>
              have HF := hidB (HO.out (by simp))
              clear HO HS
              go_upto_region 4 with fail
              refine wp_region_calm (by kernel_rfl) (by kernel_rfl) (fun hne => ?_)
              repeat (go_big_quiet_step (fail))
              refine wpQuiet_nil ?_
              rintro _ ⟨y, rfl⟩
              go_wp2
              go_ret
              exact ⟨by rw [HF.out]; rfl, HB.out.trans ((HR.out.trans (y.bel.mono HR.out.size)).mono HB.out.size)⟩
            | false =>
              clear HO
              go_upto_region 4 with fail
              refine wp_region_calm (by kernel_rfl) (by kernel_rfl) (fun hne => ?_)
              repeat (go_big_quiet_step (fail))
              refine wpQuiet_nil ?_
              rintro _ ⟨y, rfl⟩
              have HY := hidB (HR.out.trans (y.bel.mono HR.out.size))
              clear hcl hne c0 c1 f1
              go_wp2
              go_roundg (n - (k + 1))
              case measure => omega
              case rel => exact ⟨k + 1, by omega, by omega, by go_num, HY, hidB (by rw [HS.out]; rfl)⟩
    · have hlz : ¬ (k : Int) < (n : Int) := by omega
      have HF := hidB (show checkS L = decide ((n : Int) ≤ 4) by
        have h3 := HA.out
        rw [List.take_of_length_le (by rw [← HL.out]; omega)] at h3
        simp only [checkS, h3, ← HL.out]
        simp
        omega)
      have HR2 := HR
      clear HR
      go_wp2
      go_ret
      exact ⟨by rw [HF.out]; rfl, HB.out.trans (HR2.out.mono HB.out.size)⟩
set_option maxHeartbeats 2000000 in
theorem rpSame (no : Bool) (p q : Option Addr) (c d : Nat) (L : List Sp) (w : World) (h : Spans w p c L) (k : Spans w q d L) (h20 : L.length ≤ 20) :
    Calls Tryd.prog 10 #[.agg (ptC no p L.length c), .agg (ptC no q L.length d)] w fun e w' => e = .returned (.bool true) ∧ Below w.heap.size w w' := by
  have hb := ((Below.refl w.heap.size w).alloc (Nat.le_refl _) (.cells (ptC no p L.length c) 24)).alloc (by simp) (.cells (ptC no q L.length d) 24)
  have h1 := hidB (h.below hb)
  have k1 := hidB (k.below hb)
  have HB := hidB hb
  clear hb h k
  obtain ⟨n, hn⟩ : ∃ n : Nat, n = L.length := ⟨_, rfl⟩
  have HL := hidB hn
  rw [← hn] at h1 k1 HB h20 ⊢
  clear hn
  go_enter Tryd.func10, Tryd.ntmps10
  go_wp2_with (fail)
  obtain ⟨w1, hw1⟩ : ∃ w1, w1 = (w.alloc (.cells (ptC no p n c) 24)).alloc (.cells (ptC no q n d) 24) := ⟨_, rfl⟩
  have e0 : w1.cell? ⟨w.heap.size, 1, none⟩ = some (.slice p n c) := by rw [hw1]; simp
  have e1 : w1.cell? ⟨w.heap.size + 1, 1, none⟩ = some (.slice q n d) := by rw [hw1]; simp
  have z1 : w.heap.size < w1.heap.size := by rw [hw1]; simp; omega
  have z2 : w.heap.size + 1 < w1.heap.size := by rw [hw1]; simp
  rw [← hw1] at h1 k1 HB ⊢
  clear hw1
  go_loopg [5] n (fun g s5 wr => ∃ k : Nat, k ≤ n ∧ n - k ≤ g ∧ s5 = .int .i64 (k : Int) ∧ Hid (Below w1.heap.size w1 wr))
  case atStart => exact ⟨0, Nat.zero_le _, by omega, rfl, Below.refl _ _⟩
  case round =>
    obtain ⟨k, hkn, hg, rfl, HR⟩ := hrel
    have f0 : wr.cell? ⟨w.heap.size, 1, none⟩ = some (.slice p n c) := (HR.out.cell (p := ⟨w.heap.size, 1, none⟩) z1).trans e0
    have f1 : wr.cell? ⟨w.heap.size + 1, 1, none⟩ = some (.slice q n d) := (HR.out.cell (p := ⟨w.heap.size + 1, 1, none⟩) z2).trans e1
    by_cases hlt : k < n
    · have hlz : (k : Int) < (n : Int) := by omega
      obtain ⟨x, hx⟩ : ∃ x, L[k]? = some x := ⟨_, List.getElem?_eq_getElem (by rw [← HL.out]; exact hlt)⟩
      obtain ⟨_, h3⟩ := h1.out.below HR.out
      obtain ⟨_, k3⟩ := k1.out.below HR.out
      have r1 : w.heap.size < wr.heap.size := Nat.lt_of_lt_of_le z1 HR.out.size
      have r2 : w.heap.size + 1 < wr.heap.size := Nat.lt_of_lt_of_le z2 HR.out.size
      rcases h3 with h3 | ⟨b, o, rfl, h4, h5⟩
      · rw [h3] at hx; cases hx
      · rcases k3 with k3 | ⟨b2, o2, rfl, k4, k5⟩
        · rw [k3] at hx; cases hx
        · obtain ⟨c0, c1⟩ := h5 k x hx
          obtain ⟨d0, d1⟩ := k5 k x hx
          obtain ⟨xa, xb⟩ := x
          clear hx h5 k5 e0 e1 z1 z2
          simp only at c0 c1 d0 d1
          have hcl := Cls.cell (w := wr)
          have b1 : (xa != xa) = false := by simp
          have b2' : (xb != xb) = false := by simp
          go_upto_region 6 with fail
          refine wp_region_calm (by kernel_rfl) (by kernel_rfl) (fun hne => ?_)
          repeat (go_big_quiet_step (fail))
          refine wpQuiet_nil ?_
          rintro _ ⟨y, rfl⟩
          have HY := hidB (HR.out.trans (y.bel.mono HR.out.size))
          clear hcl hne c0 c1 d0 d1 f0 f1
          go_wp2
          go_roundg (n - (k + 1))
          case measure => omega
          case rel => exact ⟨k + 1, by omega, by omega, by go_num, HY⟩
    · have hlz : ¬ (k : Int) < (n : Int) := by omega
      have HR2 := HR
      clear HR
      go_wp2
      go_ret
      exact ⟨rfl, HB.out.trans (HR2.out.mono HB.out.size)⟩
set_option maxHeartbeats 2000000 in
theorem rpHas (no : Bool) (p : Option Addr) (c : Nat) (L : List Sp) (a : Int) (w : World) (h : Spans w p c L) (h20 : L.length ≤ 20) :
    Calls Tryd.prog 15 #[.agg (ptC no p L.length c), .int .i64 a] w fun e w' => e = .returned (.bool (hasS no L a)) ∧ Below w.heap.size w w' := by
  have hb := (Below.refl w.heap.size w).alloc (Nat.le_refl _) (.cells (ptC no p L.length c) 24)
  have h1 := h.below hb
  have hck := rpCheck no p c L _ h1 h20
  have HB := hidB hb
  by_cases hc : checkS L = true
  · rw [hc] at hck
    by_cases h0 : a < 0
    · have HF := hidB (show hasS no L a = false by simp [hasS, hc, inS]; omega)
      clear h hb h1 hc
      go_enter Tryd.func15, Tryd.ntmps15
      go_wp2_with (fail)
      refine hck.mono ?_
      rintro e w2 ⟨rfl, hb2⟩
      have HB2 := hidB (HB.out.trans (hb2.mono HB.out.size))
      clear hck hb2 HB
      go_wp2_with (fail)
      go_ret
      exact ⟨by rw [HF.out]; rfl, HB2.out⟩
    · by_cases h6 : 65535 < a
      · have HF := hidB (show hasS no L a = false by simp [hasS, hc, inS]; omega)
        clear h hb h1 hc
        go_enter Tryd.func15, Tryd.ntmps15
        go_wp2_with (fail)
        refine hck.mono ?_
        rintro e w2 ⟨rfl, hb2⟩
        have HB2 := hidB (HB.out.trans (hb2.mono HB.out.size))
        clear hck hb2 HB
        go_wp2_with (fail)
        go_ret
        exact ⟨by rw [HF.out]; rfl, HB2.out⟩
      · obtain ⟨n, hn⟩ : ∃ n : Nat, n = L.length := ⟨_, rfl⟩
        have HF := hidB (show hasS no L a = ((L.any (inS a) || decide (n = 0)) != no) by
          rw [show hasS no L a = (checkS L && inS a (0, 65535) && ((L.any (inS a) || L.isEmpty) != no)) from rfl, hc, (inS_iff a (0, 65535)).2 ⟨by show (0 : Int) ≤ a; omega, by show a ≤ 65535; omega⟩, Bool.true_and, Bool.true_and]
          congr 2
          rw [Bool.eq_iff_iff, List.isEmpty_iff_length_eq_zero, ← hn]
          simp)
        rw [← hn] at hck hb h1 h20 HB ⊢
        have HL := hidB hn
        have hZ : w.heap.size < (w.alloc (.cells (ptC no p n c) 24)).heap.size := by simp
        clear h hc hn hb
        go_enter Tryd.func15, Tryd.ntmps15
        go_wp2_with (fail)
        refine hck.mono ?_
        rintro e w2 ⟨rfl, hb2⟩
        obtain ⟨d0, d1⟩ := pt_in hb2
        have h2 := hidB (h1.below hb2)
        have hz2 : w.heap.size < w2.heap.size := Nat.lt_of_lt_of_le hZ hb2.size
        have HB2 := hidB (HB.out.trans (hb2.mono HB.out.size))
        clear hck h1 hb2 hZ HB
        go_wp2
        go_loopg [5, 6] n (fun g s5 s6 wr => ∃ k : Nat, k ≤ n ∧ n - k ≤ g ∧ s6 = .int .i64 (k : Int) ∧ s5 = .bool ((L.take k).any (inS a) || decide (n = 0)) ∧ wr = w2)
        case atStart => exact ⟨0, Nat.zero_le _, by omega, rfl, (zero_b n).trans (by rw [List.take_zero]; rfl), rfl⟩
        case round =>
          obtain ⟨k, hkn, hg, rfl, rfl, rfl⟩ := hrel
          by_cases hlt : k < n
          · have hlz : (k : Int) < (n : Int) := by omega
            obtain ⟨x, hx⟩ : ∃ x, L[k]? = some x := ⟨_, List.getElem?_eq_getElem (by rw [← HL.out]; exact hlt)⟩
            obtain ⟨_, h3⟩ := h2.out
            rcases h3 with h3 | ⟨b, o, rfl, h4, h5⟩
            · rw [h3] at hx; cases hx
            · obtain ⟨c0, c1⟩ := h5 k x hx
              have HS := hidB (show ((L.take (k + 1)).any (inS a) || decide (n = 0)) = (((L.take k).any (inS a) || decide (n = 0)) || inS a x) by
                rw [any_take_step _ L k x hx]
                cases (L.take k).any (inS a) <;> cases inS a x <;> simp)
              obtain ⟨xa, xb⟩ := x
              simp only at c0 c1
              rw [show inS a (xa, xb) = (decide (xa ≤ a) && decide (a ≤ xb)) from rfl] at HS
              generalize ((L.take k).any (inS a) || decide (n = 0)) = r at HS ⊢
              clear hx h5
              cases r with
              | true =>
                clear c0 c1
                go_wp2
                go_roundg (n - (k + 1))
                case measure => omega
                case rel => exact ⟨k + 1, by omega, by omega, by go_num, by rw [HS.out]; rfl, rfl⟩
              | false =>
                generalize hq1 : decide (xa ≤ a) = q1 at HS
                cases q1 with
                | false =>
                  go_wp2
                  go_roundg (n - (k + 1))
                  case measure => omega
                  case rel => exact ⟨k + 1, by omega, by omega, by go_num, by rw [HS.out]; rfl, rfl⟩
                | true =>
                  generalize hq2 : decide (a ≤ xb) = q2 at HS
                  go_wp2
                  go_roundg (n - (k + 1))
                  case measure => omega
                  case rel => exact ⟨k + 1, by omega, by omega, by go_num, by rw [HS.out]; simp, rfl⟩
          · have hlz : ¬ (k : Int) < (n : Int) := by omega
            have HT := hidB (show (L.take k).any (inS a) = L.any (inS a) by rw [List.take_of_length_le (by rw [← HL.out]; omega)])
            go_wp2
            go_ret
            exact ⟨by rw [HF.out, HT.out]; rfl, HB2.out⟩
  · have hc : checkS L = false := by simpa using hc
    have HF := hidB (show hasS no L a = false by simp only [hasS, hc, Bool.false_and])
    rw [hc] at hck
    clear h hb h1 hc
    go_enter Tryd.func15, Tryd.ntmps15
    go_wp2_with (refine hck.mono ?_; rintro e w2 ⟨rfl, hb2⟩)
    go_ret
    exact ⟨by rw [HF.out]; rfl, HB.out.trans (hb2.mono HB.out.size)⟩
end Go.Proofs.YtgiecmgopibcnaaDoor
