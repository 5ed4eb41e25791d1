/- CidrClean: for any set and any addresses, clean turns nothing of what a set has, clean again it is the same, and no net of it has another one in it; no condition. -/
import Derived.Test.YtcnglfjnfllppaaDoorLiftTab
import Derived.Test.YtcnglfjnfllppaaDoorCiCopy
import Derived.Test.YtcnglfjnfllppaaDoorCiThy2
import Derived.Test.YtcnglfjnfllppaaDoorRefCi4
import Derived.Test.YtcnglfjnfllppaaDoorLift
import Derived.Test.YtcnglfjnfllppaaDoorTie
import Derived.Test.YtcnglfjnfllppaaDoorCards
import Derived.LaidMore
import Derived.Lay
import Derived.SevenTiedAt
import Derived.Stop.Joined
namespace Go.Proofs.YtcnglfjnfllppaaDoor.cidrClean
open Go.ChangeShapes Go.WideShapes Go.ChangeAt Go.RowKit
set_option linter.unusedVariables false
set_option maxRecDepth 20000
/-- what the walk is told of a slice of numbers that came in -/
def IsRow (k : IntKind) (w : World) (a : Option Addr) (len cap : Nat) (zs : List Int) : Prop :=
  (a = none ∧ len = 0 ∧ cap = 0 ∧ zs = []) ∨
  ∃ x, a = some x ∧ len ≤ cap ∧ cap ≤ maxLen ∧ zs.length = cap ∧ (∀ i, i < zs.length → w.cell? (x.add i) = some (.int k (zs.getD i 0))) ∧ ∀ n ∈ zs, (Lit.int k n).wf = true
theorem IsRow.at {w : World} {a : Option Addr} {len cap : Nat} {zs : List Int} (h : IsRow .u32 w a len cap zs) : len ≤ 9223372036854775807 ∧ ∀ j, j < len → ∃ (x : Addr) (u : UInt32), a = some x ∧ w.cell? (x.add j) = some (.int .u32 (u.toNat : Int)) := by
  rcases h with ⟨_, rfl, _⟩ | ⟨x, rfl, h1, h2, h3, h4, h5⟩
  · exact ⟨by omega, fun j hj => absurd hj (Nat.not_lt_zero _)⟩
  · refine ⟨by unfold maxLen at h2; omega, fun j hj => ?_⟩
    have hm : zs.getD j 0 ∈ zs := by
      rw [List.getD, List.getElem?_eq_getElem (by omega)]
      exact List.getElem_mem _
    obtain ⟨u, hu⟩ := u32_lit (h5 _ hm)
    exact ⟨x, u, rfl, by rw [h4 j (by omega), hu]⟩
theorem wr1 (k : Nat) (h : k ≤ 20) : wrap64 ((k : Int) + 1) = ((k + 1 : Nat) : Int) := by rw [wrap64]; omega
theorem one_of {w : World} {b o c : Nat} {R : List Nt} (h : Nets w (some ⟨b, o, none⟩) c R) {k : Nat} {y : Nt} (hk : R[k]? = some y) : Nets w (some ⟨b, o + k * 2, none⟩) (c - k) [y] := by
  have h1 := (h.drop k).take 1
  have e : (R.drop k).take 1 = [y] := by
    have hl := (List.getElem?_eq_some_iff.1 hk).1
    rw [List.drop_eq_getElem_cons hl, List.take_one]
    have := (List.getElem?_eq_some_iff.1 hk).2
    simp [this]
  rw [e] at h1
  exact h1
set_option maxHeartbeats 8000000 in
theorem walkC (no : Bool) (p : Option Addr) (c : Nat) (L : List Nt) (a : Option Addr) (len cap : Nat) (zs : List Int) (w : World) (hM : Mks w) (hT : Tb w) (h : Nets w p c L) (hc : checkL L = true) (r : IsRow .u32 w a len cap zs) :
    Calls Tryd.prog 4 #[.agg (setC no p L.length c), .slice a len cap] w fun e w' => e = .returned (.bool true) ∧ Below w.heap.size w w' := by
  have hb0 := below_more (Below.refl w.heap.size w) (Nat.le_refl _) (.cells (setC no p L.length c) 24)
  have h4 := checkL_len hc
  have h0 := h.below hb0
  have HM := hidB (hM.below hb0)
  have HT := hidB (hT.below hb0)
  have H0 := hidB h0
  have HB0 := hidB hb0
  have HC := hidB hc
  obtain ⟨hlen, hrow⟩ := r.at
  have HRow := hidB hrow
  have hck := ciCheck no p c L _ h0 (by omega)
  rw [hc] at hck
  have hcp := fun (W : World) (hN : Nets W p c L) => ciCopy no p c L W hN (by omega)
  have hcl := fun (p1 : Option Addr) (c1 : Nat) (W : World) (hM : Mks W) (hN : Nets W p1 c1 L) => ciClean no p1 c1 L W hM hN (by omega)
  have hl1 := clean_len hc
  have hcc := clean_check hc
  have hcp2 := fun (p1 : Option Addr) (c1 : Nat) (W : World) (hN : Nets W p1 c1 (cleanL L)) => ciCopy no p1 c1 (cleanL L) W hN (by omega)
  have hcl2 := fun (p1 : Option Addr) (c1 : Nat) (W : World) (hM : Mks W) (hN : Nets W p1 c1 (cleanL L)) => ciClean no p1 c1 (cleanL L) W hM hN (by omega)
  rw [clean_clean hc, hcc, Bool.true_and] at hcl2
  rw [hc, Bool.true_and] at hcl
  have hsame := fun (p1 p2 : Option Addr) (c1 c2 : Nat) (W : World) (hN : Nets W p1 c1 (cleanL L)) (hN2 : Nets W p2 c2 (cleanL L)) => rcSame no p1 p2 c1 c2 (cleanL L) W hN hN2 (by omega)
  have hemp : (((cleanL L).length : Int) == 0) = ((L.length : Int) == 0) := by
    have := clean_none hc
    rw [Bool.eq_iff_iff, List.isEmpty_iff_length_eq_zero, List.isEmpty_iff_length_eq_zero] at this
    rw [Bool.eq_iff_iff, beq_iff_eq, beq_iff_eq]
    omega
  have hle : decide (L.length < (cleanL L).length) = false := by simp; omega
  have hhas := fun (x : UInt32) (W : World) (hM : Mks W) (hN : Nets W p c L) => ciHas no p c L x W hM hN (by omega)
  have hhasT := fun (x : UInt32) (W : World) (hM : Mks W) (hN : Nets W p c L) => ciHas (!no) p c L x W hM hN (by omega)
  have hhasR := fun (x : UInt32) (p1 : Option Addr) (c1 : Nat) (W : World) (hM : Mks W) (hN : Nets W p1 c1 (cleanL L)) => ciHas no p1 c1 (cleanL L) x W hM hN (by omega)
  have HH := hidB hhas
  have HHT := hidB hhasT
  have HHR := hidB hhasR
  have hn20 : L.length ≤ 4 := h4
  have hm20 : (cleanL L).length ≤ 4 := by omega
  have hln : ¬ ((20 : Int) < (L.length : Int)) := by omega
  generalize hn : L.length = n at hln hck hcp hcl hemp hle hn20 HH HHT HM HT H0 HB0 ⊢
  generalize hm : (cleanL L).length = m at hcl hcp2 hcl2 hsame hemp hle hm20 HHR
  have z0 : w.heap.size < (w.alloc (.cells (setC no p n c) 24)).heap.size := by simp
  have HLn := hidB hn
  have HLm := hidB hm
  clear hn hm hhas hhasT hhasR hcc hl1 h4 h hM hT h0 hb0 hc r hrow
  go_enter Tryd.func4, Tryd.ntmps4
  go_wp2_with (fail)
  refine hck.mono ?_
  rintro e w2 ⟨rfl, hb2⟩
  obtain ⟨d0, d1⟩ := set_in hb2
  have H2 := hidB hb2
  have hcp := hcp w2 (H0.out.below hb2)
  clear hb2 hck
  go_wp2_with (fail)
  refine hcp.mono ?_
  rintro e w3 ⟨p1, c1, rfl, hN1, hb3⟩
  have H3 := hidB (H2.out.trans (hb3.mono H2.out.size))
  have hcl := hcl p1 c1 w3 (HM.out.below H3.out) hN1
  clear hcp hN1 hb3 d0 d1 H2
  go_wp2_with (fail)
  refine hcl.mono ?_
  rintro e w4 ⟨pc, cc, rfl, hNc, hb4⟩
  have H4 := hidB (H3.out.trans (hb4.mono H3.out.size))
  have hal := below_more (Below.refl w4.heap.size w4) (Nat.le_refl _) (.cells (setC no pc m cc) 24)
  have H5 := hidB (H4.out.trans (hal.mono H4.out.size))
  have hNc5 := hNc.below hal
  have HNc := hidB hNc5
  have hcp2 := hcp2 pc cc _ hNc5
  clear hcl hNc hNc5 hb4 hal H3
  go_wp2_with (fail)
  refine hcp2.mono ?_
  rintro e w6 ⟨p2, c2, rfl, hN2, hb6⟩
  have z5 : w4.heap.size < (w4.alloc (.cells (setC no pc m cc) 24)).heap.size := by simp
  have y0 : w6.cell? ⟨w4.heap.size, 0, none⟩ = some (.bool no) := (hb6.cell (p := ⟨w4.heap.size, 0, none⟩) z5).trans (by simp)
  have y1 : w6.cell? ⟨w4.heap.size, 1, none⟩ = some (.slice pc m cc) := (hb6.cell (p := ⟨w4.heap.size, 1, none⟩) z5).trans (by simp)
  have H6 := hidB (H5.out.trans (hb6.mono H5.out.size))
  have HN6 := hidB (HNc.out.below hb6)
  have z6 : w4.heap.size < w6.heap.size := Nat.lt_of_lt_of_le z5 hb6.size
  have zz : w.heap.size < w4.heap.size := Nat.lt_of_lt_of_le z0 H4.out.size
  have hcl2 := hcl2 p2 c2 w6 (HM.out.below H6.out) hN2
  generalize hB5 : w4.heap.size = B5 at y0 y1 z6 zz ⊢
  have d0 : w6.cell? ⟨w.heap.size, 0, none⟩ = some (.bool no) := (H6.out.cell (p := ⟨w.heap.size, 0, none⟩) z0).trans (by simp)
  have d1 : w6.cell? ⟨w.heap.size, 1, none⟩ = some (.slice p n c) := (H6.out.cell (p := ⟨w.heap.size, 1, none⟩) z0).trans (by simp)
  clear hcp2 hN2 hb6 z5 HNc H5 H4 hB5
  go_wp2_with (fail)
  refine hcl2.mono ?_
  rintro e w7 ⟨pd, cd, rfl, hNd, hb7⟩
  have hal := below_more (Below.refl w7.heap.size w7) (Nat.le_refl _) (.cells (setC no pd m cd) 24)
  have hb8 := hb7.trans (hal.mono hb7.size)
  have q0 := (hb8.cell (p := ⟨B5, 0, none⟩) z6).trans y0
  have q1 := (hb8.cell (p := ⟨B5, 1, none⟩) z6).trans y1
  have r0 := (hb8.cell (p := ⟨w.heap.size, 0, none⟩) (Nat.lt_trans zz z6)).trans d0
  have r1 := (hb8.cell (p := ⟨w.heap.size, 1, none⟩) (Nat.lt_trans zz z6)).trans d1
  have H8 := hidB (H6.out.trans (hb8.mono H6.out.size))
  have z8 : B5 < (w7.alloc (.cells (setC no pd m cd) 24)).heap.size := Nat.lt_of_lt_of_le z6 hb8.size
  have HN8 := hidB (HN6.out.below hb8)
  have hsame := hsame pc pd cc cd _ HN8.out (hNd.below hal)
  clear hcl2 hNd hb7 hal hb8 y0 y1 d0 d1 HN6 H6
  have hnn : (no != no) = false := by simp
  go_wp2_with (fail)
  refine hsame.mono ?_
  rintro e w9 ⟨rfl, hb9⟩
  have e0 := (hb9.cell (p := ⟨B5, 0, none⟩) z8).trans q0
  have e1 := (hb9.cell (p := ⟨B5, 1, none⟩) z8).trans q1
  have g0 := (hb9.cell (p := ⟨w.heap.size, 0, none⟩) (Nat.lt_trans zz z8)).trans r0
  have g1 := (hb9.cell (p := ⟨w.heap.size, 1, none⟩) (Nat.lt_trans zz z8)).trans r1
  have H9 := hidB (H8.out.trans (hb9.mono H8.out.size))
  have z9 : B5 < w9.heap.size := Nat.lt_of_lt_of_le z8 hb9.size
  have HN9 := hidB (HN8.out.below hb9)
  have HNL := hidB (H0.out.below H9.out)
  have HM9 := hidB (HM.out.below H9.out)
  have HT9 := hidB (HT.out.below H9.out)
  have HB9 := hidB (HB0.out.trans (H9.out.mono HB0.out.size))
  clear hsame hb9 q0 q1 r0 r1 z8 HN8 H8 z6 H0 H9 HB0 HM HT z0
  go_wp2_with (fail)
  go_loopg [7] m (fun g s7 wr => ∃ i : Nat, i ≤ m ∧ m - i ≤ g ∧ s7 = .int .i64 (i : Int) ∧ Hid (Below w9.heap.size w9 wr))
  case atStart => exact ⟨0, Nat.zero_le _, by omega, rfl, Below.refl _ _⟩
  case round =>
    obtain ⟨i, him, hg, rfl, HR⟩ := hrel
    have a1 := (HR.out.cell (p := ⟨B5, 1, none⟩) z9).trans e1
    by_cases hlt : i < m
    · have hlz : (i : Int) < (m : Int) := by omega
      obtain ⟨wo, hwo⟩ : ∃ wo, wo = wr := ⟨_, rfl⟩
      subst hwo
      go_wp2
      go_loopg [8] m (fun g s8 wr => ∃ k : Nat, k ≤ m ∧ m - k ≤ g ∧ s8 = .int .i64 (k : Int) ∧ Hid (Below w9.heap.size w9 wr))
      case atStart => exact ⟨0, Nat.zero_le _, by omega, rfl, HR⟩
      case round =>
        obtain ⟨k, hkm, hg2, rfl, HR2⟩ := hrel
        clear a1
        have a1 := (HR2.out.cell (p := ⟨B5, 1, none⟩) z9).trans e1
        by_cases hlk : k < m
        · have hlkz : (k : Int) < (m : Int) := by omega
          obtain ⟨x, hx⟩ : ∃ x, (cleanL L)[i]? = some x := ⟨_, List.getElem?_eq_getElem (by rw [HLm.out]; exact hlt)⟩
          obtain ⟨y, hy⟩ : ∃ y, (cleanL L)[k]? = some y := ⟨_, List.getElem?_eq_getElem (by rw [HLm.out]; exact hlk)⟩
          have hNw := HN9.out.below HR2.out
          obtain ⟨hmc, hNw2⟩ := hNw
          rw [HLm.out] at hmc
          rcases hNw2 with h3 | ⟨b, o, rfl, hbl, hcs⟩
          · rw [h3] at hx; cases hx
          · obtain ⟨cx0, cx1⟩ := hcs i x hx
            obtain ⟨cy0, cy1⟩ := hcs k y hy
            have hz5 : B5 < wr.heap.size := Nat.lt_of_lt_of_le z9 HR2.out.size
            have hcl := Cls.cell (w := wr)
            have HX := hidB (And.intro hx hy)
            clear hx hy hcs
            by_cases hki : k = i
            · have f1 : ((k : Int) != (i : Int)) = false := by simp [hki]
              clear cx0 cx1 cy0 cy1
              go_upto_region 13 with fail
              refine wp_region_calm (by kernel_rfl) (by kernel_rfl) (fun hne => ?_)
              repeat (go_big_quiet_step (fail))
              refine wpQuiet_nil ?_
              rintro _ ⟨q, rfl⟩
              have HQ := hidB (HR2.out.trans (q.bel.mono HR2.out.size))
              clear hcl hne a1 f1
              go_wp2
              go_roundg (m - (k + 1))
              case measure => omega
              case rel => exact ⟨k + 1, by omega, by omega, by go_num, HQ⟩
            · have f1 : ((k : Int) != (i : Int)) = true := by simp; omega
              obtain ⟨x1, xb⟩ := x
              obtain ⟨y1, yb⟩ := y
              simp only at cx0 cx1 cy0 cy1
              by_cases hyx : yb ≤ xb
              · have hv := none_in HC.out HX.out.1 HX.out.2 hki hyx
                have hcall := fun (q : Cls wr) => ciHas false (some ⟨b, o + k * 2, none⟩) (cc - k) [(y1, yb)] x1 q.val ((HM9.out.below HR2.out).below q.bel) (one_of ((HN9.out.below HR2.out).below q.bel) HX.out.2) (by simp)
                rw [hv] at hcall
                simp only [List.length_cons, List.length_nil, Nat.zero_add] at hcall
                have hkc1 : k < cc := by omega
                have hkc2 : ¬ (cc = k) := by omega
                have hkc3 : ¬ ((cc : Int) = (k : Int)) := by omega
                have hkc4 : ((k : Int) + 1) ≤ (cc : Int) := by omega
                go_upto_region 13 with fail
                refine wp_region_calm (by kernel_rfl) (by kernel_rfl) (fun hne => ?_)
                repeat (go_big_quiet_step (first | (go_at_call 15; exact calm_of (hcall _))))
                refine wpQuiet_nil ?_
                rintro _ ⟨q, rfl⟩
                have HQ := hidB (HR2.out.trans (q.bel.mono HR2.out.size))
                clear hcl hne a1 f1 cx0 cx1 cy0 cy1 hcall hkc2 hkc3 hkc4
                go_wp2
                go_roundg (m - (k + 1))
                case measure => omega
                case rel => exact ⟨k + 1, by omega, by omega, by go_num, HQ⟩
              · go_upto_region 13 with fail
                refine wp_region_calm (by kernel_rfl) (by kernel_rfl) (fun hne => ?_)
                repeat (go_big_quiet_step (fail))
                refine wpQuiet_nil ?_
                rintro _ ⟨q, rfl⟩
                have HQ := hidB (HR2.out.trans (q.bel.mono HR2.out.size))
                clear hcl hne a1 f1 cx0 cx1 cy0 cy1
                go_wp2
                go_roundg (m - (k + 1))
                case measure => omega
                case rel => exact ⟨k + 1, by omega, by omega, by go_num, HQ⟩
        · have hlkz : ¬ (k : Int) < (m : Int) := by omega
          have HR3 := HR2
          clear HR HR2
          go_wp2
          go_roundg (m - (i + 1))
          case measure => omega
          case rel => exact ⟨i + 1, by omega, by omega, by go_num, HR3⟩
    · have hlz : ¬ (i : Int) < (m : Int) := by omega
      obtain ⟨wo, hwo⟩ : ∃ wo, wo = wr := ⟨_, rfl⟩
      subst hwo
      go_wp2
      go_loopg [9] 20 (fun g s9 wr => ∃ i : Nat, i ≤ 20 ∧ 20 - i ≤ g ∧ s9 = .int .i64 (i : Int) ∧ Hid (Below w9.heap.size w9 wr))
      case atStart => exact ⟨0, Nat.zero_le _, by omega, rfl, HR⟩
      case round =>
        clear HR a1 hg him hlz
        obtain ⟨i, him, hg, rfl, HR⟩ := hrel
        have zw9 : w.heap.size < w9.heap.size := Nat.lt_trans zz z9
        by_cases hil : i < len
        · have hilz : (i : Int) < (len : Int) := by omega
          by_cases hi20 : i < 20
          · have hi20z : (i : Int) < 20 := by omega
            have b0 := (HR.out.cell (p := ⟨w.heap.size, 0, none⟩) zw9).trans g0
            have b1 := (HR.out.cell (p := ⟨w.heap.size, 1, none⟩) zw9).trans g1
            have a0 := (HR.out.cell (p := ⟨B5, 0, none⟩) z9).trans e0
            have a1 := (HR.out.cell (p := ⟨B5, 1, none⟩) z9).trans e1
            obtain ⟨ad, u, rfl, hu⟩ := HRow.out i hil
            have hadl := ciLt hu
            have hBw := HB9.out.trans (HR.out.mono HB9.out.size)
            have hla : ∀ q : Cls wr, q.val.cell? (ad.add i) = some (.int .u32 (u.toNat : Int)) := fun q => ((hBw.trans (q.bel.mono hBw.size)).cell hadl).trans hu
            have hz5 : B5 < wr.heap.size := Nat.lt_of_lt_of_le z9 HR.out.size
            have hzw : w.heap.size < wr.heap.size := Nat.lt_of_lt_of_le zw9 HR.out.size
            have hcl := Cls.cell (w := wr)
            have hA := fun (q : Cls wr) => HH.out u q.val ((HM9.out.below HR.out).below q.bel) ((HNL.out.below HR.out).below q.bel)
            have hB := fun (q : Cls wr) => HHR.out u pc cc q.val ((HM9.out.below HR.out).below q.bel) ((HN9.out.below HR.out).below q.bel)
            have hC := fun (q : Cls wr) => HHT.out u q.val ((HM9.out.below HR.out).below q.bel) ((HNL.out.below HR.out).below q.bel)
            have ht := turned_hasL HC.out no u
            rw [clean_hasL HC.out no u] at hB
            generalize hasL no L u = X at hA hB ht
            generalize hasL (!no) L u = Z at hC ht
            have hXX : (X != X) = false := by simp
            clear hu hadl hBw
            go_upto_region 18 with fail
            refine wp_region_calm (by kernel_rfl) (by kernel_rfl) (fun hne => ?_)
            iterate 6 (go_big_quiet_step (first | (go_at_call 15; exact calm_of (hA _))))
            iterate 6 (go_big_quiet_step (first | (go_at_call 15; exact calm_of (hB _))))
            iterate 13 (go_big_quiet_step (first | (go_at_call 15; exact calm_of (hC _))))
            repeat (go_big_quiet_step (first | (go_at_call 15; exact calm_of (hA _))))
            refine wpQuiet_nil ?_
            rintro _ ⟨q, rfl⟩
            have HQ := hidB (HR.out.trans (q.bel.mono HR.out.size))
            clear hcl hne a0 a1 b0 b1 hA hB hC hla
            go_wp2
            go_roundg (20 - (i + 1))
            case measure => omega
            case rel => exact ⟨i + 1, by omega, by omega, by go_num, HQ⟩
          · have hi20z : ¬ (i : Int) < 20 := by omega
            have hwo : True := trivial
            obtain ⟨wo, hwo⟩ : ∃ wo, wo = wr := ⟨_, rfl⟩
            subst hwo
            go_wp2
            go_loopg [10] n (fun g s10 wr => ∃ j : Nat, j ≤ n ∧ n - j ≤ g ∧ s10 = .int .i64 (j : Int) ∧ Hid (Below w9.heap.size w9 wr))
            case atStart => exact ⟨0, Nat.zero_le _, by omega, rfl, HR⟩
            case round =>
              obtain ⟨j, hjn, hg4, rfl, HR4⟩ := hrel
              have b0 := (HR4.out.cell (p := ⟨w.heap.size, 0, none⟩) zw9).trans g0
              have b1 := (HR4.out.cell (p := ⟨w.heap.size, 1, none⟩) zw9).trans g1
              have a0 := (HR4.out.cell (p := ⟨B5, 0, none⟩) z9).trans e0
              have a1 := (HR4.out.cell (p := ⟨B5, 1, none⟩) z9).trans e1
              by_cases hlj : j < n
              · have hljz : (j : Int) < (n : Int) := by omega
                obtain ⟨x, hx⟩ : ∃ x, L[j]? = some x := ⟨_, List.getElem?_eq_getElem (by rw [HLn.out]; exact hlj)⟩
                obtain ⟨hnc, hNw2⟩ := HNL.out.below HR4.out
                rcases hNw2 with h3 | ⟨b, o, rfl, hbl, hcs⟩
                · rw [h3] at hx; cases hx
                · obtain ⟨cx0, cx1⟩ := hcs j x hx
                  have hz5 : B5 < wr.heap.size := Nat.lt_of_lt_of_le z9 HR4.out.size
                  have hzw : w.heap.size < wr.heap.size := Nat.lt_of_lt_of_le zw9 HR4.out.size
                  have hcl := Cls.cell (w := wr)
                  have hcall := fun (q : Cls wr) => HHR.out x.1 pc cc q.val ((HM9.out.below HR4.out).below q.bel) ((HN9.out.below HR4.out).below q.bel)
                  rw [own_hasL HC.out no (List.mem_of_getElem? hx)] at hcall
                  have hnb : ((!no) == no) = false := by cases no <;> rfl
                  clear hx hcs
                  obtain ⟨x1, xb⟩ := x
                  simp only at cx0 cx1 hcall
                  go_upto_region 23 with fail
                  refine wp_region_calm (by kernel_rfl) (by kernel_rfl) (fun hne => ?_)
                  repeat (go_big_quiet_step (first | (go_at_call 15; exact calm_of (hcall _))))
                  refine wpQuiet_nil ?_
                  rintro _ ⟨q, rfl⟩
                  have HQ := hidB (HR4.out.trans (q.bel.mono HR4.out.size))
                  clear hcl hne a0 a1 b0 b1 cx0 cx1 hcall
                  go_wp2
                  go_roundg (n - (j + 1))
                  case measure => omega
                  case rel => exact ⟨j + 1, by omega, by omega, by go_num, HQ⟩
              · have hljz : ¬ (j : Int) < (n : Int) := by omega
                have hA := ciAwake wr (HM9.out.below HR4.out) (HT9.out.below HR4.out)
                have HR5 := HR4
                clear HR4 a0 a1 b0
                go_wp2_with (fail)
                refine hA.mono ?_
                rintro e w11 ⟨rfl, hb11⟩
                have H11 := hidB (HB9.out.trans ((HR5.out.trans (hb11.mono HR5.out.size)).mono HB9.out.size))
                clear hb11 hA b1
                go_wp2_with (fail)
                go_ret
                exact ⟨rfl, H11.out⟩
        · have hilz : ¬ (i : Int) < (len : Int) := by omega
          obtain ⟨wo, hwo⟩ : ∃ wo, wo = wr := ⟨_, rfl⟩
          subst hwo
          go_wp2
          go_loopg [10] n (fun g s10 wr => ∃ j : Nat, j ≤ n ∧ n - j ≤ g ∧ s10 = .int .i64 (j : Int) ∧ Hid (Below w9.heap.size w9 wr))
          case atStart => exact ⟨0, Nat.zero_le _, by omega, rfl, HR⟩
          case round =>
            obtain ⟨j, hjn, hg4, rfl, HR4⟩ := hrel
            have b0 := (HR4.out.cell (p := ⟨w.heap.size, 0, none⟩) zw9).trans g0
            have b1 := (HR4.out.cell (p := ⟨w.heap.size, 1, none⟩) zw9).trans g1
            have a0 := (HR4.out.cell (p := ⟨B5, 0, none⟩) z9).trans e0
            have a1 := (HR4.out.cell (p := ⟨B5, 1, none⟩) z9).trans e1
            by_cases hlj : j < n
            · have hljz : (j : Int) < (n : Int) := by omega
              obtain ⟨x, hx⟩ : ∃ x, L[j]? = some x := ⟨_, List.getElem?_eq_getElem (by rw [HLn.out]; exact hlj)⟩
              obtain ⟨hnc, hNw2⟩ := HNL.out.below HR4.out
              rcases hNw2 with h3 | ⟨b, o, rfl, hbl, hcs⟩
              · rw [h3] at hx; cases hx
              · obtain ⟨cx0, cx1⟩ := hcs j x hx
                have hz5 : B5 < wr.heap.size := Nat.lt_of_lt_of_le z9 HR4.out.size
                have hzw : w.heap.size < wr.heap.size := Nat.lt_of_lt_of_le zw9 HR4.out.size
                have hcl := Cls.cell (w := wr)
                have hcall := fun (q : Cls wr) => HHR.out x.1 pc cc q.val ((HM9.out.below HR4.out).below q.bel) ((HN9.out.below HR4.out).below q.bel)
                rw [own_hasL HC.out no (List.mem_of_getElem? hx)] at hcall
                have hnb : ((!no) == no) = false := by cases no <;> rfl
                clear hx hcs
                obtain ⟨x1, xb⟩ := x
                simp only at cx0 cx1 hcall
                go_upto_region 23 with fail
                refine wp_region_calm (by kernel_rfl) (by kernel_rfl) (fun hne => ?_)
                repeat (go_big_quiet_step (first | (go_at_call 15; exact calm_of (hcall _))))
                refine wpQuiet_nil ?_
                rintro _ ⟨q, rfl⟩
                have HQ := hidB (HR4.out.trans (q.bel.mono HR4.out.size))
                clear hcl hne a0 a1 b0 b1 cx0 cx1 hcall
                go_wp2
                go_roundg (n - (j + 1))
                case measure => omega
                case rel => exact ⟨j + 1, by omega, by omega, by go_num, HQ⟩
            · have hljz : ¬ (j : Int) < (n : Int) := by omega
              have hA := ciAwake wr (HM9.out.below HR4.out) (HT9.out.below HR4.out)
              have HR5 := HR4
              clear HR4 a0 a1 b0
              go_wp2_with (fail)
              refine hA.mono ?_
              rintro e w11 ⟨rfl, hb11⟩
              have H11 := hidB (HB9.out.trans ((HR5.out.trans (hb11.mono HR5.out.size)).mono HB9.out.size))
              clear hb11 hA b1
              go_wp2_with (fail)
              go_ret
              exact ⟨rfl, H11.out⟩
set_option maxHeartbeats 4000000 in
theorem walk (no : Bool) (p : Option Addr) (c : Nat) (L : List Nt) (a : Option Addr) (len cap : Nat) (zs : List Int) (w : World) (hM : Mks w) (hT : Tb w) (h : Nets w p c L) (hm : L.length ≤ maxLen) (r : IsRow .u32 w a len cap zs) :
    Calls Tryd.prog 4 #[.agg (setC no p L.length c), .slice a len cap] w fun e w' => e = .returned (.bool true) ∧ Below w.heap.size w w' := by
  have hb0 := below_more (Below.refl w.heap.size w) (Nat.le_refl _) (.cells (setC no p L.length c) 24)
  have h0 := h.below hb0
  have HM := hidB (hM.below hb0)
  have HT := hidB (hT.below hb0)
  have HB0 := hidB hb0
  have hs : setC no p L.length c = #[.bool no, .slice p L.length c] := rfl
  by_cases h20 : 20 < L.length
  · have h20' : (20 : Int) < (L.length : Int) := by omega
    have hA := ciAwake _ HM.out HT.out
    generalize L.length = n at *
    clear h hm r hb0 h0 hM hT
    go_enter Tryd.func4, Tryd.ntmps4
    go_wp2_with (fail)
    refine hA.mono ?_
    rintro e w2 ⟨rfl, hb2⟩
    have H2 := hidB (HB0.out.trans (hb2.mono HB0.out.size))
    clear hb2 hA
    go_wp2_with (fail)
    go_ret
    exact ⟨rfl, H2.out⟩
  · have h20n : ¬ (20 : Int) < (L.length : Int) := by omega
    have hck := ciCheck no p c L _ h0 (by omega)
    by_cases hc : checkL L = true
    · exact walkC no p c L a len cap zs w hM hT h hc r
    · have hc : checkL L = false := by simpa using hc
      have hh := fun (W : World) (hM : Mks W) (hN : Nets W p c L) => ciHas no p c L 0 W hM hN (by omega)
      rw [hc] at hck
      rw [show hasL no L 0 = false by simp [hasL, hc]] at hh
      rw [show (((0 : UInt32).toNat : Nat) : Int) = 0 from rfl] at hh
      have H0 := hidB h0
      generalize hn : L.length = n at *
      have z0 : w.heap.size < (w.alloc (.cells (setC no p n c) 24)).heap.size := by simp
      clear h hm r hb0 h0 hM hT hn h20
      go_enter Tryd.func4, Tryd.ntmps4
      go_wp2_with (fail)
      refine hck.mono ?_
      rintro e w2 ⟨rfl, hb2⟩
      obtain ⟨d0, d1⟩ := set_in hb2
      have hh := hh w2 (HM.out.below hb2) (H0.out.below hb2)
      have H2 := hidB hb2
      clear hb2 hck
      go_wp2_with (fail)
      refine hh.mono ?_
      rintro e w3 ⟨rfl, hb3⟩
      have H3 := hidB (H2.out.trans (hb3.mono H2.out.size))
      have hA := ciAwake w3 (HM.out.below H3.out) (HT.out.below H3.out)
      clear hb3 hh d0 d1
      go_wp2_with (fail)
      refine hA.mono ?_
      rintro e w4 ⟨rfl, hb4⟩
      have H4 := hidB (HB0.out.trans ((H3.out.trans (hb4.mono H3.out.size)).mono HB0.out.size))
      clear hb4 hA
      go_wp2_with (fail)
      go_ret
      exact ⟨rfl, H4.out⟩
/-! ### THE ROW's STEP: variables laid, a tied card -/
set_option maxRecDepth 100000 in
theorem lifted (os : Os) (started : os.Started) (H : Type) (enc : TypeId × Value → H) :
    ReturnsInHanded {} Tryd.checked os 4 .any (fun w args => (Rows.cidrCleanSpec.pre enc Tryd.prog Tryd.f4 Rows.cidrCleanRow.domain false w args ∧ laidMetH Tryd.prog Rows.cidrCleanRow.laid w) ∧ sizedMet enc Tryd.prog Tryd.f4 (OpenSpec.ofChange Rows.cidrCleanSpec) false w args)
      (Rows.cidrCleanSpec.post enc Tryd.prog Tryd.f4 false true false false) := by
  refine returnsInHanded_of_change_and (C := Tryd.checked) (X := fun w _ => laidMetH Tryd.prog Rows.cidrCleanRow.laid w) (fun _ _ _ hh h => h.of_heap hh) own started (by kernel_rfl) Tryd.func4
    (ChangeSpec.witness_shaped (enc := enc) (C := Tryd.checked) (os := os) (X := fun w _ => laidMetH Tryd.prog Rows.cidrCleanRow.laid w) false (World.laidAll Tryd.prog os Rows.cidrCleanRow.laid) #[.agg #[.bool false, .slice none 0 0], .slice none 0 0] 8 (World.laidAll_os _ _ _)
      (World.shaped_of_ZipB (by kernel_rfl) (by kernel_rfl)) (by kernel_rfl) (by kernel_rfl) (by kernel_rfl)
      (by rw [MakeChecks.laidMetH_plain _ _ _ (by kernel_rfl)]; exact laidMet_laidAll _ (by kernel_rfl) (by kernel_rfl))) ?_
  intro W base args ds gs before hval0 hW _ _ hL _
  have hval : ∀ (j : Nat) t v, Tryd.f4.params[j]? = some t → args[j]? = some v → Value.okWide Tryd.prog W .any base t v := hval0
  have hW' := hW
  obtain ⟨p, q, hA0, hV, rfl, hfz, hnd⟩ := hW
  have hA : DataW.TrodAll enc Tryd.prog W 0 (fun _ => true) true Tryd.f4.params.toList args.toList ds p := hA0
  have hB := fun (W' : World) (bel : Below W.heap.size W W') => below_trodAll_of laidOut bel _ (by kernel_rfl) hA
  rw [Tryd.params4] at hA hval
  obtain ⟨v0, vs0, d0, ds0, p0, q0, hargs, rfl, rfl, h0, r0⟩ := trodAll_cons hA
  obtain ⟨v1, vs1, d1, ds1, p1, q1, rfl, rfl, rfl, h1, r1⟩ := trodAll_cons r0
  obtain ⟨rfl, rfl, rfl⟩ := trodAll_nil r1
  obtain rfl : args = #[v0, v1] := by cases args; simp_all
  obtain ⟨rfl, rfl⟩ := trodVars_none hV
  obtain ⟨no0, pa0, ca0, L0, rfl, wn0, wl0⟩ := open_set (hval 0 24 v0 rfl rfl) h0
  obtain ⟨a1, len1, cap1, rfl⟩ := okWide_slice Tryd.underlying33 (hval 1 33 v1 rfl rfl)
  obtain ⟨z1, w1⟩ : ∃ zs, IsRow .u32 W a1 len1 cap1 zs := by
    obtain ⟨fuel, hf⟩ := h1
    rcases open_ints Tryd.underlying33 Tryd.underlying25 (by kernel_rfl) hf with ⟨hcs, _⟩ | ⟨x, l, c, zs, hcs, _, hl, hm, hz, _, hcell, hwz⟩
    · simp [Value.cells] at hcs
      obtain ⟨rfl, rfl, rfl⟩ := hcs
      exact ⟨[], .inl ⟨rfl, rfl, rfl, rfl⟩⟩
    · simp [Value.cells] at hcs
      obtain ⟨rfl, rfl, rfl⟩ := hcs
      exact ⟨zs, .inr ⟨_, rfl, hl, hm, by simpa using hz, hcell, hwz⟩⟩
  clear hA0 hval0
  refine (walk no0 pa0 ca0 L0 a1 len1 cap1 z1 W (mks_of hL) (tab_pow hL) wn0 wl0 w1).mono fun e W' ⟨he, bel⟩ => ?_
  subst he
  exact ⟨_, rfl, _, _, _, [], _, [], hW', trodAll_mk1 (shut_bool Tryd.underlying4 _), hB W' bel, rfl, bel.frame _, fun h => by cases h⟩

theorem over : Rows.CidrCleanSaid :=
  OpenClaim.holds_of_wide 4 Tryd.f4 rfl rfl rfl rfl rfl rfl rfl ⟨rfl, rfl, rfl, rfl, rfl⟩ rfl rfl rfl rfl rfl (by kernel_rfl) Tryd.func4 (by kernel_rfl)
    (of_decide_eq_true (by kernel_rfl)) (by unfold Func.isWrapper; first | (rw [if_pos (by decide +kernel)]; kernel_rfl) | (rw [if_neg (by decide +kernel)]; exact ⟨rfl, rfl⟩))
    (fun os started H enc _ => lifted os started H enc)

/-- THE STATEMENT: the card -/
theorem proved : Rows.CidrCleanCardSaid :=
  Claim7.holds_tied_plain_at .later [] [.data, .data, .data, .data] true (true, "5e3d923d2ccd30a7cb2f00fb2e251b9ea31824a73c9dcfd24af9987084c360a6") false over (fun _ h => by cases h) (by kernel_rfl) (fun _ h => by cases h) cidrClean_row_tie rfl ⟨rfl, rfl⟩ (by kernel_rfl) rfl
    (fun f fn hf hfn => by
      obtain rfl : f = 4 := Option.some.inj ((show Tryd.prog.funcNamed "rampart/rampartlaw09.CidrClean" = some 4 by kernel_rfl).symm.trans hf) |>.symm
      obtain rfl : fn = Tryd.f4 := (Option.some.inj (Tryd.func4.symm.trans hfn)).symm
      exact ⟨by kernel_rfl, fun j t ht => by
        rw [Tryd.params4] at ht
        have hm : t ∈ [24, 33] := by simpa using Array.mem_of_getElem? ht
        have hall : ([24, 33].all fun u => !Tryd.prog.wantsStandIn u) = true := by kernel_rfl
        exact (show Tryd.prog.wantsStandIn t = false by simpa using List.all_eq_true.1 hall t hm)⟩)
    (by kernel_rfl)
#print axioms proved
end Go.Proofs.YtcnglfjnfllppaaDoor.cidrClean
