/- Layer 9's own answer: clean. -/
import Derived.Test.YthhgkiihegmedaaDoorCiMid
import Derived.Test.YthhgkiihegmedaaDoorRefCi4
import Derived.Test.YthhgkiihegmedaaDoorSpine2
import Derived.Test.YthhgkiihegmedaaDoorCiThy2
import Derived.Deep.CutRange
import Derived.Deep.DeepCutAuto
import Derived.Deep.LoopGhost
namespace Go.Proofs.YthhgkiihegmedaaDoor
open Go.RowKit
set_option linter.unusedVariables false
set_option maxRecDepth 20000
/-- whether one of the first so many says that a net goes -/
def goesL (L : List Nt) (i : Nat) (n : Nt) (k : Nat) : Bool := (List.range k).any fun j => (j != i) && within n (L.getD j default) && (!(within (L.getD j default) n && within n (L.getD j default)) || decide (j < i))
theorem goesL_step (L : List Nt) (i : Nat) (n : Nt) (k : Nat) (y : Nt) (hy : L[k]? = some y) : goesL L i n (k + 1) = (goesL L i n k || ((k != i) && within n y && (!(within y n && within n y) || decide (k < i)))) := by
  unfold goesL
  rw [List.range_succ, List.any_append]
  have : L.getD k default = y := by rw [List.getD_eq_getElem?_getD, hy]; rfl
  simp only [List.any_cons, List.any_nil, Bool.or_false, this]
theorem goesL_all (L : List Nt) (i : Nat) (n : Nt) (hn : L[i]? = some n) : goesL L i n L.length = needless L i n := by
  rw [Bool.eq_iff_iff, needless_iff]
  unfold goesL
  rw [List.any_eq_true]
  have hg : ∀ j y, L[j]? = some y → L.getD j default = y := fun j y h => by rw [List.getD_eq_getElem?_getD, h]; rfl
  constructor
  · rintro ⟨j, hj, h⟩
    have hj' : j < L.length := List.mem_range.1 hj
    obtain ⟨y, hy⟩ : ∃ y, L[j]? = some y := ⟨_, List.getElem?_eq_getElem hj'⟩
    rw [hg j y hy] at h
    simp only [Bool.and_eq_true, Bool.or_eq_true, bne_iff_ne, ne_eq, decide_eq_true_eq, Bool.not_eq_true', Bool.and_eq_false_iff] at h
    obtain ⟨⟨h1, h2⟩, h3⟩ := h
    by_cases hlt : j < i
    · exact .inl ⟨j, y, hlt, hy, h2⟩
    · refine .inr ⟨j, y, by omega, hy, h2, ?_⟩
      rcases h3 with (h3 | h3) | h3
      · exact h3
      · rw [h2] at h3; cases h3
      · exact absurd h3 hlt
  · rintro (⟨j, e, h1, h2, h3⟩ | ⟨j, l, h1, h2, h3, h4⟩)
    · refine ⟨j, List.mem_range.2 (List.getElem?_eq_some_iff.1 h2).1, ?_⟩
      rw [hg j e h2, h3]
      simp [show j ≠ i by omega, h1]
    · refine ⟨j, List.mem_range.2 (List.getElem?_eq_some_iff.1 h2).1, ?_⟩
      rw [hg j l h2, h3, h4]
      simp [show j ≠ i by omega]
theorem cleanUpto_len9 (L : List Nt) : ∀ k, (cleanUpto L k).length ≤ k
  | 0 => Nat.le_refl _
  | k + 1 => by
    have := cleanUpto_len9 L k
    unfold cleanUpto
    rw [List.length_append]
    split <;> simp <;> omega
theorem two_set5 {x : World} {B : Nat} {a b : Value} (h0 : x.cell? ⟨B, 0, none⟩ = some a) (h1 : x.cell? ⟨B, 1, none⟩ = some b) (u v : Value) :
    (x.setCell ⟨B, 0, none⟩ u).cell? ⟨B, 0, none⟩ = some u ∧ ((x.setCell ⟨B, 0, none⟩ u).setCell ⟨B, 1, none⟩ v).cell? ⟨B, 1, none⟩ = some v := by
  refine ⟨World.cell?_setCell_same' x ⟨B, 0, none⟩ u (by rw [h0]; rfl), World.cell?_setCell_same' _ ⟨B, 1, none⟩ v ?_⟩
  rw [World.cell?_setCell_other (w := x) (a := ⟨B, 0, none⟩) (b := ⟨B, 1, none⟩) (v := u) (by simp), h1]
  rfl
set_option maxHeartbeats 2000000 in
theorem rcClean (no : Bool) (p : Option Addr) (c : Nat) (L : List Nt) (w : World) (h : Nets w p c L) (h20 : L.length ≤ 20) :
    Calls Tryd.prog 10 #[.agg (setC no p L.length c)] w fun e w' => ∃ p' c', e = .returned (.agg (setC (checkL L && no) p' (cleanL L).length c')) ∧ Nets w' p' c' (cleanL L) ∧ Below w.heap.size w w' := by
  have hb := ((Below.refl w.heap.size w).alloc (Nat.le_refl _) (.cells (setC no p L.length c) 24)).alloc (by simp) (.cells #[.bool false, .slice none 0 0] 24)
  have hck := rcCheck no p c L _ (h.below hb) h20
  by_cases hc : checkL L = true
  · rw [hc] at hck ⊢
    have HCL := hidB (show cleanL L = cleanUpto L L.length by unfold cleanL; rw [if_pos hc])
    have h4 := checkL_len hc
    obtain ⟨M, rfl⟩ := vn_of (checkL_ok hc)
    have HL := (show (M.map Vn.nt).length = M.length by rw [List.length_map])
    rw [HL] at hck hb h20 h4 HCL ⊢
    obtain ⟨n, hn⟩ : ∃ n : Nat, n = M.length := ⟨_, rfl⟩
    rw [← hn] at hck hb h20 h4 HCL ⊢
    have HH := hidB h
    have HB := hidB hb
    have HLn := hidB hn
    clear h hb hc HL hn
    go_enter Tryd.func10, Tryd.ntmps10
    go_wp2_with (fail)
    refine hck.mono ?_
    rintro e w2 ⟨rfl, hb2⟩
    have HB2 := hidB (HB.out.trans (hb2.mono HB.out.size))
    have hz : w.heap.size + 1 < w2.heap.size := Nat.lt_of_lt_of_le (by simp) hb2.size
    have z0 : w.heap.size < ((w.alloc (.cells (setC no p n c) 24)).alloc (.cells #[.bool false, .slice none 0 0] 24)).heap.size := by simp; omega
    have z1 : w.heap.size + 1 < ((w.alloc (.cells (setC no p n c) 24)).alloc (.cells #[.bool false, .slice none 0 0] 24)).heap.size := by simp
    have d0 : w2.cell? ⟨w.heap.size, 0, none⟩ = some (.bool no) := (hb2.cell (p := ⟨w.heap.size, 0, none⟩) z0).trans (by simp)
    have d1 : w2.cell? ⟨w.heap.size, 1, none⟩ = some (.slice p n c) := (hb2.cell (p := ⟨w.heap.size, 1, none⟩) z0).trans (by simp)
    have d2 : w2.cell? ⟨w.heap.size + 1, 0, none⟩ = some (.bool false) := (hb2.cell (p := ⟨w.heap.size + 1, 0, none⟩) z1).trans (by simp)
    have d3 : w2.cell? ⟨w.heap.size + 1, 1, none⟩ = some (.slice none 0 0) := (hb2.cell (p := ⟨w.heap.size + 1, 1, none⟩) z1).trans (by simp)
    have d4 : ∀ o, w2.frozen? ⟨w.heap.size + 1, o, none⟩ = false := fun o => (hb2.frozen (p := ⟨w.heap.size + 1, o, none⟩) z1).trans (by simp)
    have HMid := hidB (show Mid w (w2.alloc (.cells #[.bool no, .slice none 0 0] 24)) w.heap.size (w.heap.size + 1) w2.heap.size (w2.heap.size + 1) no (.slice p n c) (.slice none 0 0) from by
      have q := below_more (Below.refl w2.heap.size w2) (Nat.le_refl _) (.cells #[.bool no, .slice none 0 0] 24)
      refine ⟨below_more HB2.out (Nat.le_refl _) _, Nat.le_refl _, by omega, by omega, by omega, by simp, (q.cell (p := ⟨w.heap.size, 0, none⟩) (by simp; omega)).trans d0, (q.cell (p := ⟨w.heap.size, 1, none⟩) (by simp; omega)).trans d1, (q.cell (p := ⟨w.heap.size + 1, 0, none⟩) (by simp; omega)).trans d2, (q.cell (p := ⟨w.heap.size + 1, 1, none⟩) (by simp; omega)).trans d3, by simp, by simp, fun o => (q.frozen (p := ⟨w.heap.size + 1, o, none⟩) (by simp; omega)).trans (d4 o), by simp⟩)
    clear hck hb2 z0 z1 d2 d3 d4 HB
    have e11 := HMid.out.c11
    have hrow0 : Hid ((w2.alloc (.cells #[.bool no, .slice none 0 0] 24)).ownsRow (w2.heap.size + 1) 34 2 (.slice none 0 0) 0 []) := World.ownsRow_nil _ _ _ _
    go_wp2
    generalize w2.heap.size + 1 = base at HMid hrow0
    generalize w2.alloc (.cells #[.bool no, .slice none 0 0] 24) = w3 at HMid hrow0 ⊢
    have hB12 := HMid.out.l12
    have hB23 := HMid.out.l23
    have hB3 := HMid.out.l3
    generalize hB3e : w2.heap.size = B3 at HMid hB23 hB3 ⊢
    clear HB2 hz d0 d1 e11 hB3e
    go_loopg [4] n (fun g s4 wr => ∃ (i : Nat) (v : Value), i ≤ n ∧ n - i ≤ g ∧ s4 = .int .i64 (i : Int) ∧ Hid (Mid w wr w.heap.size (w.heap.size + 1) B3 base no (.slice p n c) v) ∧ Hid (wr.ownsRow base 34 2 v (cleanUpto (M.map Vn.nt) i).length ((cleanUpto (M.map Vn.nt) i).flatMap ntC)))
    case atStart => exact ⟨0, _, Nat.zero_le _, by omega, rfl, HMid, hrow0⟩
    case round =>
      obtain ⟨i, v, hin, hg, rfl, HMd, HR⟩ := hrel
      have a1 := HMd.out.c11
      by_cases hlt : i < n
      · have hlz : (i : Int) < (n : Int) := by omega
        obtain ⟨x, hx⟩ : ∃ x, M[i]? = some x := ⟨_, List.getElem?_eq_getElem (by rw [← HLn.out]; exact hlt)⟩
        have HX := hidB hx
        obtain ⟨wo, hwo⟩ : ∃ wo, wo = wr := ⟨_, rfl⟩
        subst hwo
        clear hx
        go_wp2
        go_loopg [5, 6] n (fun g s5 s6 wr => ∃ k : Nat, k ≤ n ∧ n - k ≤ g ∧ s6 = .int .i64 (k : Int) ∧ s5 = .bool (goesL (M.map Vn.nt) i x.nt k) ∧ Hid (Below wo.heap.size wo wr))
        case atStart => exact ⟨0, Nat.zero_le _, by omega, rfl, rfl, Below.refl _ _⟩
        case round =>
          obtain ⟨k, hkn, hg2, rfl, rfl, HW⟩ := hrel
          clear a1
          have a1 := (HMd.out.below HW.out).c11
          by_cases hlk : k < n
          · have hlkz : (k : Int) < (n : Int) := by omega
            obtain ⟨y, hy⟩ : ∃ y, M[k]? = some y := ⟨_, List.getElem?_eq_getElem (by rw [← HLn.out]; exact hlk)⟩
            have hN := HH.out.below (HMd.out.below HW.out).bel
            have hcp : n ≤ c := by have := hN.1; rw [List.length_map, ← HLn.out] at this; exact this
            rcases hN.2 with h3 | ⟨b, o, rfl, hbl, hcs⟩
            · have := vn_at hy; rw [h3] at this; cases this
            · obtain ⟨x0, x1⟩ := hcs i x.nt (vn_at HX.out)
              obtain ⟨y0, y1⟩ := hcs k y.nt (vn_at hy)
              have hstep := goesL_step (M.map Vn.nt) i x.nt k y.nt (vn_at hy)
              have hP := fun (q : Cls wr) => rcCovers x y q.val
              have hQ := fun (q : Cls wr) => rcCovers y x q.val
              have hQ2 := fun (W : World) => rcCovers y x W
              have HST := hidB hstep
              generalize within y.nt x.nt = P at hP HST
              generalize within x.nt y.nt = Q at hQ hQ2 HST
              generalize goesL (M.map Vn.nt) i x.nt k = G at HST ⊢
              simp only [ntC] at hP hQ hQ2
              have hcl := Cls.cell (w := wr)
              have z1 : w.heap.size < wr.heap.size := by have := (HMd.out.below HW.out).l12; have := (HMd.out.below HW.out).l23; have := (HMd.out.below HW.out).l3; have := (HMd.out.below HW.out).lb; omega
              clear hstep hy hN hcs
              go_upto_region 11 with fail
              go_cut [7] from 22 to 80 (fun s7 wx => s7 = .bool (P && Q) ∧ Hid (Below wr.heap.size wr wx))
              case first =>
                cases P with
                | false =>
                  refine wp_region_calm (by kernel_rfl) (by kernel_rfl) (fun hne => ?_)
                  iterate 11 (go_big_quiet_step (first | (go_at_call 20; exact calm_of (hP _))))
                  repeat (go_big_quiet_step (first | (go_at_call 20; exact calm_of (hQ _))))
                  refine wpQuiet_nil ?_
                  rintro _ ⟨q, rfl⟩
                  have HQ := hidB q.bel
                  clear hne hcl a1 x0 x1 y0 y1 hP hQ
                  go_wp2
                  go_meet
                  exact ⟨rfl, HQ⟩
                | true =>
                  refine wp_region_calm (by kernel_rfl) (by kernel_rfl) (fun hne => ?_)
                  iterate 11 (go_big_quiet_step (first | (go_at_call 20; exact calm_of (hP _))))
                  repeat (go_big_quiet_step (first | (go_at_call 20; exact calm_of (hQ _))))
                  refine wpQuiet_nil ?_
                  rintro _ ⟨q, rfl⟩
                  have HQ := hidB q.bel
                  clear hne hcl a1 x0 x1 y0 y1 hP hQ
                  go_wp2
                  go_meet
                  exact ⟨rfl, HQ⟩
              case rest =>
                obtain ⟨rfl, HC⟩ := hcut
                have HQ := hidB (HW.out.trans (HC.out.mono HW.out.size))
                have b1 := (HC.out.cell (p := ⟨w.heap.size, 1, none⟩) z1).trans a1
                have u0 := (HC.out.cell (p := ⟨b, o + i * 2, none⟩) hbl).trans x0
                have u1 := (HC.out.cell (p := ⟨b, o + i * 2 + 1, none⟩) hbl).trans x1
                have v0 := (HC.out.cell (p := ⟨b, o + k * 2, none⟩) hbl).trans y0
                have v1 := (HC.out.cell (p := ⟨b, o + k * 2 + 1, none⟩) hbl).trans y1
                have z2 : w.heap.size < wc.heap.size := Nat.lt_of_lt_of_le z1 HC.out.size
                have hb2 : b < wc.heap.size := Nat.lt_of_lt_of_le hbl HC.out.size
                have hcl2 := Cls.cell (w := wc)
                clear hcl a1 x0 x1 y0 y1 hP hQ z1 HC
                cases G with
                | true =>
                  go_upto_region 12 with fail
                  refine wp_region_calm (by kernel_rfl) (by kernel_rfl) (fun hne => ?_)
                  repeat (go_big_quiet_step (first | (go_at_call 20; exact calm_of (hQ2 _))))
                  refine wpQuiet_nil ?_
                  rintro _ ⟨q2, rfl⟩
                  have HQ2 := hidB (HQ.out.trans (q2.bel.mono HQ.out.size))
                  clear hne hcl2 b1 u0 u1 v0 v1 hQ2
                  go_wp2
                  go_roundg (n - (k + 1))
                  case measure => omega
                  case rel => exact ⟨k + 1, by omega, by omega, by go_num, by rw [HST.out, Bool.true_or], HQ2⟩
                | false =>
                  by_cases hki : k = i
                  · have n1 : (k != i) = false := by simp; omega
                    have n2 : decide (k < i) = false := by simp; omega
                    have e1 : ((k : Int) != (i : Int)) = false := by simp; omega
                    go_upto_region 12 with fail
                    refine wp_region_calm (by kernel_rfl) (by kernel_rfl) (fun hne => ?_)
                    repeat (go_big_quiet_step (first | (go_at_call 20; exact calm_of (hQ2 _))))
                    refine wpQuiet_nil ?_
                    rintro _ ⟨q2, rfl⟩
                    have HQ2 := hidB (HQ.out.trans (q2.bel.mono HQ.out.size))
                    clear hne hcl2 b1 u0 u1 v0 v1 hQ2
                    go_wp2
                    go_roundg (n - (k + 1))
                    case measure => omega
                    case rel => exact ⟨k + 1, by omega, by omega, by go_num, by rw [HST.out, n1, n2]; rfl, HQ2⟩
                  · by_cases hlt2 : k < i
                    · have l1 : (k : Int) < (i : Int) := by omega
                      cases Q with
                      | false =>
                        have n1 : (k != i) = true := by simp; omega
                        have n2 : decide (k < i) = true := by simp; omega
                        have e1 : ((k : Int) != (i : Int)) = true := by simp; omega
                        go_upto_region 12 with fail
                        refine wp_region_calm (by kernel_rfl) (by kernel_rfl) (fun hne => ?_)
                        repeat (go_big_quiet_step (first | (go_at_call 20; exact calm_of (hQ2 _))))
                        refine wpQuiet_nil ?_
                        rintro _ ⟨q2, rfl⟩
                        have HQ2 := hidB (HQ.out.trans (q2.bel.mono HQ.out.size))
                        clear hne hcl2 b1 u0 u1 v0 v1 hQ2
                        go_wp2
                        go_roundg (n - (k + 1))
                        case measure => omega
                        case rel => exact ⟨k + 1, by omega, by omega, by go_num, by rw [HST.out, n1, n2]; rfl, HQ2⟩
                      | true =>
                        cases P with
                        | false =>
                          have n1 : (k != i) = true := by simp; omega
                          have n2 : decide (k < i) = true := by simp; omega
                          have e1 : ((k : Int) != (i : Int)) = true := by simp; omega
                          go_upto_region 12 with fail
                          refine wp_region_calm (by kernel_rfl) (by kernel_rfl) (fun hne => ?_)
                          repeat (go_big_quiet_step (first | (go_at_call 20; exact calm_of (hQ2 _))))
                          refine wpQuiet_nil ?_
                          rintro _ ⟨q2, rfl⟩
                          have HQ2 := hidB (HQ.out.trans (q2.bel.mono HQ.out.size))
                          clear hne hcl2 b1 u0 u1 v0 v1 hQ2
                          go_wp2
                          go_roundg (n - (k + 1))
                          case measure => omega
                          case rel => exact ⟨k + 1, by omega, by omega, by go_num, by rw [HST.out, n1, n2]; rfl, HQ2⟩
                        | true =>
                          have n1 : (k != i) = true := by simp; omega
                          have n2 : decide (k < i) = true := by simp; omega
                          have e1 : ((k : Int) != (i : Int)) = true := by simp; omega
                          go_upto_region 12 with fail
                          refine wp_region_calm (by kernel_rfl) (by kernel_rfl) (fun hne => ?_)
                          repeat (go_big_quiet_step (first | (go_at_call 20; exact calm_of (hQ2 _))))
                          refine wpQuiet_nil ?_
                          rintro _ ⟨q2, rfl⟩
                          have HQ2 := hidB (HQ.out.trans (q2.bel.mono HQ.out.size))
                          clear hne hcl2 b1 u0 u1 v0 v1 hQ2
                          go_wp2
                          go_roundg (n - (k + 1))
                          case measure => omega
                          case rel => exact ⟨k + 1, by omega, by omega, by go_num, by rw [HST.out, n1, n2]; rfl, HQ2⟩
                    · have l1 : ¬ (k : Int) < (i : Int) := by omega
                      cases Q with
                      | false =>
                        have n1 : (k != i) = true := by simp; omega
                        have n2 : decide (k < i) = false := by simp; omega
                        have e1 : ((k : Int) != (i : Int)) = true := by simp; omega
                        go_upto_region 12 with fail
                        refine wp_region_calm (by kernel_rfl) (by kernel_rfl) (fun hne => ?_)
                        repeat (go_big_quiet_step (first | (go_at_call 20; exact calm_of (hQ2 _))))
                        refine wpQuiet_nil ?_
                        rintro _ ⟨q2, rfl⟩
                        have HQ2 := hidB (HQ.out.trans (q2.bel.mono HQ.out.size))
                        clear hne hcl2 b1 u0 u1 v0 v1 hQ2
                        go_wp2
                        go_roundg (n - (k + 1))
                        case measure => omega
                        case rel => exact ⟨k + 1, by omega, by omega, by go_num, by rw [HST.out, n1, n2]; rfl, HQ2⟩
                      | true =>
                        cases P with
                        | false =>
                          have n1 : (k != i) = true := by simp; omega
                          have n2 : decide (k < i) = false := by simp; omega
                          have e1 : ((k : Int) != (i : Int)) = true := by simp; omega
                          go_upto_region 12 with fail
                          refine wp_region_calm (by kernel_rfl) (by kernel_rfl) (fun hne => ?_)
                          repeat (go_big_quiet_step (first | (go_at_call 20; exact calm_of (hQ2 _))))
                          refine wpQuiet_nil ?_
                          rintro _ ⟨q2, rfl⟩
                          have HQ2 := hidB (HQ.out.trans (q2.bel.mono HQ.out.size))
                          clear hne hcl2 b1 u0 u1 v0 v1 hQ2
                          go_wp2
                          go_roundg (n - (k + 1))
                          case measure => omega
                          case rel => exact ⟨k + 1, by omega, by omega, by go_num, by rw [HST.out, n1, n2]; rfl, HQ2⟩
                        | true =>
                          have n1 : (k != i) = true := by simp; omega
                          have n2 : decide (k < i) = false := by simp; omega
                          have e1 : ((k : Int) != (i : Int)) = true := by simp; omega
                          go_upto_region 12 with fail
                          refine wp_region_calm (by kernel_rfl) (by kernel_rfl) (fun hne => ?_)
                          repeat (go_big_quiet_step (first | (go_at_call 20; exact calm_of (hQ2 _))))
                          refine wpQuiet_nil ?_
                          rintro _ ⟨q2, rfl⟩
                          have HQ2 := hidB (HQ.out.trans (q2.bel.mono HQ.out.size))
                          clear hne hcl2 b1 u0 u1 v0 v1 hQ2
                          go_wp2
                          go_roundg (n - (k + 1))
                          case measure => omega
                          case rel => exact ⟨k + 1, by omega, by omega, by go_num, by rw [HST.out, n1, n2]; rfl, HQ2⟩
          · have hlkz : ¬ (k : Int) < (n : Int) := by omega
            have hkn' : k = n := by omega
            have hgl := goesL_all (M.map Vn.nt) i x.nt (vn_at HX.out)
            rw [List.length_map, ← HLn.out] at hgl
            rw [hkn', hgl]
            have hstep : cleanUpto (M.map Vn.nt) (i + 1) = cleanUpto (M.map Vn.nt) i ++ (if needless (M.map Vn.nt) i x.nt then [] else [cutN x.nt]) := by
              show cleanUpto (M.map Vn.nt) i ++ _ = _
              rw [show (M.map Vn.nt).getD i default = x.nt by rw [List.getD_eq_getElem?_getD, vn_at HX.out]; rfl]
            have HST := hidB hstep
            have mid4 := HMd.out.below HW.out
            have hr4 := ciRow_below HR.out HW.out
            have hown : ∀ q, v.ownBlock = some q → base ≤ q := fun q hq => (HR.out.lt q hq).1
            have h1 := HH.out.below mid4.bel
            obtain ⟨hcp, hN2⟩ := h1
            rw [List.length_map, ← HLn.out] at hcp
            rcases hN2 with h3 | ⟨b, o, rfl, hbl, hcs⟩
            · have := vn_at HX.out; rw [h3] at this; cases this
            · generalize needless (M.map Vn.nt) i x.nt = g at HST ⊢
              clear hgl hstep hcs
              cases g with
              | true =>
                have HS : Hid (∃ v', Mid w wr w.heap.size (w.heap.size + 1) B3 base no (.slice (some ⟨b, o, none⟩) n c) v' ∧ wr.ownsRow base 34 2 v' (cleanUpto (M.map Vn.nt) (i + 1)).length ((cleanUpto (M.map Vn.nt) (i + 1)).flatMap ntC)) := by
                  rw [HST.out, if_pos rfl, List.append_nil]
                  exact ⟨v, mid4, hr4⟩
                clear mid4 hr4 hown hbl
                go_wp2
                go_roundg (n - (i + 1))
                case measure => omega
                case rel =>
                  obtain ⟨v', h1, h2⟩ := HS.out
                  exact ⟨i + 1, v', by omega, by omega, by go_num, h1, h2⟩
              | false =>
                obtain ⟨x1, ⟨xk, hxk⟩⟩ := x
                obtain ⟨A, hA⟩ : ∃ A : Nat, A = (x1 &&& msk xk).toNat := ⟨_, rfl⟩
                have hand : bits .and .u32 (x1.toNat : Int) ((msk xk).toNat : Int) = (A : Int) := by rw [and_u32, hA]
                have HA := hidB hA
                have hmk := fun W => rcMask xk hxk W
                have HMid4 := hidB mid4
                have Hr4 := hidB hr4
                have Hown := hidB hown
                generalize (msk xk).toNat = mk at hand hmk
                clear mid4 hr4 hown hA hbl
                have HR4 := HMid4.out.grown (grown_of (Below.refl wr.heap.size wr).drew) (fun _ e => by cases e)
                have hB3x := HMid4.out.l3
                go_upto_region 14 with fail
                clear a1
                refine wp_region_spineM [true, true, true, true, true, true, true, true, true, true, true, true, true, true, true, true, true, true, true, true, true, true, true] [false, false, false, false, false, false, false, false, false, false, false, false, false, false, false, false, false, false, false, false, false, false, false, true, true] 25 (A := ?A) (fun y => Mid w y w.heap.size (w.heap.size + 1) B3 base no (.slice (some ⟨b, o, none⟩) n c) v) (by kernel_rfl) (by kernel_rfl) (by rfl) HR4 ?walk ?tail
                case walk =>
                  intro y hy
                  have c31 := hy.c31
                  have c11 := hy.c11
                  obtain ⟨hyb, y0, y1⟩ := (HH.out.below hy.bel).cell (vn_at HX.out)
                  simp only [Vn.nt] at y0 y1
                  clear hy
                  simp only [pickM]
                  repeat (go_big_quiet_step (first | exact hmk y _))
                  refine wpQuiet_nil ?_
                  rfl
                case tail =>
                  simp only [pickM]
                  obtain ⟨i0, hi, hz0, hz1, hz2⟩ := info_parts infoN
                  refine goD_slice rfl 22 (.tmp 105) rfl _ _ _ rfl (lit_net wr.drew (A : Int) (xk : Int)) ?_
                  obtain ⟨w5, hw5⟩ : ∃ w5, w5 = wr.drew.alloc (.cells #[.int .u32 (A : Int), .int .i64 (xk : Int)] 34) := ⟨_, rfl⟩
                  have hnw := alloc_news wr.drew [.int .u32 (A : Int), .int .i64 (xk : Int)] 34
                  rw [show ([Value.int .u32 (A : Int), .int .i64 (xk : Int)]).toArray = (#[.int .u32 (A : Int), .int .i64 (xk : Int)] : Array Value) from rfl, ← hw5] at hnw
                  have hb5 : Below wr.heap.size wr w5 := by rw [hw5]; exact (Below.refl _ _).drew.alloc (Nat.le_refl _) _
                  have ho5 := ciRow_below Hr4.out hb5
                  have d5 := HMid4.out.below hb5
                  rw [← hw5]
                  clear hw5
                  refine ⟨d5, ?_⟩
                  have hlen := cleanUpto_len9 (M.map Vn.nt) i
                  refine goD_append2 rfl (.tmp 84) (.tmp 106) 22 rfl base 34 i0 _ 2 16 Tryd.underlying22 hi hz0 hz1 hz2 rfl (by decide) v _ _ rfl ho5 ⟨wr.heap.size, 0, none⟩ 1 1 [.int .u32 (A : Int), .int .i64 (xk : Int)] rfl rfl hnw (by intro u hu; simp at hu; rcases hu with rfl | rfl <;> rfl) (by simp only [maxLen]; omega) (by omega) d5.lb ?_
                  intro v3 w6 ho6 hg6 hv6
                  have d6 := d5.grown hg6 Hown.out
                  refine ⟨d6, ?_⟩
                  have HS : Hid (∃ v', Mid w (w6.setCell ⟨B3, 1, none⟩ v3) w.heap.size (w.heap.size + 1) B3 base no (.slice (some ⟨b, o, none⟩) n c) v' ∧ (w6.setCell ⟨B3, 1, none⟩ v3).ownsRow base 34 2 v' (cleanUpto (M.map Vn.nt) (i + 1)).length ((cleanUpto (M.map Vn.nt) (i + 1)).flatMap ntC)) := by
                    refine ⟨v3, d6.set v3, ciRow_set ?_ hB3x _ _⟩
                    rw [HST.out, if_neg (by simp), List.length_append, List.flatMap_append]
                    have e9 : [cutN (Vn.nt (x1, ⟨xk, hxk⟩))].flatMap ntC = [.int .u32 (A : Int), .int .i64 (xk : Int)] := by
                      simp only [List.flatMap_cons, List.flatMap_nil, List.append_nil, ntC, cutN, Vn.nt]
                      rw [HA.out]
                      rfl
                    rw [e9]
                    exact ho6
                  have c31 := d6.c31
                  have f3 := d6.f3 1
                  obtain ⟨a3, c3', hv3⟩ := own_slice ho6
                  subst hv3
                  obtain ⟨a4, c4', hv4⟩ := own_slice Hr4.out
                  subst hv4
                  clear d6 hv6 hg6 ho6 d5 ho5 hb5 hnw hz0 hz1 hz2 hi hmk
                  unfold goD
                  simp only [List.drop_succ_cons, List.drop_zero, Act.put]
                  go_wp2_with fail
                  go_roundg (n - (i + 1))
                  case measure => omega
                  case rel =>
                    obtain ⟨v', h1, h2⟩ := HS.out
                    exact ⟨i + 1, v', by omega, by omega, by go_num, h1, h2⟩
      · have hlz : ¬ (i : Int) < (n : Int) := by omega
        have hkn' : i = n := by omega
        subst hkn'
        rw [← HCL.out] at HR
        have c20 := HMd.out.c20
        have c21 := HMd.out.c21
        have c30 := HMd.out.c30
        have c31 := HMd.out.c31
        have f2 := HMd.out.f2
        obtain ⟨pv, cv, rfl, _⟩ := row_nets HR.out
        have HE := hidB (show ∀ u1 u2, (∃ p' c', Value.slice pv (cleanL (M.map Vn.nt)).length cv = .slice p' (cleanL (M.map Vn.nt)).length c' ∧ Nets ((wr.setCell ⟨w.heap.size + 1, 0, none⟩ u1).setCell ⟨w.heap.size + 1, 1, none⟩ u2) p' c' (cleanL (M.map Vn.nt))) ∧ Below w.heap.size w ((wr.setCell ⟨w.heap.size + 1, 0, none⟩ u1).setCell ⟨w.heap.size + 1, 1, none⟩ u2) from fun u1 u2 =>
          ⟨row_nets (ciRow_set (ciRow_set HR.out (by omega) _ _) (by omega) _ _), (HMd.out.bel.setCell (p := ⟨w.heap.size + 1, 0, none⟩) (by show w.heap.size ≤ w.heap.size + 1; omega) u1).setCell (p := ⟨w.heap.size + 1, 1, none⟩) (by show w.heap.size ≤ w.heap.size + 1; omega) u2⟩)
        have c11 := HMd.out.c11
        clear HMd HR HMid hrow0 hB12 hB23 hB3 a1
        go_wp2
        (try simp only [Exit.inBlock, Exit.then])
        have g0 := two_set5 c20 c21 (.bool no) (.slice pv (cleanL (M.map Vn.nt)).length cv)
        refine bodyPost_ret (v := .agg #[.bool no, .slice pv (cleanL (M.map Vn.nt)).length cv]) (by simp [results, Tryd.results10, go_sem, g0.1, g0.2]) rfl ?_
        obtain ⟨⟨p', c', h1, h2⟩, h3⟩ := HE.out (.bool no) (.slice pv (cleanL (M.map Vn.nt)).length cv)
        refine ⟨p', c', ?_, h2, h3⟩
        rw [h1]
  · have hc : checkL L = false := by simpa using hc
    have HF := hidB (show cleanL L = [] by unfold cleanL; rw [if_neg (by rw [hc]; simp)])
    have HB := hidB hb
    rw [hc] at hck ⊢
    clear hb
    go_enter Tryd.func10, Tryd.ntmps10
    go_wp2_with (fail)
    refine hck.mono ?_
    rintro e w2 ⟨rfl, hb2⟩
    have z1 : w.heap.size + 1 < ((w.alloc (.cells (setC no p L.length c) 24)).alloc (.cells #[.bool false, .slice none 0 0] 24)).heap.size := by simp
    have d2 : w2.cell? ⟨w.heap.size + 1, 0, none⟩ = some (.bool false) := (hb2.cell (p := ⟨w.heap.size + 1, 0, none⟩) z1).trans (by simp)
    have d3 : w2.cell? ⟨w.heap.size + 1, 1, none⟩ = some (.slice none 0 0) := (hb2.cell (p := ⟨w.heap.size + 1, 1, none⟩) z1).trans (by simp)
    have d4 : ∀ o, w2.frozen? ⟨w.heap.size + 1, o, none⟩ = false := fun o => (hb2.frozen (p := ⟨w.heap.size + 1, o, none⟩) z1).trans (by simp)
    have HB2 := hidB (HB.out.trans (hb2.mono HB.out.size))
    clear hck hb2 z1 HB
    go_wp2
    (try simp only [Exit.inBlock, Exit.then])
    have g0 := two_set5 d2 d3 (.bool false) (.slice none 0 0)
    refine bodyPost_ret (v := .agg #[.bool false, .slice none 0 0]) (by simp [results, Tryd.results10, go_sem, g0.1, g0.2]) rfl ?_
    refine ⟨none, 0, by rw [HF.out]; rfl, ⟨by rw [HF.out]; exact Nat.le_refl _, .inl HF.out⟩, ?_⟩
    exact (HB2.out.setCell (p := ⟨w.heap.size + 1, 0, none⟩) (by show w.heap.size ≤ w.heap.size + 1; omega) _).setCell (p := ⟨w.heap.size + 1, 1, none⟩) (by show w.heap.size ≤ w.heap.size + 1; omega) _
end Go.Proofs.YthhgkiihegmedaaDoor
