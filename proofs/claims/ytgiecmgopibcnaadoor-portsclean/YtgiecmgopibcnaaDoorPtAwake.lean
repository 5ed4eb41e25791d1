/- Layer 10: awake. -/
import Derived.Test.YtgiecmgopibcnaaDoorPtCopy
namespace Go.Proofs.YtgiecmgopibcnaaDoor
open Go.RowKit
set_option linter.unusedVariables false
set_option maxRecDepth 20000
def sp0 : List Sp := [(1, 3), (4, 9)]
theorem awS_text : sL (textS false sp0) = ⟨#[49, 45, 57]⟩ := by
  have h1 : cleanS sp0 = [(1, 9)] := by decide
  have h2 : textS false sp0 = spanT (1, 9) := by
    unfold textS
    rw [h1, Bool.and_false, if_neg (by simp)]
    rfl
  have d1 : Lib.decDigits 1 = [49] := by simp [Lib.decDigits]
  have d9 : Lib.decDigits 9 = [57] := by simp [Lib.decDigits]
  rw [h2]
  unfold spanT
  rw [if_neg (by decide), show ((1 : Int)).toNat = 1 from rfl, show ((9 : Int)).toNat = 9 from rfl, d1, d9]
  rfl
theorem awS_any : sL (textS false []) = ⟨#[97, 110, 121]⟩ := rfl
theorem lit_span2 (w : World) (a b c d : Int) : (Instr.buildSlice 22 2 #[(0, .agg #[.int .i64 a, .int .i64 b]), (1, .agg #[.int .i64 c, .int .i64 d])]).run Tryd.prog w = .ok (.slice (some ⟨w.heap.size, 0, none⟩) 2 2) (w.alloc (.cells #[.int .i64 a, .int .i64 b, .int .i64 c, .int .i64 d] 34)) := by
  obtain ⟨i0, hi, hz0, hz1, hz2⟩ := info_parts infoSp
  refine run_buildSlice w _ _ 2 _ _ i0 _ Tryd.underlying22 hi hz0 (by rw [hz1]; decide) (by rw [hz1]; decide) ?_
  rw [hz1]
  kernel_rfl
set_option maxHeartbeats 1000000 in
theorem ptAwake (w : World) (hT : Tb w) :
    Calls Tryd.prog 7 #[] w fun e w' => e = .returned (.bool true) ∧ Below w.heap.size w w' := by
  have hb1 := below_more (Below.refl w.heap.size w) (Nat.le_refl _) (.cells #[.int .i64 1, .int .i64 3, .int .i64 4, .int .i64 9] 34)
  have hb2 := below_more hb1 (Nat.le_refl _) (.cells (ptC false (some ⟨w.heap.size, 0, none⟩) 2 2) 24)
  have hN : Spans ((w.alloc (.cells #[.int .i64 1, .int .i64 3, .int .i64 4, .int .i64 9] 34)).alloc (.cells (ptC false (some ⟨w.heap.size, 0, none⟩) 2 2) 24)) (some ⟨w.heap.size, 0, none⟩) 2 sp0 := by
    refine ⟨Nat.le_refl _, .inr ⟨_, _, rfl, by simp; omega, fun j n hj => ?_⟩⟩
    match j, hj with
    | 0, hj => cases hj; exact ⟨by simp, by simp⟩
    | 1, hj => cases hj; exact ⟨by simp, by simp⟩
    | j + 2, hj => cases hj
  have hl := lit_span2 w 1 3 4 9
  have HN := hidB hN
  have HT := hidB hT
  have HB := hidB hb2
  have t1 := fun (W : World) (hW : Below ((w.alloc (.cells #[.int .i64 1, .int .i64 3, .int .i64 4, .int .i64 9] 34)).alloc (.cells (ptC false (some ⟨w.heap.size, 0, none⟩) 2 2) 24)).heap.size ((w.alloc (.cells #[.int .i64 1, .int .i64 3, .int .i64 4, .int .i64 9] 34)).alloc (.cells (ptC false (some ⟨w.heap.size, 0, none⟩) 2 2) 24)) W) =>
    ptText false _ _ sp0 W ((hT.below hb2).below hW) (hN.below hW) (by decide)
  have t2 := fun (a : Int) (W : World) (hW : Below ((w.alloc (.cells #[.int .i64 1, .int .i64 3, .int .i64 4, .int .i64 9] 34)).alloc (.cells (ptC false (some ⟨w.heap.size, 0, none⟩) 2 2) 24)).heap.size ((w.alloc (.cells #[.int .i64 1, .int .i64 3, .int .i64 4, .int .i64 9] 34)).alloc (.cells (ptC false (some ⟨w.heap.size, 0, none⟩) 2 2) 24)) W) =>
    ptHas false _ _ sp0 a W (hN.below hW) (by decide)
  have t3 := fun (W : World) (hW : Below ((w.alloc (.cells #[.int .i64 1, .int .i64 3, .int .i64 4, .int .i64 9] 34)).alloc (.cells (ptC false (some ⟨w.heap.size, 0, none⟩) 2 2) 24)).heap.size ((w.alloc (.cells #[.int .i64 1, .int .i64 3, .int .i64 4, .int .i64 9] 34)).alloc (.cells (ptC false (some ⟨w.heap.size, 0, none⟩) 2 2) 24)) W) =>
    ptText false none 0 [] W ((hT.below hb2).below hW) ⟨Nat.le_refl _, .inl rfl⟩ (by simp)
  have a1 := t2 4
  have a2 := t2 10
  rw [show hasS false sp0 4 = true by decide] at a1
  rw [show hasS false sp0 10 = false by decide] at a2
  rw [awS_text] at t1
  rw [awS_any] at t3
  rw [show sp0.length = 2 from rfl] at t1 a1 a2
  simp only [List.length_nil] at t3
  clear t2 hb1 hN hT hb2
  go_enter Tryd.func7, Tryd.ntmps7
  go_wp2_with (fail)
  generalize hW0 : (w.alloc (.cells #[.int .i64 1, .int .i64 3, .int .i64 4, .int .i64 9] 34)).alloc (.cells (ptC false (some ⟨w.heap.size, 0, none⟩) 2 2) 24) = W0 at t1 a1 a2 t3 HN HB ⊢
  have z0 : w.heap.size + 1 < W0.heap.size := by rw [← hW0]; simp
  have e0 : W0.cell? ⟨w.heap.size + 1, 0, none⟩ = some (.bool false) := by rw [← hW0]; simp
  have e1 : W0.cell? ⟨w.heap.size + 1, 1, none⟩ = some (.slice (some ⟨w.heap.size, 0, none⟩) 2 2) := by rw [← hW0]; simp
  clear hW0
  refine (t1 W0 (Below.refl _ _)).mono ?_
  rintro e w2 ⟨rfl, hb2⟩
  have a1 := a1 w2 hb2
  have f0 := (hb2.cell (p := ⟨w.heap.size + 1, 0, none⟩) z0).trans e0
  have f1 := (hb2.cell (p := ⟨w.heap.size + 1, 1, none⟩) z0).trans e1
  have H2 := hidB hb2
  clear t1 hb2
  go_wp2_with (fail)
  refine a1.mono ?_
  rintro e w3 ⟨rfl, hb3⟩
  have H3 := hidB (H2.out.trans (hb3.mono H2.out.size))
  have a2 := a2 w3 H3.out
  have f2 := (H3.out.cell (p := ⟨w.heap.size + 1, 0, none⟩) z0).trans e0
  have f3 := (H3.out.cell (p := ⟨w.heap.size + 1, 1, none⟩) z0).trans e1
  clear a1 hb3 f0 f1 H2
  go_wp2_with (fail)
  refine a2.mono ?_
  rintro e w4 ⟨rfl, hb4⟩
  have H4 := hidB (H3.out.trans (hb4.mono H3.out.size))
  have t3 := t3 w4 H4.out
  clear a2 hb4 f2 f3 H3
  go_wp2_with (fail)
  refine t3.mono ?_
  rintro e w5 ⟨rfl, hb5⟩
  have H5 := hidB (H4.out.trans (hb5.mono H4.out.size))
  clear t3 hb5 H4
  go_wp2_with (fail)
  go_ret
  exact ⟨rfl, HB.out.trans (H5.out.mono HB.out.size)⟩
end Go.Proofs.YtgiecmgopibcnaaDoor
