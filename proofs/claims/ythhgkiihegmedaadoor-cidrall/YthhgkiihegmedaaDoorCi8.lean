/- Layer 9: awake. -/
import Derived.Test.YthhgkiihegmedaaDoorCi7
namespace Go.Proofs.YthhgkiihegmedaaDoor
open Go.RowKit
set_option linter.unusedVariables false
set_option maxRecDepth 20000
def nt0 : Nt := (167838211, 8)
theorem aw_text : sL (textL false [nt0]) = ⟨#[49, 48, 46, 48, 46, 48, 46, 48, 47, 56]⟩ := by
  have h1 : cleanL [nt0] = [(167772160, 8)] := by decide
  have h2 : textL false [nt0] = netT (167772160, 8) := by
    unfold textL
    rw [h1, Bool.and_false, if_neg (by simp)]
    rfl
  have d10 : Lib.decDigits 10 = [49, 48] := by simp [Lib.decDigits]
  have d0 : Lib.decDigits 0 = [48] := by simp [Lib.decDigits]
  have d8 : Lib.decDigits 8 = [56] := by simp [Lib.decDigits]
  rw [h2]
  unfold netT dotA dotL
  rw [show (167772160 : UInt32).toNat / 16777216 = 10 from rfl, show (167772160 : UInt32).toNat / 65536 % 256 = 0 from rfl, show (167772160 : UInt32).toNat / 256 % 256 = 0 from rfl, show (167772160 : UInt32).toNat % 256 = 0 from rfl, show ((8 : Int)).toNat = 8 from rfl, d10, d0, d8]
  rfl
theorem aw_any : sL (textL false []) = ⟨#[97, 110, 121]⟩ := rfl
set_option maxHeartbeats 1000000 in
theorem ciAwake (w : World) (hM : Mks w) (hT : Tb w) :
    Calls Tryd.prog 4 #[] w fun e w' => e = .returned (.bool true) ∧ Below w.heap.size w w' := by
  have hb1 := below_more (Below.refl w.heap.size w) (Nat.le_refl _) (.cells #[.int .u32 167838211, .int .i64 8] 34)
  have hb2 := below_more hb1 (Nat.le_refl _) (.cells (setC false (some ⟨w.heap.size, 0, none⟩) 1 1) 24)
  have hN : Nets ((w.alloc (.cells #[.int .u32 167838211, .int .i64 8] 34)).alloc (.cells (setC false (some ⟨w.heap.size, 0, none⟩) 1 1) 24)) (some ⟨w.heap.size, 0, none⟩) 1 [nt0] := by
    refine ⟨Nat.le_refl _, .inr ⟨_, _, rfl, by simp; omega, fun j n hj => ?_⟩⟩
    match j, hj with
    | 0, hj => cases hj; exact ⟨by simp; rfl, by simp; rfl⟩
    | j + 1, hj => cases hj
  have hl := lit_net w 167838211 8
  have HN := hidB hN
  have HM := hidB hM
  have HT := hidB hT
  have HB := hidB hb2
  have t1 := fun (W : World) (hW : Below ((w.alloc (.cells #[.int .u32 167838211, .int .i64 8] 34)).alloc (.cells (setC false (some ⟨w.heap.size, 0, none⟩) 1 1) 24)).heap.size ((w.alloc (.cells #[.int .u32 167838211, .int .i64 8] 34)).alloc (.cells (setC false (some ⟨w.heap.size, 0, none⟩) 1 1) 24)) W) =>
    ciText false _ _ [nt0] W ((hM.below hb2).below hW) ((hT.below hb2).below hW) (hN.below hW) (by simp)
  have t2 := fun (a : UInt32) (W : World) (hW : Below ((w.alloc (.cells #[.int .u32 167838211, .int .i64 8] 34)).alloc (.cells (setC false (some ⟨w.heap.size, 0, none⟩) 1 1) 24)).heap.size ((w.alloc (.cells #[.int .u32 167838211, .int .i64 8] 34)).alloc (.cells (setC false (some ⟨w.heap.size, 0, none⟩) 1 1) 24)) W) =>
    ciHas false _ _ [nt0] a W ((hM.below hb2).below hW) (hN.below hW) (by simp)
  have t3 := fun (W : World) (hW : Below ((w.alloc (.cells #[.int .u32 167838211, .int .i64 8] 34)).alloc (.cells (setC false (some ⟨w.heap.size, 0, none⟩) 1 1) 24)).heap.size ((w.alloc (.cells #[.int .u32 167838211, .int .i64 8] 34)).alloc (.cells (setC false (some ⟨w.heap.size, 0, none⟩) 1 1) 24)) W) =>
    ciText false none 0 [] W ((hM.below hb2).below hW) ((hT.below hb2).below hW) ⟨Nat.le_refl _, .inl rfl⟩ (by simp)
  have a1 := t2 184483840
  have a2 := t2 184549376
  rw [show hasL false [nt0] 184483840 = true by decide] at a1
  rw [show hasL false [nt0] 184549376 = false by decide] at a2
  rw [aw_text] at t1
  rw [aw_any] at t3
  simp only [List.length_cons, List.length_nil, Nat.zero_add] at t1 a1 a2 t3
  rw [show ((184483840 : UInt32).toNat : Int) = 184483840 from rfl] at a1
  rw [show ((184549376 : UInt32).toNat : Int) = 184549376 from rfl] at a2
  clear t2 hb1 hN hM hT hb2
  go_enter Tryd.func4, Tryd.ntmps4
  go_wp2_with (fail)
  generalize hW0 : (w.alloc (.cells #[.int .u32 167838211, .int .i64 8] 34)).alloc (.cells (setC false (some ⟨w.heap.size, 0, none⟩) 1 1) 24) = W0 at t1 a1 a2 t3 HN HB ⊢
  have z0 : w.heap.size + 1 < W0.heap.size := by rw [← hW0]; simp
  have e0 : W0.cell? ⟨w.heap.size + 1, 0, none⟩ = some (.bool false) := by rw [← hW0]; simp
  have e1 : W0.cell? ⟨w.heap.size + 1, 1, none⟩ = some (.slice (some ⟨w.heap.size, 0, none⟩) 1 1) := by rw [← hW0]; simp
  clear hW0
  refine (t1 W0 (Below.refl _ _)).mono ?_
  rintro e w2 ⟨rfl, hb2⟩
  have a1 := a1 w2 hb2
  have f0 := (hb2.cell (p := ⟨w.heap.size + 1, 0, none⟩) z0).trans e0
  have f1 := (hb2.cell (p := ⟨w.heap.size + 1, 1, none⟩) z0).trans e1
  have H2 := hidB hb2
  clear t1 hb2
  go_wp2_with (fail)
  refine a1.mono ?_
  rintro e w3 ⟨rfl, hb3⟩
  have H3 := hidB (H2.out.trans (hb3.mono H2.out.size))
  have a2 := a2 w3 H3.out
  have f2 := (H3.out.cell (p := ⟨w.heap.size + 1, 0, none⟩) z0).trans e0
  have f3 := (H3.out.cell (p := ⟨w.heap.size + 1, 1, none⟩) z0).trans e1
  clear a1 hb3 f0 f1 H2
  go_wp2_with (fail)
  refine a2.mono ?_
  rintro e w4 ⟨rfl, hb4⟩
  have H4 := hidB (H3.out.trans (hb4.mono H3.out.size))
  have t3 := t3 w4 H4.out
  clear a2 hb4 f2 f3 H3
  go_wp2_with (fail)
  refine t3.mono ?_
  rintro e w5 ⟨rfl, hb5⟩
  have H5 := hidB (H4.out.trans (hb5.mono H4.out.size))
  clear t3 hb5 H4
  go_wp2_with (fail)
  go_ret
  exact ⟨rfl, HB.out.trans (H5.out.mono HB.out.size)⟩
end Go.Proofs.YthhgkiihegmedaaDoor
