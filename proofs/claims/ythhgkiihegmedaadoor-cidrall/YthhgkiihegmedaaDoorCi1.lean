/- Layer 9: what asks of one net or two. -/
import Derived.BigQuiet
import Derived.WalkKit
import Derived.Test.YthhgkiihegmedaaDoorCiPl
import Derived.Test.YthhgkiihegmedaaDoorCalm
namespace Go.Proofs.YthhgkiihegmedaaDoor
open Go.RowKit
set_option linter.unusedVariables false
set_option maxRecDepth 20000
theorem cDrewN {B : Nat} {a w : World} (h : Below B a w) (q : Nat) : Below B a (w.drewN q) := ⟨h.os, h.tape, h.output, h.size, h.block⟩
theorem ciLt {w : World} {a : Addr} {v : Value} (h : w.cell? a = some v) : a.block < w.heap.size := by
  unfold World.cell? at h
  by_cases hl : a.block < w.heap.size
  · exact hl
  · rw [Array.getElem?_eq_none (by omega)] at h
    simp at h
theorem hidB {p : Prop} (h : p) : Hid p := h
/-- whether an address begins as a net does -/
theorem ciOf (x : Vn) (a : UInt32) (w : World) (hM : Mks w) :
    Calls Tryd.prog 23 #[.int .u32 (a.toNat : Int), .agg (ntC x.nt).toArray] w fun e w' => e = .returned (.bool (inN x.nt a)) ∧ Below w.heap.size w w' := by
  obtain ⟨x1, k, hk⟩ := x
  have h0 := hM.1
  have hc : w.cell? ⟨0, k, none⟩ = some (.int .u32 ((msk k).toNat : Int)) := hM.2 k hk
  have e1 : bits .xor .u32 (a.toNat : Int) (x1.toNat : Int) = ((a.toNat ^^^ x1.toNat : Nat) : Int) := by rw [xor_u32, UInt32.toNat_xor]
  have h1 : (0 : Int) ≤ (k : Int) := by omega
  have h2 : (k : Int) < 33 := by omega
  have hq : (bits .and .u32 ((a.toNat ^^^ x1.toNat : Nat) : Int) ((msk k).toNat : Int) == 0) = inN (x1, (k : Int)) a := by
    show _ = (((a ^^^ x1) &&& msk k) == 0)
    rw [← UInt32.toNat_xor, and_u32, Bool.eq_iff_iff, beq_iff_eq, u32_zero, beq_iff_eq]
  show Calls Tryd.prog 23 #[.int .u32 (a.toNat : Int), .agg #[.int .u32 (x1.toNat : Int), .int .i64 (k : Int)]] w fun e w' => e = .returned (.bool (inN (x1, (k : Int)) a)) ∧ Below w.heap.size w w'
  generalize inN (x1, (k : Int)) a = r at hq ⊢
  clear hM
  go_enter Tryd.func23, Tryd.ntmps23
  go_wp2
  go_quiet (fail)
  go_wp2
  go_ret
  exact ⟨rfl, cDrewN ((Below.refl _ w).alloc (Nat.le_refl _) _) _⟩
/-- whether a net's bits are none -/
theorem ciBroken (n : Nt) (w : World) :
    Calls Tryd.prog 18 #[.agg (ntC n).toArray] w fun e w' => e = .returned (.bool (badN n)) ∧ Below w.heap.size w w' := by
  obtain ⟨a, b⟩ := n
  show Calls Tryd.prog 18 #[.agg #[.int .u32 (a.toNat : Int), .int .i64 b]] w fun e w' => e = .returned (.bool (decide (b < 0) || decide (32 < b))) ∧ _
  by_cases h : b < 0
  · rw [show decide (b < 0) = true by simp [h]]
    go_enter Tryd.func18, Tryd.ntmps18
    go_wp2
    go_ret
    exact ⟨rfl, (Below.refl _ w).alloc (Nat.le_refl _) _⟩
  · rw [show decide (b < 0) = false by simp [h]]
    go_enter Tryd.func18, Tryd.ntmps18
    go_wp2
    go_ret
    exact ⟨rfl, (Below.refl _ w).alloc (Nat.le_refl _) _⟩
/-- whether a net is wholly in another one -/
theorem ciWithin (n o : Vn) (w : World) (hM : Mks w) :
    Calls Tryd.prog 31 #[.agg (ntC n.nt).toArray, .agg (ntC o.nt).toArray] w
      fun e w' => e = .returned (.bool (within n.nt o.nt)) ∧ Below w.heap.size w w' := by
  have hb2 : Below w.heap.size w ((w.alloc (.cells (ntC n.nt).toArray 34)).alloc (.cells (ntC o.nt).toArray 34)) := ((Below.refl _ w).alloc (Nat.le_refl _) _).alloc (by simp) _
  have hcall := ciOf o n.1 _ (hM.below hb2)
  show Calls Tryd.prog _ _ w fun e w' => e = .returned (.bool (decide (((o.2.val : Nat) : Int) ≤ ((n.2.val : Nat) : Int)) && inN o.nt n.1)) ∧ _
  generalize inN o.nt n.1 = r at hcall ⊢
  obtain ⟨x, k, hk⟩ := n
  obtain ⟨y, l, hl⟩ := o
  clear hM
  simp only [ntC, Vn.nt] at hcall hb2 ⊢
  by_cases h : (l : Int) ≤ (k : Int)
  · rw [show decide ((l : Int) ≤ (k : Int)) = true by simp only [h, decide_true], Bool.true_and]
    go_enter Tryd.func31, Tryd.ntmps31
    go_wp2_with (refine hcall.mono ?_; rintro e w' ⟨rfl, hb'⟩)
    go_ret
    exact ⟨rfl, hb2.trans (hb'.mono hb2.size)⟩
  · rw [show decide ((l : Int) ≤ (k : Int)) = false by simp only [h, decide_false], Bool.false_and]
    go_enter Tryd.func31, Tryd.ntmps31
    go_wp2
    go_ret
    exact ⟨rfl, hb2⟩
/-- Has's own: an address kept in a cell -/
theorem ciHas1 (x : Vn) (a : UInt32) (B : Nat) (w : World) (hM : Mks w) (hB : w.cell? ⟨B, 0, none⟩ = some (.int .u32 (a.toNat : Int))) :
    Calls Tryd.prog 22 #[.agg (ntC x.nt).toArray, .pointer (some ⟨B, 0, none⟩)] w fun e w' => e = .returned (.bool (inN x.nt a)) ∧ Below w.heap.size w w' := by
  have hb := (Below.refl w.heap.size w).alloc (Nat.le_refl _) (.cells (ntC x.nt).toArray 34)
  have hcall := ciOf x a _ (hM.below hb)
  have hBl : B < w.heap.size := ciLt hB
  generalize inN x.nt a = r at hcall ⊢
  obtain ⟨x1, k, hk⟩ := x
  simp only [ntC, Vn.nt] at hcall hb ⊢
  clear hM
  go_enter Tryd.func22, Tryd.ntmps22
  go_wp2_with (refine hcall.mono ?_; rintro e w' ⟨rfl, hb'⟩)
  go_ret
  exact ⟨rfl, hb.trans (hb'.mono hb.size)⟩
/-- isNeedless's own: a net kept in a block -/
theorem ciLess1 (x n : Vn) (B : Nat) (w : World) (hM : Mks w) (hB : w.cell? ⟨B, 0, none⟩ = some (.int .u32 (n.1.toNat : Int))) (hB1 : w.cell? ⟨B, 1, none⟩ = some (.int .i64 ((n.2.val : Nat) : Int))) :
    Calls Tryd.prog 30 #[.agg (ntC x.nt).toArray, .pointer (some ⟨B, 0, none⟩)] w fun e w' => e = .returned (.bool (within n.nt x.nt)) ∧ Below w.heap.size w w' := by
  have hb := (Below.refl w.heap.size w).alloc (Nat.le_refl _) (.cells (ntC x.nt).toArray 34)
  have hcall := ciWithin n x _ (hM.below hb)
  have hBl : B < w.heap.size := ciLt hB
  generalize within n.nt x.nt = r at hcall ⊢
  obtain ⟨x1, k, hk⟩ := x
  obtain ⟨y, l, hl⟩ := n
  simp only [ntC, Vn.nt] at hcall hb hB hB1 ⊢
  clear hM
  go_enter Tryd.func30, Tryd.ntmps30
  go_wp2_with (refine hcall.mono ?_; rintro e w' ⟨rfl, hb'⟩)
  go_ret
  exact ⟨rfl, hb.trans (hb'.mono hb.size)⟩
theorem ciLess2 (x n : Vn) (B : Nat) (w : World) (hM : Mks w) (hB : w.cell? ⟨B, 0, none⟩ = some (.int .u32 (n.1.toNat : Int))) (hB1 : w.cell? ⟨B, 1, none⟩ = some (.int .i64 ((n.2.val : Nat) : Int))) :
    Calls Tryd.prog 32 #[.agg (ntC x.nt).toArray, .pointer (some ⟨B, 0, none⟩)] w fun e w' => e = .returned (.bool (within n.nt x.nt && !within x.nt n.nt)) ∧ Below w.heap.size w w' := by
  have hb := (Below.refl w.heap.size w).alloc (Nat.le_refl _) (.cells (ntC x.nt).toArray 34)
  have hcall := fun (W : World) (hW : Mks W) => ciWithin n x W hW
  have hcall2 := fun (W : World) (hW : Mks W) => ciWithin x n W hW
  have hBl : B < w.heap.size := ciLt hB
  have hM1 := hM.below hb
  generalize within n.nt x.nt = r at hcall ⊢
  generalize within x.nt n.nt = r2 at hcall2 ⊢
  obtain ⟨x1, k, hk⟩ := x
  obtain ⟨y, l, hl⟩ := n
  simp only [ntC, Vn.nt] at hcall hcall2 hb hB hB1 hM1 ⊢
  clear hM
  cases r with
  | false =>
    go_enter Tryd.func32, Tryd.ntmps32
    go_wp2_with (refine (hcall _ hM1).mono ?_; rintro e w' ⟨rfl, hb'⟩)
    go_ret
    exact ⟨rfl, hb.trans (hb'.mono hb.size)⟩
  | true =>
    go_enter Tryd.func32, Tryd.ntmps32
    go_wp2_with (fail)
    refine (hcall _ hM1).mono ?_
    rintro e w' ⟨rfl, hb'⟩
    have hM2 := hM1.below hb'
    have hbb := hb.trans (hb'.mono hb.size)
    have c0 : w'.cell? ⟨B, 0, none⟩ = some (.int .u32 (y.toNat : Int)) := (hbb.cell (p := ⟨B, 0, none⟩) hBl).trans hB
    have c1 : w'.cell? ⟨B, 1, none⟩ = some (.int .i64 (l : Int)) := (hbb.cell (p := ⟨B, 1, none⟩) hBl).trans hB1
    have hn : w.heap.size < (w.alloc (.cells #[.int .u32 (x1.toNat : Int), .int .i64 (k : Int)] 34)).heap.size := by simp
    have d0 : w'.cell? ⟨w.heap.size, 0, none⟩ = some (.int .u32 (x1.toNat : Int)) := (hb'.cell (p := ⟨w.heap.size, 0, none⟩) hn).trans (by simp)
    have d1 : w'.cell? ⟨w.heap.size, 1, none⟩ = some (.int .i64 (k : Int)) := (hb'.cell (p := ⟨w.heap.size, 1, none⟩) hn).trans (by simp)
    have HB := hidB hbb
    clear hb' hbb hb hB hB1 hBl hn
    go_wp2_with (refine (hcall2 _ hM2).mono ?_; rintro e w2 ⟨rfl, hb2⟩)
    go_ret
    exact ⟨rfl, HB.out.trans (hb2.mono HB.out.size)⟩
end Go.Proofs.YthhgkiihegmedaaDoor
