/- Layer 9's own answer: masks, nets, digits. -/
import Derived.Test.YthhgkiihegmedaaDoorCi1
namespace Go.Proofs.YthhgkiihegmedaaDoor
open Go.RowKit
set_option linter.unusedVariables false
set_option maxRecDepth 20000
theorem msk_up : ∀ k : Nat, k < 33 → k ≠ 0 → (4294967295 * 2 ^ (32 - k) % 4294967296 : Int) = ((msk k).toNat : Int) := by decide
theorem rcMask (k : Nat) (hk : k < 33) (w : World) :
    Calls Tryd.prog 21 #[.int .i64 (k : Int)] w fun e w' => e = .returned (.int .u32 ((msk k).toNat : Int)) ∧ w' = w := by
  by_cases h : k = 0
  · subst h
    go_enter Tryd.func21, Tryd.ntmps21
    go_wp2
    go_ret
    exact ⟨rfl, rfl⟩
  · have h1 : ¬ ((k : Int) ≤ 0) := by omega
    have h2 : wrap64 (32 - (k : Int)) = ((32 - k : Nat) : Int) := by rw [wrap64]; omega
    have h3 := msk_up k hk h
    go_enter Tryd.func21, Tryd.ntmps21
    go_wp2
    go_ret
    exact ⟨rfl, rfl⟩
theorem rcIn (x : Vn) (a : UInt32) (w : World) :
    Calls Tryd.prog 24 #[.agg (ntC x.nt).toArray, .int .u32 (a.toNat : Int)] w fun e w' => e = .returned (.bool (inN x.nt a)) ∧ Below w.heap.size w w' := by
  obtain ⟨x1, k, hk⟩ := x
  have hm := fun W => (rcMask k hk W).mono (fun _ w' (h : _ ∧ w' = W) => (⟨h.1, h.2.symm⟩ : _ ∧ W = w'))
  have e1 : bits .xor .u32 (x1.toNat : Int) (a.toNat : Int) = ((x1.toNat ^^^ a.toNat : Nat) : Int) := by rw [xor_u32, UInt32.toNat_xor]
  have hq : (bits .and .u32 ((x1.toNat ^^^ a.toNat : Nat) : Int) ((msk k).toNat : Int) == 0) = inN (x1, (k : Int)) a := by
    show _ = (((a ^^^ x1) &&& msk k) == 0)
    rw [← UInt32.toNat_xor, and_u32, Bool.eq_iff_iff, beq_iff_eq, u32_zero, beq_iff_eq, UInt32.xor_comm]
  show Calls Tryd.prog 24 #[.agg #[.int .u32 (x1.toNat : Int), .int .i64 (k : Int)], .int .u32 (a.toNat : Int)] w fun e w' => e = .returned (.bool (inN (x1, (k : Int)) a)) ∧ Below w.heap.size w w'
  generalize inN (x1, (k : Int)) a = r at hq ⊢
  generalize (msk k).toNat = M at hm hq
  have HB := hidB ((Below.refl w.heap.size w).alloc (Nat.le_refl _) (.cells #[.int .u32 (x1.toNat : Int), .int .i64 (k : Int)] 34))
  have hcl := Cls.cell (w := w.alloc (.cells #[.int .u32 (x1.toNat : Int), .int .i64 (k : Int)] 34))
  go_enter Tryd.func24, Tryd.ntmps24
  go_wp2
  refine wp_region_calm (by kernel_rfl) (by kernel_rfl) (fun hne => ?_)
  repeat (go_big_quiet_step (first | (go_at_call 21; exact calm_of_same (hm _))))
  refine wpQuiet_nil ?_
  rintro _ ⟨x, rfl⟩
  go_wp2
  go_ret
  exact ⟨rfl, HB.out.trans (x.bel.mono HB.out.size)⟩
theorem rcCovers (n o : Vn) (w : World) :
    Calls Tryd.prog 20 #[.agg (ntC n.nt).toArray, .agg (ntC o.nt).toArray] w
      fun e w' => e = .returned (.bool (within o.nt n.nt)) ∧ Below w.heap.size w w' := by
  have hb2 : Below w.heap.size w ((w.alloc (.cells (ntC n.nt).toArray 34)).alloc (.cells (ntC o.nt).toArray 34)) := ((Below.refl _ w).alloc (Nat.le_refl _) _).alloc (by simp) _
  have hcall := rcIn n o.1 ((w.alloc (.cells (ntC n.nt).toArray 34)).alloc (.cells (ntC o.nt).toArray 34))
  show Calls Tryd.prog _ _ w fun e w' => e = .returned (.bool (decide (((n.2.val : Nat) : Int) ≤ ((o.2.val : Nat) : Int)) && inN n.nt o.1)) ∧ _
  generalize inN n.nt o.1 = r at hcall ⊢
  obtain ⟨x, k, hk⟩ := n
  obtain ⟨y, l, hl⟩ := o
  simp only [ntC, Vn.nt] at hcall hb2 ⊢
  by_cases h : (k : Int) ≤ (l : Int)
  · rw [show decide ((k : Int) ≤ (l : Int)) = true by simp only [h, decide_true], Bool.true_and]
    go_enter Tryd.func20, Tryd.ntmps20
    go_wp2_with (refine hcall.mono ?_; rintro e w' ⟨rfl, hb'⟩)
    go_ret
    exact ⟨rfl, hb2.trans (hb'.mono hb2.size)⟩
  · rw [show decide ((k : Int) ≤ (l : Int)) = false by simp only [h, decide_false], Bool.false_and]
    go_enter Tryd.func20, Tryd.ntmps20
    go_wp2
    go_ret
    exact ⟨rfl, hb2⟩
end Go.Proofs.YthhgkiihegmedaaDoor
