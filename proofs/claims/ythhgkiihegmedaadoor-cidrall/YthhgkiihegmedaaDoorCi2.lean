/- Layer 9 as landed: which sets may be, what they have, what is needless. -/
import Derived.Test.YthhgkiihegmedaaDoorCiSh
import Derived.Test.YthhgkiihegmedaaDoorRefCi2
namespace Go.Proofs.YthhgkiihegmedaaDoor
open Go.RowKit
set_option linter.unusedVariables false
set_option maxRecDepth 20000
theorem egBroken : ∀ args w, (callFunc 18 args).run Tryd.prog w = .ok (.enter 18 args) w := enters_of Tryd.func18 (by kernel_rfl) rfl
theorem egHas1 : ∀ args w, (callFunc 22 args).run Tryd.prog w = .ok (.enter 22 args) w := enters_of Tryd.func22 (by kernel_rfl) rfl
theorem egLess1 : ∀ args w, (callFunc 30 args).run Tryd.prog w = .ok (.enter 30 args) w := enters_of Tryd.func30 (by kernel_rfl) rfl
theorem egLess2 : ∀ args w, (callFunc 32 args).run Tryd.prog w = .ok (.enter 32 args) w := enters_of Tryd.func32 (by kernel_rfl) rfl
theorem pred_of {α : Type} {g : Nat} {lb : Array Value} {enc : α → Value} {f : α → Bool} {w : World} (h : ∀ (W : World) (x : α), Below w.heap.size w W → Calls Tryd.prog g (#[enc x] ++ lb) W fun e w' => e = .returned (.bool (f x)) ∧ Below W.heap.size W w') : PredBelow Tryd.prog g lb enc f w :=
  fun W x hW => (h W x hW).mono fun _ _ ⟨he, hb'⟩ => ⟨he, hW.trans (hb'.mono hW.size)⟩
theorem ciCheck (no : Bool) (p : Option Addr) (c : Nat) (L : List Nt) (w : World) (h : Nets w p c L) (h20 : L.length ≤ 20) :
    Calls Tryd.prog 5 #[.agg (setC no p L.length c)] w fun e w' => e = .returned (.bool (checkL L)) ∧ Below w.heap.size w w' := by
  have hb := (Below.refl w.heap.size w).alloc (Nat.le_refl _) (.cells (setC no p L.length c) 24)
  have hcall := ciContains (fun x => x) badN 18 #[] egBroken p c L _ (pred_of fun W x _ => ciBroken x W) (by rw [List.map_id']; exact h.below hb) h20
  have HB := hidB hb
  by_cases h4 : L.length ≤ 4
  · have HF := hidB (show checkL L = !L.any badN by simp [checkL, h4])
    have h4' : (L.length : Int) ≤ 4 := by omega
    generalize L.any badN = r at hcall HF
    clear hb
    go_enter Tryd.func5, Tryd.ntmps5
    go_wp2_with (go_at_call 17; refine hcall.mono ?_; rintro e w' ⟨rfl, hb'⟩)
    go_ret
    exact ⟨by rw [HF.out]; rfl, HB.out.trans (hb'.mono HB.out.size)⟩
  · have HF := hidB (show checkL L = false by simp [checkL, h4])
    have h4' : ¬ (L.length : Int) ≤ 4 := by omega
    clear hb hcall
    go_enter Tryd.func5, Tryd.ntmps5
    go_wp2
    go_ret
    exact ⟨by rw [HF.out]; rfl, HB.out⟩
set_option maxHeartbeats 1000000 in
theorem ciHas (no : Bool) (p : Option Addr) (c : Nat) (L : List Nt) (a : UInt32) (w : World) (hM : Mks w) (h : Nets w p c L) (h20 : L.length ≤ 20) :
    Calls Tryd.prog 11 #[.agg (setC no p L.length c), .int .u32 (a.toNat : Int)] w fun e w' => e = .returned (.bool (hasL no L a)) ∧ Below w.heap.size w w' := by
  have hb := ((Below.refl w.heap.size w).alloc (Nat.le_refl _) (.cells (setC no p L.length c) 24)).alloc (by simp) (.cells #[.int .u32 (a.toNat : Int)] 25)
  have hck := ciCheck no p c L _ (h.below hb) h20
  by_cases hc : checkL L = true
  · obtain ⟨M, rfl⟩ := vn_of (checkL_ok hc)
    rw [hc] at hck
    have h1 := h.below hb
    have hM1 := hM.below hb
    have hcall := fun (W : World) (hW : Mks W) (hN : Nets W p c (M.map Vn.nt)) (hB : W.cell? ⟨w.heap.size + 1, 0, none⟩ = some (.int .u32 (a.toNat : Int))) =>
      ciContains Vn.nt (fun x => inN x.nt a) 22 #[.pointer (some ⟨w.heap.size + 1, 0, none⟩)] egHas1 p c M W (pred_of fun W' x hW' => ciHas1 x a (w.heap.size + 1) W' (hW.below hW') ((hW'.cell (p := ⟨w.heap.size + 1, 0, none⟩) (ciLt hB)).trans hB)) hN (by rw [List.length_map] at h20; exact h20)
    have HL : M.length = (M.map Vn.nt).length := by rw [List.length_map]
    have HF := hidB (show hasL no (M.map Vn.nt) a = ((M.any (fun x => inN x.nt a) || ((M.length : Int) == 0)) != no) by
      simp only [hasL, hc, vn_any, Bool.true_and]
      congr 2
      rw [Bool.eq_iff_iff, List.isEmpty_iff_length_eq_zero, List.length_map]
      simp)
    rw [← HL] at hck hb h1 h20 hM1 ⊢
    generalize M.length = n at *
    have HB := hidB hb
    have hz : w.heap.size + 1 < ((w.alloc (.cells (setC no p n c) 24)).alloc (.cells #[.int .u32 (a.toNat : Int)] 25)).heap.size := by simp
    generalize M.any (fun x => inN x.nt a) = r at hcall HF
    clear hb h hc hM HL
    go_enter Tryd.func11, Tryd.ntmps11
    go_wp2_with (fail)
    refine hck.mono ?_
    rintro e w2 ⟨rfl, hb2⟩
    have d0 : w2.cell? ⟨w.heap.size, 0, none⟩ = some (.bool no) := (hb2.cell (p := ⟨w.heap.size, 0, none⟩) (by simp; omega)).trans (by simp)
    have d1 : w2.cell? ⟨w.heap.size, 1, none⟩ = some (.slice p n c) := (hb2.cell (p := ⟨w.heap.size, 1, none⟩) (by simp; omega)).trans (by simp)
    have d2 : w2.cell? ⟨w.heap.size + 1, 0, none⟩ = some (.int .u32 (a.toNat : Int)) := (hb2.cell (p := ⟨w.heap.size + 1, 0, none⟩) hz).trans (by simp)
    have hcall := hcall w2 (hM1.below hb2) (h1.below hb2) d2
    have hz2 : w.heap.size < w2.heap.size := Nat.lt_of_lt_of_le (Nat.lt_of_succ_lt hz) hb2.size
    have HB2 := hidB (HB.out.trans (hb2.mono HB.out.size))
    clear hck h1 hM1 hb2 hz HB d2
    go_wp2_with (fail)
    refine hcall.mono ?_
    rintro e w3 ⟨rfl, hb3⟩
    have f0 : w3.cell? ⟨w.heap.size, 0, none⟩ = some (.bool no) := (hb3.cell (p := ⟨w.heap.size, 0, none⟩) hz2).trans d0
    have f1 : w3.cell? ⟨w.heap.size, 1, none⟩ = some (.slice p n c) := (hb3.cell (p := ⟨w.heap.size, 1, none⟩) hz2).trans d1
    have HB3 := hidB (HB2.out.trans (hb3.mono HB2.out.size))
    clear d0 d1 hb3 HB2 hz2
    clear hcall
    have t1 : (true != no) = !no := by cases no <;> rfl
    cases r with
    | true =>
      go_wp2
      go_ret
      exact ⟨by rw [HF.out, Bool.true_or, t1]; rfl, HB3.out⟩
    | false =>
      go_wp2
      go_ret
      exact ⟨by rw [HF.out, Bool.false_or]; rfl, HB3.out⟩
  · have hc : checkL L = false := by simpa using hc
    have HF := hidB (show hasL no L a = false by simp only [hasL, hc, Bool.false_and])
    have HB := hidB hb
    rw [hc] at hck
    go_enter Tryd.func11, Tryd.ntmps11
    go_wp2_with (refine hck.mono ?_; rintro e w2 ⟨rfl, hb2⟩)
    go_ret
    exact ⟨by rw [HF.out]; rfl, HB.out.trans (hb2.mono HB.out.size)⟩
end Go.Proofs.YthhgkiihegmedaaDoor
