/- Layer 10 as landed: which sets may be, what they have. -/
import Derived.Test.YtgiecmgopibcnaaDoorPtSh
import Derived.Test.YtgiecmgopibcnaaDoorCi2
namespace Go.Proofs.YtgiecmgopibcnaaDoor
open Go.RowKit
set_option linter.unusedVariables false
set_option maxRecDepth 20000
theorem egPBroken : ∀ args w, (callFunc 21 args).run Tryd.prog w = .ok (.enter 21 args) w := enters_of Tryd.func21 (by kernel_rfl) rfl
theorem egPHas1 : ∀ args w, (callFunc 25 args).run Tryd.prog w = .ok (.enter 25 args) w := enters_of Tryd.func25 (by kernel_rfl) rfl
theorem ptCheck (no : Bool) (p : Option Addr) (c : Nat) (L : List Sp) (w : World) (h : Spans w p c L) (h20 : L.length ≤ 20) :
    Calls Tryd.prog 8 #[.agg (ptC no p L.length c)] w fun e w' => e = .returned (.bool (checkS L)) ∧ Below w.heap.size w w' := by
  have hb := (Below.refl w.heap.size w).alloc (Nat.le_refl _) (.cells (ptC no p L.length c) 24)
  have hcall := ptContains (fun x => x) badS 21 #[] egPBroken p c L _ (pred_of fun W x _ => ptBroken x W) (by rw [List.map_id']; exact h.below hb) h20
  have HB := hidB hb
  by_cases h4 : L.length ≤ 4
  · have HF := hidB (show checkS L = !L.any badS by simp [checkS, h4])
    have h4' : (L.length : Int) ≤ 4 := by omega
    generalize L.any badS = r at hcall HF
    clear hb
    go_enter Tryd.func8, Tryd.ntmps8
    go_wp2_with (go_at_call 20; refine hcall.mono ?_; rintro e w' ⟨rfl, hb'⟩)
    go_ret
    exact ⟨by rw [HF.out]; rfl, HB.out.trans (hb'.mono HB.out.size)⟩
  · have HF := hidB (show checkS L = false by simp [checkS, h4])
    have h4' : ¬ (L.length : Int) ≤ 4 := by omega
    clear hb hcall
    go_enter Tryd.func8, Tryd.ntmps8
    go_wp2
    go_ret
    exact ⟨by rw [HF.out]; rfl, HB.out⟩
set_option maxHeartbeats 1000000 in
theorem ptHas (no : Bool) (p : Option Addr) (c : Nat) (L : List Sp) (a : Int) (w : World) (h : Spans w p c L) (h20 : L.length ≤ 20) :
    Calls Tryd.prog 14 #[.agg (ptC no p L.length c), .int .i64 a] w fun e w' => e = .returned (.bool (hasS no L a)) ∧ Below w.heap.size w w' := by
  have hb := ((Below.refl w.heap.size w).alloc (Nat.le_refl _) (.cells (ptC no p L.length c) 24)).alloc (by simp) (.cells #[.int .i64 a] 3)
  have h1 := h.below hb
  have hck := ptCheck no p c L _ h1 h20
  have HB := hidB hb
  by_cases hc : checkS L = true
  · rw [hc] at hck
    by_cases h0 : a < 0
    · have HF := hidB (show hasS no L a = false by simp [hasS, hc, inS]; omega)
      clear h hb h1 hc
      go_enter Tryd.func14, Tryd.ntmps14
      go_wp2_with (fail)
      refine hck.mono ?_
      rintro e w2 ⟨rfl, hb2⟩
      have d2 : w2.cell? ⟨w.heap.size + 1, 0, none⟩ = some (.int .i64 a) := (hb2.cell (p := ⟨w.heap.size + 1, 0, none⟩) (by simp)).trans (by simp)
      have HB2 := hidB (HB.out.trans (hb2.mono HB.out.size))
      clear hck hb2 HB
      go_wp2_with (fail)
      go_ret
      exact ⟨by rw [HF.out]; rfl, HB2.out⟩
    · by_cases h6 : 65535 < a
      · have HF := hidB (show hasS no L a = false by simp [hasS, hc, inS]; omega)
        clear h hb h1 hc
        go_enter Tryd.func14, Tryd.ntmps14
        go_wp2_with (fail)
        refine hck.mono ?_
        rintro e w2 ⟨rfl, hb2⟩
        have d2 : w2.cell? ⟨w.heap.size + 1, 0, none⟩ = some (.int .i64 a) := (hb2.cell (p := ⟨w.heap.size + 1, 0, none⟩) (by simp)).trans (by simp)
        have HB2 := hidB (HB.out.trans (hb2.mono HB.out.size))
        clear hck hb2 HB
        go_wp2_with (fail)
        go_ret
        exact ⟨by rw [HF.out]; rfl, HB2.out⟩
      · have hcall := fun (W : World) (hN : Spans W p c L) (hB : W.cell? ⟨w.heap.size + 1, 0, none⟩ = some (.int .i64 a)) =>
          ptContains (fun x : Sp => x) (fun x => inS a x) 25 #[.pointer (some ⟨w.heap.size + 1, 0, none⟩)] egPHas1 p c L W (pred_of fun W' x hW' => ptHas1 x a (w.heap.size + 1) W' ((hW'.cell (p := ⟨w.heap.size + 1, 0, none⟩) (ciLt hB)).trans hB)) (by rw [List.map_id']; exact hN) h20
        have HF := hidB (show hasS no L a = ((L.any (fun x => inS a x) || ((L.length : Int) == 0)) != no) by
          rw [show hasS no L a = (checkS L && inS a (0, 65535) && ((L.any (fun x => inS a x) || L.isEmpty) != no)) from rfl, hc, (inS_iff a (0, 65535)).2 ⟨by show (0 : Int) ≤ a; omega, by show a ≤ 65535; omega⟩, Bool.true_and, Bool.true_and]
          congr 2
          rw [Bool.eq_iff_iff, List.isEmpty_iff_length_eq_zero]
          simp)
        generalize L.any (fun x => inS a x) = r at hcall HF
        generalize L.length = n at *
        have hz : w.heap.size + 1 < ((w.alloc (.cells (ptC no p n c) 24)).alloc (.cells #[.int .i64 a] 3)).heap.size := by simp
        clear hb h hc
        go_enter Tryd.func14, Tryd.ntmps14
        go_wp2_with (fail)
        refine hck.mono ?_
        rintro e w2 ⟨rfl, hb2⟩
        have d0 : w2.cell? ⟨w.heap.size, 0, none⟩ = some (.bool no) := (hb2.cell (p := ⟨w.heap.size, 0, none⟩) (by simp; omega)).trans (by simp)
        have d1 : w2.cell? ⟨w.heap.size, 1, none⟩ = some (.slice p n c) := (hb2.cell (p := ⟨w.heap.size, 1, none⟩) (by simp; omega)).trans (by simp)
        have d2 : w2.cell? ⟨w.heap.size + 1, 0, none⟩ = some (.int .i64 a) := (hb2.cell (p := ⟨w.heap.size + 1, 0, none⟩) hz).trans (by simp)
        have hcall := hcall w2 (h1.below hb2) d2
        have hz2 : w.heap.size < w2.heap.size := Nat.lt_of_lt_of_le (Nat.lt_of_succ_lt hz) hb2.size
        have HB2 := hidB (HB.out.trans (hb2.mono HB.out.size))
        clear hck h1 hb2 hz HB
        go_wp2_with (fail)
        refine hcall.mono ?_
        rintro e w3 ⟨rfl, hb3⟩
        have f0 : w3.cell? ⟨w.heap.size, 0, none⟩ = some (.bool no) := (hb3.cell (p := ⟨w.heap.size, 0, none⟩) hz2).trans d0
        have f1 : w3.cell? ⟨w.heap.size, 1, none⟩ = some (.slice p n c) := (hb3.cell (p := ⟨w.heap.size, 1, none⟩) hz2).trans d1
        have HB3 := hidB (HB2.out.trans (hb3.mono HB2.out.size))
        clear d0 d1 d2 hb3 HB2 hz2
        clear hcall
        have t1 : (true != no) = !no := by cases no <;> rfl
        cases r with
        | true =>
          go_wp2
          go_ret
          exact ⟨by rw [HF.out, Bool.true_or, t1]; rfl, HB3.out⟩
        | false =>
          go_wp2
          go_ret
          exact ⟨by rw [HF.out, Bool.false_or]; rfl, HB3.out⟩
  · have hc : checkS L = false := by simpa using hc
    have HF := hidB (show hasS no L a = false by simp only [hasS, hc, Bool.false_and])
    rw [hc] at hck
    clear h hb h1 hc
    go_enter Tryd.func14, Tryd.ntmps14
    go_wp2_with (refine hck.mono ?_; rintro e w2 ⟨rfl, hb2⟩)
    go_ret
    exact ⟨by rw [HF.out]; rfl, HB.out.trans (hb2.mono HB.out.size)⟩
end Go.Proofs.YtgiecmgopibcnaaDoor
