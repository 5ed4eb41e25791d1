/- Layer 9's own answer: which sets may be, what they have. -/
import Derived.Deep.LoopGhost
import Derived.Test.YthhgkiihegmedaaDoorRefCi
namespace Go.Proofs.YthhgkiihegmedaaDoor
open Go.RowKit
set_option linter.unusedVariables false
set_option maxRecDepth 20000
/-- a set's two fields -/
abbrev setC (no : Bool) (p : Option Addr) (n c : Nat) : Array Value := #[.bool no, .slice p n c]
theorem any_take_step {α : Type} (p : α → Bool) (L : List α) (k : Nat) (x : α) (h : L[k]? = some x) : (L.take (k + 1)).any p = ((L.take k).any p || p x) := by
  have hk := (List.getElem?_eq_some_iff.1 h)
  obtain ⟨hk, rfl⟩ := hk
  rw [List.take_succ_eq_append_getElem hk, List.any_append]
  simp
theorem any_of_at {α : Type} (p : α → Bool) (L : List α) (k : Nat) (x : α) (h : L[k]? = some x) (hp : p x = true) : L.any p = true := by
  rw [List.any_eq_true]
  exact ⟨x, List.mem_of_getElem? h, hp⟩
set_option maxHeartbeats 1000000 in
theorem rcCheck (no : Bool) (p : Option Addr) (c : Nat) (L : List Nt) (w : World) (h : Nets w p c L) (h20 : L.length ≤ 20) :
    Calls Tryd.prog 6 #[.agg (setC no p L.length c)] w fun e w' => e = .returned (.bool (checkL L)) ∧ Below w.heap.size w w' := by
  have hb := (Below.refl w.heap.size w).alloc (Nat.le_refl _) (.cells (setC no p L.length c) 24)
  have h1 := hidB (h.below hb)
  have HB := hidB hb
  clear hb h
  obtain ⟨n, hn⟩ : ∃ n : Nat, n = L.length := ⟨_, rfl⟩
  have HL := hidB hn
  rw [← hn] at h1 HB h20 ⊢
  clear hn
  go_enter Tryd.func6, Tryd.ntmps6
  go_wp2
  go_loopg [3] n (fun g s3 wr => ∃ k : Nat, k ≤ n ∧ n - k ≤ g ∧ s3 = .int .i64 (k : Int) ∧ wr = w.alloc (.cells (setC no p n c) 24) ∧ Hid ((L.take k).any badN = false))
  case atStart => exact ⟨0, Nat.zero_le _, by omega, rfl, rfl, by rw [List.take_zero]; rfl⟩
  case round =>
    obtain ⟨k, hkn, hg, rfl, rfl, HA⟩ := hrel
    by_cases hlt : k < n
    · have hlz : (k : Int) < (n : Int) := by omega
      obtain ⟨x, hx⟩ : ∃ x, L[k]? = some x := ⟨_, List.getElem?_eq_getElem (by rw [← HL.out]; exact hlt)⟩
      obtain ⟨_, h2⟩ := h1.out
      rcases h2 with h2 | ⟨b, o, rfl, h4, h5⟩
      · rw [h2] at hx; cases hx
      · obtain ⟨c0, c1⟩ := h5 k x hx
        have HX := hidB hx
        clear hx h5
        obtain ⟨xa, xb⟩ := x
        by_cases hx0 : xb < 0
        · have HF := hidB (show checkL L = false by
            have := any_of_at badN L k _ HX.out (by simp [badN, hx0])
            simp only [checkL, this]; simp)
          go_wp2
          go_ret
          exact ⟨by rw [HF.out]; rfl, HB.out⟩
        · by_cases hx1 : 32 < xb
          · have HF := hidB (show checkL L = false by
              have := any_of_at badN L k _ HX.out (by simp [badN, hx1])
              simp only [checkL, this]; simp)
            go_wp2
            go_ret
            exact ⟨by rw [HF.out]; rfl, HB.out⟩
          · have HS := hidB (show (L.take (k + 1)).any badN = false by
              rw [any_take_step badN L k _ HX.out, HA.out]
              simp [badN, hx0, hx1])
            clear HX HA
            go_wp2
            go_roundg (n - (k + 1))
            case measure => omega
            case rel => exact ⟨k + 1, by omega, by omega, by go_num, rfl, HS⟩
    · have hlz : ¬ (k : Int) < (n : Int) := by omega
      have HF := hidB (show checkL L = decide ((n : Int) ≤ 4) by
        have h3 := HA.out
        rw [List.take_of_length_le (by rw [← HL.out]; omega)] at h3
        simp only [checkL, h3, ← HL.out]
        simp
        omega)
      go_wp2
      go_ret
      exact ⟨by rw [HF.out]; rfl, HB.out⟩
theorem vn_any (M : List Vn) (f : Nt → Bool) : (M.map Vn.nt).any f = M.any (fun x => f x.nt) := by rw [List.any_map]; rfl
theorem vn_at {M : List Vn} {k : Nat} {x : Vn} (h : M[k]? = some x) : (M.map Vn.nt)[k]? = some x.nt := by rw [List.getElem?_map, h]; rfl
theorem zero_b (n : Nat) : Value.bool ((n : Int) == 0) = .bool (false || decide (n = 0)) := by
  congr 1
  rw [Bool.eq_iff_iff]
  simp
theorem set_in {w w2 : World} {no : Bool} {p : Option Addr} {n c : Nat} (hb2 : Below (w.alloc (.cells (setC no p n c) 24)).heap.size (w.alloc (.cells (setC no p n c) 24)) w2) :
    w2.cell? ⟨w.heap.size, 0, none⟩ = some (.bool no) ∧ w2.cell? ⟨w.heap.size, 1, none⟩ = some (.slice p n c) := by
  have hZ : w.heap.size < (w.alloc (.cells (setC no p n c) 24)).heap.size := by simp
  exact ⟨(hb2.cell (p := ⟨w.heap.size, 0, none⟩) hZ).trans (by simp), (hb2.cell (p := ⟨w.heap.size, 1, none⟩) hZ).trans (by simp)⟩
set_option maxHeartbeats 2000000 in
theorem rcHas (no : Bool) (p : Option Addr) (c : Nat) (L : List Nt) (a : UInt32) (w : World) (h : Nets w p c L) (h20 : L.length ≤ 20) :
    Calls Tryd.prog 12 #[.agg (setC no p L.length c), .int .u32 (a.toNat : Int)] w fun e w' => e = .returned (.bool (hasL no L a)) ∧ Below w.heap.size w w' := by
  have hb := (Below.refl w.heap.size w).alloc (Nat.le_refl _) (.cells (setC no p L.length c) 24)
  have hck := rcCheck no p c L _ (h.below hb) h20
  by_cases hc : checkL L = true
  · obtain ⟨M, rfl⟩ := vn_of (checkL_ok hc)
    rw [hc] at hck
    have hN := new_alloc w (.cells (setC no p (M.map Vn.nt).length c) 24)
    have h1 := h.below hb
    obtain ⟨n, hn⟩ : ∃ n : Nat, n = (M.map Vn.nt).length := ⟨_, rfl⟩
    have HF := hidB (show hasL no (M.map Vn.nt) a = ((M.any (fun x => inN x.nt a) || decide (n = 0)) != no) by
      simp only [hasL, hc, vn_any, Bool.true_and]
      congr 2
      rw [Bool.eq_iff_iff, List.isEmpty_iff_length_eq_zero, hn]
      simp)
    rw [← hn] at hck hb hN h1 h20 ⊢
    have HB := hidB hb
    have HL := hidB (show n = M.length by rw [hn, List.length_map])
    have HC := hidB hc
    clear hb h hc hn
    have hZ : w.heap.size < (w.alloc (.cells (setC no p n c) 24)).heap.size := by simp
    go_enter Tryd.func12, Tryd.ntmps12
    go_wp2_with (fail)
    refine hck.mono ?_
    rintro e w2 ⟨rfl, hb2⟩
    obtain ⟨d0, d1⟩ := set_in hb2
    have h2 := hidB (h1.below hb2)
    have hz2 : w.heap.size < w2.heap.size := Nat.lt_of_lt_of_le hZ hb2.size
    have HB2 := hidB (HB.out.trans (hb2.mono HB.out.size))
    clear hck hN h1 hb2 hZ HB
    go_wp2
    go_loopg [5, 6] n (fun g s5 s6 wr => ∃ k : Nat, k ≤ n ∧ n - k ≤ g ∧ s6 = .int .i64 (k : Int) ∧ s5 = .bool ((M.take k).any (fun x => inN x.nt a) || decide (n = 0)) ∧ Hid (Below w2.heap.size w2 wr))
    case atStart => exact ⟨0, Nat.zero_le _, by omega, rfl, (zero_b n).trans (by rw [List.take_zero]; rfl), Below.refl _ _⟩
    case round =>
      obtain ⟨k, hkn, hg, rfl, rfl, HR⟩ := hrel
      have f0 : wr.cell? ⟨w.heap.size, 0, none⟩ = some (.bool no) := (HR.out.cell (p := ⟨w.heap.size, 0, none⟩) hz2).trans d0
      have f1 : wr.cell? ⟨w.heap.size, 1, none⟩ = some (.slice p n c) := (HR.out.cell (p := ⟨w.heap.size, 1, none⟩) hz2).trans d1
      by_cases hlt : k < n
      · have hlz : (k : Int) < (n : Int) := by omega
        obtain ⟨x, hx⟩ : ∃ x, M[k]? = some x := ⟨_, List.getElem?_eq_getElem (by rw [← HL.out]; exact hlt)⟩
        have h3 := h2.out.below HR.out
        obtain ⟨_, h3⟩ := h3
        rcases h3 with h3 | ⟨b, o, rfl, h4, h5⟩
        · have := vn_at hx; rw [h3] at this; cases this
        · obtain ⟨c0, c1⟩ := h5 k x.nt (vn_at hx)
          have hcall := rcIn x a wr
          have HS := hidB (show ((M.take (k + 1)).any (fun x => inN x.nt a) || decide (n = 0)) = (((M.take k).any (fun x => inN x.nt a) || decide (n = 0)) || inN x.nt a) by
            rw [any_take_step _ M k x hx]
            cases (M.take k).any (fun x => inN x.nt a) <;> cases inN x.nt a <;> simp)
          generalize inN x.nt a = q at hcall HS
          generalize ((M.take k).any (fun x => inN x.nt a) || decide (n = 0)) = r at HS ⊢
          have HX := hidB hx
          obtain ⟨xa, ⟨xb, hxb⟩⟩ := x
          simp only [ntC, Vn.nt] at hcall c0 c1
          clear hx h5
          cases r with
          | true =>
            clear hcall
            go_wp2
            go_roundg (n - (k + 1))
            case measure => omega
            case rel => exact ⟨k + 1, by omega, by omega, by go_num, by rw [HS.out]; rfl, HR⟩
          | false =>
            go_wp2_with (refine hcall.mono ?_; rintro e w3 ⟨rfl, hb3⟩)
            go_roundg (n - (k + 1))
            case measure => omega
            case rel => exact ⟨k + 1, by omega, by omega, by go_num, by rw [HS.out]; rfl, HR.out.trans (hb3.mono HR.out.size)⟩
      · have hlz : ¬ (k : Int) < (n : Int) := by omega
        have HT := hidB (show (M.take k).any (fun x => inN x.nt a) = M.any (fun x => inN x.nt a) by rw [List.take_of_length_le (by rw [← HL.out]; omega)])
        have HR2 := HR
        clear HR
        go_wp2
        go_ret
        exact ⟨by rw [HF.out, HT.out]; rfl, HB2.out.trans (HR2.out.mono HB2.out.size)⟩
  · have hc : checkL L = false := by simpa using hc
    have HF := hidB (show hasL no L a = false by simp only [hasL, hc, Bool.false_and])
    have HB := hidB hb
    rw [hc] at hck
    go_enter Tryd.func12, Tryd.ntmps12
    go_wp2_with (refine hck.mono ?_; rintro e w2 ⟨rfl, hb2⟩)
    go_ret
    exact ⟨by rw [HF.out]; rfl, HB.out.trans (hb2.mono HB.out.size)⟩
end Go.Proofs.YthhgkiihegmedaaDoor
