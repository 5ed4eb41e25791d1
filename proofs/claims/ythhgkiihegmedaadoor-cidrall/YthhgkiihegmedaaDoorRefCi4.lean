/- Layer 9's own answer: dotted, the same. -/
import Derived.Test.YthhgkiihegmedaaDoorRefCi3
import Derived.Deep.CutRange
import Derived.Deep.DeepCutAuto
namespace Go.Proofs.YthhgkiihegmedaaDoor
open Go.RowKit
set_option linter.unusedVariables false
set_option maxRecDepth 20000
/-- four numbers with points between -/
def dotL (x y z u : Nat) : List UInt8 := Lib.decDigits x ++ [46] ++ Lib.decDigits y ++ [46] ++ Lib.decDigits z ++ [46] ++ Lib.decDigits u
def dotA (a : UInt32) : List UInt8 := dotL (a.toNat / 16777216) (a.toNat / 65536 % 256) (a.toNat / 256 % 256) (a.toNat % 256)
theorem dec_le3 (v : Nat) (h : v < 256) : (Lib.decDigits v).length ≤ 3 := dec_len 3 v (by omega) (by omega)
theorem wrap_small (n : Nat) (h : n < 256) : wrap64 (n : Int) = (n : Int) := by rw [wrap64]; omega
theorem ofNat32s (n : Nat) (h : n < 4294967296) : (BitVec.ofInt 32 (n : Int)).toNat = n := by
  rw [BitVec.ofInt_natCast, BitVec.toNat_ofNat]
  exact Nat.mod_eq_of_lt (by omega)
theorem and_255 (n : Nat) (h : n < 4294967296) : bits .and .u32 (n : Int) 255 = ((n % 256 : Nat) : Int) := by
  show IntKind.u32.wrap ((BitVec.ofInt 32 (n : Int) &&& BitVec.ofInt 32 ((255 : Nat) : Int)).toNat : Nat) = _
  rw [BitVec.toNat_and, ofNat32s n h, ofNat32s 255 (by omega)]
  rw [show n &&& 255 = n % 256 from Nat.and_two_pow_sub_one_eq_mod n 8]
  show ((n % 256 : Nat) : Int) % 4294967296 = _
  omega
theorem dot_nums (a : UInt32) (x y z u : Nat) (hx : x = a.toNat / 16777216) (hy : y = a.toNat / 65536 % 256) (hz : z = a.toNat / 256 % 256) (hu : u = a.toNat % 256) :
    wrap64 ((a.toNat : Int) / 16777216) = (x : Int) ∧ bits .and .u32 ((a.toNat : Int) / 65536) 255 = (y : Int) ∧ bits .and .u32 ((a.toNat : Int) / 256) 255 = (z : Int) ∧ bits .and .u32 (a.toNat : Int) 255 = (u : Int) ∧
      wrap64 (y : Int) = (y : Int) ∧ wrap64 (z : Int) = (z : Int) ∧ wrap64 (u : Int) = (u : Int) := by
  have ha := a.toNat_lt
  have e1 : (a.toNat : Int) / 16777216 = (x : Int) := by omega
  refine ⟨?_, ?_, ?_, ?_, wrap_small y (by omega), wrap_small z (by omega), wrap_small u (by omega)⟩
  · rw [e1, wrap_small x (by omega)]
  · rw [show (a.toNat : Int) / 65536 = ((a.toNat / 65536 : Nat) : Int) by omega, and_255 _ (by omega), hy]
  · rw [show (a.toNat : Int) / 256 = ((a.toNat / 256 : Nat) : Int) by omega, and_255 _ (by omega), hz]
  · rw [and_255 _ (by omega), hu]
set_option maxHeartbeats 1000000 in
theorem rcDotted (a : UInt32) (w : World) :
    Calls Tryd.prog 16 #[.int .u32 (a.toNat : Int)] w fun e w' => e = .returned (.string (sL (dotA a))) ∧ Below w.heap.size w w' := by
  have ha := a.toNat_lt
  obtain ⟨x, hx⟩ : ∃ x : Nat, x = a.toNat / 16777216 := ⟨_, rfl⟩
  obtain ⟨y, hy⟩ : ∃ y : Nat, y = a.toNat / 65536 % 256 := ⟨_, rfl⟩
  obtain ⟨z, hz⟩ : ∃ z : Nat, z = a.toNat / 256 % 256 := ⟨_, rfl⟩
  obtain ⟨u, hu⟩ : ∃ u : Nat, u = a.toNat % 256 := ⟨_, rfl⟩
  have bx : x < 256 := by omega
  have by' : y < 256 := by omega
  have bz : z < 256 := by omega
  have bu : u < 256 := by omega
  clear ha
  have D1 := fun w => rcDec x (by omega) w
  have D2 := fun w => rcDec y (by omega) w
  have D3 := fun w => rcDec z (by omega) w
  have D4 := fun w => rcDec u (by omega) w
  have l1 := dec_le3 x (by omega)
  have l2 := dec_le3 y (by omega)
  have l3 := dec_le3 z (by omega)
  have l4 := dec_le3 u (by omega)
  have HE : Hid (dotA a = dotL x y z u) := hidB (by unfold dotA; rw [hx, hy, hz, hu])
  unfold dotL at HE
  generalize Lib.decDigits x = X at D1 l1 HE
  generalize Lib.decDigits y = Y at D2 l2 HE
  generalize Lib.decDigits z = Z at D3 l3 HE
  generalize Lib.decDigits u = U at D4 l4 HE
  have ad1 := fun w => addL (P := Tryd.prog) X [46] (by omega) (by simp) w
  have ad2 := fun w => addL (P := Tryd.prog) (X ++ [46]) Y (by simp; omega) (by omega) w
  have ad3 := fun w => addL (P := Tryd.prog) (X ++ [46] ++ Y) [46] (by simp; omega) (by simp) w
  have ad4 := fun w => addL (P := Tryd.prog) (X ++ [46] ++ Y ++ [46]) Z (by simp; omega) (by omega) w
  have ad5 := fun w => addL (P := Tryd.prog) (X ++ [46] ++ Y ++ [46] ++ Z) [46] (by simp; omega) (by simp) w
  have ad6 := fun w => addL (P := Tryd.prog) (X ++ [46] ++ Y ++ [46] ++ Z ++ [46]) U (by simp; omega) (by omega) w
  generalize X ++ [46] ++ Y ++ [46] ++ Z ++ [46] ++ U = T6 at ad6 HE
  generalize X ++ [46] ++ Y ++ [46] ++ Z ++ [46] = T5 at ad5 ad6
  generalize X ++ [46] ++ Y ++ [46] ++ Z = T4 at ad4 ad5
  generalize X ++ [46] ++ Y ++ [46] = T3 at ad3 ad4
  generalize X ++ [46] ++ Y = T2 at ad2 ad3
  generalize X ++ [46] = T1 at ad1 ad2
  have e46 : sL [46] = ⟨#[46]⟩ := rfl
  rw [e46] at ad1 ad3 ad5
  clear l1 l2 l3 l4 e46 bx by' bz bu
  obtain ⟨gx, gy0, gz0, gu0, gy, gz, gu⟩ := dot_nums a x y z u hx hy hz hu
  clear hx hy hz hu
  go_enter Tryd.func16, Tryd.ntmps16
  go_wp2_with (fail)
  refine (D1 _).mono ?_
  rintro e w1 ⟨rfl, hb1⟩
  have H1 := hidB hb1; clear hb1
  go_wp2_with (fail)
  refine (D2 _).mono ?_
  rintro e w2 ⟨rfl, hb2⟩
  have H2 := hidB (H1.out.trans (hb2.mono H1.out.size)); clear hb2
  go_wp2_with (fail)
  refine (D3 _).mono ?_
  rintro e w3 ⟨rfl, hb3⟩
  have H3 := hidB (H2.out.trans (hb3.mono H2.out.size)); clear hb3
  go_wp2_with (fail)
  refine (D4 _).mono ?_
  rintro e w4 ⟨rfl, hb4⟩
  have H4 := hidB (H3.out.trans (hb4.mono H3.out.size)); clear hb4
  go_wp2_with (fail)
  go_ret
  exact ⟨by rw [HE.out]; rfl, H4.out⟩
set_option maxHeartbeats 2000000 in
/-- the same: that is all that is asked of it -/
theorem rcSame (no : Bool) (p q : Option Addr) (c d : Nat) (L : List Nt) (w : World) (h : Nets w p c L) (k : Nets w q d L) (h20 : L.length ≤ 20) :
    Calls Tryd.prog 7 #[.agg (setC no p L.length c), .agg (setC no q L.length d)] w fun e w' => e = .returned (.bool true) ∧ Below w.heap.size w w' := by
  have hb := ((Below.refl w.heap.size w).alloc (Nat.le_refl _) (.cells (setC no p L.length c) 24)).alloc (by simp) (.cells (setC no q L.length d) 24)
  have h1 := hidB (h.below hb)
  have k1 := hidB (k.below hb)
  have HB := hidB hb
  clear hb h k
  obtain ⟨n, hn⟩ : ∃ n : Nat, n = L.length := ⟨_, rfl⟩
  have HL := hidB hn
  rw [← hn] at h1 k1 HB h20 ⊢
  clear hn
  go_enter Tryd.func7, Tryd.ntmps7
  go_wp2_with (fail)
  obtain ⟨w1, hw1⟩ : ∃ w1, w1 = (w.alloc (.cells (setC no p n c) 24)).alloc (.cells (setC no q n d) 24) := ⟨_, rfl⟩
  have e0 : w1.cell? ⟨w.heap.size, 1, none⟩ = some (.slice p n c) := by rw [hw1]; simp
  have e1 : w1.cell? ⟨w.heap.size + 1, 1, none⟩ = some (.slice q n d) := by rw [hw1]; simp
  have z1 : w.heap.size < w1.heap.size := by rw [hw1]; simp; omega
  have z2 : w.heap.size + 1 < w1.heap.size := by rw [hw1]; simp
  rw [← hw1] at h1 k1 HB ⊢
  clear hw1
  go_loopg [5] n (fun g s5 wr => ∃ k : Nat, k ≤ n ∧ n - k ≤ g ∧ s5 = .int .i64 (k : Int) ∧ Hid (Below w1.heap.size w1 wr))
  case atStart => exact ⟨0, Nat.zero_le _, by omega, rfl, Below.refl _ _⟩
  case round =>
    obtain ⟨k, hkn, hg, rfl, HR⟩ := hrel
    have f0 : wr.cell? ⟨w.heap.size, 1, none⟩ = some (.slice p n c) := (HR.out.cell (p := ⟨w.heap.size, 1, none⟩) z1).trans e0
    have f1 : wr.cell? ⟨w.heap.size + 1, 1, none⟩ = some (.slice q n d) := (HR.out.cell (p := ⟨w.heap.size + 1, 1, none⟩) z2).trans e1
    by_cases hlt : k < n
    · have hlz : (k : Int) < (n : Int) := by omega
      obtain ⟨x, hx⟩ : ∃ x, L[k]? = some x := ⟨_, List.getElem?_eq_getElem (by rw [← HL.out]; exact hlt)⟩
      obtain ⟨_, h3⟩ := h1.out.below HR.out
      obtain ⟨_, k3⟩ := k1.out.below HR.out
      have r1 : w.heap.size < wr.heap.size := Nat.lt_of_lt_of_le z1 HR.out.size
      have r2 : w.heap.size + 1 < wr.heap.size := Nat.lt_of_lt_of_le z2 HR.out.size
      rcases h3 with h3 | ⟨b, o, rfl, h4, h5⟩
      · rw [h3] at hx; cases hx
      · rcases k3 with k3 | ⟨b2, o2, rfl, k4, k5⟩
        · rw [k3] at hx; cases hx
        · obtain ⟨c0, c1⟩ := h5 k x hx
          obtain ⟨d0, d1⟩ := k5 k x hx
          obtain ⟨xa, xb⟩ := x
          clear hx h5 k5 e0 e1 z1 z2
          simp only at c0 c1 d0 d1
          have hcl := Cls.cell (w := wr)
          generalize xa.toNat = A at c0 d0
          have b1 : ((A : Int) != (A : Int)) = false := by simp
          have b2' : (xb != xb) = false := by simp
          go_upto_region 6 with fail
          refine wp_region_calm (by kernel_rfl) (by kernel_rfl) (fun hne => ?_)
          repeat (go_big_quiet_step (fail))
          refine wpQuiet_nil ?_
          rintro _ ⟨y, rfl⟩
          have HY := hidB (HR.out.trans (y.bel.mono HR.out.size))
          clear hcl hne c0 c1 d0 d1 f0 f1
          go_wp2
          go_roundg (n - (k + 1))
          case measure => omega
          case rel => exact ⟨k + 1, by omega, by omega, by go_num, HY⟩
    · have hlz : ¬ (k : Int) < (n : Int) := by omega
      have HR2 := HR
      clear HR
      go_wp2
      go_ret
      exact ⟨rfl, HB.out.trans (HR2.out.mono HB.out.size)⟩
end Go.Proofs.YthhgkiihegmedaaDoor
