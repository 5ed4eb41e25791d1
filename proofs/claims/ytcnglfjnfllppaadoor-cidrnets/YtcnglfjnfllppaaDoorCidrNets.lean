/- CidrNets: for any address, any number of bits, any other address, any bit: an address is in a net just if its first bits are the net's; no condition. -/
import Derived.Test.YtcnglfjnfllppaaDoorLiftTab
import Derived.Test.YtcnglfjnfllppaaDoorLift
import Derived.Test.YtcnglfjnfllppaaDoorTie
import Derived.Test.YtcnglfjnfllppaaDoorCards
import Derived.LaidMore
import Derived.Lay
import Derived.SevenTiedAt
import Derived.Stop.Joined
namespace Go.Proofs.YtcnglfjnfllppaaDoor.cidrNets
open Go.ChangeShapes Go.WideShapes Go.ChangeAt Go.RowKit
set_option linter.unusedVariables false
set_option maxRecDepth 20000
theorem msk_nat : ∀ k : Nat, k < 33 → (msk k).toNat = 2 ^ 32 - (2 ^ (32 - k) - 1 + 1) := by decide
theorem xor_off : ∀ p q : Bool, false = (p ^^ q) → q = p := by decide
theorem and_iff (x y m : Nat) (hx : x < 2 ^ 32) (hy : y < 2 ^ 32) (hm : m ≤ 32) : (y ^^^ x) &&& (2 ^ 32 - (2 ^ m - 1 + 1)) = 0 ↔ x / 2 ^ m = y / 2 ^ m := by
  have hlt : 2 ^ m - 1 < 2 ^ 32 := by
    have := Nat.pow_le_pow_right (n := 2) (by decide) hm
    have := Nat.two_pow_pos m
    omega
  have tb : ∀ i, ((y ^^^ x) &&& (2 ^ 32 - (2 ^ m - 1 + 1))).testBit i = ((y.testBit i ^^ x.testBit i) && (decide (i < 32) && !decide (i < m))) := by
    intro i
    rw [Nat.testBit_and, Nat.testBit_xor, Nat.testBit_two_pow_sub_succ hlt, Nat.testBit_two_pow_sub_one]
  have big : ∀ z i, z < 2 ^ 32 → 32 ≤ i → z.testBit i = false := fun z i hz hi => Nat.testBit_lt_two_pow (Nat.lt_of_lt_of_le hz (Nat.pow_le_pow_right (by decide) hi))
  clear hlt
  constructor
  · intro h
    apply Nat.eq_of_testBit_eq
    intro i
    rw [Nat.testBit_div_two_pow, Nat.testBit_div_two_pow]
    by_cases hi : i + m < 32
    · have := tb (i + m)
      rw [h, Nat.zero_testBit] at this
      have hnm : ¬ (i + m < m) := by omega
      simp only [hi, hnm, decide_true, decide_false, Bool.not_false, Bool.and_true] at this
      exact xor_off _ _ this
    · rw [big x _ hx (by omega), big y _ hy (by omega)]
  · intro h
    apply Nat.eq_of_testBit_eq
    intro i
    rw [tb, Nat.zero_testBit]
    by_cases hi : i < 32
    · by_cases hj : i < m
      · simp [hj]
      · have h2 : (x / 2 ^ m).testBit (i - m) = (y / 2 ^ m).testBit (i - m) := by rw [h]
        rw [Nat.testBit_div_two_pow, Nat.testBit_div_two_pow, show i - m + m = i by omega] at h2
        rw [h2]
        simp
    · simp [hi]
theorem in_same (a b : UInt32) (k : Nat) (hk : k < 33) : inN (a, (k : Int)) b = (decide (k = 0) || decide (a.toNat / 2 ^ (32 - k) = b.toNat / 2 ^ (32 - k))) := by
  have ha := a.toNat_lt
  have hb := b.toNat_lt
  show (((b ^^^ a) &&& msk k) == 0) = _
  rw [Bool.eq_iff_iff, beq_iff_eq, ← UInt32.toNat_inj, UInt32.toNat_and, UInt32.toNat_xor, msk_nat k hk]
  show (b.toNat ^^^ a.toNat) &&& _ = 0 ↔ _
  rw [and_iff a.toNat b.toNat (32 - k) ha hb (by omega), Bool.or_eq_true, decide_eq_true_eq, decide_eq_true_eq]
  constructor
  · exact fun h => .inr h
  · rintro (h | h)
    · subst h
      rw [Nat.div_eq_of_lt ha, Nat.div_eq_of_lt hb]
    · exact h
theorem flip_small : ∀ k : Nat, k < 33 → ∀ f : Nat, f < 32 → ((UInt32.ofNat (2 ^ (31 - f)) &&& msk k) == 0) = decide (k ≤ f) := by decide
theorem in_flip (a : UInt32) (k f : Nat) (hk : k < 33) (hf : f < 32) : inN (a, (k : Int)) (a ^^^ UInt32.ofNat (2 ^ (31 - f))) = decide (k ≤ f) := by
  rw [← flip_small k hk f hf]
  show ((((a ^^^ UInt32.ofNat (2 ^ (31 - f))) ^^^ a) &&& msk k) == 0) = _
  rw [UInt32.xor_comm a, UInt32.xor_assoc, UInt32.xor_self, UInt32.xor_zero]
theorem in_self (a : UInt32) (k : Nat) (hk : k < 33) : inN (a, (k : Int)) a = true := by
  rw [in_same a a k hk]; simp
theorem pow_32 : ∀ f : Nat, f < 32 → ((2 : Int) ^ (31 - f) % 4294967296) = ((UInt32.ofNat (2 ^ (31 - f))).toNat : Int) := by decide
theorem one_net1 (W : World) (a b : Int) (ha : 0 ≤ a := by decide) (x : UInt32 := UInt32.ofNat a.toNat) (hx : (x.toNat : Int) = a := by rfl) : Nets (W.alloc (.cells #[.int .u32 a, .int .i64 b] 35)) (some ⟨W.heap.size, 0, none⟩) 1 [(x, b)] := by
  refine ⟨Nat.le_refl _, .inr ⟨_, _, rfl, by simp, fun j n hj => ?_⟩⟩
  match j, hj with
  | 0, hj => cases hj; exact ⟨by simp [hx], by simp⟩
  | j + 1, hj => cases hj
theorem one_net (w : World) (a : UInt32) (k : Int) (no : Bool) : Nets ((w.alloc (.cells #[.int .u32 (a.toNat : Int), .int .i64 k] 35)).alloc (.cells #[.bool no, .slice (some ⟨w.heap.size, 0, none⟩) 1 1] 24)) (some ⟨w.heap.size, 0, none⟩) 1 [(a, k)] ∧
    Below w.heap.size w ((w.alloc (.cells #[.int .u32 (a.toNat : Int), .int .i64 k] 35)).alloc (.cells #[.bool no, .slice (some ⟨w.heap.size, 0, none⟩) 1 1] 24)) ∧
    w.heap.size + 1 < ((w.alloc (.cells #[.int .u32 (a.toNat : Int), .int .i64 k] 35)).alloc (.cells #[.bool no, .slice (some ⟨w.heap.size, 0, none⟩) 1 1] 24)).heap.size ∧
    ((w.alloc (.cells #[.int .u32 (a.toNat : Int), .int .i64 k] 35)).alloc (.cells #[.bool no, .slice (some ⟨w.heap.size, 0, none⟩) 1 1] 24)).cell? ⟨w.heap.size + 1, 0, none⟩ = some (.bool no) ∧
    ((w.alloc (.cells #[.int .u32 (a.toNat : Int), .int .i64 k] 35)).alloc (.cells #[.bool no, .slice (some ⟨w.heap.size, 0, none⟩) 1 1] 24)).cell? ⟨w.heap.size + 1, 1, none⟩ = some (.slice (some ⟨w.heap.size, 0, none⟩) 1 1) := by
  have b1 := below_more (Below.refl w.heap.size w) (Nat.le_refl _) (.cells #[.int .u32 (a.toNat : Int), .int .i64 k] 35)
  have b2 := below_more b1 (Nat.le_refl _) (.cells #[.bool no, .slice (some ⟨w.heap.size, 0, none⟩) 1 1] 24)
  refine ⟨⟨Nat.le_refl _, .inr ⟨_, _, rfl, by simp; omega, fun j n hj => ?_⟩⟩, b2, by simp, by simp, by simp⟩
  match j, hj with
  | 0, hj => cases hj; exact ⟨by simp, by simp⟩
  | j + 1, hj => cases hj
theorem wr_f (f : Nat) (hf : f < 32) : wrap64 (31 - (f : Int)) = ((31 - f : Nat) : Int) ∧ wrap64 (33 + (f : Int)) = 33 + (f : Int) ∧ wrap64 (-1 - (f : Int)) = -1 - (f : Int) := by
  refine ⟨?_, ?_, ?_⟩ <;> (rw [wrap64]; omega)
theorem wr_k (k : Nat) (hk : k < 33) : wrap64 (32 - (k : Int)) = ((32 - k : Nat) : Int) := by rw [wrap64]; omega
set_option maxHeartbeats 2000000 in
theorem walk (a : UInt32) (bits : Int) (hbits : (Lit.int .i64 bits).wf = true) (b : UInt32) (flip : Int) (hflip : (Lit.int .i64 flip).wf = true) (w : World) (hM : Mks w) (hT : Tb w) :
    Calls Tryd.prog 5 #[.int .u32 (a.toNat : Int), .int .i64 bits, .int .u32 (b.toNat : Int), .int .i64 flip] w fun e w' => e = .returned (.bool true) ∧ Below w.heap.size w w' := by
  obtain ⟨k, hk⟩ : ∃ x : Nat, bits % 33 = (x : Int) := ⟨(bits % 33).toNat, by omega⟩
  obtain ⟨f, hf⟩ : ∃ x : Nat, flip % 32 = (x : Int) := ⟨(flip % 32).toNat, by omega⟩
  have p1 := fun w => place_any bits 33 w (by omega) (by omega)
  have p2 := fun w => place_any flip 32 w (by omega) (by omega)
  rw [hk] at p1
  rw [hf] at p2
  have hk33 : k < 33 := by omega
  have hf32 : f < 32 := by omega
  have HM := hidB hM
  have HT := hidB hT
  clear hM hT hk hf hbits hflip
  have hl := lit_net w (a.toNat : Int) (k : Int)
  go_enter Tryd.func5, Tryd.ntmps5
  go_wp2_with (fail)
  refine (p1 _).mono ?_
  rintro e w' ⟨rfl, rfl⟩
  go_wp2_with (fail)
  refine (p2 _).mono ?_
  rintro e w' ⟨rfl, rfl⟩
  clear p1 p2
  obtain ⟨C, hC⟩ : ∃ C : UInt32, C = a ^^^ UInt32.ofNat (2 ^ (31 - f)) := ⟨_, rfl⟩
  have hxc : Go.bits .xor .u32 (a.toNat : Int) (2 ^ (31 - f) % 4294967296) = (C.toNat : Int) := by rw [pow_32 f hf32, xor_u32, hC]
  have ic := in_flip a k f hk33 hf32
  rw [← hC] at ic
  have is := in_self a k hk33
  have ib := in_same a b k hk33
  have hck : checkL [(a, (k : Int))] = true := by
    have h1 : ¬ ((k : Int) < 0) := by omega
    have h2 : ¬ (32 < (k : Int)) := by omega
    simp [checkL, badN, h1, h2]
  have hH := fun (x : UInt32) (W : World) (p : Option Addr) (c : Nat) (hM : Mks W) (hN : Nets W p c [(a, (k : Int))]) => ciHas false p c [(a, (k : Int))] x W hM hN (by simp)
  have hHv : ∀ x, hasL false [(a, (k : Int))] x = inN (a, (k : Int)) x := fun x => by simp [hasL, hck]
  have hc1 := fun (W : World) (p : Option Addr) (c : Nat) (hN : Nets W p c [((0 : UInt32), 33 + (f : Int))]) => ciCheck false p c [((0 : UInt32), 33 + (f : Int))] W hN (by simp)
  have hc2 := fun (W : World) (p : Option Addr) (c : Nat) (hN : Nets W p c [((0 : UInt32), -1 - (f : Int))]) => ciCheck false p c [((0 : UInt32), -1 - (f : Int))] W hN (by simp)
  rw [show checkL [((0 : UInt32), 33 + (f : Int))] = false by simp [checkL, badN]; omega] at hc1
  rw [show checkL [((0 : UInt32), -1 - (f : Int))] = false by simp [checkL, badN]; omega] at hc2
  simp only [List.length_cons, List.length_nil, Nat.zero_add, hHv] at hH hc1 hc2
  have hl1 := fun W => lit_net W 0 (33 + (f : Int))
  have hl2 := fun W => lit_net W 0 (-1 - (f : Int))
  have hN0 := one_net w a (k : Int) false
  have HS : Hid ((decide (k = 0) || decide (a.toNat / 2 ^ (32 - k) = b.toNat / 2 ^ (32 - k))) = inN (a, (k : Int)) b) := hidB ib.symm
  have hge : decide ((k : Int) ≤ (f : Int)) = decide (k ≤ f) := by simp
  have hHa := hH a
  have hHb := hH b
  have hHc := hH C
  rw [is] at hHa
  rw [ic] at hHc
  generalize inN (a, (k : Int)) b = S at hHb HS
  have hge2 : decide (k ≤ f) = decide (k ≤ f) := rfl
  generalize hG0 : decide (k ≤ f) = G at hHc hge
  clear hge2
  have HN0 := hidB hN0
  clear hH hHv ic is ib hck hN0 hC
  have hk1 : k ≠ 0 → ((k : Int) == 0) = false := fun h => by simp; omega
  obtain ⟨w1, w3, w4⟩ := wr_f f hf32
  have w2 := wr_k k hk33
  by_cases hk0 : k = 0
  · subst hk0
    have hS : S = true := by rw [← HS.out]; rfl
    subst hS
    have hG : G = true := by rw [← hG0]; simp
    subst hG
    clear hge hG0
    clear HS
    go_upto_region 6 with fail
    generalize hW0 : (w.alloc (.cells #[.int .u32 (a.toNat : Int), .int .i64 0] 35)).alloc (.cells #[.bool false, .slice (some ⟨w.heap.size, 0, none⟩) 1 1] 24) = W0
    have HQ : Hid (Nets W0 (some ⟨w.heap.size, 0, none⟩) 1 [(a, ((0 : Nat) : Int))] ∧ Below w.heap.size w W0 ∧ w.heap.size + 1 < W0.heap.size ∧ W0.cell? ⟨w.heap.size + 1, 0, none⟩ = some (.bool false) ∧ W0.cell? ⟨w.heap.size + 1, 1, none⟩ = some (.slice (some ⟨w.heap.size, 0, none⟩) 1 1)) := by
      rw [← hW0]; exact HN0.out
    clear hW0 HN0 hl
    have g0 := HQ.out.2.2.2.1
    have g1 := HQ.out.2.2.2.2
    have z0 := HQ.out.2.2.1
    have hHa := hHa W0 _ _ (HM.out.below HQ.out.2.1) HQ.out.1
    go_wp2_with (fail)
    refine hHa.mono ?_
    rintro e w2 ⟨rfl, hb2⟩
    have H2 := hidB hb2
    have hHb := hHb w2 _ _ ((HM.out.below HQ.out.2.1).below hb2) (HQ.out.1.below hb2)
    have f0 := (hb2.cell (p := ⟨w.heap.size + 1, 0, none⟩) z0).trans g0
    have f1 := (hb2.cell (p := ⟨w.heap.size + 1, 1, none⟩) z0).trans g1
    clear hb2 hHa
    go_wp2_with (fail)
    refine hHb.mono ?_
    rintro e w3' ⟨rfl, hb3⟩
    have H3 := hidB (H2.out.trans (hb3.mono H2.out.size))
    have hHc := hHc w3' _ _ ((HM.out.below HQ.out.2.1).below H3.out) (HQ.out.1.below H3.out)
    have f2 := (H3.out.cell (p := ⟨w.heap.size + 1, 0, none⟩) z0).trans g0
    have f3 := (H3.out.cell (p := ⟨w.heap.size + 1, 1, none⟩) z0).trans g1
    clear hb3 hHb f0 f1 H2
    go_wp2_with (fail)
    refine hHc.mono ?_
    rintro e w4' ⟨rfl, hb4⟩
    have H4 := hidB (H3.out.trans (hb4.mono H3.out.size))
    have hn4 := one_net1 w4' 0 (33 + (f : Int))
    have hc1 := hc1 _ _ _ hn4
    have HA4 := hidB (H4.out.trans ((below_more (Below.refl w4'.heap.size w4') (Nat.le_refl _) (.cells #[.int .u32 0, .int .i64 (33 + (f : Int))] 35)).mono H4.out.size))
    clear hb4 hHc f2 f3 H3 hn4
    go_wp2_with (fail)
    refine hc1.mono ?_
    rintro e w5 ⟨rfl, hb5⟩
    have H5 := hidB (HA4.out.trans (hb5.mono HA4.out.size))
    have hn5 := one_net1 w5 0 (-1 - (f : Int))
    have hc2 := hc2 _ _ _ hn5
    have HA5 := hidB (H5.out.trans ((below_more (Below.refl w5.heap.size w5) (Nat.le_refl _) (.cells #[.int .u32 0, .int .i64 (-1 - (f : Int))] 35)).mono H5.out.size))
    clear hb5 hc1 H4 HA4 hn5
    go_wp2_with (fail)
    refine hc2.mono ?_
    rintro e w6 ⟨rfl, hb6⟩
    have H6 := hidB (HQ.out.2.1.trans ((HA5.out.trans (hb6.mono HA5.out.size)).mono HQ.out.2.1.size))
    have hA := ciAwake w6 (HM.out.below H6.out) (HT.out.below H6.out)
    clear hb6 hc2 H5 HA5
    go_wp2_with (fail)
    refine hA.mono ?_
    rintro e w7 ⟨rfl, hb7⟩
    have H7 := hidB (H6.out.trans (hb7.mono H6.out.size))
    clear hb7 hA
    go_wp2_with (fail)
    go_ret
    exact ⟨rfl, H7.out⟩
  · have hk0' := hk1 hk0
    have hS : ((a.toNat : Int) / 2 ^ (32 - k) == (b.toNat : Int) / 2 ^ (32 - k)) = S := by
      rw [← HS.out, decide_eq_false hk0, Bool.false_or, Bool.eq_iff_iff, beq_iff_eq, decide_eq_true_eq]
      rw [show (a.toNat : Int) / 2 ^ (32 - k) = ((a.toNat / 2 ^ (32 - k) : Nat) : Int) by push_cast; rfl, show (b.toNat : Int) / 2 ^ (32 - k) = ((b.toNat / 2 ^ (32 - k) : Nat) : Int) by push_cast; rfl]
      exact Int.ofNat_inj
    clear HS
    go_upto_region 6 with fail
    generalize hW0 : (w.alloc (.cells #[.int .u32 (a.toNat : Int), .int .i64 (k : Int)] 35)).alloc (.cells #[.bool false, .slice (some ⟨w.heap.size, 0, none⟩) 1 1] 24) = W0
    have HQ : Hid (Nets W0 (some ⟨w.heap.size, 0, none⟩) 1 [(a, (k : Int))] ∧ Below w.heap.size w W0 ∧ w.heap.size + 1 < W0.heap.size ∧ W0.cell? ⟨w.heap.size + 1, 0, none⟩ = some (.bool false) ∧ W0.cell? ⟨w.heap.size + 1, 1, none⟩ = some (.slice (some ⟨w.heap.size, 0, none⟩) 1 1)) := by
      rw [← hW0]; exact HN0.out
    clear hW0 HN0 hl
    have g0 := HQ.out.2.2.2.1
    have g1 := HQ.out.2.2.2.2
    have z0 := HQ.out.2.2.1
    have hHa := hHa W0 _ _ (HM.out.below HQ.out.2.1) HQ.out.1
    go_wp2_with (fail)
    refine hHa.mono ?_
    rintro e w2 ⟨rfl, hb2⟩
    have H2 := hidB hb2
    have hHb := hHb w2 _ _ ((HM.out.below HQ.out.2.1).below hb2) (HQ.out.1.below hb2)
    have f0 := (hb2.cell (p := ⟨w.heap.size + 1, 0, none⟩) z0).trans g0
    have f1 := (hb2.cell (p := ⟨w.heap.size + 1, 1, none⟩) z0).trans g1
    clear hb2 hHa
    go_wp2_with (fail)
    refine hHb.mono ?_
    rintro e w3' ⟨rfl, hb3⟩
    have H3 := hidB (H2.out.trans (hb3.mono H2.out.size))
    have hHc := hHc w3' _ _ ((HM.out.below HQ.out.2.1).below H3.out) (HQ.out.1.below H3.out)
    have f2 := (H3.out.cell (p := ⟨w.heap.size + 1, 0, none⟩) z0).trans g0
    have f3 := (H3.out.cell (p := ⟨w.heap.size + 1, 1, none⟩) z0).trans g1
    clear hb3 hHb f0 f1 H2
    go_wp2_with (fail)
    refine hHc.mono ?_
    rintro e w4' ⟨rfl, hb4⟩
    have H4 := hidB (H3.out.trans (hb4.mono H3.out.size))
    have hn4 := one_net1 w4' 0 (33 + (f : Int))
    have hc1 := hc1 _ _ _ hn4
    have HA4 := hidB (H4.out.trans ((below_more (Below.refl w4'.heap.size w4') (Nat.le_refl _) (.cells #[.int .u32 0, .int .i64 (33 + (f : Int))] 35)).mono H4.out.size))
    clear hb4 hHc f2 f3 H3 hn4
    go_wp2_with (fail)
    refine hc1.mono ?_
    rintro e w5 ⟨rfl, hb5⟩
    have H5 := hidB (HA4.out.trans (hb5.mono HA4.out.size))
    have hn5 := one_net1 w5 0 (-1 - (f : Int))
    have hc2 := hc2 _ _ _ hn5
    have HA5 := hidB (H5.out.trans ((below_more (Below.refl w5.heap.size w5) (Nat.le_refl _) (.cells #[.int .u32 0, .int .i64 (-1 - (f : Int))] 35)).mono H5.out.size))
    clear hb5 hc1 H4 HA4 hn5
    go_wp2_with (fail)
    refine hc2.mono ?_
    rintro e w6 ⟨rfl, hb6⟩
    have H6 := hidB (HQ.out.2.1.trans ((HA5.out.trans (hb6.mono HA5.out.size)).mono HQ.out.2.1.size))
    have hA := ciAwake w6 (HM.out.below H6.out) (HT.out.below H6.out)
    clear hb6 hc2 H5 HA5
    go_wp2_with (fail)
    refine hA.mono ?_
    rintro e w7 ⟨rfl, hb7⟩
    have H7 := hidB (H6.out.trans (hb7.mono H6.out.size))
    clear hb7 hA
    go_wp2_with (fail)
    go_ret
    exact ⟨rfl, H7.out⟩
/-! ### THE ROW's STEP: variables laid, a tied card -/
set_option maxRecDepth 100000 in
theorem lifted (os : Os) (started : os.Started) (H : Type) (enc : TypeId × Value → H) :
    ReturnsInHanded {} Tryd.checked os 5 .any (fun w args => (Rows.cidrNetsSpec.pre enc Tryd.prog Tryd.f5 Rows.cidrNetsRow.domain false w args ∧ laidMetH Tryd.prog Rows.cidrNetsRow.laid w) ∧ sizedMet enc Tryd.prog Tryd.f5 (OpenSpec.ofChange Rows.cidrNetsSpec) false w args)
      (Rows.cidrNetsSpec.post enc Tryd.prog Tryd.f5 false true false false) := by
  refine returnsInHanded_of_change_and (C := Tryd.checked) (X := fun w _ => laidMetH Tryd.prog Rows.cidrNetsRow.laid w) (fun _ _ _ hh h => h.of_heap hh) own started (by kernel_rfl) Tryd.func5
    (ChangeSpec.witness_shaped (enc := enc) (C := Tryd.checked) (os := os) (X := fun w _ => laidMetH Tryd.prog Rows.cidrNetsRow.laid w) false (World.laidAll Tryd.prog os Rows.cidrNetsRow.laid) #[.int .u32 0, .int .i64 0, .int .u32 0, .int .i64 0] 8 (World.laidAll_os _ _ _)
      (World.shaped_of_ZipB (by kernel_rfl) (by kernel_rfl)) (by kernel_rfl) (by kernel_rfl) (by kernel_rfl)
      (by rw [MakeChecks.laidMetH_plain _ _ _ (by kernel_rfl)]; exact laidMet_laidAll _ (by kernel_rfl) (by kernel_rfl))) ?_
  intro W base args ds gs before hval0 hW _ _ hL _
  have hval : ∀ (j : Nat) t v, Tryd.f5.params[j]? = some t → args[j]? = some v → Value.okWide Tryd.prog W .any base t v := hval0
  have hW' := hW
  obtain ⟨p, q, hA0, hV, rfl, hfz, hnd⟩ := hW
  have hA : DataW.TrodAll enc Tryd.prog W 0 (fun _ => true) true Tryd.f5.params.toList args.toList ds p := hA0
  have hB := fun (W' : World) (bel : Below W.heap.size W W') => below_trodAll_of laidOut bel _ (by kernel_rfl) hA
  rw [Tryd.params5] at hA hval
  obtain ⟨v0, vs0, d0, ds0, p0, q0, hargs, rfl, rfl, h0, r0⟩ := trodAll_cons hA
  obtain ⟨v1, vs1, d1, ds1, p1, q1, rfl, rfl, rfl, h1, r1⟩ := trodAll_cons r0
  obtain ⟨v2, vs2, d2, ds2, p2, q2, rfl, rfl, rfl, h2, r2⟩ := trodAll_cons r1
  obtain ⟨v3, vs3, d3, ds3, p3, q3, rfl, rfl, rfl, h3, r3⟩ := trodAll_cons r2
  obtain ⟨rfl, rfl, rfl⟩ := trodAll_nil r3
  obtain rfl : args = #[v0, v1, v2, v3] := by cases args; simp_all
  obtain ⟨rfl, rfl⟩ := trodVars_none hV
  obtain ⟨a0, rfl, rfl, rfl, w0⟩ := open_int Tryd.underlying25 (hval 0 25 v0 rfl rfl) h0
  obtain ⟨x0, rfl⟩ := u32_lit w0
  obtain ⟨a1, rfl, rfl, rfl, w1⟩ := open_int Tryd.underlying3 (hval 1 3 v1 rfl rfl) h1
  obtain ⟨a2, rfl, rfl, rfl, w2⟩ := open_int Tryd.underlying25 (hval 2 25 v2 rfl rfl) h2
  obtain ⟨x2, rfl⟩ := u32_lit w2
  obtain ⟨a3, rfl, rfl, rfl, w3⟩ := open_int Tryd.underlying3 (hval 3 3 v3 rfl rfl) h3
  clear hA0 hval0
  refine (walk x0 a1 w1 x2 a3 w3 W (mks_of hL) (tab_pow hL)).mono fun e W' ⟨he, bel⟩ => ?_
  subst he
  exact ⟨_, rfl, _, _, _, [], _, [], hW', trodAll_mk1 (shut_bool Tryd.underlying4 _), hB W' bel, rfl, bel.frame _, fun h => by cases h⟩

theorem over : Rows.CidrNetsSaid :=
  OpenClaim.holds_of_wide 5 Tryd.f5 rfl rfl rfl rfl rfl rfl rfl ⟨rfl, rfl, rfl, rfl, rfl⟩ rfl rfl rfl rfl rfl (by kernel_rfl) Tryd.func5 (by kernel_rfl)
    (of_decide_eq_true (by kernel_rfl)) (by unfold Func.isWrapper; first | (rw [if_pos (by decide +kernel)]; kernel_rfl) | (rw [if_neg (by decide +kernel)]; exact ⟨rfl, rfl⟩))
    (fun os started H enc _ => lifted os started H enc)

/-- THE STATEMENT: the card -/
theorem proved : Rows.CidrNetsCardSaid :=
  Claim7.holds_tied_plain_at .later [] [.data, .data, .data, .data] true (true, "5e3d923d2ccd30a7cb2f00fb2e251b9ea31824a73c9dcfd24af9987084c360a6") false over (fun _ h => by cases h) (by kernel_rfl) (fun _ h => by cases h) cidrNets_row_tie rfl ⟨rfl, rfl⟩ (by kernel_rfl) rfl
    (fun f fn hf hfn => by
      obtain rfl : f = 5 := Option.some.inj ((show Tryd.prog.funcNamed "rampart/rampartlaw09.CidrNets" = some 5 by kernel_rfl).symm.trans hf) |>.symm
      obtain rfl : fn = Tryd.f5 := (Option.some.inj (Tryd.func5.symm.trans hfn)).symm
      exact ⟨by kernel_rfl, fun j t ht => by
        rw [Tryd.params5] at ht
        have hm : t ∈ [25, 3, 25, 3] := by simpa using Array.mem_of_getElem? ht
        have hall : ([25, 3, 25, 3].all fun u => !Tryd.prog.wantsStandIn u) = true := by kernel_rfl
        exact (show Tryd.prog.wantsStandIn t = false by simpa using List.all_eq_true.1 hall t hm)⟩)
    (by kernel_rfl)
#print axioms proved
end Go.Proofs.YtcnglfjnfllppaaDoor.cidrNets
