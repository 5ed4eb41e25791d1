/- SumNumbers: for any two numbers, the bytes of the one (as many as the other says, below 8) are as many as asked and give back the number that these bytes hold, with a byte 0 ahead too; fewer than none are none, more than eight are eight; no condition. -/
import Derived.Test.YtlphmpmfolngnaaAwake
import Derived.WalkKit
import Derived.ProofKit
import Derived.OpenShut
import Derived.ShutString
namespace Go.Proofs.Ytlphmpmfolngnaa.sumNumbers
open Go.ChangeShapes Go.WideShapes Go.ChangeAt Go.RowKit
open Go.ChangeMaps (open_string shut_string)
set_option linter.unusedVariables false      -- a walk need not use every 'w<i>' (that an integer argument fits its kind)

theorem own : ownKnob Try.prog.godebug = none := by kernel_rfl

theorem big_lit (x n : Int) (K : Nat) (w : World) (h : cut8 n = K) :
    Calls Try.prog 13 #[.int .i64 x, .int .i64 n] w fun e w' => e = .returned (.string ⟨(Pl.bigL x K).toArray⟩) ∧ Below w.heap.size w w' := by
  have hb := big_any x n w
  rw [h] at hb
  exact hb
theorem num_of (l : List UInt8) (w : World) (r : Int) (hl : l.length ≤ 8) (h : Pl.numL (Pl.last7 l) = r) :
    Calls Try.prog 15 #[.string ⟨l.toArray⟩] w fun e w' => e = .returned (.int .i64 r) ∧ w = w' := by
  have hn := num_any ⟨l.toArray⟩ w (by show l.toArray.size ≤ _; simp; omega)
  have e : Pl.numL (Pl.last7 (⟨l.toArray⟩ : ByteArray).data.toList) = r := h
  rw [e] at hn
  exact hn
theorem numL_zero (l : List UInt8) : Pl.numL (0 :: l) = Pl.numL l := by
  unfold Pl.numL
  rfl
theorem last7_short (l : List UInt8) (h : l.length ≤ 7) : Pl.last7 l = l := by
  unfold Pl.last7
  rw [show l.length - 7 = 0 from by omega]
  rfl
theorem num_zero (l : List UInt8) (h : l.length ≤ 7) : Pl.numL (Pl.last7 (0 :: l)) = Pl.numL l := by
  by_cases e : l.length = 7
  · unfold Pl.last7
    rw [List.length_cons, e]
    rfl
  · rw [last7_short _ (by simp; omega), numL_zero]
theorem val_big (x : Int) (K : Nat) (m : Int) (hK : K ≤ 7) (hm : x % 256 ^ K = m) : Pl.numL (Pl.last7 (Pl.bigL x K)) = m ∧ Pl.numL (Pl.last7 (0 :: Pl.bigL x K)) = m := by
  have hl := Pl.bigL_length x K
  rw [last7_short _ (by omega), num_zero _ (by omega), Pl.numL_bigL]
  exact ⟨hm, hm⟩
theorem size_mk (l : List UInt8) : (⟨l.toArray⟩ : ByteArray).size = l.length := by show l.toArray.size = _; simp

theorem big_list (x n : Int) (K : Nat) (m : Int) (w : World) (h : cut8 n = K) (hK : K ≤ 7) (hm : x % 256 ^ K = m) :
    Calls Try.prog 13 #[.int .i64 x, .int .i64 n] w fun e w' => ∃ l : List UInt8, e = .returned (.string ⟨l.toArray⟩) ∧ Below w.heap.size w w' ∧ l.length ≤ K ∧ K ≤ l.length ∧ Hid (Pl.numL (Pl.last7 l) = m) ∧ Hid (Pl.numL (Pl.last7 (0 :: l)) = m) := by
  refine (big_lit x n K w h).mono ?_
  rintro e w' ⟨rfl, hb⟩
  have hl := Pl.bigL_length x K
  have hv := val_big x K m hK hm
  exact ⟨_, rfl, hb, by omega, by omega, hv.1, hv.2⟩
theorem big_eight (x n : Int) (w : World) (h : cut8 n = 8) :
    Calls Try.prog 13 #[.int .i64 x, .int .i64 n] w fun e w' => ∃ l : List UInt8, e = .returned (.string ⟨l.toArray⟩) ∧ Below w.heap.size w w' ∧ l.length ≤ 8 ∧ 8 ≤ l.length := by
  refine (big_lit x n 8 w h).mono ?_
  rintro e w' ⟨rfl, hb⟩
  have hl := Pl.bigL_length x 8
  exact ⟨_, rfl, hb, by omega, by omega⟩
theorem big_none (x n : Int) (w : World) (h : cut8 n = 0) :
    Calls Try.prog 13 #[.int .i64 x, .int .i64 n] w fun e w' => e = .returned (.string ⟨#[]⟩) ∧ Below w.heap.size w w' := big_lit x n 0 w h
theorem num_app (l : List UInt8) (w : World) (r : Int) (hl : l.length ≤ 7) (h : Pl.numL (Pl.last7 (0 :: l)) = r) :
    Calls Try.prog 15 #[.string (⟨#[0]⟩ ++ ⟨l.toArray⟩)] w fun e w' => e = .returned (.int .i64 r) ∧ w = w' := by
  have e : (⟨#[0]⟩ ++ ⟨l.toArray⟩ : ByteArray) = ⟨(0 :: l).toArray⟩ := ByteArray.mk_append_mk [0] l
  rw [e]
  exact num_of (0 :: l) w r (by simp; omega) h


set_option maxHeartbeats 1000000 in
theorem walk0 (a0 : Int) (a1 : Int) (w : World) (hk : a1 % 8 = 0) :
    Calls Try.prog 7 #[.int .i64 a0, .int .i64 a1] w fun e w' => e = .returned (.bool true) ∧ Below w.heap.size w w' := by
  have HK : Hid (a1 % 8 = 0) := hk
  clear hk
  go_enter Try.func7, Try.ntmps7
  go_wp2_with fail
  refine (place_any _ _ _ (by decide) (by decide)).mono ?_
  rintro e w' ⟨rfl, rfl⟩
  rw [HK.out]
  go_wp2_with fail
  refine (place_any _ _ _ (by decide) (by decide)).mono ?_
  rintro e w' ⟨rfl, rfl⟩
  have hx : 0 ≤ a0 % 36028797018963968 ∧ a0 % 36028797018963968 < 36028797018963968 := by omega
  generalize a0 % 36028797018963968 = x at hx ⊢
  obtain ⟨hx0, hx1⟩ := hx
  obtain ⟨m, hm, HM⟩ : ∃ m : Int, bits .and .i64 x 0 = m ∧ Hid (x % 256 ^ 0 = m) := ⟨0, by have := Pl.and_mask x 0 (by decide); simpa [Int.emod_one] using this, by simp [Hid, Int.emod_one]⟩
  go_wp2_with fail
  refine (big_list _ _ 0 m _ rfl (by decide) HM.out).mono ?_
  rintro e w1 ⟨l, rfl, hb1, hl1, hl2, HV1, HV2⟩
  have HB1 : Hid (Below w.heap.size w w1) := hb1
  clear hb1 hx0 hx1
  have hl : ((l.length : Int) == 0) = true := beq_iff_eq.2 (by omega)
  go_wp2_with fail
  refine (num_of l _ m (by omega) HV1.out).mono ?_
  rintro e w' ⟨rfl, rfl⟩
  go_wp2_with fail
  refine (num_app l _ m (by omega) HV2.out).mono ?_
  rintro e w' ⟨rfl, rfl⟩
  go_wp2_with fail
  refine (big_none _ _ _ rfl).mono ?_
  rintro e w2 ⟨rfl, hb2⟩
  have HB2 : Hid (Below w1.heap.size w1 w2) := hb2
  clear hb2
  go_wp2_with fail
  refine (big_eight _ _ _ rfl).mono ?_
  rintro e w3 ⟨l8, rfl, hb3, hm1, hm2⟩
  have HB3 : Hid (Below w2.heap.size w2 w3) := hb3
  clear hb3
  have hl8 : ((l8.length : Int) == 8) = true := beq_iff_eq.2 (by omega)
  go_wp2_with fail
  refine (awake_any _).mono ?_
  rintro e w4 ⟨rfl, hb4⟩
  have HB4 : Hid (Below w3.heap.size w3 w4) := hb4
  clear hb4
  go_wp2_with fail
  go_ret
  have s2 := Nat.le_trans HB1.out.size HB2.out.size
  exact ⟨rfl, HB1.out.trans ((HB2.out.mono HB1.out.size).trans ((HB3.out.mono s2).trans (HB4.out.mono (Nat.le_trans s2 HB3.out.size))))⟩

set_option maxHeartbeats 1000000 in
theorem walk1 (a0 : Int) (a1 : Int) (w : World) (hk : a1 % 8 = 1) :
    Calls Try.prog 7 #[.int .i64 a0, .int .i64 a1] w fun e w' => e = .returned (.bool true) ∧ Below w.heap.size w w' := by
  have HK : Hid (a1 % 8 = 1) := hk
  clear hk
  go_enter Try.func7, Try.ntmps7
  go_wp2_with fail
  refine (place_any _ _ _ (by decide) (by decide)).mono ?_
  rintro e w' ⟨rfl, rfl⟩
  rw [HK.out]
  go_wp2_with fail
  refine (place_any _ _ _ (by decide) (by decide)).mono ?_
  rintro e w' ⟨rfl, rfl⟩
  have hx : 0 ≤ a0 % 36028797018963968 ∧ a0 % 36028797018963968 < 36028797018963968 := by omega
  generalize a0 % 36028797018963968 = x at hx ⊢
  obtain ⟨hx0, hx1⟩ := hx
  obtain ⟨m, hm, HM⟩ : ∃ m : Int, bits .and .i64 x 255 = m ∧ Hid (x % 256 ^ 1 = m) := ⟨x % 256, Pl.and_mask x 8 (by decide), show x % 256 ^ 1 = x % 256 from by rw [show (256 : Int) ^ 1 = 256 from by decide]⟩
  go_wp2_with fail
  refine (big_list _ _ 1 m _ rfl (by decide) HM.out).mono ?_
  rintro e w1 ⟨l, rfl, hb1, hl1, hl2, HV1, HV2⟩
  have HB1 : Hid (Below w.heap.size w w1) := hb1
  clear hb1 hx0 hx1
  have hl : ((l.length : Int) == 1) = true := beq_iff_eq.2 (by omega)
  go_wp2_with fail
  refine (num_of l _ m (by omega) HV1.out).mono ?_
  rintro e w' ⟨rfl, rfl⟩
  go_wp2_with fail
  refine (num_app l _ m (by omega) HV2.out).mono ?_
  rintro e w' ⟨rfl, rfl⟩
  go_wp2_with fail
  refine (big_none _ _ _ rfl).mono ?_
  rintro e w2 ⟨rfl, hb2⟩
  have HB2 : Hid (Below w1.heap.size w1 w2) := hb2
  clear hb2
  go_wp2_with fail
  refine (big_eight _ _ _ rfl).mono ?_
  rintro e w3 ⟨l8, rfl, hb3, hm1, hm2⟩
  have HB3 : Hid (Below w2.heap.size w2 w3) := hb3
  clear hb3
  have hl8 : ((l8.length : Int) == 8) = true := beq_iff_eq.2 (by omega)
  go_wp2_with fail
  refine (awake_any _).mono ?_
  rintro e w4 ⟨rfl, hb4⟩
  have HB4 : Hid (Below w3.heap.size w3 w4) := hb4
  clear hb4
  go_wp2_with fail
  go_ret
  have s2 := Nat.le_trans HB1.out.size HB2.out.size
  exact ⟨rfl, HB1.out.trans ((HB2.out.mono HB1.out.size).trans ((HB3.out.mono s2).trans (HB4.out.mono (Nat.le_trans s2 HB3.out.size))))⟩

set_option maxHeartbeats 1000000 in
theorem walk2 (a0 : Int) (a1 : Int) (w : World) (hk : a1 % 8 = 2) :
    Calls Try.prog 7 #[.int .i64 a0, .int .i64 a1] w fun e w' => e = .returned (.bool true) ∧ Below w.heap.size w w' := by
  have HK : Hid (a1 % 8 = 2) := hk
  clear hk
  go_enter Try.func7, Try.ntmps7
  go_wp2_with fail
  refine (place_any _ _ _ (by decide) (by decide)).mono ?_
  rintro e w' ⟨rfl, rfl⟩
  rw [HK.out]
  go_wp2_with fail
  refine (place_any _ _ _ (by decide) (by decide)).mono ?_
  rintro e w' ⟨rfl, rfl⟩
  have hx : 0 ≤ a0 % 36028797018963968 ∧ a0 % 36028797018963968 < 36028797018963968 := by omega
  generalize a0 % 36028797018963968 = x at hx ⊢
  obtain ⟨hx0, hx1⟩ := hx
  obtain ⟨m, hm, HM⟩ : ∃ m : Int, bits .and .i64 x 65535 = m ∧ Hid (x % 256 ^ 2 = m) := ⟨x % 65536, Pl.and_mask x 16 (by decide), show x % 256 ^ 2 = x % 65536 from by rw [show (256 : Int) ^ 2 = 65536 from by decide]⟩
  go_wp2_with fail
  refine (big_list _ _ 2 m _ rfl (by decide) HM.out).mono ?_
  rintro e w1 ⟨l, rfl, hb1, hl1, hl2, HV1, HV2⟩
  have HB1 : Hid (Below w.heap.size w w1) := hb1
  clear hb1 hx0 hx1
  have hl : ((l.length : Int) == 2) = true := beq_iff_eq.2 (by omega)
  go_wp2_with fail
  refine (num_of l _ m (by omega) HV1.out).mono ?_
  rintro e w' ⟨rfl, rfl⟩
  go_wp2_with fail
  refine (num_app l _ m (by omega) HV2.out).mono ?_
  rintro e w' ⟨rfl, rfl⟩
  go_wp2_with fail
  refine (big_none _ _ _ rfl).mono ?_
  rintro e w2 ⟨rfl, hb2⟩
  have HB2 : Hid (Below w1.heap.size w1 w2) := hb2
  clear hb2
  go_wp2_with fail
  refine (big_eight _ _ _ rfl).mono ?_
  rintro e w3 ⟨l8, rfl, hb3, hm1, hm2⟩
  have HB3 : Hid (Below w2.heap.size w2 w3) := hb3
  clear hb3
  have hl8 : ((l8.length : Int) == 8) = true := beq_iff_eq.2 (by omega)
  go_wp2_with fail
  refine (awake_any _).mono ?_
  rintro e w4 ⟨rfl, hb4⟩
  have HB4 : Hid (Below w3.heap.size w3 w4) := hb4
  clear hb4
  go_wp2_with fail
  go_ret
  have s2 := Nat.le_trans HB1.out.size HB2.out.size
  exact ⟨rfl, HB1.out.trans ((HB2.out.mono HB1.out.size).trans ((HB3.out.mono s2).trans (HB4.out.mono (Nat.le_trans s2 HB3.out.size))))⟩

set_option maxHeartbeats 1000000 in
theorem walk3 (a0 : Int) (a1 : Int) (w : World) (hk : a1 % 8 = 3) :
    Calls Try.prog 7 #[.int .i64 a0, .int .i64 a1] w fun e w' => e = .returned (.bool true) ∧ Below w.heap.size w w' := by
  have HK : Hid (a1 % 8 = 3) := hk
  clear hk
  go_enter Try.func7, Try.ntmps7
  go_wp2_with fail
  refine (place_any _ _ _ (by decide) (by decide)).mono ?_
  rintro e w' ⟨rfl, rfl⟩
  rw [HK.out]
  go_wp2_with fail
  refine (place_any _ _ _ (by decide) (by decide)).mono ?_
  rintro e w' ⟨rfl, rfl⟩
  have hx : 0 ≤ a0 % 36028797018963968 ∧ a0 % 36028797018963968 < 36028797018963968 := by omega
  generalize a0 % 36028797018963968 = x at hx ⊢
  obtain ⟨hx0, hx1⟩ := hx
  obtain ⟨m, hm, HM⟩ : ∃ m : Int, bits .and .i64 x 16777215 = m ∧ Hid (x % 256 ^ 3 = m) := ⟨x % 16777216, Pl.and_mask x 24 (by decide), show x % 256 ^ 3 = x % 16777216 from by rw [show (256 : Int) ^ 3 = 16777216 from by decide]⟩
  go_wp2_with fail
  refine (big_list _ _ 3 m _ rfl (by decide) HM.out).mono ?_
  rintro e w1 ⟨l, rfl, hb1, hl1, hl2, HV1, HV2⟩
  have HB1 : Hid (Below w.heap.size w w1) := hb1
  clear hb1 hx0 hx1
  have hl : ((l.length : Int) == 3) = true := beq_iff_eq.2 (by omega)
  go_wp2_with fail
  refine (num_of l _ m (by omega) HV1.out).mono ?_
  rintro e w' ⟨rfl, rfl⟩
  go_wp2_with fail
  refine (num_app l _ m (by omega) HV2.out).mono ?_
  rintro e w' ⟨rfl, rfl⟩
  go_wp2_with fail
  refine (big_none _ _ _ rfl).mono ?_
  rintro e w2 ⟨rfl, hb2⟩
  have HB2 : Hid (Below w1.heap.size w1 w2) := hb2
  clear hb2
  go_wp2_with fail
  refine (big_eight _ _ _ rfl).mono ?_
  rintro e w3 ⟨l8, rfl, hb3, hm1, hm2⟩
  have HB3 : Hid (Below w2.heap.size w2 w3) := hb3
  clear hb3
  have hl8 : ((l8.length : Int) == 8) = true := beq_iff_eq.2 (by omega)
  go_wp2_with fail
  refine (awake_any _).mono ?_
  rintro e w4 ⟨rfl, hb4⟩
  have HB4 : Hid (Below w3.heap.size w3 w4) := hb4
  clear hb4
  go_wp2_with fail
  go_ret
  have s2 := Nat.le_trans HB1.out.size HB2.out.size
  exact ⟨rfl, HB1.out.trans ((HB2.out.mono HB1.out.size).trans ((HB3.out.mono s2).trans (HB4.out.mono (Nat.le_trans s2 HB3.out.size))))⟩

set_option maxHeartbeats 1000000 in
theorem walk4 (a0 : Int) (a1 : Int) (w : World) (hk : a1 % 8 = 4) :
    Calls Try.prog 7 #[.int .i64 a0, .int .i64 a1] w fun e w' => e = .returned (.bool true) ∧ Below w.heap.size w w' := by
  have HK : Hid (a1 % 8 = 4) := hk
  clear hk
  go_enter Try.func7, Try.ntmps7
  go_wp2_with fail
  refine (place_any _ _ _ (by decide) (by decide)).mono ?_
  rintro e w' ⟨rfl, rfl⟩
  rw [HK.out]
  go_wp2_with fail
  refine (place_any _ _ _ (by decide) (by decide)).mono ?_
  rintro e w' ⟨rfl, rfl⟩
  have hx : 0 ≤ a0 % 36028797018963968 ∧ a0 % 36028797018963968 < 36028797018963968 := by omega
  generalize a0 % 36028797018963968 = x at hx ⊢
  obtain ⟨hx0, hx1⟩ := hx
  obtain ⟨m, hm, HM⟩ : ∃ m : Int, bits .and .i64 x 4294967295 = m ∧ Hid (x % 256 ^ 4 = m) := ⟨x % 4294967296, Pl.and_mask x 32 (by decide), show x % 256 ^ 4 = x % 4294967296 from by rw [show (256 : Int) ^ 4 = 4294967296 from by decide]⟩
  go_wp2_with fail
  refine (big_list _ _ 4 m _ rfl (by decide) HM.out).mono ?_
  rintro e w1 ⟨l, rfl, hb1, hl1, hl2, HV1, HV2⟩
  have HB1 : Hid (Below w.heap.size w w1) := hb1
  clear hb1 hx0 hx1
  have hl : ((l.length : Int) == 4) = true := beq_iff_eq.2 (by omega)
  go_wp2_with fail
  refine (num_of l _ m (by omega) HV1.out).mono ?_
  rintro e w' ⟨rfl, rfl⟩
  go_wp2_with fail
  refine (num_app l _ m (by omega) HV2.out).mono ?_
  rintro e w' ⟨rfl, rfl⟩
  go_wp2_with fail
  refine (big_none _ _ _ rfl).mono ?_
  rintro e w2 ⟨rfl, hb2⟩
  have HB2 : Hid (Below w1.heap.size w1 w2) := hb2
  clear hb2
  go_wp2_with fail
  refine (big_eight _ _ _ rfl).mono ?_
  rintro e w3 ⟨l8, rfl, hb3, hm1, hm2⟩
  have HB3 : Hid (Below w2.heap.size w2 w3) := hb3
  clear hb3
  have hl8 : ((l8.length : Int) == 8) = true := beq_iff_eq.2 (by omega)
  go_wp2_with fail
  refine (awake_any _).mono ?_
  rintro e w4 ⟨rfl, hb4⟩
  have HB4 : Hid (Below w3.heap.size w3 w4) := hb4
  clear hb4
  go_wp2_with fail
  go_ret
  have s2 := Nat.le_trans HB1.out.size HB2.out.size
  exact ⟨rfl, HB1.out.trans ((HB2.out.mono HB1.out.size).trans ((HB3.out.mono s2).trans (HB4.out.mono (Nat.le_trans s2 HB3.out.size))))⟩

set_option maxHeartbeats 1000000 in
theorem walk5 (a0 : Int) (a1 : Int) (w : World) (hk : a1 % 8 = 5) :
    Calls Try.prog 7 #[.int .i64 a0, .int .i64 a1] w fun e w' => e = .returned (.bool true) ∧ Below w.heap.size w w' := by
  have HK : Hid (a1 % 8 = 5) := hk
  clear hk
  go_enter Try.func7, Try.ntmps7
  go_wp2_with fail
  refine (place_any _ _ _ (by decide) (by decide)).mono ?_
  rintro e w' ⟨rfl, rfl⟩
  rw [HK.out]
  go_wp2_with fail
  refine (place_any _ _ _ (by decide) (by decide)).mono ?_
  rintro e w' ⟨rfl, rfl⟩
  have hx : 0 ≤ a0 % 36028797018963968 ∧ a0 % 36028797018963968 < 36028797018963968 := by omega
  generalize a0 % 36028797018963968 = x at hx ⊢
  obtain ⟨hx0, hx1⟩ := hx
  obtain ⟨m, hm, HM⟩ : ∃ m : Int, bits .and .i64 x 1099511627775 = m ∧ Hid (x % 256 ^ 5 = m) := ⟨x % 1099511627776, Pl.and_mask x 40 (by decide), show x % 256 ^ 5 = x % 1099511627776 from by rw [show (256 : Int) ^ 5 = 1099511627776 from by decide]⟩
  go_wp2_with fail
  refine (big_list _ _ 5 m _ rfl (by decide) HM.out).mono ?_
  rintro e w1 ⟨l, rfl, hb1, hl1, hl2, HV1, HV2⟩
  have HB1 : Hid (Below w.heap.size w w1) := hb1
  clear hb1 hx0 hx1
  have hl : ((l.length : Int) == 5) = true := beq_iff_eq.2 (by omega)
  go_wp2_with fail
  refine (num_of l _ m (by omega) HV1.out).mono ?_
  rintro e w' ⟨rfl, rfl⟩
  go_wp2_with fail
  refine (num_app l _ m (by omega) HV2.out).mono ?_
  rintro e w' ⟨rfl, rfl⟩
  go_wp2_with fail
  refine (big_none _ _ _ rfl).mono ?_
  rintro e w2 ⟨rfl, hb2⟩
  have HB2 : Hid (Below w1.heap.size w1 w2) := hb2
  clear hb2
  go_wp2_with fail
  refine (big_eight _ _ _ rfl).mono ?_
  rintro e w3 ⟨l8, rfl, hb3, hm1, hm2⟩
  have HB3 : Hid (Below w2.heap.size w2 w3) := hb3
  clear hb3
  have hl8 : ((l8.length : Int) == 8) = true := beq_iff_eq.2 (by omega)
  go_wp2_with fail
  refine (awake_any _).mono ?_
  rintro e w4 ⟨rfl, hb4⟩
  have HB4 : Hid (Below w3.heap.size w3 w4) := hb4
  clear hb4
  go_wp2_with fail
  go_ret
  have s2 := Nat.le_trans HB1.out.size HB2.out.size
  exact ⟨rfl, HB1.out.trans ((HB2.out.mono HB1.out.size).trans ((HB3.out.mono s2).trans (HB4.out.mono (Nat.le_trans s2 HB3.out.size))))⟩

set_option maxHeartbeats 1000000 in
theorem walk6 (a0 : Int) (a1 : Int) (w : World) (hk : a1 % 8 = 6) :
    Calls Try.prog 7 #[.int .i64 a0, .int .i64 a1] w fun e w' => e = .returned (.bool true) ∧ Below w.heap.size w w' := by
  have HK : Hid (a1 % 8 = 6) := hk
  clear hk
  go_enter Try.func7, Try.ntmps7
  go_wp2_with fail
  refine (place_any _ _ _ (by decide) (by decide)).mono ?_
  rintro e w' ⟨rfl, rfl⟩
  rw [HK.out]
  go_wp2_with fail
  refine (place_any _ _ _ (by decide) (by decide)).mono ?_
  rintro e w' ⟨rfl, rfl⟩
  have hx : 0 ≤ a0 % 36028797018963968 ∧ a0 % 36028797018963968 < 36028797018963968 := by omega
  generalize a0 % 36028797018963968 = x at hx ⊢
  obtain ⟨hx0, hx1⟩ := hx
  obtain ⟨m, hm, HM⟩ : ∃ m : Int, bits .and .i64 x 281474976710655 = m ∧ Hid (x % 256 ^ 6 = m) := ⟨x % 281474976710656, Pl.and_mask x 48 (by decide), show x % 256 ^ 6 = x % 281474976710656 from by rw [show (256 : Int) ^ 6 = 281474976710656 from by decide]⟩
  go_wp2_with fail
  refine (big_list _ _ 6 m _ rfl (by decide) HM.out).mono ?_
  rintro e w1 ⟨l, rfl, hb1, hl1, hl2, HV1, HV2⟩
  have HB1 : Hid (Below w.heap.size w w1) := hb1
  clear hb1 hx0 hx1
  have hl : ((l.length : Int) == 6) = true := beq_iff_eq.2 (by omega)
  go_wp2_with fail
  refine (num_of l _ m (by omega) HV1.out).mono ?_
  rintro e w' ⟨rfl, rfl⟩
  go_wp2_with fail
  refine (num_app l _ m (by omega) HV2.out).mono ?_
  rintro e w' ⟨rfl, rfl⟩
  go_wp2_with fail
  refine (big_none _ _ _ rfl).mono ?_
  rintro e w2 ⟨rfl, hb2⟩
  have HB2 : Hid (Below w1.heap.size w1 w2) := hb2
  clear hb2
  go_wp2_with fail
  refine (big_eight _ _ _ rfl).mono ?_
  rintro e w3 ⟨l8, rfl, hb3, hm1, hm2⟩
  have HB3 : Hid (Below w2.heap.size w2 w3) := hb3
  clear hb3
  have hl8 : ((l8.length : Int) == 8) = true := beq_iff_eq.2 (by omega)
  go_wp2_with fail
  refine (awake_any _).mono ?_
  rintro e w4 ⟨rfl, hb4⟩
  have HB4 : Hid (Below w3.heap.size w3 w4) := hb4
  clear hb4
  go_wp2_with fail
  go_ret
  have s2 := Nat.le_trans HB1.out.size HB2.out.size
  exact ⟨rfl, HB1.out.trans ((HB2.out.mono HB1.out.size).trans ((HB3.out.mono s2).trans (HB4.out.mono (Nat.le_trans s2 HB3.out.size))))⟩

set_option maxHeartbeats 1000000 in
theorem walk7 (a0 : Int) (a1 : Int) (w : World) (hk : a1 % 8 = 7) :
    Calls Try.prog 7 #[.int .i64 a0, .int .i64 a1] w fun e w' => e = .returned (.bool true) ∧ Below w.heap.size w w' := by
  have HK : Hid (a1 % 8 = 7) := hk
  clear hk
  go_enter Try.func7, Try.ntmps7
  go_wp2_with fail
  refine (place_any _ _ _ (by decide) (by decide)).mono ?_
  rintro e w' ⟨rfl, rfl⟩
  rw [HK.out]
  go_wp2_with fail
  refine (place_any _ _ _ (by decide) (by decide)).mono ?_
  rintro e w' ⟨rfl, rfl⟩
  have hx : 0 ≤ a0 % 36028797018963968 ∧ a0 % 36028797018963968 < 36028797018963968 := by omega
  generalize a0 % 36028797018963968 = x at hx ⊢
  obtain ⟨hx0, hx1⟩ := hx
  have HM : Hid (x % 256 ^ 7 = x) := by show _ = _; omega
  go_wp2_with fail
  refine (big_list _ _ 7 x _ rfl (by decide) HM.out).mono ?_
  rintro e w1 ⟨l, rfl, hb1, hl1, hl2, HV1, HV2⟩
  have HB1 : Hid (Below w.heap.size w w1) := hb1
  clear hb1 hx0 hx1
  have hl : ((l.length : Int) == 7) = true := beq_iff_eq.2 (by omega)
  go_wp2_with fail
  refine (num_of l _ x (by omega) HV1.out).mono ?_
  rintro e w' ⟨rfl, rfl⟩
  go_wp2_with fail
  refine (num_app l _ x (by omega) HV2.out).mono ?_
  rintro e w' ⟨rfl, rfl⟩
  go_wp2_with fail
  refine (big_none _ _ _ rfl).mono ?_
  rintro e w2 ⟨rfl, hb2⟩
  have HB2 : Hid (Below w1.heap.size w1 w2) := hb2
  clear hb2
  go_wp2_with fail
  refine (big_eight _ _ _ rfl).mono ?_
  rintro e w3 ⟨l8, rfl, hb3, hm1, hm2⟩
  have HB3 : Hid (Below w2.heap.size w2 w3) := hb3
  clear hb3
  have hl8 : ((l8.length : Int) == 8) = true := beq_iff_eq.2 (by omega)
  go_wp2_with fail
  refine (awake_any _).mono ?_
  rintro e w4 ⟨rfl, hb4⟩
  have HB4 : Hid (Below w3.heap.size w3 w4) := hb4
  clear hb4
  go_wp2_with fail
  go_ret
  have s2 := Nat.le_trans HB1.out.size HB2.out.size
  exact ⟨rfl, HB1.out.trans ((HB2.out.mono HB1.out.size).trans ((HB3.out.mono s2).trans (HB4.out.mono (Nat.le_trans s2 HB3.out.size))))⟩

theorem walk (a0 : Int) (a1 : Int) (w : World) :
    Calls Try.prog 7 #[.int .i64 a0, .int .i64 a1] w fun e w' => e = .returned (.bool true) ∧ Below w.heap.size w w' := by
  have hk : a1 % 8 = 0 ∨ a1 % 8 = 1 ∨ a1 % 8 = 2 ∨ a1 % 8 = 3 ∨ a1 % 8 = 4 ∨ a1 % 8 = 5 ∨ a1 % 8 = 6 ∨ a1 % 8 = 7 := by omega
  rcases hk with h | h | h | h | h | h | h | h
  · exact walk0 a0 a1 w h
  · exact walk1 a0 a1 w h
  · exact walk2 a0 a1 w h
  · exact walk3 a0 a1 w h
  · exact walk4 a0 a1 w h
  · exact walk5 a0 a1 w h
  · exact walk6 a0 a1 w h
  · exact walk7 a0 a1 w h

/-! ### THE ROW's STEP: WRITTEN OUT: LEAVE IT -/
set_option maxRecDepth 100000 in
theorem lifted (os : Os) (started : os.Started) (H : Type) (enc : TypeId × Value → H) :
    ReturnsInHanded {} Try.checked os 7 .any (Rows.sumNumbersSpec.pre6 enc Try.prog Try.f7 Rows.sumNumbersRow.domain false) (Rows.sumNumbersSpec.post enc Try.prog Try.f7 false true false false) := by
  refine returnsInHanded_of_change (C := Try.checked) own started (by kernel_rfl) Try.func7
    (ChangeSpec.witness6 (enc := enc) (C := Try.checked) false ⟨#[], #[.int .i64 0, .int .i64 0], []⟩ 8 (by kernel_rfl) (by kernel_rfl) (by kernel_rfl) (by kernel_rfl)) ?_
  intro W base args ds gs before hval0 hW hcnd _
  have hval : ∀ (j : Nat) t v, Try.f7.params[j]? = some t → args[j]? = some v → Value.okWide Try.prog W .any base t v := hval0
  have hW' := hW
  obtain ⟨p, q, hA0, hV, rfl, hfz, hnd⟩ := hW
  have hA : DataW.TrodAll enc Try.prog W 0 (fun _ => true) true Try.f7.params.toList args.toList ds p := hA0
  rw [Try.params7] at hA hval
  obtain ⟨v0, vs0, d0, ds0, p0, q0, hargs, rfl, rfl, h0, r0⟩ := trodAll_cons hA
  obtain ⟨v1, vs1, d1, ds1, p1, q1, rfl, rfl, rfl, h1, r1⟩ := trodAll_cons r0
  obtain ⟨rfl, rfl, rfl⟩ := trodAll_nil r1
  obtain rfl : args = #[v0, v1] := by cases args; simp_all
  obtain ⟨rfl, rfl⟩ := trodVars_none hV
  obtain ⟨a0, rfl, rfl, rfl, w0⟩ := open_int Try.underlying3 (hval 0 3 v0 rfl rfl) h0
  obtain ⟨a1, rfl, rfl, rfl, w1⟩ := open_int Try.underlying3 (hval 1 3 v1 rfl rfl) h1
  clear hA0 hval0
  simp only [List.append_nil] at hW'
  refine (walk a0 a1 W).mono fun e W' ⟨he, bel⟩ => ?_
  subst he
  exact ⟨_, rfl, _, _, _, [], [], [], hW', trodAll_mk1 (shut_bool Try.underlying4 _), (trodAll_cons_mk (shut_int Try.underlying3 w0) (trodAll_cons_mk (shut_int Try.underlying3 w1) trodAll_mk0)), rfl, bel.frame _, fun h => by cases h⟩

theorem over : Rows.sumNumbersRow.holds Try.pinned (OpenSpec.ofChange Rows.sumNumbersSpec) :=
  OpenClaim.holds_of_wide 7 Try.f7 rfl rfl rfl rfl rfl rfl rfl ⟨rfl, rfl, rfl, rfl, rfl⟩ rfl rfl rfl rfl rfl (by kernel_rfl) Try.func7 (by kernel_rfl)
    (of_decide_eq_true (by kernel_rfl)) (by unfold Func.isWrapper; first | (rw [if_pos (by decide +kernel)]; kernel_rfl) | (rw [if_neg (by decide +kernel)]; exact ⟨rfl, rfl⟩))
    (fun os started H enc _ => lifted os started H enc)

/-- ████ THE STATEMENT ████ -/
theorem proved : Rows.SumNumbersSaid :=
  over
#print axioms proved
end Go.Proofs.Ytlphmpmfolngnaa.sumNumbers
