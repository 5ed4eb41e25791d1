/- EthSizes: for any number and any byte, a frame as short and as long as may be is got, a byte beyond it is refused with its error; no condition. -/
import Derived.Test.YtajkcdcnihjfkaaAwake
import Derived.Test.YtajkcdcnihjfkaaRows2
import Derived.Test.YtajkcdcnihjfkaaLift
namespace Go.Proofs.Ytajkcdcnihjfkaa.ethSizes
open Go.ChangeShapes Go.WideShapes Go.ChangeAt Go.RowKit
open Go.ChangeMaps (open_string shut_string)
set_option linter.unusedVariables false

/-- fourteen bytes and a body, got -/
theorem get_cat (x0 x1 x2 x3 x4 x5 y0 y1 y2 y3 y4 y5 z0 z1 : UInt8) (body : ByteArray) (h : 14 + body.size ≤ 3000) (w : World) :
    Calls Try.prog 8 #[.string (⟨#[x0, x1, x2, x3, x4, x5, y0, y1, y2, y3, y4, y5, z0, z1]⟩ ++ body)] w fun e w' => e = .returned (.tuple #[.agg (ethB x0 x1 x2 x3 x4 x5 y0 y1 y2 y3 y4 y5 ((z0.toNat : Int) * 256 + (z1.toNat : Int))), .string body, .int .i64 0]) ∧ Below w.heap.size w w' := by
  obtain ⟨L, hL⟩ : ∃ L : ByteArray, L = ⟨#[x0, x1, x2, x3, x4, x5, y0, y1, y2, y3, y4, y5, z0, z1]⟩ := ⟨_, rfl⟩
  have hLs : L.size = 14 := by rw [hL]; rfl
  have hz : (L ++ body).size = 14 + body.size := by rw [ByteArray.size_append, hLs]
  have ha : (L ++ body).extract 0 6 = ⟨#[x0, x1, x2, x3, x4, x5]⟩ := by rw [head_ext _ _ _ _ (by omega), hL]; rfl
  have hb : (L ++ body).extract 6 12 = ⟨#[y0, y1, y2, y3, y4, y5]⟩ := by rw [head_ext _ _ _ _ (by omega), hL]; rfl
  have hc : (L ++ body).extract 12 14 = ⟨#[z0, z1]⟩ := by rw [head_ext _ _ _ _ (by omega), hL]; rfl
  have g := get_ok (L ++ body) w (by omega) (by omega) x0 x1 x2 x3 x4 x5 y0 y1 y2 y3 y4 y5 z0 z1 ha hb hc
  have e := tail_ext L body
  rw [hLs] at e
  rw [e] at g
  rw [← hL]
  exact g
theorem cat_lists (L M : List UInt8) : (⟨(L ++ M).toArray⟩ : ByteArray) = ⟨L.toArray⟩ ++ ⟨M.toArray⟩ := (ByteArray.mk_append_mk L M).symm
theorem zeros_cut (m : Nat) : (⟨(List.replicate (m + 14) (0 : UInt8)).toArray⟩ : ByteArray) = ⟨#[0, 0, 0, 0, 0, 0, 0, 0, 0, 0, 0, 0, 0, 0]⟩ ++ ⟨(List.replicate m 0).toArray⟩ :=
  cat_lists [0, 0, 0, 0, 0, 0, 0, 0, 0, 0, 0, 0, 0, 0] (List.replicate m 0)
theorem set_cut (m : Nat) (v : UInt8) : (⟨(((List.replicate (m + 14) (0 : UInt8)).set 5 v).set 12 v).toArray⟩ : ByteArray) = ⟨#[0, 0, 0, 0, 0, v, 0, 0, 0, 0, 0, 0, v, 0]⟩ ++ ⟨(List.replicate m 0).toArray⟩ :=
  cat_lists [0, 0, 0, 0, 0, v, 0, 0, 0, 0, 0, 0, v, 0] (List.replicate m 0)
theorem zsize (m : Nat) : (⟨(List.replicate m (0 : UInt8)).toArray⟩ : ByteArray).size = m := by
  show (List.replicate m (0 : UInt8)).toArray.size = m
  simp
/-- the short one: an error and no body, or a body of so many bytes -/
theorem get_zeros (k : Nat) (hk : k < 4) : ∃ (a0 a1 a2 a3 a4 a5 b0 b1 b2 b3 b4 b5 : UInt8) (t : Int) (x : ByteArray) (n : Int), (k < 2 ∧ n = 2 ∨ 2 ≤ k ∧ n = 0 ∧ x.size + 2 = k) ∧
    ∀ w : World, Calls Try.prog 8 #[.string ⟨(List.replicate (12 + k) (0 : UInt8)).toArray⟩] w fun e w' => e = .returned (.tuple #[.agg (ethB a0 a1 a2 a3 a4 a5 b0 b1 b2 b3 b4 b5 t), .string x, .int .i64 n]) ∧ Below w.heap.size w w' := by
  by_cases h : k < 2
  · exact ⟨0, 0, 0, 0, 0, 0, 0, 0, 0, 0, 0, 0, 0, ⟨#[]⟩, 2, .inl ⟨h, rfl⟩, fun w => get_short _ w (by rw [zsize]; omega)⟩
  · obtain ⟨m, rfl⟩ : ∃ m, k = m + 2 := ⟨k - 2, by omega⟩
    refine ⟨0, 0, 0, 0, 0, 0, 0, 0, 0, 0, 0, 0, ((0 : UInt8).toNat : Int) * 256 + ((0 : UInt8).toNat : Int), ⟨(List.replicate m 0).toArray⟩, 0, .inr ⟨by omega, rfl, by rw [zsize]⟩, fun w => ?_⟩
    rw [show 12 + (m + 2) = m + 14 from by omega, zeros_cut]
    exact get_cat 0 0 0 0 0 0 0 0 0 0 0 0 0 0 _ (by rw [zsize]; omega) w
/-- the long one -/
theorem get_long (k : Nat) (hk : k < 4) (v : UInt8) :
    (k < 3 → ∃ (x : ByteArray), x.size = 2984 + k ∧ ∀ w : World, Calls Try.prog 8 #[.string ⟨(((List.replicate (2998 + k) (0 : UInt8)).set 5 v).set 12 v).toArray⟩] w fun e w' => e = .returned (.tuple #[.agg (ethB 0 0 0 0 0 v 0 0 0 0 0 0 ((v.toNat : Int) * 256 + 0)), .string x, .int .i64 0]) ∧ Below w.heap.size w w') ∧
    (k = 3 → ∀ w : World, Calls Try.prog 8 #[.string ⟨(((List.replicate (2998 + k) (0 : UInt8)).set 5 v).set 12 v).toArray⟩] w fun e w' => e = .returned (.tuple #[.agg ethZ, .string ⟨#[]⟩, .int .i64 5]) ∧ Below w.heap.size w w') := by
  constructor
  · intro h
    refine ⟨⟨(List.replicate (2984 + k) 0).toArray⟩, zsize _, fun w => ?_⟩
    rw [show 2998 + k = (2984 + k) + 14 from by omega, set_cut]
    exact get_cat 0 0 0 0 0 v 0 0 0 0 0 0 v 0 _ (by rw [zsize]; omega) w
  · intro h w
    refine get_big _ w ?_ ?_
    · show _ < (((List.replicate (2998 + k) (0 : UInt8)).set 5 v).set 12 v).toArray.size
      simp
      omega
    · show (((List.replicate (2998 + k) (0 : UInt8)).set 5 v).set 12 v).toArray.size ≤ _
      simp
      omega

theorem two_made (w : World) (n m : Nat) :
    BRow ((w.alloc (.cells (madeCells #[.int .u8 0] n) 5)).alloc (.cells (madeCells #[.int .u8 0] m) 5)).drew w.heap.size (List.replicate n 0) ∧
    BRow ((w.alloc (.cells (madeCells #[.int .u8 0] n) 5)).alloc (.cells (madeCells #[.int .u8 0] m) 5)).drew (w.heap.size + 1) (List.replicate m 0) ∧
    w.heap.size + 1 < ((w.alloc (.cells (madeCells #[.int .u8 0] n) 5)).alloc (.cells (madeCells #[.int .u8 0] m) 5)).drew.heap.size ∧
    Below w.heap.size w ((w.alloc (.cells (madeCells #[.int .u8 0] n) 5)).alloc (.cells (madeCells #[.int .u8 0] m) 5)).drew := by
  have e : (w.alloc (.cells (madeCells #[.int .u8 0] n) 5)).heap.size = w.heap.size + 1 := by simp
  have h1 := ((BRow.made w n).below (below1 (w.alloc (.cells (madeCells #[.int .u8 0] n) 5)) (.cells (madeCells #[.int .u8 0] m) 5)).drew (by rw [e]; omega))
  have h2 := (BRow.made (w.alloc (.cells (madeCells #[.int .u8 0] n) 5)) m).below ((Below.refl (w.heap.size + 2) _).drew) (by rw [e]; omega)
  rw [e] at h2
  exact ⟨h1, h2, by simp, (below2 _ _ _).drew⟩
/-- the short one, by its tests -/
theorem get_zeros' (k K1 : Nat) (hk : k < 4) (hK : K1 = 12 + k) : ∃ (a0 a1 a2 a3 a4 a5 b0 b1 b2 b3 b4 b5 : UInt8) (t : Int) (x : ByteArray) (n : Int), ((n == 0) = decide (2 ≤ (k : Int))) ∧ ((n == 0) = false → n = 2) ∧ ((n == 0) = true → (x.size : Int) = (k : Int) - 2) ∧
    ∀ w : World, Calls Try.prog 8 #[.string ⟨(List.replicate K1 (0 : UInt8)).toArray⟩] w fun e w' => e = .returned (.tuple #[.agg (ethB a0 a1 a2 a3 a4 a5 b0 b1 b2 b3 b4 b5 t), .string x, .int .i64 n]) ∧ Below w.heap.size w w' := by
  subst hK
  obtain ⟨a0, a1, a2, a3, a4, a5, b0, b1, b2, b3, b4, b5, t, x, n, h, hc⟩ := get_zeros k hk
  refine ⟨a0, a1, a2, a3, a4, a5, b0, b1, b2, b3, b4, b5, t, x, n, ?_, ?_, ?_, hc⟩
  · rcases h with ⟨h1, rfl⟩ | ⟨h1, rfl, h2⟩
    · simp; omega
    · simp; omega
  · intro hn
    rcases h with ⟨h1, rfl⟩ | ⟨h1, rfl, h2⟩
    · rfl
    · simp at hn
  · intro hn
    rcases h with ⟨h1, rfl⟩ | ⟨h1, rfl, h2⟩
    · simp at hn
    · omega
theorem get_long' (k K2 : Nat) (hk : k < 4) (v : UInt8) (hK : K2 = 2998 + k) :
    (k < 3 → ∃ (x : ByteArray), (x.size : Int) = (K2 : Int) - 14 ∧ ∀ w : World, Calls Try.prog 8 #[.string ⟨(((List.replicate K2 (0 : UInt8)).set 5 v).set 12 v).toArray⟩] w fun e w' => e = .returned (.tuple #[.agg (ethB 0 0 0 0 0 v 0 0 0 0 0 0 (256 * (v.toNat : Int))), .string x, .int .i64 0]) ∧ Below w.heap.size w w') ∧
    (k = 3 → ∀ w : World, Calls Try.prog 8 #[.string ⟨(((List.replicate K2 (0 : UInt8)).set 5 v).set 12 v).toArray⟩] w fun e w' => e = .returned (.tuple #[.agg ethZ, .string ⟨#[]⟩, .int .i64 5]) ∧ Below w.heap.size w w') := by
  subst hK
  obtain ⟨h1, h2⟩ := get_long k hk v
  refine ⟨fun h => ?_, h2⟩
  obtain ⟨x, hx, hc⟩ := h1 h
  refine ⟨x, by omega, fun w => ?_⟩
  have := hc w
  rw [show (v.toNat : Int) * 256 + 0 = 256 * (v.toNat : Int) from by omega] at this
  exact this

set_option maxRecDepth 100000 in
set_option maxHeartbeats 2000000 in
theorem walk_core (n : Int) (v : UInt8) (w : World) :
    Calls Try.prog 5 #[.int .i64 n, bv v] w fun e w' => e = .returned (.bool true) ∧ Below w.heap.size w w' := by
  have hk0 := Int.emod_nonneg n (show (4 : Int) ≠ 0 from by omega)
  have hk1 := Int.emod_lt_of_pos n (show 0 < (4 : Int) from by omega)
  obtain ⟨k, hk⟩ := Int.eq_ofNat_of_zero_le hk0
  rw [hk] at hk1
  have HK := (show Hid (n % 4 = (k : Int)) from hk)
  clear hk hk0
  obtain ⟨K1, hK1⟩ : ∃ K : Nat, K = 12 + k := ⟨_, rfl⟩
  obtain ⟨K2, hK2⟩ : ∃ K : Nat, K = 2998 + k := ⟨_, rfl⟩
  have e1 : (12 : Int) + (k : Int) = (K1 : Int) := by omega
  have e2 : (2998 : Int) + (k : Int) = (K2 : Int) := by omega
  have m1 := make_bytes K1 (by omega)
  have m2 := make_bytes K2 (by omega)
  have HK1 := (show Hid (K1 = 12 + k) from hK1)
  have HK2 := (show Hid (K2 = 2998 + k) from hK2)
  clear hK1 hK2
  go_enter Try.func5, Try.ntmps5
  go_wp2_with fail
  refine (place_any _ _ _ (by omega) (by omega)).mono ?_
  rintro e w' ⟨rfl, rfl⟩
  rw [HK.out]
  go_upto_region 2 with fail
  go_cut [6, 7] (fun s6 s7 wx => ∃ b1 b2 : Nat, s6 = .slice (some ⟨b1, 0, none⟩) K1 K1 ∧ s7 = .slice (some ⟨b2, 0, none⟩) K2 K2 ∧ b1 ≠ b2 ∧ w.heap.size ≤ b1 ∧ w.heap.size ≤ b2 ∧ b1 < wx.heap.size ∧ b2 < wx.heap.size ∧ BRow wx b1 (List.replicate K1 0) ∧ BRow wx b2 (List.replicate K2 0) ∧ Below w.heap.size w wx)
  case first =>
    go_region
    all_goals
      clear m1 m2 e1 e2
      go_wp2_with fail
      go_meet
    · obtain ⟨r1, r2, r3, r4⟩ := two_made w K1 K2
      exact ⟨_, _, rfl, rfl, by omega, by omega, by omega, by omega, by omega, r1, r2, r4⟩
    · obtain ⟨r1, r2, r3, r4⟩ := two_made w K2 K1
      exact ⟨_, _, rfl, rfl, by omega, by omega, by omega, by omega, by omega, r2, r1, r4⟩
  case rest =>
    obtain ⟨b1, b2, rfl, rfl, hne, l1, l2, z1, z2, R1, R2, hB⟩ := hcut
    clear m1 m2 e1 e2
    obtain ⟨c5, f5⟩ := R2.at (j := 5) (by have := HK2.out; simp; omega)
    obtain ⟨c12, f12⟩ := R2.at (j := 12) (by have := HK2.out; simp; omega)
    have k5 : (5 : Int) < (K2 : Int) := by have := HK2.out; omega
    have k12 : (12 : Int) < (K2 : Int) := by have := HK2.out; omega
    have R1' := (R1.other hne 5 (bv v)).other hne 12 (bv v)
    have R2' := (R2.set 5 v).set 12 v
    have S1 := R1'.string (n := K1) (c := K1) (by simp)
    have RR := (show Hid (BRow _ b2 _) from R2')
    have HB := (show Hid (Below w.heap.size w ((wc.setCell ⟨b2, 5, none⟩ (bv v)).setCell ⟨b2, 12, none⟩ (bv v))) from (hB.setCell l2 _).setCell l2 _)
    have Z2 := (show Hid (b2 < wc.heap.size) from z2)
    have L2 := (show Hid (w.heap.size ≤ b2) from l2)
    clear R1 R2 R1' R2' hB z1 z2 l1 l2
    obtain ⟨a0, a1, a2, a3, a4, a5, q0, q1, q2, q3, q4, q5, t, x, m, hm1, hm2, hm3, hget1⟩ := get_zeros' k K1 (by omega) HK1.out
    have HL := (show Hid _ from get_long' k K2 (by omega) v HK2.out)
    have hv : (v.toNat : Int) < 256 := by have := v.toNat_lt; omega
    have kb1 : (14 : Int) ≤ (K2 : Int) := by have := HK2.out; omega
    have kb2 : (K2 : Int) ≤ 3001 := by have := HK2.out; omega
    by_cases k2 : k < 2
    · have d2 : decide (2 ≤ (k : Int)) = false := by simp; omega
      have d3 : ((k : Int) == 3) = false := by rw [beq_eq_false_iff_ne]; omega
      rw [d2] at hm1
      obtain rfl := hm2 hm1
      obtain ⟨y, hy, hget2⟩ := HL.out.1 (by omega)
      have hy' : ((y.size : Int) == (K2 : Int) - 14) = true := by rw [hy]; exact beq_self_eq_true _
      clear hm1 hm2 hm3 HL hy
      go_wp2_with fail
      refine (hget1 _).mono ?_
      rintro e w1 ⟨rfl, hb1⟩
      have z3 : b2 < w1.heap.size := Nat.lt_of_lt_of_le (by simpa using Z2.out) hb1.size
      have R3 := (RR.out.below hb1 (by simpa using Z2.out)).below (below1 w1 (.cells (ethB a0 a1 a2 a3 a4 a5 q0 q1 q2 q3 q4 q5 t) 24)) z3
      have S2 := R3.string (n := K2) (c := K2) (by simp)
      have HB1 := (show Hid (Below w.heap.size w w1) from below_after HB.out hb1)
      clear R3 hb1 z3
      go_wp2_with fail
      refine (hget2 _).mono ?_
      rintro e w2 ⟨rfl, hb2⟩
      have HB2 := (show Hid (Below w.heap.size w w2) from below_after (HB1.out.alloc HB1.out.size _) hb2)
      clear hb2 S2 S1 c5 c12 f5 f12 hne HB HB1 RR Z2 L2 HK HK1 HK2 hget1 hget2 k5 k12
      go_wp2_with fail
      refine (awake_any _).mono ?_
      rintro e w3 ⟨rfl, hb3⟩
      go_wp2_with fail
      go_ret
      exact ⟨rfl, below_after (HB2.out.alloc HB2.out.size _) hb3⟩
    · have d2 : decide (2 ≤ (k : Int)) = true := by simp; omega
      rw [d2] at hm1
      have hx := hm3 hm1
      have hx' : ((x.size : Int) != (k : Int) - 2) = false := by rw [hx]; simp
      obtain rfl := beq_iff_eq.1 hm1
      clear hm1 hm2 hm3 hx
      by_cases k3 : k < 3
      · have d3 : ((k : Int) == 3) = false := by rw [beq_eq_false_iff_ne]; omega
        obtain ⟨y, hy, hget2⟩ := HL.out.1 k3
        have hy' : ((y.size : Int) == (K2 : Int) - 14) = true := by rw [hy]; exact beq_self_eq_true _
        clear HL hy
        go_wp2_with fail
        refine (hget1 _).mono ?_
        rintro e w1 ⟨rfl, hb1⟩
        have z3 : b2 < w1.heap.size := Nat.lt_of_lt_of_le (by simpa using Z2.out) hb1.size
        have R3 := (RR.out.below hb1 (by simpa using Z2.out)).below (below1 w1 (.cells (ethB a0 a1 a2 a3 a4 a5 q0 q1 q2 q3 q4 q5 t) 24)) z3
        have S2 := R3.string (n := K2) (c := K2) (by simp)
        have HB1 := (show Hid (Below w.heap.size w w1) from below_after HB.out hb1)
        clear R3 hb1 z3
        go_wp2_with fail
        refine (hget2 _).mono ?_
        rintro e w2 ⟨rfl, hb2⟩
        have HB2 := (show Hid (Below w.heap.size w w2) from below_after (HB1.out.alloc HB1.out.size _) hb2)
        clear hb2 S2 S1 c5 c12 f5 f12 hne HB HB1 RR Z2 L2 HK HK1 HK2 hget1 hget2 k5 k12
        go_wp2_with fail
        refine (awake_any _).mono ?_
        rintro e w3 ⟨rfl, hb3⟩
        go_wp2_with fail
        go_ret
        exact ⟨rfl, below_after (HB2.out.alloc HB2.out.size _) hb3⟩
      · have d3 : ((k : Int) == 3) = true := by rw [beq_iff_eq]; omega
        have hget2 := HL.out.2 (by omega)
        clear HL
        go_wp2_with fail
        refine (hget1 _).mono ?_
        rintro e w1 ⟨rfl, hb1⟩
        have z3 : b2 < w1.heap.size := Nat.lt_of_lt_of_le (by simpa using Z2.out) hb1.size
        have R3 := (RR.out.below hb1 (by simpa using Z2.out)).below (below1 w1 (.cells (ethB a0 a1 a2 a3 a4 a5 q0 q1 q2 q3 q4 q5 t) 24)) z3
        have S2 := R3.string (n := K2) (c := K2) (by simp)
        have HB1 := (show Hid (Below w.heap.size w w1) from below_after HB.out hb1)
        clear R3 hb1 z3
        go_wp2_with fail
        refine (hget2 _).mono ?_
        rintro e w2 ⟨rfl, hb2⟩
        have HB2 := (show Hid (Below w.heap.size w w2) from below_after (HB1.out.alloc HB1.out.size _) hb2)
        clear hb2 S2 S1 c5 c12 f5 f12 hne HB HB1 RR Z2 L2 HK HK1 HK2 hget1 hget2 k5 k12
        go_wp2_with fail
        refine (awake_any _).mono ?_
        rintro e w3 ⟨rfl, hb3⟩
        go_wp2_with fail
        go_ret
        exact ⟨rfl, below_after (HB2.out.alloc HB2.out.size _) hb3⟩

theorem walk (n : Int) (_ : (Lit.int .i64 n).wf = true) (v : UInt8) (w : World) :
    Calls Try.prog 5 #[.int .i64 n, bv v] w fun e w' => e = .returned (.bool true) ∧ Below w.heap.size w w' := walk_core n v w
/-! ### THE ROW's STEP -/
set_option maxRecDepth 100000 in
theorem lifted (os : Os) (started : os.Started) (H : Type) (enc : TypeId × Value → H) :
    ReturnsInHanded {} Try.checked os 5 .any (Rows.ethSizesSpec.pre6 enc Try.prog Try.f5 Rows.ethSizesRow.domain false) (Rows.ethSizesSpec.post enc Try.prog Try.f5 false true false false) := by
  refine returnsInHanded_of_change (C := Try.checked) own started (by kernel_rfl) Try.func5
    (ChangeSpec.witness6 (enc := enc) (C := Try.checked) false ⟨#[], #[.int .i64 0, .int .u8 0], []⟩ 8 (by kernel_rfl) (by kernel_rfl) (by kernel_rfl) (by kernel_rfl)) ?_
  intro W base args ds gs before hval0 hW hcnd _
  have hval : ∀ (j : Nat) t v, Try.f5.params[j]? = some t → args[j]? = some v → Value.okWide Try.prog W .any base t v := hval0
  have hW' := hW
  obtain ⟨p, q, hA0, hV, rfl, hfz, hnd⟩ := hW
  have hA : DataW.TrodAll enc Try.prog W 0 (fun _ => true) true Try.f5.params.toList args.toList ds p := hA0
  have hB := fun (W' : World) (bel : Below W.heap.size W W') => below_trodAll_of laidOut bel _ (by kernel_rfl) hA
  rw [Try.params5] at hA hval
  obtain ⟨v0, vs0, d0, ds0, p0, q0, hargs, rfl, rfl, h0, r0⟩ := trodAll_cons hA
  obtain ⟨v1, vs1, d1, ds1, p1, q1, rfl, rfl, rfl, h1, r1⟩ := trodAll_cons r0
  obtain ⟨rfl, rfl, rfl⟩ := trodAll_nil r1
  obtain rfl : args = #[v0, v1] := by cases args; simp_all
  obtain ⟨rfl, rfl⟩ := trodVars_none hV
  obtain ⟨a0, rfl, rfl, rfl, w0⟩ := open_int Try.underlying3 (hval 0 3 v0 rfl rfl) h0
  obtain ⟨a1, rfl, rfl, rfl, w1⟩ := open_int Try.underlying5 (hval 1 5 v1 rfl rfl) h1
  obtain ⟨x1, rfl⟩ := u8_of w1
  clear hA0 hval0
  refine (walk a0 w0 x1 W).mono fun e W' ⟨he, bel⟩ => ?_
  subst he
  exact ⟨_, rfl, _, _, _, [], _, [], hW', trodAll_mk1 (shut_bool Try.underlying4 _), hB W' bel, rfl, bel.frame _, fun h => by cases h⟩

theorem over : Rows.ethSizesRow.holds Try.pinned (OpenSpec.ofChange Rows.ethSizesSpec) :=
  OpenClaim.holds_of_wide 5 Try.f5 rfl rfl rfl rfl rfl rfl rfl ⟨rfl, rfl, rfl, rfl, rfl⟩ rfl rfl rfl rfl rfl (by kernel_rfl) Try.func5 (by kernel_rfl)
    (of_decide_eq_true (by kernel_rfl)) (by unfold Func.isWrapper; first | (rw [if_pos (by decide +kernel)]; kernel_rfl) | (rw [if_neg (by decide +kernel)]; exact ⟨rfl, rfl⟩))
    (fun os started H enc _ => lifted os started H enc)

/-- THE STATEMENT -/
theorem proved : Rows.EthSizesSaid := over
#print axioms proved
end Go.Proofs.Ytajkcdcnihjfkaa.ethSizes
