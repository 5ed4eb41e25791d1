/- Contracts of layer 3: ipv4's Check, cutOf, frontOf and Put. -/
import Derived.Test.YthfncbcnokkmiaaIpPl
namespace Go.Proofs.Ythfncbcnokkmiaa
open Go.RowKit
set_option linter.unusedVariables false

/-! ### Check -/
theorem within_yes (v m : Int) (w : World) (h0 : 0 ≤ v) (h1 : v ≤ m) :
    Calls Try.prog 44 #[.int .i64 v, .int .i64 m] w fun e w' => e = .returned (.bool true) ∧ w = w' := by
  go_enter Try.func44, Try.ntmps44
  go_wp2
  go_ret
  exact ⟨rfl, rfl⟩
theorem within_no (v m : Int) (w : World) (h : v < 0 ∨ m < v) (hm : 0 ≤ m) :
    Calls Try.prog 44 #[.int .i64 v, .int .i64 m] w fun e w' => e = .returned (.bool false) ∧ w = w' := by
  by_cases h0 : 0 ≤ v
  · have h1 : ¬ v ≤ m := by omega
    clear h
    go_enter Try.func44, Try.ntmps44
    go_wp2
    go_ret
    exact ⟨rfl, rfl⟩
  · clear h
    go_enter Try.func44, Try.ntmps44
    go_wp2
    go_ret
    exact ⟨rfl, rfl⟩
set_option maxHeartbeats 1000000 in
theorem check_yes (h : Ip) (w : World) (hm : h.May) :
    Calls Try.prog 21 #[.agg (ipV h)] w fun e w' => e = .returned (.bool true) ∧ Below w.heap.size w w' := by
  obtain ⟨⟨m0, m1⟩, ⟨m2, m3⟩, ⟨m4, m5⟩, ⟨m6, m7⟩, ⟨m8, m9⟩, m10, m11, m12⟩ := hm
  have t8 : h.off.tmod 8 = 0 := by rw [Int.tmod_eq_emod_of_nonneg m8]; exact m10
  have t4 : Int.tmod (h.opts.size : Int) 4 = 0 := by rw [Int.tmod_eq_emod_of_nonneg (by omega)]; omega
  have k40 : (h.opts.size : Int) ≤ 40 := by omega
  go_enter Try.func21, Try.ntmps21
  go_wp2_with fail
  refine (within_yes _ _ _ m0 m1).mono ?_
  rintro e w' ⟨rfl, rfl⟩
  go_wp2_with fail
  refine (within_yes _ _ _ m2 m3).mono ?_
  rintro e w' ⟨rfl, rfl⟩
  go_wp2_with fail
  refine (within_yes _ _ _ m4 m5).mono ?_
  rintro e w' ⟨rfl, rfl⟩
  go_wp2_with fail
  refine (within_yes _ _ _ m6 m7).mono ?_
  rintro e w' ⟨rfl, rfl⟩
  go_wp2_with fail
  refine (within_yes _ _ _ m8 m9).mono ?_
  rintro e w' ⟨rfl, rfl⟩
  go_wp2_with fail
  go_ret
  exact ⟨rfl, below1 _ _⟩
set_option maxHeartbeats 4000000 in
theorem check_no (h : Ip) (w : World) (hm : ¬ h.May) :
    Calls Try.prog 21 #[.agg (ipV h)] w fun e w' => e = .returned (.bool false) ∧ Below w.heap.size w w' := by
  have hz : (0 : Int) ≤ (h.opts.size : Int) := by omega
  by_cases a0 : 0 ≤ h.tos ∧ h.tos ≤ 255
  case neg =>
    go_enter Try.func21, Try.ntmps21; go_wp2_with fail
    refine (within_no _ _ _ (by omega) (by decide)).mono ?_; rintro e w' ⟨rfl, rfl⟩; go_wp2_with fail; go_ret; exact ⟨rfl, below1 _ _⟩
  by_cases a1 : 0 ≤ h.ttl ∧ h.ttl ≤ 255
  case neg =>
    go_enter Try.func21, Try.ntmps21; go_wp2_with fail
    refine (within_yes _ _ _ a0.1 a0.2).mono ?_; rintro e w' ⟨rfl, rfl⟩; go_wp2_with fail
    refine (within_no _ _ _ (by omega) (by decide)).mono ?_; rintro e w' ⟨rfl, rfl⟩; go_wp2_with fail; go_ret; exact ⟨rfl, below1 _ _⟩
  by_cases a2 : 0 ≤ h.proto ∧ h.proto ≤ 255
  case neg =>
    go_enter Try.func21, Try.ntmps21; go_wp2_with fail
    refine (within_yes _ _ _ a0.1 a0.2).mono ?_; rintro e w' ⟨rfl, rfl⟩; go_wp2_with fail
    refine (within_yes _ _ _ a1.1 a1.2).mono ?_; rintro e w' ⟨rfl, rfl⟩; go_wp2_with fail
    refine (within_no _ _ _ (by omega) (by decide)).mono ?_; rintro e w' ⟨rfl, rfl⟩; go_wp2_with fail; go_ret; exact ⟨rfl, below1 _ _⟩
  by_cases a3 : 0 ≤ h.id ∧ h.id ≤ 65535
  case neg =>
    go_enter Try.func21, Try.ntmps21; go_wp2_with fail
    refine (within_yes _ _ _ a0.1 a0.2).mono ?_; rintro e w' ⟨rfl, rfl⟩; go_wp2_with fail
    refine (within_yes _ _ _ a1.1 a1.2).mono ?_; rintro e w' ⟨rfl, rfl⟩; go_wp2_with fail
    refine (within_yes _ _ _ a2.1 a2.2).mono ?_; rintro e w' ⟨rfl, rfl⟩; go_wp2_with fail
    refine (within_no _ _ _ (by omega) (by decide)).mono ?_; rintro e w' ⟨rfl, rfl⟩; go_wp2_with fail; go_ret; exact ⟨rfl, below1 _ _⟩
  by_cases a4 : 0 ≤ h.off ∧ h.off ≤ 65528
  case neg =>
    go_enter Try.func21, Try.ntmps21; go_wp2_with fail
    refine (within_yes _ _ _ a0.1 a0.2).mono ?_; rintro e w' ⟨rfl, rfl⟩; go_wp2_with fail
    refine (within_yes _ _ _ a1.1 a1.2).mono ?_; rintro e w' ⟨rfl, rfl⟩; go_wp2_with fail
    refine (within_yes _ _ _ a2.1 a2.2).mono ?_; rintro e w' ⟨rfl, rfl⟩; go_wp2_with fail
    refine (within_yes _ _ _ a3.1 a3.2).mono ?_; rintro e w' ⟨rfl, rfl⟩; go_wp2_with fail
    refine (within_no _ _ _ (by omega) (by decide)).mono ?_; rintro e w' ⟨rfl, rfl⟩; go_wp2_with fail; go_ret; exact ⟨rfl, below1 _ _⟩
  have e8 : h.off.tmod 8 = h.off % 8 := by rw [Int.tmod_eq_emod_of_nonneg a4.1]
  have e4 : Int.tmod (h.opts.size : Int) 4 = (h.opts.size : Int) % 4 := by rw [Int.tmod_eq_emod_of_nonneg (by omega)]
  by_cases a5 : h.off % 8 = 0
  case neg =>
    go_enter Try.func21, Try.ntmps21; go_wp2_with fail
    refine (within_yes _ _ _ a0.1 a0.2).mono ?_; rintro e w' ⟨rfl, rfl⟩; go_wp2_with fail
    refine (within_yes _ _ _ a1.1 a1.2).mono ?_; rintro e w' ⟨rfl, rfl⟩; go_wp2_with fail
    refine (within_yes _ _ _ a2.1 a2.2).mono ?_; rintro e w' ⟨rfl, rfl⟩; go_wp2_with fail
    refine (within_yes _ _ _ a3.1 a3.2).mono ?_; rintro e w' ⟨rfl, rfl⟩; go_wp2_with fail
    refine (within_yes _ _ _ a4.1 a4.2).mono ?_; rintro e w' ⟨rfl, rfl⟩; go_wp2_with fail
    go_ret; exact ⟨rfl, below1 _ _⟩
  by_cases a6 : (h.opts.size : Int) ≤ 40
  case neg =>
    go_enter Try.func21, Try.ntmps21; go_wp2_with fail
    refine (within_yes _ _ _ a0.1 a0.2).mono ?_; rintro e w' ⟨rfl, rfl⟩; go_wp2_with fail
    refine (within_yes _ _ _ a1.1 a1.2).mono ?_; rintro e w' ⟨rfl, rfl⟩; go_wp2_with fail
    refine (within_yes _ _ _ a2.1 a2.2).mono ?_; rintro e w' ⟨rfl, rfl⟩; go_wp2_with fail
    refine (within_yes _ _ _ a3.1 a3.2).mono ?_; rintro e w' ⟨rfl, rfl⟩; go_wp2_with fail
    refine (within_yes _ _ _ a4.1 a4.2).mono ?_; rintro e w' ⟨rfl, rfl⟩; go_wp2_with fail
    go_ret; exact ⟨rfl, below1 _ _⟩
  by_cases a7 : (h.opts.size : Int) % 4 = 0
  case neg =>
    have b7 : ((h.opts.size : Int) % 4 == 0) = false := by simpa using a7
    go_enter Try.func21, Try.ntmps21; go_wp2_with fail
    refine (within_yes _ _ _ a0.1 a0.2).mono ?_; rintro e w' ⟨rfl, rfl⟩; go_wp2_with fail
    refine (within_yes _ _ _ a1.1 a1.2).mono ?_; rintro e w' ⟨rfl, rfl⟩; go_wp2_with fail
    refine (within_yes _ _ _ a2.1 a2.2).mono ?_; rintro e w' ⟨rfl, rfl⟩; go_wp2_with fail
    refine (within_yes _ _ _ a3.1 a3.2).mono ?_; rintro e w' ⟨rfl, rfl⟩; go_wp2_with fail
    refine (within_yes _ _ _ a4.1 a4.2).mono ?_; rintro e w' ⟨rfl, rfl⟩; go_wp2_with fail
    go_ret; exact ⟨rfl, below1 _ _⟩
  exact absurd ⟨a0, a1, a2, a3, a4, a5, by omega, by omega⟩ hm
set_option maxHeartbeats 1000000 in
theorem cut_any (h : Ip) (w : World) (hm : h.May) :
    Calls Try.prog 77 #[.agg (ipV h)] w fun e w' => e = .returned (.int .i64 h.cut) ∧ Below w.heap.size w w' := by
  obtain ⟨m1, m2, m3, m4, m5, m6, m7, m8⟩ := hm
  obtain ⟨n, hn⟩ : ∃ n : Nat, h.off = (n : Int) * 8 := ⟨(h.off / 8).toNat, by omega⟩
  have hq : h.off.tdiv 8 = (n : Int) := by rw [Int.tdiv_eq_ediv_of_nonneg m5.1]; omega
  have hq' : h.off / 8 = (n : Int) := by omega
  have hlt : n < 8192 := by omega
  have o1 : bits .or .i64 (n : Int) 16384 = ((16384 + n : Nat) : Int) := or_apart 14 1 n (by omega) (by omega)
  have o2 : bits .or .i64 (n : Int) 8192 = ((8192 + n : Nat) : Int) := or_apart 13 1 n (by omega) (by omega)
  have o3 : bits .or .i64 (16384 + (n : Int)) 8192 = ((16384 + 8192 + n : Nat) : Int) := by
    have e : (16384 + n) ||| 8192 = 16384 + 8192 + n := by
      have e1 : 16384 + n = 16384 ||| n := Nat.two_pow_add_eq_or_of_lt (i := 14) (by omega) 1
      have e2 : 8192 + n = 8192 ||| n := Nat.two_pow_add_eq_or_of_lt (i := 13) (by omega) 1
      have e3 : 16384 + (8192 + n) = 16384 ||| (8192 + n) := Nat.two_pow_add_eq_or_of_lt (i := 14) (by omega) 1
      rw [Nat.add_assoc, e3, e2, e1, Nat.or_assoc, Nat.or_comm n]
    have := or_nat (16384 + n) 8192 (by omega) (by decide)
    rw [e] at this
    rw [show (16384 : Int) + (n : Int) = ((16384 + n : Nat) : Int) from by omega]
    exact this
  have hr : h.cut = (n : Int) + (if h.keep = true then 16384 else 0) + (if h.more = true then 8192 else 0) := by unfold Ip.cut; rw [hq']
  rw [hr]
  clear hr hq' hn m1 m2 m3 m4 m5 m6 m7 m8
  cases hk : h.keep <;> cases hmo : h.more
  all_goals
    go_enter Try.func77, Try.ntmps77
    go_wp2
    go_ret
    refine ⟨ret_int ?_, below1 _ _⟩
    first | rfl | omega

/-! ### Put -/
theorem front_cat (a b c d e f g h i j : UInt8) : (⟨#[a]⟩ : ByteArray) ++ ⟨#[b]⟩ ++ ⟨#[c, d]⟩ ++ ⟨#[e, f]⟩ ++ ⟨#[g, h]⟩ ++ ⟨#[i]⟩ ++ ⟨#[j]⟩ = ⟨[a, b, c, d, e, f, g, h, i, j].toArray⟩ := by
  apply ByteArray.ext
  simp only [ByteArray.data_append]
  rfl
set_option maxHeartbeats 4000000 in
theorem front_any (h : Ip) (n : Nat) (w : World) (hm : h.May) (hn : n ≤ 1000000) :
    Calls Try.prog 54 #[.agg (ipV h), .int .i64 (n : Int)] w fun e w' => e = .returned (.string ⟨(h.front n).toArray⟩) ∧ Below w.heap.size w w' := by
  have ho : h.opts.size ≤ 40 := hm.2.2.2.2.2.2.1
  obtain ⟨K, hK⟩ : ∃ K : Int, 20 + (h.opts.size : Int) = K := ⟨_, rfl⟩
  have hK1 : wrap64 K = K := by unfold wrap64; omega
  have hK2 : wrap64 (K + (n : Int)) = K + (n : Int) := by unfold wrap64; omega
  have hK3 : K.tdiv 4 = K / 4 := Int.tdiv_eq_ediv_of_nonneg (by omega)
  have hK5 : wrap64 (K / 4) = K / 4 := by unfold wrap64; omega
  have hK4 : bits .or .i64 64 (K / 4) = 64 + K / 4 := by
    obtain ⟨q, hq⟩ := Int.eq_ofNat_of_zero_le (show 0 ≤ K / 4 by omega)
    rw [hq]
    have := or_apart' 6 1 q (by omega) (by omega)
    rw [show ((2 ^ 6 * 1 : Nat) : Int) = 64 from rfl] at this
    rw [this]
    omega
  have hcat : bigB (64 + K / 4) 1 ++ bigB h.tos 1 ++ bigB (K + (n : Int)) 2 ++ bigB h.id 2 ++ bigB h.cut 2 ++ bigB h.ttl 1 ++ bigB h.proto 1 = ⟨(h.front n).toArray⟩ := by
    unfold Ip.front
    rw [hK]
    exact front_cat _ _ _ _ _ _ _ _ _ _
  have hb1 := bigB1s
  have hb2 := bigB2s
  clear ho
  have hcl := Cls.cell (w := w.alloc (.cells (ipV h) 27))
  have hcut := fun w => cut_any h w hm
  go_enter Try.func54, Try.ntmps54
  go_upto_region 2 with fail
  refine wp_region_calm (by kernel_rfl) (by kernel_rfl) (fun hne => ?_)
  repeat (go_big_quiet_step (first | (go_at_call 77; exact calm_of (hcut _)) | (go_at_call 55; exact calm_of (big_b _ _ _))))
  refine wpQuiet_nil ?_
  rintro _ ⟨x, rfl⟩
  go_wp2
  go_ret
  exact ⟨by rw [← hcat]; rfl, below_after (below1 _ _) x.bel⟩
end Go.Proofs.Ythfncbcnokkmiaa
