/- Contracts of layer 4: tcp's Check, a segment's parts, Put. -/
import Derived.Test.YthfncbcnokkmiaaTcPl
namespace Go.Proofs.Ythfncbcnokkmiaa
open Go.RowKit
set_option linter.unusedVariables false

/-! ### Check -/
theorem tcWithin_yes (v m : Int) (w : World) (h0 : 0 ≤ v) (h1 : v ≤ m) :
    Calls Try.prog 45 #[.int .i64 v, .int .i64 m] w fun e w' => e = .returned (.bool true) ∧ w = w' := by
  go_enter Try.func45, Try.ntmps45
  go_wp2
  go_ret
  exact ⟨rfl, rfl⟩
theorem tcWithin_no (v m : Int) (w : World) (h : v < 0 ∨ m < v) (hm : 0 ≤ m) :
    Calls Try.prog 45 #[.int .i64 v, .int .i64 m] w fun e w' => e = .returned (.bool false) ∧ w = w' := by
  by_cases h0 : 0 ≤ v
  · have h1 : ¬ v ≤ m := by omega
    clear h
    go_enter Try.func45, Try.ntmps45
    go_wp2
    go_ret
    exact ⟨rfl, rfl⟩
  · clear h
    go_enter Try.func45, Try.ntmps45
    go_wp2
    go_ret
    exact ⟨rfl, rfl⟩
set_option maxHeartbeats 1000000 in
theorem tcCheck_yes (h : Sg) (w : World) (hm : h.May) :
    Calls Try.prog 22 #[.agg (sgV h)] w fun e w' => e = .returned (.bool true) ∧ Below w.heap.size w w' := by
  obtain ⟨⟨m0, m1⟩, ⟨m2, m3⟩, ⟨m4, m5⟩, ⟨m6, m7⟩, m11, m12⟩ := hm
  have t4 : Int.tmod (h.opts.size : Int) 4 = 0 := by rw [Int.tmod_eq_emod_of_nonneg (by omega)]; omega
  have k40 : (h.opts.size : Int) ≤ 40 := by omega
  go_enter Try.func22, Try.ntmps22
  go_wp2_with fail
  refine (tcWithin_yes _ _ _ m0 m1).mono ?_
  rintro e w' ⟨rfl, rfl⟩
  go_wp2_with fail
  refine (tcWithin_yes _ _ _ m2 m3).mono ?_
  rintro e w' ⟨rfl, rfl⟩
  go_wp2_with fail
  refine (tcWithin_yes _ _ _ m4 m5).mono ?_
  rintro e w' ⟨rfl, rfl⟩
  go_wp2_with fail
  refine (tcWithin_yes _ _ _ m6 m7).mono ?_
  rintro e w' ⟨rfl, rfl⟩
  go_wp2_with fail
  go_ret
  exact ⟨rfl, below1 _ _⟩
set_option maxHeartbeats 4000000 in
theorem tcCheck_no (h : Sg) (w : World) (hm : ¬ h.May) :
    Calls Try.prog 22 #[.agg (sgV h)] w fun e w' => e = .returned (.bool false) ∧ Below w.heap.size w w' := by
  have hz : (0 : Int) ≤ (h.opts.size : Int) := by omega
  by_cases a0 : 0 ≤ h.src ∧ h.src ≤ 65535
  case neg =>
    go_enter Try.func22, Try.ntmps22; go_wp2_with fail
    refine (tcWithin_no _ _ _ (by omega) (by decide)).mono ?_; rintro e w' ⟨rfl, rfl⟩; go_wp2_with fail; go_ret; exact ⟨rfl, below1 _ _⟩
  by_cases a1 : 0 ≤ h.dst ∧ h.dst ≤ 65535
  case neg =>
    go_enter Try.func22, Try.ntmps22; go_wp2_with fail
    refine (tcWithin_yes _ _ _ a0.1 a0.2).mono ?_; rintro e w' ⟨rfl, rfl⟩; go_wp2_with fail
    refine (tcWithin_no _ _ _ (by omega) (by decide)).mono ?_; rintro e w' ⟨rfl, rfl⟩; go_wp2_with fail; go_ret; exact ⟨rfl, below1 _ _⟩
  by_cases a2 : 0 ≤ h.win ∧ h.win ≤ 65535
  case neg =>
    go_enter Try.func22, Try.ntmps22; go_wp2_with fail
    refine (tcWithin_yes _ _ _ a0.1 a0.2).mono ?_; rintro e w' ⟨rfl, rfl⟩; go_wp2_with fail
    refine (tcWithin_yes _ _ _ a1.1 a1.2).mono ?_; rintro e w' ⟨rfl, rfl⟩; go_wp2_with fail
    refine (tcWithin_no _ _ _ (by omega) (by decide)).mono ?_; rintro e w' ⟨rfl, rfl⟩; go_wp2_with fail; go_ret; exact ⟨rfl, below1 _ _⟩
  by_cases a3 : 0 ≤ h.flags ∧ h.flags ≤ 63
  case neg =>
    go_enter Try.func22, Try.ntmps22; go_wp2_with fail
    refine (tcWithin_yes _ _ _ a0.1 a0.2).mono ?_; rintro e w' ⟨rfl, rfl⟩; go_wp2_with fail
    refine (tcWithin_yes _ _ _ a1.1 a1.2).mono ?_; rintro e w' ⟨rfl, rfl⟩; go_wp2_with fail
    refine (tcWithin_yes _ _ _ a2.1 a2.2).mono ?_; rintro e w' ⟨rfl, rfl⟩; go_wp2_with fail
    refine (tcWithin_no _ _ _ (by omega) (by decide)).mono ?_; rintro e w' ⟨rfl, rfl⟩; go_wp2_with fail; go_ret; exact ⟨rfl, below1 _ _⟩
  have e4 : Int.tmod (h.opts.size : Int) 4 = (h.opts.size : Int) % 4 := by rw [Int.tmod_eq_emod_of_nonneg (by omega)]
  by_cases a6 : (h.opts.size : Int) ≤ 40
  case neg =>
    go_enter Try.func22, Try.ntmps22; go_wp2_with fail
    refine (tcWithin_yes _ _ _ a0.1 a0.2).mono ?_; rintro e w' ⟨rfl, rfl⟩; go_wp2_with fail
    refine (tcWithin_yes _ _ _ a1.1 a1.2).mono ?_; rintro e w' ⟨rfl, rfl⟩; go_wp2_with fail
    refine (tcWithin_yes _ _ _ a2.1 a2.2).mono ?_; rintro e w' ⟨rfl, rfl⟩; go_wp2_with fail
    refine (tcWithin_yes _ _ _ a3.1 a3.2).mono ?_; rintro e w' ⟨rfl, rfl⟩; go_wp2_with fail
    go_ret; exact ⟨rfl, below1 _ _⟩
  by_cases a7 : (h.opts.size : Int) % 4 = 0
  case neg =>
    have b7 : ((h.opts.size : Int) % 4 == 0) = false := by simpa using a7
    go_enter Try.func22, Try.ntmps22; go_wp2_with fail
    refine (tcWithin_yes _ _ _ a0.1 a0.2).mono ?_; rintro e w' ⟨rfl, rfl⟩; go_wp2_with fail
    refine (tcWithin_yes _ _ _ a1.1 a1.2).mono ?_; rintro e w' ⟨rfl, rfl⟩; go_wp2_with fail
    refine (tcWithin_yes _ _ _ a2.1 a2.2).mono ?_; rintro e w' ⟨rfl, rfl⟩; go_wp2_with fail
    refine (tcWithin_yes _ _ _ a3.1 a3.2).mono ?_; rintro e w' ⟨rfl, rfl⟩; go_wp2_with fail
    go_ret; exact ⟨rfl, below1 _ _⟩
  exact absurd ⟨a0, a1, a2, a3, by omega, by omega⟩ hm

/-! ### a segment's parts -/
theorem tcHead_any (h : Sg) (body : ByteArray) (w : World) (ho : h.opts.size ≤ 1000000) :
    Calls Try.prog 84 #[.agg (sbV h body)] w fun e w' => e = .returned (.int .i64 (20 + (h.opts.size : Int))) ∧ Below w.heap.size w w' := by
  have hw : wrap64 (20 + (h.opts.size : Int)) = 20 + (h.opts.size : Int) := by unfold wrap64; omega
  go_enter Try.func84, Try.ntmps84
  go_wp2
  go_ret
  exact ⟨rfl, below1 _ _⟩
set_option maxHeartbeats 400000 in
theorem tcAll_any (h : Sg) (body : ByteArray) (w : World) (ho : h.opts.size ≤ 1000000) (hb : body.size ≤ 1000000000000) :
    Calls Try.prog 80 #[.agg (sbV h body)] w fun e w' => e = .returned (.int .i64 ((h.all body : Nat) : Int)) ∧ Below w.heap.size w w' := by
  have hr : ((h.all body : Nat) : Int) = 20 + (h.opts.size : Int) + (body.size : Int) := by unfold Sg.all; omega
  rw [hr]
  have hw : wrap64 (20 + (h.opts.size : Int) + (body.size : Int)) = 20 + (h.opts.size : Int) + (body.size : Int) := by unfold wrap64; omega
  have hc := fun w => tcHead_any h body w ho
  generalize 20 + (h.opts.size : Int) = K at *
  have hcl := Cls.cell (w := w.alloc (.cells (sbV h body) 84))
  clear hr ho
  go_enter Try.func80, Try.ntmps80
  go_upto_region 1 with fail
  refine wp_region_calm (by kernel_rfl) (by kernel_rfl) (fun hne => ?_)
  repeat (go_big_quiet_step ((go_at_call 84; exact calm_of (hc _))))
  refine wpQuiet_nil ?_
  rintro _ ⟨x, rfl⟩
  go_wp2
  go_ret
  exact ⟨ret_int hw, below_after (below1 _ _) x.bel⟩
theorem sgBack_cat (h : Sg) (body : ByteArray) : (⟨#[0, 0]⟩ : ByteArray) ++ h.opts ++ body = ⟨(h.back body).toArray⟩ := by
  apply ByteArray.ext
  rw [ByteArray.data_append, ByteArray.data_append]
  apply Array.ext'
  simp [Sg.back]
theorem sgFront_cat (h : Sg) : bigB h.src 2 ++ bigB h.dst 2 ++ bigB (h.seq.toNat : Int) 4 ++ bigB (h.ack.toNat : Int) 4 ++ bigB ((20 + (h.opts.size : Int)) / 4 * 16) 1 ++ bigB h.flags 1 ++ bigB h.win 2 = ⟨h.front.toArray⟩ := by
  apply ByteArray.ext
  simp only [ByteArray.data_append]
  apply Array.ext'
  simp [Sg.front, bigB4, bigB1, bigB2]
theorem tcAhead_cat (a b : UInt32) (n : Nat) : bigB (a.toNat : Int) 4 ++ bigB (b.toNat : Int) 4 ++ bigB 6 2 ++ bigB (n : Int) 2 = ⟨(tcAhead a b n).toArray⟩ := by
  apply ByteArray.ext
  simp only [ByteArray.data_append]
  apply Array.ext'
  simp [tcAhead, bigB4, bigB2, big2v]
theorem tcBack_any (h : Sg) (body : ByteArray) (w : World) (ho : h.opts.size ≤ 1000000) (hb : body.size ≤ 1000000) :
    Calls Try.prog 82 #[.agg (sbV h body)] w fun e w' => e = .returned (.string ⟨(h.back body).toArray⟩) ∧ Below w.heap.size w w' := by
  rw [← sgBack_cat]
  go_enter Try.func82, Try.ntmps82
  go_wp2
  go_ret
  exact ⟨rfl, below1 _ _⟩
set_option maxHeartbeats 400000 in
theorem tcAhead_any (a b : UInt32) (n : Nat) (w : World) :
    Calls Try.prog 75 #[.int .u32 (a.toNat : Int), .int .u32 (b.toNat : Int), .int .i64 (n : Int)] w fun e w' => e = .returned (.string ⟨(tcAhead a b n).toArray⟩) ∧ Below w.heap.size w w' := by
  rw [← tcAhead_cat]
  have s1 := src_bd a
  have s2 := src_bd b
  have b2 := bigB2s
  have b4 := bigB4s
  go_enter Try.func75, Try.ntmps75
  go_wp2_with fail
  refine (big_b _ _ _).mono ?_
  rintro e w1 ⟨rfl, h1⟩
  have H1 := (show Hid _ from h1)
  clear h1
  go_wp2_with fail
  refine (big_b _ _ _).mono ?_
  rintro e w2 ⟨rfl, h2⟩
  have H2 := (show Hid _ from below_after H1.out h2)
  clear h2 H1
  go_wp2_with fail
  refine (big_b _ _ _).mono ?_
  rintro e w3 ⟨rfl, h3⟩
  have H3 := (show Hid _ from below_after H2.out h3)
  clear h3 H2
  go_wp2_with fail
  refine (big_b _ _ _).mono ?_
  rintro e w4 ⟨rfl, h4⟩
  have H4 := (show Hid _ from below_after H3.out h4)
  clear h4 H3
  go_wp2_with fail
  go_ret
  exact ⟨rfl, H4.out⟩
set_option maxHeartbeats 4000000 in
theorem tcFront_any (h : Sg) (body : ByteArray) (w : World) (ho : h.opts.size ≤ 40) :
    Calls Try.prog 81 #[.agg (sbV h body)] w fun e w' => e = .returned (.string ⟨h.front.toArray⟩) ∧ Below w.heap.size w w' := by
  rw [← sgFront_cat]
  have hc := fun w => tcHead_any h body w (by omega)
  obtain ⟨K, hK⟩ : ∃ K : Int, 20 + (h.opts.size : Int) = K := ⟨_, rfl⟩
  rw [hK] at hc
  rw [hK]
  have hK3 : K.tdiv 4 = K / 4 := Int.tdiv_eq_ediv_of_nonneg (by omega)
  have hK5 : wrap64 (K / 4) = K / 4 := by unfold wrap64; omega
  have hK6 : wrap64 (K / 4 * 16) = K / 4 * 16 := by unfold wrap64; omega
  have s1 := src_bd h.seq
  have s2 := src_bd h.ack
  have b1 := bigB1s
  have b2 := bigB2s
  have b4 := bigB4s
  clear ho hK
  have hcl := Cls.cell (w := w.alloc (.cells (sbV h body) 84))
  go_enter Try.func81, Try.ntmps81
  go_upto_region 1 with fail
  refine wp_region_calm (by kernel_rfl) (by kernel_rfl) (fun hne => ?_)
  repeat (go_big_quiet_step (first | (go_at_call 84; exact calm_of (hc _)) | (go_at_call 55; exact calm_of (big_b _ _ _))))
  refine wpQuiet_nil ?_
  rintro _ ⟨x, rfl⟩
  go_wp2
  go_ret
  exact ⟨rfl, below_after (below1 _ _) x.bel⟩
end Go.Proofs.Ythfncbcnokkmiaa
