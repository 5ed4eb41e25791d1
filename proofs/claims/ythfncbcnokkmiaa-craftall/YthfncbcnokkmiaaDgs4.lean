/- Contracts of layer 5: the heads and the faults of bytes. -/
import Derived.Test.YthfncbcnokkmiaaDgs2
namespace Go.Proofs.Ythfncbcnokkmiaa
open Go.RowKit
set_option linter.unusedVariables false
theorem icFields (s : ByteArray) (h : 8 ≤ s.size) : ∃ (a0 a1 : UInt8) (t : ByteArray) (n S : Int), s[0] = a0 ∧ s[1] = a1 ∧ s.extract 4 8 = t ∧ IntKind.u32.wrap n = S ∧ Pl.numL (Pl.last7 t.data.toList) = n ∧ t.size = 4 ∧
    #[.int .i64 0, .int .i64 0, .int .i64 (a0.toNat : Int), .int .i64 (a1.toNat : Int), .int .u32 S] = dgV (gotI s.data.toList) := by
  obtain ⟨p0, p1, p2, p3, ep, r0, r1, r2, r3⟩ := bytes4 s 4 (by omega)
  have b2 := num4_bd p0 p1 p2 p3
  refine ⟨_, _, _, _, _, rfl, rfl, rfl, rfl, rfl, by rw [ep]; rfl, ?_⟩
  unfold dgV gotI
  rw [at_eq s 0 (by omega), at_eq s 1 (by omega), getD_eq s 4 (by omega), getD_eq s 5 (by omega), getD_eq s 6 (by omega), getD_eq s 7 (by omega), r0, r1, r2, r3, ep]
  rw [show (ByteArray.mk #[p0, p1, p2, p3]).data.toList = [p0, p1, p2, p3] from rfl, numL4, u32_of _ b2.1 b2.2]
set_option maxHeartbeats 1000000 in
theorem icHead_any (s : ByteArray) (w : World) (h : 8 ≤ s.size) (hs : s.size ≤ 1000000) :
    Calls Try.prog 104 #[.agg iV, .string s] w fun e w' => e = .returned (.agg (dgV (gotI s.data.toList))) ∧ Below w.heap.size w w' := by
  obtain ⟨a0, a1, t, n, S, e0, e1, x0, u1, v0, s0, hV⟩ := icFields s h
  rw [← hV]
  have c0 := fun w => num_any t w (by omega)
  rw [v0] at c0
  have k0 : (0 : Int) < (s.size : Int) := by omega
  have k1 : (1 : Int) < (s.size : Int) := by omega
  have k8 : (8 : Int) ≤ (s.size : Int) := by omega
  have wa := u8_wrap a0
  have wb := u8_wrap a1
  clear hV v0 s0
  go_enter Try.func104, Try.ntmps104
  go_upto_region 1 with fail
  refine wp_region_calm_tail 11 (by kernel_rfl) (by kernel_rfl) (fun hne => ?_)
  simp only [List.take_succ_cons, List.take_zero, List.drop_succ_cons, List.drop_zero]
  repeat (go_big_quiet_step ((go_at_call 46; exact calm_of_same (c0 _))))
  refine wpQuiet_nil ?_
  rintro _ ⟨x, rfl⟩
  obtain ⟨hc2, hf2, zz2, HB2⟩ := cls_in x
  generalize x.val = w2 at *
  clear hne c0
  obtain ⟨wx, hwx, hr, HB⟩ := set_row (vs := [.int .i64 0, .int .i64 0, .int .i64 (a0.toNat : Int), .int .i64 (a1.toNat : Int), .int .u32 S]) hc2 HB2 rfl
  simp only [World.size_alloc] at hc2 hf2 zz2 hwx hr
  go_wp2_with fail
  change bodyPost _ _ _ _ _ (w2.setCells (w.heap.size + 1) 0 [.int .i64 0, .int .i64 0, .int .i64 (a0.toNat : Int), .int .i64 (a1.toNat : Int), .int .u32 S])
  rw [hwx]
  exact bodyPost_ret (v := .agg #[.int .i64 0, .int .i64 0, .int .i64 (a0.toNat : Int), .int .i64 (a1.toNat : Int), .int .u32 S]) (by simp [results, Try.results104, go_sem, hr]) rfl ⟨rfl, below_after (below1 _ _) HB.out⟩
set_option maxHeartbeats 1000000 in
theorem icFault_walk (s : ByteArray) (z : Int) (w : World) (hs : s.size ≤ 9223372036854775807)
    (cO : (s.size : Int) ≤ 2000 → ∀ (b cap : Nat) (w : World), w.cell? ⟨b, 0, none⟩ = some (.string ⟨#[]⟩) → w.cell? ⟨b, 1, none⟩ = some (.string s) → Calls Try.prog 56 #[.slice (some ⟨b, 0, none⟩) 2 cap] w fun e w' => e = .returned (.int .i64 z) ∧ w = w') :
    Calls Try.prog 76 #[.agg iV, .string s] w fun e w' => e = .returned (.int .i64 (if s.size < 8 then 2 else if 2000 < s.size then 5 else if z ≠ 0 then 4 else 0)) ∧ Below w.heap.size w w' := by
  have cL' := fun w => icLen_any s w
  have cU' := fun w => icUns_any s w
  have cA' := fun w => icAhead_any s.size w
  by_cases h1 : s.size < 8
  · rw [if_pos h1]
    clear cO
    go_enter Try.func76, Try.ntmps76
    go_wp2_with fail
    go_ret
    exact ⟨rfl, below1 _ _⟩
  rw [if_neg h1]
  have h1' : ¬ (s.size : Int) < 8 := by omega
  clear h1
  by_cases h5 : 2000 < s.size
  · rw [if_pos h5]
    have h5' : (2000 : Int) < (s.size : Int) := by omega
    clear cO
    go_enter Try.func76, Try.ntmps76
    go_wp2_with fail
    refine (cL' _).mono ?_
    rintro e w1 ⟨rfl, hb1⟩
    have H1 := (show Hid _ from below_after (below1 _ _) hb1)
    clear hb1
    go_wp2_with fail
    go_ret
    exact ⟨rfl, H1.out⟩
  rw [if_neg h5]
  have h5' : (s.size : Int) ≤ 2000 := by omega
  have cO' := cO h5'
  clear h5 cO
  by_cases h6 : z = 0
  · rw [if_neg (by simp [h6])]
    have b6 : (z != 0) = false := by simpa using h6
    clear h6
    go_enter Try.func76, Try.ntmps76
    go_wp2_with fail
    refine (cL' _).mono ?_
    rintro e w1 ⟨rfl, hb1⟩
    have n1 := below_call (new_alloc w (.cells iV 88)) (size_alloc1 _ _) hb1
    obtain ⟨q1, _, z1⟩ := new_in n1
    have N1 := (show Hid _ from n1)
    clear hb1 n1
    go_wp2_with fail
    refine (cU' _).mono ?_
    rintro e w2 ⟨rfl, hb2⟩
    have n2 := below_call N1.out (size_alloc1 _ _) hb2
    obtain ⟨q2, _, z2⟩ := new_in n2
    have N2 := (show Hid _ from n2)
    clear hb2 N1 q1 z1 n2
    go_wp2_with fail
    refine (cA' _).mono ?_
    rintro e w3 ⟨rfl, hb3⟩
    have N3 := (show Hid _ from below_more (below_call N2.out (size_alloc1 _ _) hb3) (size_alloc1 _ _) (.cells #[.string ⟨#[]⟩, .string s] 9))
    clear hb3 N2 q2 z2
    go_wp2_with fail
    refine (cO' _ _ _ (by simp) (by simp)).mono ?_
    rintro e w4 ⟨rfl, rfl⟩
    go_wp2_with fail
    go_ret
    exact ⟨rfl, (below1 w _).trans (N3.out.mono (Nat.le_succ _))⟩
  · rw [if_pos h6]
    have b6 : (z != 0) = true := by simpa using h6
    clear h6
    go_enter Try.func76, Try.ntmps76
    go_wp2_with fail
    refine (cL' _).mono ?_
    rintro e w1 ⟨rfl, hb1⟩
    have n1 := below_call (new_alloc w (.cells iV 88)) (size_alloc1 _ _) hb1
    obtain ⟨q1, _, z1⟩ := new_in n1
    have N1 := (show Hid _ from n1)
    clear hb1 n1
    go_wp2_with fail
    refine (cU' _).mono ?_
    rintro e w2 ⟨rfl, hb2⟩
    have n2 := below_call N1.out (size_alloc1 _ _) hb2
    obtain ⟨q2, _, z2⟩ := new_in n2
    have N2 := (show Hid _ from n2)
    clear hb2 N1 q1 z1 n2
    go_wp2_with fail
    refine (cA' _).mono ?_
    rintro e w3 ⟨rfl, hb3⟩
    have N3 := (show Hid _ from below_more (below_call N2.out (size_alloc1 _ _) hb3) (size_alloc1 _ _) (.cells #[.string ⟨#[]⟩, .string s] 9))
    clear hb3 N2 q2 z2
    go_wp2_with fail
    refine (cO' _ _ _ (by simp) (by simp)).mono ?_
    rintro e w4 ⟨rfl, rfl⟩
    go_wp2_with fail
    go_ret
    exact ⟨rfl, (below1 w _).trans (N3.out.mono (Nat.le_succ _))⟩
theorem icFault_any (s : ByteArray) (w : World) (hs : s.size ≤ 9223372036854775807) :
    Calls Try.prog 76 #[.agg iV, .string s] w fun e w' => e = .returned (.int .i64 (badI s.data.toList)) ∧ Below w.heap.size w w' := by
  have h := icFault_walk s (sumL s.data.toList) w hs (fun h2 b' cap w h0 h1 => by
      have := of_two b' cap ⟨#[]⟩ s w (by show 0 + _ ≤ _; omega) h0 h1
      exact this)
  unfold badI
  rw [toList_length]
  exact h
end Go.Proofs.Ythfncbcnokkmiaa
