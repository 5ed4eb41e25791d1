/- Contracts of layer 4: tcp's Get. -/
import Derived.Test.YthfncbcnokkmiaaTcs2
namespace Go.Proofs.Ythfncbcnokkmiaa
open Go.RowKit
set_option linter.unusedVariables false
theorem hdT_bd (l : List UInt8) : hdT l ≤ 60 := by
  have := (l.getD 12 0).toNat_lt
  unfold hdT byteAt
  omega
theorem tcTold_any (s : ByteArray) (w : World) (h : 13 ≤ s.size) :
    Calls Try.prog 74 #[.string s] w fun e w' => e = .returned (.int .i64 (hdT s.data.toList : Nat)) ∧ w = w' := by
  have k0 : (12 : Int) < (s.size : Int) := by omega
  obtain ⟨a, ha⟩ : ∃ a, s[12] = a := ⟨_, rfl⟩
  have hlt := a.toNat_lt
  have hr : ((hdT s.data.toList : Nat) : Int) = (a.toNat : Int) / 16 * 4 := by unfold hdT; rw [at_eq s 12 (by omega), ha]; omega
  have hw : wrap64 ((a.toNat : Int) / 16) = (a.toNat : Int) / 16 := by unfold wrap64; omega
  have hw2 : wrap64 ((a.toNat : Int) / 16 * 4) = (a.toNat : Int) / 16 * 4 := by unfold wrap64; omega
  rw [hr]
  clear hr
  go_enter Try.func74, Try.ntmps74
  go_wp2
  go_ret
  exact ⟨rfl, rfl⟩
set_option maxHeartbeats 1000000 in
theorem tcFault_walk (s : ByteArray) (a b : UInt32) (a12 a13 : UInt8) (N q : Nat) (G : ByteArray) (z : Int) (w : World) (hs : s.size ≤ 9223372036854775807) (k20 : (20 : Int) ≤ (s.size : Int)) (e12 : s[12]'(by omega) = a12) (e13 : s[13]'(by omega) = a13)
    (cT : ∀ w : World, Calls Try.prog 74 #[.string s] w fun e w' => e = .returned (.int .i64 (N : Int)) ∧ w = w') (hq : bits .and .u8 (a12.toNat : Int) 15 = (q : Int))
    (cA : (s.size : Int) ≤ 2000 → ∀ w : World, Calls Try.prog 75 #[.int .u32 (a.toNat : Int), .int .u32 (b.toNat : Int), .int .i64 (s.size : Int)] w fun e w' => e = .returned (.string G) ∧ Below w.heap.size w w')
    (cO : (s.size : Int) ≤ 2000 → ∀ (b cap : Nat) (w : World), w.cell? ⟨b, 0, none⟩ = some (.string G) → w.cell? ⟨b, 1, none⟩ = some (.string s) → Calls Try.prog 56 #[.slice (some ⟨b, 0, none⟩) 2 cap] w fun e w' => e = .returned (.int .i64 z) ∧ w = w') :
    Calls Try.prog 51 #[.int .u32 (a.toNat : Int), .int .u32 (b.toNat : Int), .string s] w fun e w' => e = .returned (.int .i64 (if N < 20 then 3 else if s.size < N then 2 else if q ≠ 0 ∨ 63 < a13.toNat then 3 else if 2000 < s.size then 5 else if z ≠ 0 then 4 else 0)) ∧ Below w.heap.size w w' := by
  have g12 : (12 : Int) < (s.size : Int) := by omega
  have g13 : (13 : Int) < (s.size : Int) := by omega
  by_cases h1 : N < 20
  · rw [if_pos h1]
    go_enter Try.func51, Try.ntmps51
    go_wp2_with (go_at_call 74; refine (cT _).mono ?_; rintro e w' ⟨rfl, rfl⟩)
    go_ret
    exact ⟨rfl, Below.refl _ _⟩
  rw [if_neg h1]
  have h1' : ¬ (N : Int) < 20 := by omega
  clear h1
  by_cases h2 : s.size < N
  · rw [if_pos h2]
    go_enter Try.func51, Try.ntmps51
    go_wp2_with (go_at_call 74; refine (cT _).mono ?_; rintro e w' ⟨rfl, rfl⟩)
    go_ret
    exact ⟨rfl, Below.refl _ _⟩
  rw [if_neg h2]
  have h2' : ¬ (s.size : Int) < (N : Int) := by omega
  clear h2
  by_cases h3 : q = 0
  case neg =>
    rw [if_pos (.inl h3)]
    have b3 : ((q : Int) != 0) = true := by simpa using h3
    go_enter Try.func51, Try.ntmps51
    go_wp2_with (go_at_call 74; refine (cT _).mono ?_; rintro e w' ⟨rfl, rfl⟩)
    go_ret
    exact ⟨rfl, Below.refl _ _⟩
  have b3 : ((q : Int) != 0) = false := by simpa using h3
  by_cases h4 : 63 < a13.toNat
  · rw [if_pos (.inr h4)]
    have h4' : (63 : Int) < (a13.toNat : Int) := by omega
    go_enter Try.func51, Try.ntmps51
    go_wp2_with (go_at_call 74; refine (cT _).mono ?_; rintro e w' ⟨rfl, rfl⟩)
    go_ret
    exact ⟨rfl, Below.refl _ _⟩
  rw [if_neg (show ¬ (q ≠ 0 ∨ 63 < a13.toNat) from by omega)]
  have h4' : ¬ (63 : Int) < (a13.toNat : Int) := by omega
  clear h3 h4
  by_cases h5 : 2000 < s.size
  · rw [if_pos h5]
    have h5' : (2000 : Int) < (s.size : Int) := by omega
    go_enter Try.func51, Try.ntmps51
    go_wp2_with (go_at_call 74; refine (cT _).mono ?_; rintro e w' ⟨rfl, rfl⟩)
    go_ret
    exact ⟨rfl, Below.refl _ _⟩
  rw [if_neg h5]
  have h5' : (s.size : Int) ≤ 2000 := by omega
  have cA' := cA h5'
  have cO' := cO h5'
  clear h5 cA cO
  by_cases h6 : z = 0
  · rw [if_neg (by simpa using h6)]
    have b6 : (z != 0) = false := by simpa using h6
    clear h6
    go_enter Try.func51, Try.ntmps51
    go_wp2_with (go_at_call 74; refine (cT _).mono ?_; rintro e w' ⟨rfl, rfl⟩)
    refine (cA' _).mono ?_
    rintro e w1 ⟨rfl, hb1⟩
    have H1 := (show Hid _ from below_after hb1 (below1 w1 (.cells #[.string G, .string s] 9)))
    clear hb1
    go_wp2_with fail
    refine (cO' _ _ _ (by simp) (by simp)).mono ?_
    rintro e w2 ⟨rfl, rfl⟩
    go_wp2_with fail
    go_ret
    exact ⟨rfl, H1.out⟩
  · rw [if_pos h6]
    have b6 : (z != 0) = true := by simpa using h6
    clear h6
    go_enter Try.func51, Try.ntmps51
    go_wp2_with (go_at_call 74; refine (cT _).mono ?_; rintro e w' ⟨rfl, rfl⟩)
    refine (cA' _).mono ?_
    rintro e w1 ⟨rfl, hb1⟩
    have H1 := (show Hid _ from below_after hb1 (below1 w1 (.cells #[.string G, .string s] 9)))
    clear hb1
    go_wp2_with fail
    refine (cO' _ _ _ (by simp) (by simp)).mono ?_
    rintro e w2 ⟨rfl, rfl⟩
    go_wp2_with fail
    go_ret
    exact ⟨rfl, H1.out⟩
theorem tcFault_short (s : ByteArray) (a b : UInt32) (w : World) (h : s.size < 20) :
    Calls Try.prog 51 #[.int .u32 (a.toNat : Int), .int .u32 (b.toNat : Int), .string s] w fun e w' => e = .returned (.int .i64 2) ∧ Below w.heap.size w w' := by
  go_enter Try.func51, Try.ntmps51
  go_wp2
  go_ret
  exact ⟨rfl, Below.refl _ _⟩
theorem tcFault_any (s : ByteArray) (a b : UInt32) (w : World) (hs : s.size ≤ 9223372036854775807) :
    Calls Try.prog 51 #[.int .u32 (a.toNat : Int), .int .u32 (b.toNat : Int), .string s] w fun e w' => e = .returned (.int .i64 (badT a b s.data.toList)) ∧ Below w.heap.size w w' := by
  have hl : s.data.toList.length = s.size := toList_length s
  unfold badT
  rw [hl]
  by_cases h : s.size < 20
  · rw [if_pos h]
    exact tcFault_short s a b w h
  rw [if_neg h]
  have e12 := at_eq s 12 (by omega)
  have e13 := at_eq s 13 (by omega)
  rw [e12, e13]
  have hq : bits .and .u8 ((s[12]'(by omega)).toNat : Int) 15 = (((s[12]'(by omega)).toNat % 16 : Nat) : Int) := and_low _
  exact tcFault_walk s a b _ _ _ _ ⟨(tcAhead a b s.size).toArray⟩ _ w hs (by omega) rfl rfl (fun w => tcTold_any s w (by omega)) hq (fun _ w => tcAhead_any a b s.size w)
    (fun h2 b' cap w h0 h1 => by
      have := of_two b' cap ⟨(tcAhead a b s.size).toArray⟩ s w (by have : (⟨(tcAhead a b s.size).toArray⟩ : ByteArray).size = 12 := by rw [← toList_length, ofL, tcAhead_length]
                                                                   omega) h0 h1
      rw [ofL] at this
      exact this)
/-- a head's fields, as Get reads them -/
theorem tcFields (s : ByteArray) (h : 20 ≤ s.size) : ∃ (a13 : UInt8) (t0 t1 t2 t3 t4 : ByteArray) (n0 n1 n2 n3 n4 S D : Int),
    s[13] = a13 ∧ s.extract 0 2 = t0 ∧ s.extract 2 4 = t1 ∧ s.extract 4 8 = t2 ∧ s.extract 8 12 = t3 ∧ s.extract 14 16 = t4 ∧ IntKind.u32.wrap n2 = S ∧ IntKind.u32.wrap n3 = D ∧
    (Pl.numL (Pl.last7 t0.data.toList) = n0 ∧ Pl.numL (Pl.last7 t1.data.toList) = n1 ∧ Pl.numL (Pl.last7 t2.data.toList) = n2 ∧ Pl.numL (Pl.last7 t3.data.toList) = n3 ∧ Pl.numL (Pl.last7 t4.data.toList) = n4) ∧
    (t0.size = 2 ∧ t1.size = 2 ∧ t2.size = 4 ∧ t3.size = 4 ∧ t4.size = 2) ∧
    #[.int .i64 n0, .int .i64 n1, .int .u32 S, .int .u32 D, .int .i64 (a13.toNat : Int), .int .i64 n4, .string (s.extract 20 (hdT s.data.toList))] = sgV (gotT s.data.toList) := by
  obtain ⟨c0, c1, e0, g0, g1⟩ := bytes2 s 0 (by omega)
  obtain ⟨c2, c3, e2, g2, g3⟩ := bytes2 s 2 (by omega)
  obtain ⟨p0, p1, p2, p3, ep, r0, r1, r2, r3⟩ := bytes4 s 4 (by omega)
  obtain ⟨q0, q1, q2, q3, eq, v0, v1, v2, v3⟩ := bytes4 s 8 (by omega)
  obtain ⟨c4, c5, e4, g4, g5⟩ := bytes2 s 14 (by omega)
  have f := gotT_fields s.data.toList
  rw [at_eq s 0 (by omega), at_eq s 1 (by omega), at_eq s 2 (by omega), at_eq s 3 (by omega), at_eq s 13 (by omega), at_eq s 14 (by omega), at_eq s 15 (by omega), getD_eq s 4 (by omega), getD_eq s 5 (by omega), getD_eq s 6 (by omega), getD_eq s 7 (by omega),
    getD_eq s 8 (by omega), getD_eq s 9 (by omega), getD_eq s 10 (by omega), getD_eq s 11 (by omega), g0, g1, g2, g3, g4, g5, r0, r1, r2, r3, v0, v1, v2, v3] at f
  obtain ⟨f1, f2, f3, f4, f5, f6, f7⟩ := f
  have b2 := num4_bd p0 p1 p2 p3
  have b3 := num4_bd q0 q1 q2 q3
  refine ⟨_, _, _, _, _, _, _, _, _, _, _, _, _, rfl, rfl, rfl, rfl, rfl, rfl, rfl, rfl, ⟨rfl, rfl, rfl, rfl, rfl⟩, ⟨by rw [e0]; rfl, by rw [e2]; rfl, by rw [ep]; rfl, by rw [eq]; rfl, by rw [e4]; rfl⟩, ?_⟩
  unfold sgV
  rw [f1, f2, f3, f4, f5, f6, f7, e0, e2, e4, ep, eq]
  rw [show (ByteArray.mk #[c0, c1]).data.toList = [c0, c1] from rfl, numL2, show (ByteArray.mk #[c2, c3]).data.toList = [c2, c3] from rfl, numL2, show (ByteArray.mk #[c4, c5]).data.toList = [c4, c5] from rfl, numL2, show (ByteArray.mk #[p0, p1, p2, p3]).data.toList = [p0, p1, p2, p3] from rfl, numL4, show (ByteArray.mk #[q0, q1, q2, q3]).data.toList = [q0, q1, q2, q3] from rfl, numL4]
  rw [u32_of _ b2.1 b2.2, u32_of _ b3.1 b3.2]
  have x : ∀ a b : UInt8, (a.toNat : Int) * 256 + (b.toNat : Int) = ((a.toNat * 256 + b.toNat : Nat) : Int) := by intro a b; omega
  have x5 : s.extract 20 (hdT s.data.toList) = ⟨((s.data.toList.take (hdT s.data.toList)).drop 20).toArray⟩ := by
    apply ByteArray.ext
    apply Array.ext'
    rw [ext_list]
  rw [x, x, x, x5]
set_option maxHeartbeats 2000000 in
theorem tcSeg_any (s : ByteArray) (w : World) (h : 20 ≤ s.size) (hs : s.size ≤ 1000000) (h1 : 20 ≤ hdT s.data.toList) (h2 : hdT s.data.toList ≤ s.size) :
    Calls Try.prog 52 #[.string s] w fun e w' => e = .returned (.agg (sbV (gotT s.data.toList) (s.extract (hdT s.data.toList) s.size))) ∧ Below w.heap.size w w' := by
  obtain ⟨a13, t0, t1, t2, t3, t4, n0, n1, n2, n3, n4, S, D, e13, x0, x1, x2, x3, x4, u1, u2, ⟨v0, v1, v2, v3, v4⟩, ⟨s0, s1, s2, s3, s4⟩, hV⟩ := tcFields s h
  have hV2 : sbV (gotT s.data.toList) (s.extract (hdT s.data.toList) s.size) = #[.int .i64 n0, .int .i64 n1, .int .u32 S, .int .u32 D, .int .i64 (a13.toNat : Int), .int .i64 n4, .string (s.extract 20 (hdT s.data.toList)), .string (s.extract (hdT s.data.toList) s.size)] := by
    unfold sgV at hV
    unfold sbV
    injection hV with hV
    injection hV with k0 hV
    injection hV with k1 hV
    injection hV with k2 hV
    injection hV with k3 hV
    injection hV with k4 hV
    injection hV with k5 hV
    injection hV with k6 hV
    rw [k0, k1, k2, k3, k4, k5, k6]
  rw [hV2]
  have cT := fun w => tcTold_any s w (by omega)
  have c0 := fun w => num_any t0 w (by omega)
  have c1 := fun w => num_any t1 w (by omega)
  have c2 := fun w => num_any t2 w (by omega)
  have c3 := fun w => num_any t3 w (by omega)
  have c4 := fun w => num_any t4 w (by omega)
  rw [v0] at c0
  rw [v1] at c1
  rw [v2] at c2
  rw [v3] at c3
  rw [v4] at c4
  generalize hdT s.data.toList = q at *
  clear hV hV2 v0 v1 v2 v3 v4 s0 s1 s2 s3 s4
  have k2 : (2 : Int) ≤ (s.size : Int) := by omega
  have k4 : (4 : Int) ≤ (s.size : Int) := by omega
  have k8 : (8 : Int) ≤ (s.size : Int) := by omega
  have k12 : (12 : Int) ≤ (s.size : Int) := by omega
  have k16 : (16 : Int) ≤ (s.size : Int) := by omega
  have g13 : (13 : Int) < (s.size : Int) := by omega
  have kq : (q : Int) ≤ (s.size : Int) := by omega
  have kq2 : (20 : Int) ≤ (q : Int) := by omega
  have wa := u8_wrap a13
  go_enter Try.func52, Try.ntmps52
  go_wp2_with fail
  refine (cT _).mono ?_
  rintro e w1 ⟨rfl, rfl⟩
  go_upto_region 2 with fail
  refine wp_region_calm_tail 28 (by kernel_rfl) (by kernel_rfl) (fun hne => ?_)
  simp only [List.take_succ_cons, List.take_zero, List.drop_succ_cons, List.drop_zero]
  repeat (go_big_quiet_step (first | (go_at_call_of 46 t0; exact calm_of_same (c0 _)) | (go_at_call_of 46 t1; exact calm_of_same (c1 _)) | (go_at_call_of 46 t2; exact calm_of_same (c2 _)) | (go_at_call_of 46 t3; exact calm_of_same (c3 _)) | (go_at_call_of 46 t4; exact calm_of_same (c4 _))))
  refine wpQuiet_nil ?_
  rintro _ ⟨x, rfl⟩
  obtain ⟨hc2, hf2, zz2, HB2⟩ := cls_in x
  generalize x.val = w2 at *
  clear hne c1 c2 c3 c4 c0 cT
  obtain ⟨wx, hwx, hr, HB⟩ := set_row (vs := [.int .i64 n0, .int .i64 n1, .int .u32 S, .int .u32 D, .int .i64 (a13.toNat : Int), .int .i64 n4, .string (s.extract 20 q), .string (s.extract q s.size)]) hc2 HB2 rfl
  go_wp2_with fail
  change bodyPost _ _ _ _ _ (w2.setCells w.heap.size 0 [.int .i64 n0, .int .i64 n1, .int .u32 S, .int .u32 D, .int .i64 (a13.toNat : Int), .int .i64 n4, .string (s.extract 20 q), .string (s.extract q s.size)])
  rw [hwx]
  exact bodyPost_ret (v := .agg #[.int .i64 n0, .int .i64 n1, .int .u32 S, .int .u32 D, .int .i64 (a13.toNat : Int), .int .i64 n4, .string (s.extract 20 q), .string (s.extract q s.size)]) (by simp [results, Try.results52, go_sem, hr]) rfl ⟨rfl, HB.out⟩
end Go.Proofs.Ythfncbcnokkmiaa
