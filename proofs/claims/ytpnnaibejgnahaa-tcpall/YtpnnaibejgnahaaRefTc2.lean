/- Contracts of the document's own layer 4: Get. -/
import Derived.Test.YtpnnaibejgnahaaRefTc
import Derived.Test.YtpnnaibejgnahaaTcs4
import Derived.Test.YtpnnaibejgnahaaFresh
namespace Go.Proofs.Ytpnnaibejgnahaa
open Go.RowKit
set_option linter.unusedVariables false
theorem rtGet_1 (s : ByteArray) (a b : UInt32) (w : World) (h1 : s.size < 20) :
    Calls Try.prog 11 #[.int .u32 (a.toNat : Int), .int .u32 (b.toNat : Int), .string s] w fun e w' => e = .returned (.tuple #[.agg sgZ, .string ⟨#[]⟩, .int .i64 2]) ∧ Below w.heap.size w w' := by
  go_enter Try.func11, Try.ntmps11
  go_wp2_with fail
  exact bodyPost_ret (v := .tuple #[.agg sgZ, .string ⟨#[]⟩, .int .i64 2]) (by simp [results, Try.results11, go_sem]) rfl ⟨rfl, below1 _ _⟩
set_option maxRecDepth 100000 in
set_option maxHeartbeats 1000000 in
theorem rtGet_2 (s : ByteArray) (a b : UInt32) (a12 a13 : UInt8) (N q : Nat) (w : World) (k20 : (20 : Int) ≤ (s.size : Int)) (e12 : s[12]'(by omega) = a12) (e13 : s[13]'(by omega) = a13) (hN : wrap64 ((a12.toNat : Int) / 16 * 4) = (N : Int)) (hW : wrap64 ((a12.toNat : Int) / 16) = (a12.toNat : Int) / 16) (hq : bits .and .u8 (a12.toNat : Int) 15 = (q : Int)) (h2 : (N : Int) < 20) :
    Calls Try.prog 11 #[.int .u32 (a.toNat : Int), .int .u32 (b.toNat : Int), .string s] w fun e w' => e = .returned (.tuple #[.agg sgZ, .string ⟨#[]⟩, .int .i64 3]) ∧ Below w.heap.size w w' := by
  have g12 : (12 : Int) < (s.size : Int) := by omega
  have g13 : (13 : Int) < (s.size : Int) := by omega
  go_enter Try.func11, Try.ntmps11
  go_wp2_with fail
  exact bodyPost_ret (v := .tuple #[.agg sgZ, .string ⟨#[]⟩, .int .i64 3]) (by simp [results, Try.results11, go_sem]) rfl ⟨rfl, below1 _ _⟩
set_option maxRecDepth 100000 in
set_option maxHeartbeats 1000000 in
theorem rtGet_3 (s : ByteArray) (a b : UInt32) (a12 a13 : UInt8) (N q : Nat) (w : World) (k20 : (20 : Int) ≤ (s.size : Int)) (e12 : s[12]'(by omega) = a12) (e13 : s[13]'(by omega) = a13) (hN : wrap64 ((a12.toNat : Int) / 16 * 4) = (N : Int)) (hW : wrap64 ((a12.toNat : Int) / 16) = (a12.toNat : Int) / 16) (hq : bits .and .u8 (a12.toNat : Int) 15 = (q : Int)) (h2 : (20 : Int) ≤ (N : Int)) (h3 : (s.size : Int) < (N : Int)) :
    Calls Try.prog 11 #[.int .u32 (a.toNat : Int), .int .u32 (b.toNat : Int), .string s] w fun e w' => e = .returned (.tuple #[.agg sgZ, .string ⟨#[]⟩, .int .i64 2]) ∧ Below w.heap.size w w' := by
  have g12 : (12 : Int) < (s.size : Int) := by omega
  have g13 : (13 : Int) < (s.size : Int) := by omega
  go_enter Try.func11, Try.ntmps11
  go_wp2_with fail
  exact bodyPost_ret (v := .tuple #[.agg sgZ, .string ⟨#[]⟩, .int .i64 2]) (by simp [results, Try.results11, go_sem]) rfl ⟨rfl, below1 _ _⟩
set_option maxRecDepth 100000 in
set_option maxHeartbeats 1000000 in
theorem rtGet_4a (s : ByteArray) (a b : UInt32) (a12 a13 : UInt8) (N q : Nat) (w : World) (k20 : (20 : Int) ≤ (s.size : Int)) (e12 : s[12]'(by omega) = a12) (e13 : s[13]'(by omega) = a13) (hN : wrap64 ((a12.toNat : Int) / 16 * 4) = (N : Int)) (hW : wrap64 ((a12.toNat : Int) / 16) = (a12.toNat : Int) / 16) (hq : bits .and .u8 (a12.toNat : Int) 15 = (q : Int)) (h2 : (20 : Int) ≤ (N : Int)) (h3 : (N : Int) ≤ (s.size : Int)) (h4 : ((q : Int) != 0) = true) :
    Calls Try.prog 11 #[.int .u32 (a.toNat : Int), .int .u32 (b.toNat : Int), .string s] w fun e w' => e = .returned (.tuple #[.agg sgZ, .string ⟨#[]⟩, .int .i64 3]) ∧ Below w.heap.size w w' := by
  have g12 : (12 : Int) < (s.size : Int) := by omega
  have g13 : (13 : Int) < (s.size : Int) := by omega
  go_enter Try.func11, Try.ntmps11
  go_wp2_with fail
  exact bodyPost_ret (v := .tuple #[.agg sgZ, .string ⟨#[]⟩, .int .i64 3]) (by simp [results, Try.results11, go_sem]) rfl ⟨rfl, below1 _ _⟩
set_option maxRecDepth 100000 in
set_option maxHeartbeats 1000000 in
theorem rtGet_4b (s : ByteArray) (a b : UInt32) (a12 a13 : UInt8) (N q : Nat) (w : World) (k20 : (20 : Int) ≤ (s.size : Int)) (e12 : s[12]'(by omega) = a12) (e13 : s[13]'(by omega) = a13) (hN : wrap64 ((a12.toNat : Int) / 16 * 4) = (N : Int)) (hW : wrap64 ((a12.toNat : Int) / 16) = (a12.toNat : Int) / 16) (hq : bits .and .u8 (a12.toNat : Int) 15 = (q : Int)) (h2 : (20 : Int) ≤ (N : Int)) (h3 : (N : Int) ≤ (s.size : Int)) (h4 : ((q : Int) != 0) = false) (h5 : (63 : Int) < (a13.toNat : Int)) :
    Calls Try.prog 11 #[.int .u32 (a.toNat : Int), .int .u32 (b.toNat : Int), .string s] w fun e w' => e = .returned (.tuple #[.agg sgZ, .string ⟨#[]⟩, .int .i64 3]) ∧ Below w.heap.size w w' := by
  have g12 : (12 : Int) < (s.size : Int) := by omega
  have g13 : (13 : Int) < (s.size : Int) := by omega
  go_enter Try.func11, Try.ntmps11
  go_wp2_with fail
  exact bodyPost_ret (v := .tuple #[.agg sgZ, .string ⟨#[]⟩, .int .i64 3]) (by simp [results, Try.results11, go_sem]) rfl ⟨rfl, below1 _ _⟩
set_option maxRecDepth 100000 in
set_option maxHeartbeats 1000000 in
theorem rtGet_5 (s : ByteArray) (a b : UInt32) (a12 a13 : UInt8) (N q : Nat) (w : World) (k20 : (20 : Int) ≤ (s.size : Int)) (e12 : s[12]'(by omega) = a12) (e13 : s[13]'(by omega) = a13) (hN : wrap64 ((a12.toNat : Int) / 16 * 4) = (N : Int)) (hW : wrap64 ((a12.toNat : Int) / 16) = (a12.toNat : Int) / 16) (hq : bits .and .u8 (a12.toNat : Int) 15 = (q : Int)) (h2 : (20 : Int) ≤ (N : Int)) (h3 : (N : Int) ≤ (s.size : Int)) (h4 : ((q : Int) != 0) = false) (h5 : (a13.toNat : Int) ≤ 63) (h6 : (2000 : Int) < (s.size : Int)) :
    Calls Try.prog 11 #[.int .u32 (a.toNat : Int), .int .u32 (b.toNat : Int), .string s] w fun e w' => e = .returned (.tuple #[.agg sgZ, .string ⟨#[]⟩, .int .i64 5]) ∧ Below w.heap.size w w' := by
  have g12 : (12 : Int) < (s.size : Int) := by omega
  have g13 : (13 : Int) < (s.size : Int) := by omega
  go_enter Try.func11, Try.ntmps11
  go_wp2_with fail
  exact bodyPost_ret (v := .tuple #[.agg sgZ, .string ⟨#[]⟩, .int .i64 5]) (by simp [results, Try.results11, go_sem]) rfl ⟨rfl, below1 _ _⟩
set_option maxRecDepth 100000 in
set_option maxHeartbeats 1000000 in
theorem rtGet_6 (s : ByteArray) (a b : UInt32) (a12 a13 : UInt8) (N q : Nat) (w : World) (k20 : (20 : Int) ≤ (s.size : Int)) (e12 : s[12]'(by omega) = a12) (e13 : s[13]'(by omega) = a13) (hN : wrap64 ((a12.toNat : Int) / 16 * 4) = (N : Int)) (hW : wrap64 ((a12.toNat : Int) / 16) = (a12.toNat : Int) / 16) (hq : bits .and .u8 (a12.toNat : Int) 15 = (q : Int)) (h2 : (20 : Int) ≤ (N : Int)) (h3 : (N : Int) ≤ (s.size : Int)) (h4 : ((q : Int) != 0) = false) (h5 : (a13.toNat : Int) ≤ 63) (h6 : (s.size : Int) ≤ 2000) (z : Int) (cS : ∀ w : World, Calls Try.prog 23 #[.int .u32 (a.toNat : Int), .int .u32 (b.toNat : Int), .int .i64 6, .string s] w fun e w' => e = .returned (.int .i64 z) ∧ Below w.heap.size w w') (hz : (z != 0) = true) :
    Calls Try.prog 11 #[.int .u32 (a.toNat : Int), .int .u32 (b.toNat : Int), .string s] w fun e w' => e = .returned (.tuple #[.agg sgZ, .string ⟨#[]⟩, .int .i64 4]) ∧ Below w.heap.size w w' := by
  have g12 : (12 : Int) < (s.size : Int) := by omega
  have g13 : (13 : Int) < (s.size : Int) := by omega
  go_enter Try.func11, Try.ntmps11
  go_wp2_with fail
  refine (cS _).mono ?_
  rintro e w1 ⟨rfl, hb1⟩
  have n1 := below_call (new_alloc w (.cells sgZ 24)) (size_alloc1 _ _) hb1
  obtain ⟨q1, f1, z1⟩ := new_in n1
  have N1 := (show Hid _ from below_after (below1 w _) hb1)
  clear hb1 n1
  obtain ⟨wx, hwx, hr, HB⟩ := set_row (vs := [.int .i64 0, .int .i64 0, .int .u32 0, .int .u32 0, .int .i64 0, .int .i64 0, .string ⟨#[]⟩]) q1 N1 rfl
  go_wp2_with fail
  change bodyPost _ _ _ _ _ (w1.setCells w.heap.size 0 [.int .i64 0, .int .i64 0, .int .u32 0, .int .u32 0, .int .i64 0, .int .i64 0, .string ⟨#[]⟩])
  rw [hwx]
  exact bodyPost_ret (v := .tuple #[.agg sgZ, .string ⟨#[]⟩, .int .i64 4]) (by simp [results, Try.results11, go_sem, hr]) rfl ⟨rfl, HB.out⟩
set_option maxRecDepth 100000 in
set_option maxHeartbeats 8000000 in
theorem rtGet_7 (s : ByteArray) (a b : UInt32) (a12 a13 : UInt8) (N q : Nat) (w : World) (k20 : (20 : Int) ≤ (s.size : Int)) (e12 : s[12]'(by omega) = a12) (e13 : s[13]'(by omega) = a13) (hN : wrap64 ((a12.toNat : Int) / 16 * 4) = (N : Int)) (hW : wrap64 ((a12.toNat : Int) / 16) = (a12.toNat : Int) / 16) (hq : bits .and .u8 (a12.toNat : Int) 15 = (q : Int)) (h2 : (20 : Int) ≤ (N : Int)) (h3 : (N : Int) ≤ (s.size : Int)) (h4 : ((q : Int) != 0) = false) (h5 : (a13.toNat : Int) ≤ 63) (h6 : (s.size : Int) ≤ 2000) (z : Int) (cS : ∀ w : World, Calls Try.prog 23 #[.int .u32 (a.toNat : Int), .int .u32 (b.toNat : Int), .int .i64 6, .string s] w fun e w' => e = .returned (.int .i64 z) ∧ Below w.heap.size w w') (hz : (z != 0) = false)
    (t0 t1 t2 t3 t4 : ByteArray) (n0 n1 n2 n3 n4 S D : Int) (x0 : s.extract 0 2 = t0) (x1 : s.extract 2 4 = t1) (x2 : s.extract 4 8 = t2) (x3 : s.extract 8 12 = t3) (x4 : s.extract 14 16 = t4) (u1 : IntKind.u32.wrap n2 = S) (u2 : IntKind.u32.wrap n3 = D)
    (c0 : ∀ w : World, Calls Try.prog 26 #[.string t0] w fun e w' => e = .returned (.int .i64 n0) ∧ w = w')
    (c1 : ∀ w : World, Calls Try.prog 26 #[.string t1] w fun e w' => e = .returned (.int .i64 n1) ∧ w = w')
    (c2 : ∀ w : World, Calls Try.prog 26 #[.string t2] w fun e w' => e = .returned (.int .i64 n2) ∧ w = w')
    (c3 : ∀ w : World, Calls Try.prog 26 #[.string t3] w fun e w' => e = .returned (.int .i64 n3) ∧ w = w')
    (c4 : ∀ w : World, Calls Try.prog 26 #[.string t4] w fun e w' => e = .returned (.int .i64 n4) ∧ w = w') :
    Calls Try.prog 11 #[.int .u32 (a.toNat : Int), .int .u32 (b.toNat : Int), .string s] w fun e w' => e = .returned (.tuple #[.agg #[.int .i64 n0, .int .i64 n1, .int .u32 S, .int .u32 D, .int .i64 (a13.toNat : Int), .int .i64 n4, .string (s.extract 20 N)], .string (s.extract N s.size), .int .i64 0]) ∧ Below w.heap.size w w' := by
  have g12 : (12 : Int) < (s.size : Int) := by omega
  have g13 : (13 : Int) < (s.size : Int) := by omega
  go_enter Try.func11, Try.ntmps11
  go_wp2_with fail
  refine (cS _).mono ?_
  rintro e w1 ⟨rfl, hb1⟩
  have n1 := below_call (new_alloc w (.cells sgZ 24)) (size_alloc1 _ _) hb1
  have N1 := (show Hid _ from n1)
  clear hb1 n1 cS
  go_wp2_with fail
  have k2 : (2 : Int) ≤ (s.size : Int) := by omega
  have k4 : (4 : Int) ≤ (s.size : Int) := by omega
  have k8 : (8 : Int) ≤ (s.size : Int) := by omega
  have k12 : (12 : Int) ≤ (s.size : Int) := by omega
  have k16 : (16 : Int) ≤ (s.size : Int) := by omega
  have wa := u8_wrap a13
  clear hN hW hq h4 h5 h6 hz e12 g12
  go_cut [10] (fun s10 wx => ∃ b : Nat, s10 = .pointer (some ⟨b, 0, none⟩) ∧ w.heap.size < b ∧ (∀ o, wx.cell? ⟨b, o, none⟩ = (#[.int .i64 n0, .int .i64 n1, .int .u32 S, .int .u32 D, .int .i64 (a13.toNat : Int), .int .i64 n4, .string (s.extract 20 N)] : Array Value)[o]?) ∧ (∀ o, wx.cell? ⟨w.heap.size, o, none⟩ = sgZ[o]?) ∧ (∀ o, wx.frozen? ⟨w.heap.size, o, none⟩ = false) ∧ Below w.heap.size w wx)
  case first =>
    refine wp_region_fresh 24 (A := ?A) (B := .cells sgZ 24) (by kernel_rfl) (by kernel_rfl) (by rfl) rfl rfl ?hal ?walk ?tail
    case hal => intro a u; simp [execOp, go_sem]
    case walk =>
      intro DD hDD hne
      simp only [List.take_succ_cons, List.take_zero]
      repeat (go_big_quiet_step (first | (go_at_call_of 26 t0; exact calmD_same (c0 _)) | (go_at_call_of 26 t1; exact calmD_same (c1 _)) | (go_at_call_of 26 t2; exact calmD_same (c2 _)) | (go_at_call_of 26 t3; exact calmD_same (c3 _)) | (go_at_call_of 26 t4; exact calmD_same (c4 _))))
      refine wpQuiet_nil ?_
      rfl
    case tail =>
      intro u w2 hu hw2
      simp only [List.drop_succ_cons, List.drop_zero]
      obtain ⟨q1, f1, z1⟩ := new_in hw2
      have y0 := below_call N1.out (size_alloc1 _ _) hu
      have zb : w.heap.size < u.heap.size := (new_in y0).2.2
      have y2 := (below_more y0 (size_alloc1 _ _) (.cells sgZ 24)).trans (hw2.mono (Nat.succ_le_succ (Nat.le_of_lt zb)))
      obtain ⟨q0, f0, z0⟩ := new_in y2
      have st := (show Hid _ from stored [.int .i64 n0, .int .i64 n1, .int .u32 S, .int .u32 D, .int .i64 (a13.toNat : Int), .int .i64 n4, .string (s.extract 20 N)] q1 rfl q0 f0 zb ((below1 w _).trans (y2.mono (Nat.le_succ _))))
      clear hu hw2 y0 y2 c0 c1 c2 c3 c4
      go_wp2_with fail
      go_meet
      exact ⟨u.heap.size, rfl, zb, st.out.1, st.out.2.1, st.out.2.2.1, st.out.2.2.2⟩
  case rest =>
    obtain ⟨b, rfl, zb, qb, q0, f0, hb⟩ := hcut
    have HB := (show Hid _ from hb)
    clear hb N1
    obtain ⟨uy, huy, qy, HBy⟩ := set_row (vs := [.int .i64 n0, .int .i64 n1, .int .u32 S, .int .u32 D, .int .i64 (a13.toNat : Int), .int .i64 n4, .string (s.extract 20 N)]) q0 HB rfl
    go_wp2_with fail
    go_region
    all_goals
      go_wp2_with fail
      change bodyPost _ _ _ _ _ (World.drew (World.setCells wc w.heap.size 0 [.int .i64 n0, .int .i64 n1, .int .u32 S, .int .u32 D, .int .i64 (a13.toNat : Int), .int .i64 n4, .string (s.extract 20 N)]))
      rw [huy]
      exact bodyPost_ret (v := .tuple #[.agg #[.int .i64 n0, .int .i64 n1, .int .u32 S, .int .u32 D, .int .i64 (a13.toNat : Int), .int .i64 n4, .string (s.extract 20 N)], .string (s.extract N s.size), .int .i64 0]) (by simp [results, Try.results11, go_sem, qy]) rfl ⟨rfl, HBy.out.drew⟩
theorem rtGet_any (s : ByteArray) (a b : UInt32) (w : World) (hs : s.size ≤ 900000) :
    Calls Try.prog 11 #[.int .u32 (a.toNat : Int), .int .u32 (b.toNat : Int), .string s] w fun e w' => e = .returned (tcAnswer (badT a b s.data.toList) (sgV (gotT s.data.toList)) (s.extract (hdT s.data.toList) s.size)) ∧ Below w.heap.size w w' := by
  have hl : s.data.toList.length = s.size := toList_length s
  by_cases h1 : s.size < 20
  · have hb : badT a b s.data.toList = 2 := by unfold badT; rw [hl, if_pos h1]
    rw [hb]
    exact rtGet_1 s a b w h1
  have k20 : (20 : Int) ≤ (s.size : Int) := by omega
  have cS := fun w => rtSum_any a b s w hs
  obtain ⟨a12, e12⟩ : ∃ x, s[12] = x := ⟨_, rfl⟩
  obtain ⟨a13, e13⟩ : ∃ x, s[13] = x := ⟨_, rfl⟩
  have hb12 : byteAt s.data.toList 12 = a12.toNat := by rw [at_eq s 12 (by omega), e12]
  have hb13 : byteAt s.data.toList 13 = a13.toNat := by rw [at_eq s 13 (by omega), e13]
  have hlow := and_low a12
  have hlt := a12.toNat_lt
  have hN0 : hdT s.data.toList = a12.toNat / 16 * 4 := by unfold hdT; rw [hb12]
  have hN : Hid (wrap64 ((a12.toNat : Int) / 16 * 4) = ((hdT s.data.toList : Nat) : Int)) := by show _ = _; rw [hN0]; unfold wrap64; omega
  have hW : Hid (wrap64 ((a12.toNat : Int) / 16) = (a12.toNat : Int) / 16) := by show _ = _; unfold wrap64; omega
  have hlow' := (show Hid _ from hlow)
  clear hlow
  by_cases h2 : hdT s.data.toList < 20
  · have hb : badT a b s.data.toList = 3 := by unfold badT; rw [hl, if_neg h1, if_pos h2]
    rw [hb]
    exact rtGet_2 s a b a12 a13 _ _ w k20 e12 e13 hN.out hW.out hlow'.out (by omega)
  by_cases h3 : s.size < hdT s.data.toList
  · have hb : badT a b s.data.toList = 2 := by unfold badT; rw [hl, if_neg h1, if_neg h2, if_pos h3]
    rw [hb]
    exact rtGet_3 s a b a12 a13 _ _ w k20 e12 e13 hN.out hW.out hlow'.out (by omega) (by omega)
  by_cases h4 : a12.toNat % 16 = 0
  case neg =>
    have hb : badT a b s.data.toList = 3 := by unfold badT; rw [hl, if_neg h1, if_neg h2, if_neg h3, if_pos (.inl (by rw [hb12]; exact h4))]
    rw [hb]
    exact rtGet_4a s a b a12 a13 _ _ w k20 e12 e13 hN.out hW.out hlow'.out (by omega) (by omega) (bne_iff_ne.2 (by omega))
  have h4b : ((a12.toNat % 16 : Nat) != (0 : Int)) = false := by rw [h4]; rfl
  by_cases h5 : 63 < a13.toNat
  · have hb : badT a b s.data.toList = 3 := by unfold badT; rw [hl, if_neg h1, if_neg h2, if_neg h3, if_pos (.inr (by rw [hb13]; exact h5))]
    rw [hb]
    exact rtGet_4b s a b a12 a13 _ _ w k20 e12 e13 hN.out hW.out hlow'.out (by omega) (by omega) h4b (by omega)
  have hn4 : ¬ (byteAt s.data.toList 12 % 16 ≠ 0 ∨ 63 < byteAt s.data.toList 13) := by rw [hb12, hb13]; omega
  by_cases h6 : 2000 < s.size
  · have hb : badT a b s.data.toList = 5 := by unfold badT; rw [hl, if_neg h1, if_neg h2, if_neg h3, if_neg hn4, if_pos h6]
    rw [hb]
    exact rtGet_5 s a b a12 a13 _ _ w k20 e12 e13 hN.out hW.out hlow'.out (by omega) (by omega) h4b (by omega) (by omega)
  by_cases h7 : sumL (tcAhead a b s.size ++ s.data.toList) = 0
  case neg =>
    have hb : badT a b s.data.toList = 4 := by unfold badT; rw [hl, if_neg h1, if_neg h2, if_neg h3, if_neg hn4, if_neg h6, if_pos h7]
    rw [hb]
    exact rtGet_6 s a b a12 a13 _ _ w k20 e12 e13 hN.out hW.out hlow'.out (by omega) (by omega) h4b (by omega) (by omega) _ cS (bne_iff_ne.2 h7)
  have hb : badT a b s.data.toList = 0 := by unfold badT; rw [hl, if_neg h1, if_neg h2, if_neg h3, if_neg hn4, if_neg h6, if_neg (by simpa using h7)]
  rw [hb]
  obtain ⟨c13, t0, t1, t2, t3, t4, n0, n1, n2, n3, n4, S, D, f13, x0, x1, x2, x3, x4, u1, u2, ⟨v0, v1, v2, v3, v4⟩, ⟨s0, s1, s2, s3, s4⟩, hV⟩ := tcFields s (by omega)
  obtain rfl : a13 = c13 := e13.symm.trans f13
  rw [← hV]
  have c0 := fun w => refNum_any t0 w (by omega)
  have c1 := fun w => refNum_any t1 w (by omega)
  have c2 := fun w => refNum_any t2 w (by omega)
  have c3 := fun w => refNum_any t3 w (by omega)
  have c4 := fun w => refNum_any t4 w (by omega)
  rw [v0] at c0
  rw [v1] at c1
  rw [v2] at c2
  rw [v3] at c3
  rw [v4] at c4
  exact rtGet_7 s a b a12 a13 _ _ w k20 e12 e13 hN.out hW.out hlow'.out (by omega) (by omega) h4b (by omega) (by omega) _ cS (by rw [h7]; rfl)
    t0 t1 t2 t3 t4 n0 n1 n2 n3 n4 S D x0 x1 x2 x3 x4 u1 u2 c0 c1 c2 c3 c4
end Go.Proofs.Ytpnnaibejgnahaa
