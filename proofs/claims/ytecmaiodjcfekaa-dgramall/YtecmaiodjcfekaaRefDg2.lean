/- Contracts of the document's own layer 5: both Gets. -/
import Derived.Test.YtecmaiodjcfekaaRefDg
import Derived.Test.YtecmaiodjcfekaaDgs5
import Derived.Deep.RegionHeld
namespace Go.Proofs.Ytecmaiodjcfekaa
open Go.RowKit
set_option linter.unusedVariables false
theorem rdGetU_1 (s : ByteArray) (a b : UInt32) (w : World) (h1 : s.size < 8) :
    Calls Try.prog 13 #[.int .u32 (a.toNat : Int), .int .u32 (b.toNat : Int), .string s] w fun e w' => e = .returned (.tuple #[.agg dgZ, .string ⟨#[]⟩, .int .i64 2]) ∧ Below w.heap.size w w' := by
  go_enter Try.func13, Try.ntmps13
  go_wp2_with fail
  exact bodyPost_ret (v := .tuple #[.agg dgZ, .string ⟨#[]⟩, .int .i64 2]) (by simp [results, Try.results13, go_sem]) rfl ⟨rfl, below1 _ _⟩
set_option maxHeartbeats 1000000 in
theorem rdGetU_2 (s : ByteArray) (a b : UInt32) (t : ByteArray) (n : Int) (w : World) (k8 : (8 : Int) ≤ (s.size : Int)) (k6 : (6 : Int) ≤ (s.size : Int)) (x : s.extract 4 6 = t) (c : ∀ w : World, Calls Try.prog 24 #[.string t] w fun e w' => e = .returned (.int .i64 n) ∧ w = w') (hn : (n != (s.size : Int)) = true) :
    Calls Try.prog 13 #[.int .u32 (a.toNat : Int), .int .u32 (b.toNat : Int), .string s] w fun e w' => e = .returned (.tuple #[.agg dgZ, .string ⟨#[]⟩, .int .i64 3]) ∧ Below w.heap.size w w' := by
  by_cases h8 : n < 8
  all_goals
    go_enter Try.func13, Try.ntmps13
    go_wp2_with fail
    refine (c _).mono ?_
    rintro e w1 ⟨rfl, rfl⟩
    go_wp2_with fail
    exact bodyPost_ret (v := .tuple #[.agg dgZ, .string ⟨#[]⟩, .int .i64 3]) (by simp [results, Try.results13, go_sem]) rfl ⟨rfl, below1 _ _⟩
set_option maxHeartbeats 1000000 in
theorem rdGetU_3 (s : ByteArray) (a b : UInt32) (t : ByteArray) (w : World) (k8 : (8 : Int) ≤ (s.size : Int)) (k6 : (6 : Int) ≤ (s.size : Int)) (x : s.extract 4 6 = t) (c : ∀ w : World, Calls Try.prog 24 #[.string t] w fun e w' => e = .returned (.int .i64 (s.size : Int)) ∧ w = w') (hn : (2000 : Int) < (s.size : Int)) :
    Calls Try.prog 13 #[.int .u32 (a.toNat : Int), .int .u32 (b.toNat : Int), .string s] w fun e w' => e = .returned (.tuple #[.agg dgZ, .string ⟨#[]⟩, .int .i64 5]) ∧ Below w.heap.size w w' := by
  go_enter Try.func13, Try.ntmps13
  go_wp2_with fail
  refine (c _).mono ?_
  rintro e w1 ⟨rfl, rfl⟩
  go_wp2_with fail
  exact bodyPost_ret (v := .tuple #[.agg dgZ, .string ⟨#[]⟩, .int .i64 5]) (by simp [results, Try.results13, go_sem]) rfl ⟨rfl, below1 _ _⟩
set_option maxHeartbeats 1000000 in
theorem rdGetU_4 (s : ByteArray) (a b : UInt32) (t t6 : ByteArray) (n6 z : Int) (w : World) (k8 : (8 : Int) ≤ (s.size : Int)) (k6 : (6 : Int) ≤ (s.size : Int)) (x : s.extract 4 6 = t) (x6 : s.extract 6 8 = t6) (c : ∀ w : World, Calls Try.prog 24 #[.string t] w fun e w' => e = .returned (.int .i64 (s.size : Int)) ∧ w = w') (hn : (s.size : Int) ≤ 2000)
    (c6 : ∀ w : World, Calls Try.prog 24 #[.string t6] w fun e w' => e = .returned (.int .i64 n6) ∧ w = w') (h6 : (n6 != 0) = true)
    (cS : ∀ w : World, Calls Try.prog 20 #[.int .u32 (a.toNat : Int), .int .u32 (b.toNat : Int), .int .i64 17, .string s] w fun e w' => e = .returned (.int .i64 z) ∧ Below w.heap.size w w') (hz : (z != 0) = true) :
    Calls Try.prog 13 #[.int .u32 (a.toNat : Int), .int .u32 (b.toNat : Int), .string s] w fun e w' => e = .returned (.tuple #[.agg dgZ, .string ⟨#[]⟩, .int .i64 4]) ∧ Below w.heap.size w w' := by
  go_enter Try.func13, Try.ntmps13
  go_wp2_with fail
  refine (c _).mono ?_
  rintro e w' ⟨rfl, rfl⟩
  go_wp2_with fail
  refine (c6 _).mono ?_
  rintro e w' ⟨rfl, rfl⟩
  go_wp2_with fail
  refine (cS _).mono ?_
  rintro e w1 ⟨rfl, hb1⟩
  have n1 := below_call (new_alloc w (.cells dgZ 24)) (size_alloc1 _ _) hb1
  obtain ⟨q1, f1, z1⟩ := new_in n1
  have N1 := (show Hid _ from below_after (below1 w _) hb1)
  clear hb1 n1
  obtain ⟨wx, hwx, hr, HB⟩ := set_row (vs := [.int .i64 0, .int .i64 0, .int .i64 0, .int .i64 0, .int .u32 0]) q1 N1 rfl
  go_wp2_with fail
  change bodyPost _ _ _ _ _ (w1.setCells w.heap.size 0 [.int .i64 0, .int .i64 0, .int .i64 0, .int .i64 0, .int .u32 0])
  rw [hwx]
  exact bodyPost_ret (v := .tuple #[.agg dgZ, .string ⟨#[]⟩, .int .i64 4]) (by simp [results, Try.results13, go_sem, hr]) rfl ⟨rfl, HB.out⟩
set_option maxHeartbeats 800000 in
theorem rdGetU_5 (s : ByteArray) (a b : UInt32) (t t6 t0 t1 : ByteArray) (n6 z n0 n1 : Int) (w : World) (k8 : (8 : Int) ≤ (s.size : Int)) (k6 : (6 : Int) ≤ (s.size : Int)) (x : s.extract 4 6 = t) (x6 : s.extract 6 8 = t6) (c : ∀ w : World, Calls Try.prog 24 #[.string t] w fun e w' => e = .returned (.int .i64 (s.size : Int)) ∧ w = w') (hn : (s.size : Int) ≤ 2000)
    (c6 : ∀ w : World, Calls Try.prog 24 #[.string t6] w fun e w' => e = .returned (.int .i64 n6) ∧ w = w')
    (cS : ∀ w : World, Calls Try.prog 20 #[.int .u32 (a.toNat : Int), .int .u32 (b.toNat : Int), .int .i64 17, .string s] w fun e w' => e = .returned (.int .i64 z) ∧ Below w.heap.size w w') (hz : (n6 != 0) = false ∨ (n6 != 0) = true ∧ (z != 0) = false)
    (x0 : s.extract 0 2 = t0) (x1 : s.extract 2 4 = t1) (c0 : ∀ w : World, Calls Try.prog 24 #[.string t0] w fun e w' => e = .returned (.int .i64 n0) ∧ w = w') (c1 : ∀ w : World, Calls Try.prog 24 #[.string t1] w fun e w' => e = .returned (.int .i64 n1) ∧ w = w') :
    Calls Try.prog 13 #[.int .u32 (a.toNat : Int), .int .u32 (b.toNat : Int), .string s] w fun e w' => e = .returned (.tuple #[.agg #[.int .i64 n0, .int .i64 n1, .int .i64 0, .int .i64 0, .int .u32 0], .string (s.extract 8 s.size), .int .i64 0]) ∧ Below w.heap.size w w' := by
  have k2 : (2 : Int) ≤ (s.size : Int) := by omega
  have k4 : (4 : Int) ≤ (s.size : Int) := by omega
  go_enter Try.func13, Try.ntmps13
  go_wp2_with fail
  refine (c _).mono ?_
  rintro e w' ⟨rfl, rfl⟩
  go_wp2_with fail
  refine (c6 _).mono ?_
  rintro e w' ⟨rfl, rfl⟩
  rcases hz with hz | ⟨h6, hz⟩
  · have n1' := new_alloc w (.cells dgZ 24)
    obtain ⟨q1, f1, z1⟩ := new_in n1'
    go_wp2_with fail
    obtain ⟨W1, hW1⟩ : ∃ W1 : World, W1 = w.alloc (.cells dgZ 24) := ⟨_, rfl⟩
    rw [← hW1]
    rw [← hW1] at q1 f1 z1
    have n2' : Below (w.heap.size + 1) (w.alloc (.cells dgZ 24)) W1 := by rw [hW1]; exact n1'
    clear hW1 n1'
    go_cut [7, 8] (fun s7 s8 wx => s7 = .string (s.extract 8 s.size) ∧ s8 = .int .i64 0 ∧ ∃ w2 : World, Below (w.heap.size + 1) (w.alloc (.cells dgZ 24)) w2 ∧ wx = (w2.setCells w.heap.size 0 [.int .i64 n0, .int .i64 n1, .int .i64 0, .int .i64 0, .int .u32 0]).drew)
    case first =>
      go_region_held (fun _ => True) (trivial) (first | (go_at_call_of 24 t0; refine (c0 _).mono ?_; rintro e w' ⟨rfl, rfl⟩) | (go_at_call_of 24 t1; refine (c1 _).mono ?_; rintro e w' ⟨rfl, rfl⟩))
      all_goals
        go_wp2_with fail
        go_meet
        exact ⟨rfl, rfl, W1, n2', rfl⟩
    case rest =>
    obtain ⟨rfl, rfl, w2, n2, rfl⟩ := hcut
    obtain ⟨hc2, hf2, zz2⟩ := new_in n2
    have HB2 := (show Hid _ from (below1 w _).trans (n2.mono (Nat.le_succ _)))
    obtain ⟨wx, hwx, hr, HB⟩ := set_row (vs := [.int .i64 n0, .int .i64 n1, .int .i64 0, .int .i64 0, .int .u32 0]) hc2 HB2 rfl
    rw [hwx]
    clear hwx n2 n2' hc2 hf2 zz2 HB2
    go_wp2_with fail
    exact bodyPost_ret (v := .tuple #[.agg #[.int .i64 n0, .int .i64 n1, .int .i64 0, .int .i64 0, .int .u32 0], .string (s.extract 8 s.size), .int .i64 0]) (by simp [results, Try.results13, go_sem, hr]) rfl ⟨rfl, HB.out.drew⟩
  · go_wp2_with fail
    refine (cS _).mono ?_
    rintro e w1 ⟨rfl, hb1⟩
    have n1' := below_call (new_alloc w (.cells dgZ 24)) (size_alloc1 _ _) hb1
    obtain ⟨q1, f1, z1⟩ := new_in n1'
    clear hb1
    go_wp2_with fail
    go_cut [7, 8] (fun s7 s8 wx => s7 = .string (s.extract 8 s.size) ∧ s8 = .int .i64 0 ∧ ∃ w2 : World, Below (w.heap.size + 1) (w.alloc (.cells dgZ 24)) w2 ∧ wx = (w2.setCells w.heap.size 0 [.int .i64 n0, .int .i64 n1, .int .i64 0, .int .i64 0, .int .u32 0]).drew)
    case first =>
      go_region_held (fun _ => True) (trivial) (first | (go_at_call_of 24 t0; refine (c0 _).mono ?_; rintro e w' ⟨rfl, rfl⟩) | (go_at_call_of 24 t1; refine (c1 _).mono ?_; rintro e w' ⟨rfl, rfl⟩))
      all_goals
        go_wp2_with fail
        go_meet
        exact ⟨rfl, rfl, w1, n1', rfl⟩
    case rest =>
    obtain ⟨rfl, rfl, w2, n2, rfl⟩ := hcut
    obtain ⟨hc2, hf2, zz2⟩ := new_in n2
    have HB2 := (show Hid _ from (below1 w _).trans (n2.mono (Nat.le_succ _)))
    obtain ⟨wx, hwx, hr, HB⟩ := set_row (vs := [.int .i64 n0, .int .i64 n1, .int .i64 0, .int .i64 0, .int .u32 0]) hc2 HB2 rfl
    rw [hwx]
    clear hwx n2 n1' hc2 hf2 zz2 HB2
    go_wp2_with fail
    exact bodyPost_ret (v := .tuple #[.agg #[.int .i64 n0, .int .i64 n1, .int .i64 0, .int .i64 0, .int .u32 0], .string (s.extract 8 s.size), .int .i64 0]) (by simp [results, Try.results13, go_sem, hr]) rfl ⟨rfl, HB.out.drew⟩
theorem rdGetU_any (s : ByteArray) (a b : UInt32) (w : World) (hs : s.size ≤ 900000) :
    Calls Try.prog 13 #[.int .u32 (a.toNat : Int), .int .u32 (b.toNat : Int), .string s] w fun e w' => e = .returned (.tuple #[.agg (dgV (if badU a b s.data.toList = 0 then gotU s.data.toList else dgN)), .string (if badU a b s.data.toList = 0 then s.extract 8 s.size else ⟨#[]⟩), .int .i64 (badU a b s.data.toList)]) ∧ Below w.heap.size w w' := by
  have hl : s.data.toList.length = s.size := toList_length s
  by_cases h1 : s.size < 8
  · have hb : badU a b s.data.toList = 2 := badU_short a b _ (by omega)
    rw [hb]
    exact rdGetU_1 s a b w h1
  obtain ⟨t, n, x, hz, v, g⟩ := two_num s 4 (by omega)
  obtain ⟨t6, n6, x6, hz6, v6, g6⟩ := two_num s 6 (by omega)
  obtain ⟨t0, n0, x0, hz0, v0, g0⟩ := two_num s 0 (by omega)
  obtain ⟨t1, n1, x1, hz1, v1, g1⟩ := two_num s 2 (by omega)
  have c := fun w => refNum_any t w (by omega)
  have c6 := fun w => refNum_any t6 w (by omega)
  have c0 := fun w => refNum_any t0 w (by omega)
  have c1 := fun w => refNum_any t1 w (by omega)
  rw [v] at c
  rw [v6] at c6
  rw [v0] at c0
  rw [v1] at c1
  by_cases h2 : at2 s.data.toList 4 = s.size
  case neg =>
    have hb : badU a b s.data.toList = 3 := badU_len a b _ (by omega) (by omega)
    rw [hb]
    exact rdGetU_2 s a b t n w (by omega) (by omega) x c (by rw [g]; simpa using (by omega))
  have hn : n = (s.size : Int) := by omega
  rw [hn] at c
  by_cases h3 : 2000 < s.size
  · have hb : badU a b s.data.toList = 5 := by unfold badU; rw [hl, if_neg h1, if_neg (by omega), if_pos h3]
    rw [hb]
    exact rdGetU_3 s a b t w (by omega) (by omega) x c (by omega)
  have cS := fun w => rdSum_any a b s w hs
  by_cases h4 : at2 s.data.toList 6 ≠ 0 ∧ sumL (udAhead a b s.size ++ s.data.toList) ≠ 0
  · have hb : badU a b s.data.toList = 4 := badU_sum a b _ (by omega) (by omega) (by omega) h4.1 (by rw [hl]; exact h4.2)
    rw [hb]
    exact rdGetU_4 s a b t t6 n6 _ w (by omega) (by omega) x x6 c (by omega) c6 (bne_iff_ne.2 (by have := h4.1; omega)) cS (bne_iff_ne.2 h4.2)
  have hb : badU a b s.data.toList = 0 := by unfold badU; rw [hl, if_neg h1, if_neg (by omega), if_neg h3, if_neg h4]
  rw [hb, if_pos rfl, if_pos rfl]
  have hV : dgV (gotU s.data.toList) = #[.int .i64 n0, .int .i64 n1, .int .i64 0, .int .i64 0, .int .u32 0] := by rw [g0, g1]; rfl
  rw [hV]
  refine rdGetU_5 s a b t t6 t0 t1 n6 _ n0 n1 w (by omega) (by omega) x x6 c (by omega) c6 cS ?_ x0 x1 c0 c1
  by_cases h6 : n6 = 0
  · exact .inl (by rw [h6]; rfl)
  · refine .inr ⟨bne_iff_ne.2 h6, ?_⟩
    have : sumL (udAhead a b s.size ++ s.data.toList) = 0 := by
      by_cases hq : sumL (udAhead a b s.size ++ s.data.toList) = 0
      · exact hq
      · exact absurd ⟨by omega, hq⟩ h4
    rw [this]
    rfl
theorem rdGetI_1 (s : ByteArray) (w : World) (h1 : s.size < 8) :
    Calls Try.prog 15 #[.string s] w fun e w' => e = .returned (.tuple #[.agg dgZ, .string ⟨#[]⟩, .int .i64 2]) ∧ Below w.heap.size w w' := by
  go_enter Try.func15, Try.ntmps15
  go_wp2_with fail
  exact bodyPost_ret (v := .tuple #[.agg dgZ, .string ⟨#[]⟩, .int .i64 2]) (by simp [results, Try.results15, go_sem]) rfl ⟨rfl, below1 _ _⟩
theorem rdGetI_2 (s : ByteArray) (w : World) (h1 : (8 : Int) ≤ (s.size : Int)) (h2 : (2000 : Int) < (s.size : Int)) :
    Calls Try.prog 15 #[.string s] w fun e w' => e = .returned (.tuple #[.agg dgZ, .string ⟨#[]⟩, .int .i64 5]) ∧ Below w.heap.size w w' := by
  go_enter Try.func15, Try.ntmps15
  go_wp2_with fail
  exact bodyPost_ret (v := .tuple #[.agg dgZ, .string ⟨#[]⟩, .int .i64 5]) (by simp [results, Try.results15, go_sem]) rfl ⟨rfl, below1 _ _⟩
set_option maxHeartbeats 1000000 in
theorem rdGetI_3 (s : ByteArray) (z : Int) (w : World) (h1 : (8 : Int) ≤ (s.size : Int)) (h2 : (s.size : Int) ≤ 2000) (cO : ∀ w : World, Calls Try.prog 22 #[.string s] w fun e w' => e = .returned (.int .i64 z) ∧ w = w') (hz : (z != 0) = true) :
    Calls Try.prog 15 #[.string s] w fun e w' => e = .returned (.tuple #[.agg dgZ, .string ⟨#[]⟩, .int .i64 4]) ∧ Below w.heap.size w w' := by
  go_enter Try.func15, Try.ntmps15
  go_wp2_with fail
  refine (cO _).mono ?_
  rintro e w' ⟨rfl, rfl⟩
  go_wp2_with fail
  exact bodyPost_ret (v := .tuple #[.agg dgZ, .string ⟨#[]⟩, .int .i64 4]) (by simp [results, Try.results15, go_sem]) rfl ⟨rfl, below1 _ _⟩
set_option maxHeartbeats 800000 in
theorem rdGetI_4 (s : ByteArray) (z : Int) (a0 a1 : UInt8) (t : ByteArray) (n S : Int) (w : World) (h1 : (8 : Int) ≤ (s.size : Int)) (h2 : (s.size : Int) ≤ 2000) (cO : ∀ w : World, Calls Try.prog 22 #[.string s] w fun e w' => e = .returned (.int .i64 z) ∧ w = w') (hz : (z != 0) = false)
    (e0 : s[0]'(by omega) = a0) (e1 : s[1]'(by omega) = a1) (x : s.extract 4 8 = t) (u1 : IntKind.u32.wrap n = S) (c : ∀ w : World, Calls Try.prog 24 #[.string t] w fun e w' => e = .returned (.int .i64 n) ∧ w = w') :
    Calls Try.prog 15 #[.string s] w fun e w' => e = .returned (.tuple #[.agg #[.int .i64 0, .int .i64 0, .int .i64 (a0.toNat : Int), .int .i64 (a1.toNat : Int), .int .u32 S], .string (s.extract 8 s.size), .int .i64 0]) ∧ Below w.heap.size w w' := by
  have k0 : (0 : Int) < (s.size : Int) := by omega
  have k1 : (1 : Int) < (s.size : Int) := by omega
  have wa := u8_wrap a0
  have wb := u8_wrap a1
  have wa' : IntKind.i64.wrap (a0.toNat : Int) = (a0.toNat : Int) := by have := a0.toNat_lt; exact Pl.wraps_i64 _ (by omega) (by omega)
  have wb' : IntKind.i64.wrap (a1.toNat : Int) = (a1.toNat : Int) := by have := a1.toNat_lt; exact Pl.wraps_i64 _ (by omega) (by omega)
  go_enter Try.func15, Try.ntmps15
  go_wp2_with fail
  refine (cO _).mono ?_
  rintro e w' ⟨rfl, rfl⟩
  have n1' := new_alloc w (.cells dgZ 24)
  obtain ⟨q1, f1, z1⟩ := new_in n1'
  go_wp2_with fail
  obtain ⟨W1, hW1⟩ : ∃ W1 : World, W1 = w.alloc (.cells dgZ 24) := ⟨_, rfl⟩
  rw [← hW1]
  rw [← hW1] at q1 f1 z1
  have n2' : Below (w.heap.size + 1) (w.alloc (.cells dgZ 24)) W1 := by rw [hW1]; exact n1'
  clear hW1 n1'
  go_cut [3, 4] (fun s7 s8 wx => s7 = .string (s.extract 8 s.size) ∧ s8 = .int .i64 0 ∧ ∃ w2 : World, Below (w.heap.size + 1) (w.alloc (.cells dgZ 24)) w2 ∧ wx = (w2.setCells w.heap.size 0 [.int .i64 0, .int .i64 0, .int .i64 (a0.toNat : Int), .int .i64 (a1.toNat : Int), .int .u32 S]).drew)
  case first =>
    go_region_held (fun _ => True) (trivial) (first | (go_at_call 24; refine (c _).mono ?_; rintro e w' ⟨rfl, rfl⟩))
    all_goals
      go_wp2_with fail
      go_meet
      exact ⟨rfl, rfl, W1, n2', rfl⟩
  case rest =>
  obtain ⟨rfl, rfl, w2, n2, rfl⟩ := hcut
  obtain ⟨hc2, hf2, zz2⟩ := new_in n2
  have HB2 := (show Hid _ from (below1 w _).trans (n2.mono (Nat.le_succ _)))
  obtain ⟨wx, hwx, hr, HB⟩ := set_row (vs := [.int .i64 0, .int .i64 0, .int .i64 (a0.toNat : Int), .int .i64 (a1.toNat : Int), .int .u32 S]) hc2 HB2 rfl
  rw [hwx]
  clear hwx n2 n2' hc2 hf2 zz2 HB2
  go_wp2_with fail
  exact bodyPost_ret (v := .tuple #[.agg #[.int .i64 0, .int .i64 0, .int .i64 (a0.toNat : Int), .int .i64 (a1.toNat : Int), .int .u32 S], .string (s.extract 8 s.size), .int .i64 0]) (by simp [results, Try.results15, go_sem, hr]) rfl ⟨rfl, HB.out.drew⟩
theorem rdGetI_any (s : ByteArray) (w : World) (hs : s.size ≤ 900000) :
    Calls Try.prog 15 #[.string s] w fun e w' => e = .returned (.tuple #[.agg (dgV (if badI s.data.toList = 0 then gotI s.data.toList else dgN)), .string (if badI s.data.toList = 0 then s.extract 8 s.size else ⟨#[]⟩), .int .i64 (badI s.data.toList)]) ∧ Below w.heap.size w w' := by
  have hl : s.data.toList.length = s.size := toList_length s
  by_cases h1 : s.size < 8
  · have hb : badI s.data.toList = 2 := by unfold badI; rw [hl, if_pos h1]
    rw [hb]
    exact rdGetI_1 s w h1
  by_cases h3 : 2000 < s.size
  · have hb : badI s.data.toList = 5 := by unfold badI; rw [hl, if_neg h1, if_pos h3]
    rw [hb]
    exact rdGetI_2 s w (by omega) (by omega)
  have cO := fun w => refOf_any s w (by omega)
  by_cases h4 : sumL s.data.toList = 0
  case neg =>
    have hb : badI s.data.toList = 4 := by unfold badI; rw [hl, if_neg h1, if_neg h3, if_pos h4]
    rw [hb]
    exact rdGetI_3 s _ w (by omega) (by omega) cO (bne_iff_ne.2 h4)
  have hb : badI s.data.toList = 0 := by unfold badI; rw [hl, if_neg h1, if_neg h3, if_neg (by simpa using h4)]
  rw [hb, if_pos rfl, if_pos rfl]
  obtain ⟨a0, a1, t, n, S, e0, e1, x0, u1, v0, s0, hV⟩ := icFields s (by omega)
  rw [← hV]
  have c := fun w => refNum_any t w (by omega)
  rw [v0] at c
  exact rdGetI_4 s _ a0 a1 t n S w (by omega) (by omega) cO (by have h5 := h4; unfold sumL at h5; rw [h5]; rfl) e0 e1 x0 u1 c
end Go.Proofs.Ytecmaiodjcfekaa
