/- Contracts of layer 5: both Gets; stage 5's example. -/
import Derived.Test.YthfncbcnokkmiaaDgs3
import Derived.Test.YthfncbcnokkmiaaDgs4
namespace Go.Proofs.Ythfncbcnokkmiaa
open Go.RowKit
set_option linter.unusedVariables false
/-- no head -/
def dgN : Dg := ⟨0, 0, 0, 0, 0⟩
theorem badU_none (a b : UInt32) (l : List UInt8) (h : badU a b l = 0) : 8 ≤ l.length ∧ l.length ≤ 2000 := by
  unfold badU at h
  by_cases h1 : l.length < 8
  · rw [if_pos h1] at h; exact absurd h (by decide)
  rw [if_neg h1] at h
  by_cases h2 : at2 l 4 ≠ l.length
  · rw [if_pos h2] at h; exact absurd h (by decide)
  rw [if_neg h2] at h
  by_cases h3 : 2000 < l.length
  · rw [if_pos h3] at h; exact absurd h (by decide)
  exact ⟨by omega, by omega⟩
theorem badI_none (l : List UInt8) (h : badI l = 0) : 8 ≤ l.length ∧ l.length ≤ 2000 := by
  unfold badI at h
  by_cases h1 : l.length < 8
  · rw [if_pos h1] at h; exact absurd h (by decide)
  rw [if_neg h1] at h
  by_cases h3 : 2000 < l.length
  · rw [if_pos h3] at h; exact absurd h (by decide)
  exact ⟨by omega, by omega⟩
set_option maxHeartbeats 1000000 in
theorem icGet_bad (s : ByteArray) (c : Int) (w : World) (hc : (c != 0) = true)
    (cF : ∀ w : World, Calls Try.prog 76 #[.agg iV, .string s] w fun e w' => e = .returned (.int .i64 c) ∧ Below w.heap.size w w') :
    Calls Try.prog 53 #[.agg iV, .string s] w fun e w' => e = .returned (.tuple #[.agg dgZ, .string ⟨#[]⟩, .int .i64 c]) ∧ Below w.heap.size w w' := by
  go_enter Try.func53, Try.ntmps53
  go_wp2_with fail
  refine (cF _).mono ?_
  rintro e w1 ⟨rfl, hb1⟩
  have n1 := below_call (new_alloc (w.alloc (.cells iV 88)) (.cells dgZ 56)) (size_alloc1 _ _) hb1
  obtain ⟨q1, f1, z1⟩ := new_in n1
  have N1 := (show Hid _ from below_after (below1 _ _) hb1)
  clear hb1 n1
  obtain ⟨wx, hwx, hr, HB⟩ := set_row (vs := [.int .i64 0, .int .i64 0, .int .i64 0, .int .i64 0, .int .u32 0]) q1 N1 rfl
  simp only [World.size_alloc] at q1 f1 z1 hwx hr
  go_wp2_with fail
  change bodyPost _ _ _ _ _ (w1.setCells (w.heap.size + 1) 0 [.int .i64 0, .int .i64 0, .int .i64 0, .int .i64 0, .int .u32 0])
  rw [hwx]
  exact bodyPost_ret (v := .tuple #[.agg dgZ, .string ⟨#[]⟩, .int .i64 c]) (by simp [results, Try.results53, go_sem, hr]) rfl ⟨rfl, below_after (below1 _ _) HB.out⟩
set_option maxHeartbeats 1000000 in
theorem icGet_good (s : ByteArray) (H : Dg) (w : World) (k8 : (8 : Int) ≤ (s.size : Int))
    (cF : ∀ w : World, Calls Try.prog 76 #[.agg iV, .string s] w fun e w' => e = .returned (.int .i64 0) ∧ Below w.heap.size w w')
    (cH : ∀ w : World, Calls Try.prog 104 #[.agg iV, .string s] w fun e w' => e = .returned (.agg (dgV H)) ∧ Below w.heap.size w w') :
    Calls Try.prog 53 #[.agg iV, .string s] w fun e w' => e = .returned (.tuple #[.agg (dgV H), .string (s.extract 8 s.size), .int .i64 0]) ∧ Below w.heap.size w w' := by
  go_enter Try.func53, Try.ntmps53
  go_wp2_with fail
  refine (cF _).mono ?_
  rintro e w1 ⟨rfl, hb1⟩
  have m1 := below_call (below_more (new_alloc w (.cells iV 88)) (size_alloc1 _ _) (.cells dgZ 56)) (size_alloc1 _ _) hb1
  have n1 := below_call (new_alloc (w.alloc (.cells iV 88)) (.cells dgZ 56)) (size_alloc1 _ _) hb1
  obtain ⟨q1, f1, z1⟩ := new_in n1
  obtain ⟨r1, _, y1⟩ := new_in m1
  have N1 := (show Hid _ from n1)
  simp only [World.size_alloc] at q1 f1 z1
  clear hb1 n1 m1 cF
  go_wp2_with fail
  go_cut [5, 6] (fun s5 s6 wx => s5 = .string (s.extract 8 s.size) ∧ s6 = .int .i64 0 ∧ ∃ w2 : World, Below ((w.alloc (.cells iV 88)).heap.size + 1) ((w.alloc (.cells iV 88)).alloc (.cells dgZ 56)) w2 ∧ wx = w2.setCells (w.heap.size + 1) 0 [.int .i64 H.src, .int .i64 H.dst, .int .i64 H.kind, .int .i64 H.code, .int .u32 (H.rest.toNat : Int)])
  case first =>
    go_region_with (first | (go_at_call 104; refine (cH _).mono ?_; rintro e w9 ⟨rfl, hb9⟩; have n9 := below_call N1.out.drew (size_alloc1 _ _) hb9; have K9 := (show Hid _ from n9); obtain ⟨q9, f9, z9⟩ := new_in n9; simp only [World.size_alloc] at q9 f9 z9; clear hb9 n9 N1))
    all_goals
      go_wp2_with fail
      go_meet
      exact ⟨rfl, rfl, w9, K9.out, rfl⟩
  case rest =>
  obtain ⟨rfl, rfl, w2, n2, rfl⟩ := hcut
  clear q1 f1 z1 r1 y1 N1 cH
  obtain ⟨hc2, hf2, zz2⟩ := new_in n2
  have HB2 := (show Hid _ from (below1 (w.alloc (.cells iV 88)) _).trans (n2.mono (Nat.le_succ _)))
  clear n2
  obtain ⟨wx, hwx, hr, HB⟩ := set_row (vs := [.int .i64 H.src, .int .i64 H.dst, .int .i64 H.kind, .int .i64 H.code, .int .u32 (H.rest.toNat : Int)]) hc2 HB2 rfl
  simp only [World.size_alloc] at hc2 hf2 zz2 hwx hr
  rw [hwx]
  go_wp2_with fail
  exact bodyPost_ret (v := .tuple #[.agg (dgV H), .string (s.extract 8 s.size), .int .i64 0]) (by simp [results, Try.results53, go_sem, hr]) rfl ⟨rfl, below_after (below1 _ _) HB.out⟩
set_option maxHeartbeats 1000000 in
theorem icGet_of (s : ByteArray) (H : Dg) (D : ByteArray) (c : Int) (w : World)
    (cG : ∀ w : World, Calls Try.prog 53 #[.agg iV, .string s] w fun e w' => e = .returned (.tuple #[.agg (dgV H), .string D, .int .i64 c]) ∧ Below w.heap.size w w') :
    Calls Try.prog 29 #[.string s] w fun e w' => e = .returned (.tuple #[.agg (dgV H), .string D, .int .i64 c]) ∧ Below w.heap.size w w' := by
  go_enter Try.func29, Try.ntmps29
  go_wp2_with fail
  refine (cG _).mono ?_
  rintro e w1 ⟨rfl, hb1⟩
  have n1 := below_call (new_alloc w (.cells dgZ 56)) (size_alloc1 _ _) hb1
  obtain ⟨q1, f1, z1⟩ := new_in n1
  have N1 := (show Hid _ from below_after (below1 _ _) hb1)
  clear hb1 n1
  obtain ⟨wx, hwx, hr, HB⟩ := set_row (vs := [.int .i64 H.src, .int .i64 H.dst, .int .i64 H.kind, .int .i64 H.code, .int .u32 (H.rest.toNat : Int)]) q1 N1 rfl
  go_wp2_with fail
  change bodyPost _ _ _ _ _ (w1.setCells w.heap.size 0 [.int .i64 H.src, .int .i64 H.dst, .int .i64 H.kind, .int .i64 H.code, .int .u32 (H.rest.toNat : Int)])
  rw [hwx]
  exact bodyPost_ret (v := .tuple #[.agg (dgV H), .string D, .int .i64 c]) (by simp [results, Try.results29, go_sem, hr]) rfl ⟨rfl, HB.out⟩
/-- what it answers: head, body, error -/
theorem icGet_any (s : ByteArray) (w : World) (hs : s.size ≤ 9223372036854775807) :
    Calls Try.prog 29 #[.string s] w fun e w' => e = .returned (.tuple #[.agg (dgV (if badI s.data.toList = 0 then gotI s.data.toList else dgN)), .string (if badI s.data.toList = 0 then s.extract 8 s.size else ⟨#[]⟩), .int .i64 (badI s.data.toList)]) ∧ Below w.heap.size w w' := by
  have cF := fun w => icFault_any s w hs
  refine icGet_of s _ _ _ w (fun w => ?_)
  by_cases h : badI s.data.toList = 0
  · rw [if_pos h, if_pos h]
    rw [h] at cF ⊢
    obtain ⟨h1, h2⟩ := badI_none _ h
    rw [toList_length] at h1 h2
    exact icGet_good s _ w (by omega) cF (fun w => icHead_any s w h1 (by omega))
  · rw [if_neg h, if_neg h]
    exact icGet_bad s _ w (by simpa using h) cF
theorem icGet_put (h : Dg) (body : ByteArray) (w : World) (hm : h.MayI) (hb : 8 + body.size ≤ 2000) :
    Calls Try.prog 29 #[.string (h.putI body)] w fun e w' => e = .returned (.tuple #[.agg (dgV h.icmp), .string body, .int .i64 0]) ∧ Below w.heap.size w w' := by
  have g := icPut_got h body hm hb
  have c := icGet_any (h.putI body) w (by rw [icPut_size]; omega)
  rw [g.1, g.2, if_pos rfl, if_pos rfl, icBody_ext] at c
  exact c
theorem icGet_wrong (s : ByteArray) (c : Int) (w : World) (hs : s.size ≤ 9223372036854775807) (h : badI s.data.toList = c) (h0 : c ≠ 0) :
    Calls Try.prog 29 #[.string s] w fun e w' => e = .returned (.tuple #[.agg dgZ, .string ⟨#[]⟩, .int .i64 c]) ∧ Below w.heap.size w w' := by
  have g := icGet_any s w hs
  rw [h, if_neg h0, if_neg h0] at g
  exact g
/-- the example's head -/
def dgEx : Dg := ⟨5, 53, 0, 0, 0⟩
theorem dgEx_may : dgEx.MayU := ⟨⟨by decide, by decide⟩, ⟨by decide, by decide⟩⟩
end Go.Proofs.Ythfncbcnokkmiaa
