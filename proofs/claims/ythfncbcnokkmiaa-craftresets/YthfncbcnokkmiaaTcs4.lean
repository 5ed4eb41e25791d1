/- Contracts of layer 4: tcp's Get; what is put is got; stage 4's example. -/
import Derived.Test.YthfncbcnokkmiaaTcs3
namespace Go.Proofs.Ythfncbcnokkmiaa
open Go.RowKit
set_option linter.unusedVariables false
/-- what Get answers -/
def tcAnswer (c : Int) (V : Array Value) (D : ByteArray) : Value := if c = 0 then .tuple #[.agg V, .string D, .int .i64 0] else .tuple #[.agg sgZ, .string ⟨#[]⟩, .int .i64 c]
set_option maxHeartbeats 1000000 in
theorem tcGet_bad (s : ByteArray) (a b : UInt32) (c : Int) (w : World) (hc : (c != 0) = true)
    (cF : ∀ w : World, Calls Try.prog 51 #[.int .u32 (a.toNat : Int), .int .u32 (b.toNat : Int), .string s] w fun e w' => e = .returned (.int .i64 c) ∧ Below w.heap.size w w') :
    Calls Try.prog 25 #[.int .u32 (a.toNat : Int), .int .u32 (b.toNat : Int), .string s] w fun e w' => e = .returned (.tuple #[.agg sgZ, .string ⟨#[]⟩, .int .i64 c]) ∧ Below w.heap.size w w' := by
  go_enter Try.func25, Try.ntmps25
  go_wp2_with fail
  refine (cF _).mono ?_
  rintro e w1 ⟨rfl, hb1⟩
  have n1 := below_call (new_alloc w (.cells sgZ 29)) (size_alloc1 _ _) hb1
  obtain ⟨q1, f1, z1⟩ := new_in n1
  have N1 := (show Hid _ from below_after (below1 w _) hb1)
  clear hb1 n1
  obtain ⟨wx, hwx, hr, HB⟩ := set_row (vs := [.int .i64 0, .int .i64 0, .int .u32 0, .int .u32 0, .int .i64 0, .int .i64 0, .string ⟨#[]⟩]) q1 N1 rfl
  go_wp2_with fail
  change bodyPost _ _ _ _ _ (w1.setCells w.heap.size 0 [.int .i64 0, .int .i64 0, .int .u32 0, .int .u32 0, .int .i64 0, .int .i64 0, .string ⟨#[]⟩])
  rw [hwx]
  exact bodyPost_ret (v := .tuple #[.agg sgZ, .string ⟨#[]⟩, .int .i64 c]) (by simp [results, Try.results25, go_sem, hr]) rfl ⟨rfl, HB.out⟩
set_option maxHeartbeats 1000000 in
theorem tcGet_good (s : ByteArray) (a b : UInt32) (H : Sg) (D : ByteArray) (w : World)
    (cF : ∀ w : World, Calls Try.prog 51 #[.int .u32 (a.toNat : Int), .int .u32 (b.toNat : Int), .string s] w fun e w' => e = .returned (.int .i64 0) ∧ Below w.heap.size w w')
    (cS : ∀ w : World, Calls Try.prog 52 #[.string s] w fun e w' => e = .returned (.agg (sbV H D)) ∧ Below w.heap.size w w') :
    Calls Try.prog 25 #[.int .u32 (a.toNat : Int), .int .u32 (b.toNat : Int), .string s] w fun e w' => e = .returned (.tuple #[.agg (sgV H), .string D, .int .i64 0]) ∧ Below w.heap.size w w' := by
  go_enter Try.func25, Try.ntmps25
  go_wp2_with fail
  refine (cF _).mono ?_
  rintro e w1 ⟨rfl, hb1⟩
  have n1 := below_call (new_alloc w (.cells sgZ 29)) (size_alloc1 _ _) hb1
  have N1 := (show Hid _ from n1)
  have M1 := (show Hid _ from below_after (below1 w _) hb1)
  clear hb1 n1 cF
  go_wp2_with fail
  refine (cS _).mono ?_
  rintro e w2 ⟨rfl, hb2⟩
  have n2 := below_more (below_call N1.out (size_alloc1 _ _) hb2) (size_alloc1 _ _) (.cells (sbV H D) 84)
  obtain ⟨q2, f2, z2⟩ := new_in n2
  have M2 := (show Hid _ from below_after (below_after M1.out hb2) (below1 w2 (.cells (sbV H D) 84)))
  have q3 := made_in w2 (sbV H D) 84
  clear hb2 n2 N1 M1 cS
  obtain ⟨wx, hwx, hr, HB⟩ := set_row (vs := [.int .i64 H.src, .int .i64 H.dst, .int .u32 (H.seq.toNat : Int), .int .u32 (H.ack.toNat : Int), .int .i64 H.flags, .int .i64 H.win, .string H.opts]) q2 M2 rfl
  go_wp2_with fail
  go_region
  all_goals
    go_wp2_with fail
    change bodyPost _ _ _ _ _ (World.drew (World.setCells (w2.alloc (.cells (sbV H D) 84)) w.heap.size 0 [.int .i64 H.src, .int .i64 H.dst, .int .u32 (H.seq.toNat : Int), .int .u32 (H.ack.toNat : Int), .int .i64 H.flags, .int .i64 H.win, .string H.opts]))
    rw [hwx]
    exact bodyPost_ret (v := .tuple #[.agg (sgV H), .string D, .int .i64 0]) (by simp [results, Try.results25, go_sem, hr]) rfl ⟨rfl, HB.out.drew⟩
theorem tcGet_any (s : ByteArray) (a b : UInt32) (w : World) (hs : s.size ≤ 9223372036854775807) :
    Calls Try.prog 25 #[.int .u32 (a.toNat : Int), .int .u32 (b.toNat : Int), .string s] w fun e w' => e = .returned (tcAnswer (badT a b s.data.toList) (sgV (gotT s.data.toList)) (s.extract (hdT s.data.toList) s.size)) ∧ Below w.heap.size w w' := by
  unfold tcAnswer
  have cF := fun w => tcFault_any s a b w hs
  by_cases h : badT a b s.data.toList = 0
  · rw [if_pos h]
    rw [h] at cF
    rw [badT_none, toList_length] at h
    obtain ⟨h1, h2, h3, _, _, h6, _⟩ := h
    exact tcGet_good s a b _ _ w cF (fun w => tcSeg_any s w h1 (by omega) h2 h3)
  · rw [if_neg h]
    exact tcGet_bad s a b _ w (by simpa using h) cF
theorem tcGet_put (h : Sg) (a b : UInt32) (body : ByteArray) (w : World) (hm : h.May) (hb : 20 + h.opts.size + body.size ≤ 2000) :
    Calls Try.prog 25 #[.int .u32 (a.toNat : Int), .int .u32 (b.toNat : Int), .string (h.put a b body)] w fun e w' => e = .returned (.tuple #[.agg (sgV h), .string body, .int .i64 0]) ∧ Below w.heap.size w w' := by
  have g := sgPut_got h a b body hm hb
  have c := tcGet_any (h.put a b body) a b w (by rw [sgPut_size]; omega)
  rw [g.1, g.2.2.1, g.2.2.2, sgBody_ext] at c
  exact c
theorem tcGet_turn (h : Sg) (a b : UInt32) (body : ByteArray) (w : World) (hm : h.May) (hb : 20 + h.opts.size + body.size ≤ 2000) :
    Calls Try.prog 25 #[.int .u32 (b.toNat : Int), .int .u32 (a.toNat : Int), .string (h.put a b body)] w fun e w' => e = .returned (.tuple #[.agg (sgV h), .string body, .int .i64 0]) ∧ Below w.heap.size w w' := by
  have g := sgPut_got h a b body hm hb
  have c := tcGet_any (h.put a b body) b a w (by rw [sgPut_size]; omega)
  rw [g.2.1, g.2.2.1, g.2.2.2, sgBody_ext] at c
  exact c
/-- bytes with something wrong -/
theorem tcGet_wrong (s : ByteArray) (a b : UInt32) (c : Int) (w : World) (hs : s.size ≤ 9223372036854775807) (h : badT a b s.data.toList = c) (h0 : c ≠ 0) :
    Calls Try.prog 25 #[.int .u32 (a.toNat : Int), .int .u32 (b.toNat : Int), .string s] w fun e w' => e = .returned (.tuple #[.agg sgZ, .string ⟨#[]⟩, .int .i64 c]) ∧ Below w.heap.size w w' := by
  have g := tcGet_any s a b w hs
  rw [h] at g
  unfold tcAnswer at g
  rw [if_neg h0] at g
  exact g
/-- the example's head -/
def sgEx : Sg := ⟨5, 80, 7, 0, 2, 0, ⟨#[]⟩⟩
theorem sgEx_may : sgEx.May := by
  refine ⟨⟨by decide, by decide⟩, ⟨by decide, by decide⟩, ⟨by decide, by decide⟩, ⟨by decide, by decide⟩, by decide, by decide⟩
end Go.Proofs.Ythfncbcnokkmiaa
