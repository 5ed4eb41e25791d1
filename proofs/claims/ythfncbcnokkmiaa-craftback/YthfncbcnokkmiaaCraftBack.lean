/- CraftBack: for any heads and body, a segment that is made is got again, head by head; back twice both ends are as they were; what is not made may not be; for longer arguments the document's example holds; no condition. -/
import Derived.Test.YthfncbcnokkmiaaCrGet
import Derived.Test.YthfncbcnokkmiaaCrOwn
import Derived.Test.YthfncbcnokkmiaaCrSix
import Derived.Test.YthfncbcnokkmiaaRefCr2
import Derived.Test.YthfncbcnokkmiaaRefIp2
import Derived.Test.YthfncbcnokkmiaaLiftIp
import Derived.Test.YthfncbcnokkmiaaLiftTc
namespace Go.Proofs.Ythfncbcnokkmiaa.craftBack
open Go.ChangeShapes Go.WideShapes Go.ChangeAt Go.RowKit
open Go.ChangeMaps (open_string shut_string)
set_option linter.unusedVariables false
set_option maxRecDepth 100000 in
set_option maxHeartbeats 4000000 in
theorem walk_none (e : Et) (i : Ip) (h : Sg) (body : ByteArray) (w : World) (T : Int) (S : ByteArray) (hT : bits .and .i64 e.t 65535 = T)
    (cf : ∀ w : World, Calls Try.prog 7 #[.agg (ipV i), .agg (sgV h), .string body] w fun r w' => r = .returned (.bool true) ∧ Below w.heap.size w w')
    (cs : ∀ w : World, Calls Try.prog 15 #[.agg #[bv e.a0, bv e.a1, bv e.a2, bv e.a3, bv e.a4, bv e.a5, bv e.b0, bv e.b1, bv e.b2, bv e.b3, bv e.b4, bv e.b5, .int .i64 T], .agg (ipV i), .agg (sgV h), .string body] w fun r w' => r = .returned (.string S) ∧ Below w.heap.size w w')
    (cb : ∀ w : World, Calls Try.prog 9 #[.agg #[bv e.a0, bv e.a1, bv e.a2, bv e.a3, bv e.a4, bv e.a5, bv e.b0, bv e.b1, bv e.b2, bv e.b3, bv e.b4, bv e.b5, .int .i64 T], .agg (ipV i)] w fun r w' => r = .returned (.tuple #[.agg #[bv e.b0, bv e.b1, bv e.b2, bv e.b3, bv e.b4, bv e.b5, bv e.a0, bv e.a1, bv e.a2, bv e.a3, bv e.a4, bv e.a5, .int .i64 T], .agg #[.int .i64 i.tos, .int .i64 0, .bool false, .bool false, .int .i64 0, .int .i64 64, .int .i64 i.proto, .int .u32 (i.dst.toNat : Int), .int .u32 (i.src.toNat : Int), .string ⟨#[]⟩]]) ∧ Below w.heap.size w w')
    (cc : ∀ w : World, Calls Try.prog 9 #[.agg #[bv e.b0, bv e.b1, bv e.b2, bv e.b3, bv e.b4, bv e.b5, bv e.a0, bv e.a1, bv e.a2, bv e.a3, bv e.a4, bv e.a5, .int .i64 T], .agg #[.int .i64 i.tos, .int .i64 0, .bool false, .bool false, .int .i64 0, .int .i64 64, .int .i64 i.proto, .int .u32 (i.dst.toNat : Int), .int .u32 (i.src.toNat : Int), .string ⟨#[]⟩]] w fun r w' => r = .returned (.tuple #[.agg #[bv e.a0, bv e.a1, bv e.a2, bv e.a3, bv e.a4, bv e.a5, bv e.b0, bv e.b1, bv e.b2, bv e.b3, bv e.b4, bv e.b5, .int .i64 T], .agg #[.int .i64 i.tos, .int .i64 0, .bool false, .bool false, .int .i64 0, .int .i64 64, .int .i64 i.proto, .int .u32 (i.src.toNat : Int), .int .u32 (i.dst.toNat : Int), .string ⟨#[]⟩]]) ∧ Below w.heap.size w w') (hS : S = ⟨#[]⟩) (y1 y2 : Bool) (hbs : body.size ≤ 2200) (hos : h.opts.size ≤ 100)
    (ci : ∀ w : World, Calls Try.prog 21 #[.agg (ipV i)] w fun r w' => r = .returned (.bool y1) ∧ Below w.heap.size w w')
    (ct : ∀ w : World, Calls Try.prog 22 #[.agg (sgV h)] w fun r w' => r = .returned (.bool y2) ∧ Below w.heap.size w w') (hy : y1 = false ∨ (y1 = true ∧ y2 = false) ∨ (y1 = true ∧ y2 = true ∧ (2000 : Int) < (body.size : Int) + 20 + (h.opts.size : Int))) :
    Calls Try.prog 4 #[.agg (etV e), .agg (ipV i), .agg (sgV h), .string body] w fun r w' => r = .returned (.bool true) ∧ Below w.heap.size w w' := by
  subst hS
  have O0 := own_three w (etV e) (ipV i) (sgV h) 24 27 29
  have ca := fun w => crAwake_any w
  have h6 := eq_six
  go_enter Try.func4, Try.ntmps4
  have HO := (show Hid _ from O0)
  clear O0
  go_wp2_with fail
  refine (cf _).mono ?_
  rintro r w1 ⟨rfl, hb1⟩
  have O1 := (show Hid _ from HO.out.below hb1)
  have O1' := (show Hid (Own3 w _ #[bv e.a0, bv e.a1, bv e.a2, bv e.a3, bv e.a4, bv e.a5, bv e.b0, bv e.b1, bv e.b2, bv e.b3, bv e.b4, bv e.b5, .int .i64 T] (ipV i) (sgV h)) from O1.out.setA 12 (.int .i64 T) (show 12 < 13 from by decide))
  have ⟨⟨q1, z1⟩, ⟨q2, z2⟩, ⟨q3, z3⟩⟩ := O1.out.facts
  have f1 := O1.out.a.f
  clear hb1 HO cf O1
  go_wp2_with fail
  refine (cs _).mono ?_
  rintro r w2 ⟨rfl, hb2⟩
  have O2 := (show Hid _ from O1'.out.below hb2)
  clear hb2 O1' q1 z1 q2 z2 q3 z3 f1 cs hT
  have ⟨⟨q1, z1⟩, ⟨q2, z2⟩, _⟩ := O2.out.facts
  go_wp2_with fail
  refine (cb _).mono ?_
  rintro r w3 ⟨rfl, hb3⟩
  have O3 := (show Hid _ from O2.out.below hb3)
  have O3b := (show Hid _ from (O3.out.alloc (.cells #[bv e.b0, bv e.b1, bv e.b2, bv e.b3, bv e.b4, bv e.b5, bv e.a0, bv e.a1, bv e.a2, bv e.a3, bv e.a4, bv e.a5, .int .i64 T] 24)).alloc (.cells #[.int .i64 i.tos, .int .i64 0, .bool false, .bool false, .int .i64 0, .int .i64 64, .int .i64 i.proto, .int .u32 (i.dst.toNat : Int), .int .u32 (i.src.toNat : Int), .string ⟨#[]⟩] 27))
  have E3 := (show Hid _ from (Own.new O3.out.hb #[bv e.b0, bv e.b1, bv e.b2, bv e.b3, bv e.b4, bv e.b5, bv e.a0, bv e.a1, bv e.a2, bv e.a3, bv e.a4, bv e.a5, .int .i64 T] 24).alloc (.cells #[.int .i64 i.tos, .int .i64 0, .bool false, .bool false, .int .i64 0, .int .i64 64, .int .i64 i.proto, .int .u32 (i.dst.toNat : Int), .int .u32 (i.src.toNat : Int), .string ⟨#[]⟩] 27))
  have I3 := (show Hid _ from Own.new (O3.out.hb.alloc O3.out.hb.size (.cells #[bv e.b0, bv e.b1, bv e.b2, bv e.b3, bv e.b4, bv e.b5, bv e.a0, bv e.a1, bv e.a2, bv e.a3, bv e.a4, bv e.a5, .int .i64 T] 24)) #[.int .i64 i.tos, .int .i64 0, .bool false, .bool false, .int .i64 0, .int .i64 64, .int .i64 i.proto, .int .u32 (i.dst.toNat : Int), .int .u32 (i.src.toNat : Int), .string ⟨#[]⟩] 27)
  clear hb3 O2 q1 z1 q2 z2 cb O3
  go_wp2_with fail
  refine (cc _).mono ?_
  rintro r w4 ⟨rfl, hb4⟩
  have O4' := O3b.out.below hb4
  have O4 := (show Hid _ from (O4'.alloc (.cells #[bv e.a0, bv e.a1, bv e.a2, bv e.a3, bv e.a4, bv e.a5, bv e.b0, bv e.b1, bv e.b2, bv e.b3, bv e.b4, bv e.b5, .int .i64 T] 24)).alloc (.cells #[.int .i64 i.tos, .int .i64 0, .bool false, .bool false, .int .i64 0, .int .i64 64, .int .i64 i.proto, .int .u32 (i.src.toNat : Int), .int .u32 (i.dst.toNat : Int), .string ⟨#[]⟩] 27))
  have I4 := (show Hid _ from ((I3.out.below hb4).alloc (.cells #[bv e.a0, bv e.a1, bv e.a2, bv e.a3, bv e.a4, bv e.a5, bv e.b0, bv e.b1, bv e.b2, bv e.b3, bv e.b4, bv e.b5, .int .i64 T] 24)).alloc (.cells #[.int .i64 i.tos, .int .i64 0, .bool false, .bool false, .int .i64 0, .int .i64 64, .int .i64 i.proto, .int .u32 (i.src.toNat : Int), .int .u32 (i.dst.toNat : Int), .string ⟨#[]⟩] 27))
  have F4 := (show Hid _ from (Own.new O4'.hb #[bv e.a0, bv e.a1, bv e.a2, bv e.a3, bv e.a4, bv e.a5, bv e.b0, bv e.b1, bv e.b2, bv e.b3, bv e.b4, bv e.b5, .int .i64 T] 24).alloc (.cells #[.int .i64 i.tos, .int .i64 0, .bool false, .bool false, .int .i64 0, .int .i64 64, .int .i64 i.proto, .int .u32 (i.src.toNat : Int), .int .u32 (i.dst.toNat : Int), .string ⟨#[]⟩] 27))
  have J4 := (show Hid _ from Own.new (O4'.hb.alloc O4'.hb.size (.cells #[bv e.a0, bv e.a1, bv e.a2, bv e.a3, bv e.a4, bv e.a5, bv e.b0, bv e.b1, bv e.b2, bv e.b3, bv e.b4, bv e.b5, .int .i64 T] 24)) #[.int .i64 i.tos, .int .i64 0, .bool false, .bool false, .int .i64 0, .int .i64 64, .int .i64 i.proto, .int .u32 (i.src.toNat : Int), .int .u32 (i.dst.toNat : Int), .string ⟨#[]⟩] 27)
  clear hb4 O3b E3 I3 cc O4'
  go_upto_region 7 with fail
  have ⟨⟨q1, z1⟩, ⟨q2, z2⟩, ⟨q3, z3⟩⟩ := O4.out.facts
  have q5 := I4.out.q
  have q6 := F4.out.q
  have q7 := J4.out.q
  have s3 : (w3.alloc (.cells #[bv e.b0, bv e.b1, bv e.b2, bv e.b3, bv e.b4, bv e.b5, bv e.a0, bv e.a1, bv e.a2, bv e.a3, bv e.a4, bv e.a5, .int .i64 T] 24)).heap.size = w3.heap.size + 1 := by simp
  have s4 : (w4.alloc (.cells #[bv e.a0, bv e.a1, bv e.a2, bv e.a3, bv e.a4, bv e.a5, bv e.b0, bv e.b1, bv e.b2, bv e.b3, bv e.b4, bv e.b5, .int .i64 T] 24)).heap.size = w4.heap.size + 1 := by simp
  rw [s3] at q5
  rw [s4] at q7
  clear s3 s4 I4 F4 J4
  generalize (w4.alloc (.cells #[bv e.a0, bv e.a1, bv e.a2, bv e.a3, bv e.a4, bv e.a5, bv e.b0, bv e.b1, bv e.b2, bv e.b3, bv e.b4, bv e.b5, .int .i64 T] 24)).alloc _ = W4 at *
  rcases hy with rfl | ⟨rfl, rfl⟩ | ⟨rfl, rfl, hy⟩
  · go_wp2_with fail
    refine (ci _).mono ?_
    rintro r w5 ⟨rfl, hb5⟩
    have B5 := (show Hid _ from below_after O4.out.hb hb5)
    clear hb5 O4 q1 z1 q2 z2 q3 z3 q5 q6 q7 h6
    go_wp2_with fail
    refine (ca _).mono ?_
    rintro r w6 ⟨rfl, hb6⟩
    have B6 := (show Hid _ from below_after B5.out hb6)
    clear hb6 B5
    go_wp2_with fail
    go_ret
    exact ⟨rfl, B6.out⟩
  · go_wp2_with fail
    refine (ci _).mono ?_
    rintro r w5 ⟨rfl, hb5⟩
    have O5 := (show Hid _ from O4.out.below hb5)
    clear hb5 O4 q1 z1 q2 z2 q3 z3 q5 q6 q7 h6
    have ⟨_, _, ⟨q3, z3⟩⟩ := O5.out.facts
    go_wp2_with fail
    refine (ct _).mono ?_
    rintro r w6 ⟨rfl, hb6⟩
    have B6 := (show Hid _ from below_after O5.out.hb hb6)
    clear hb6 O5 q3 z3
    go_wp2_with fail
    refine (ca _).mono ?_
    rintro r w7 ⟨rfl, hb7⟩
    have B7 := (show Hid _ from below_after B6.out hb7)
    clear hb7 B6
    go_wp2_with fail
    go_ret
    exact ⟨rfl, B7.out⟩
  · go_wp2_with fail
    refine (ci _).mono ?_
    rintro r w5 ⟨rfl, hb5⟩
    have O5 := (show Hid _ from O4.out.below hb5)
    clear hb5 O4 q1 z1 q2 z2 q3 z3 q5 q6 q7 h6
    have ⟨_, _, ⟨q3, z3⟩⟩ := O5.out.facts
    go_wp2_with fail
    refine (ct _).mono ?_
    rintro r w6 ⟨rfl, hb6⟩
    have O6 := (show Hid _ from O5.out.below hb6)
    clear hb6 O5 q3 z3
    have ⟨_, _, ⟨q3, z3⟩⟩ := O6.out.facts
    go_wp2_with fail
    refine (ca _).mono ?_
    rintro r w7 ⟨rfl, hb7⟩
    have B7 := (show Hid _ from below_after O6.out.hb hb7)
    clear hb7 O6 q3 z3
    go_wp2_with fail
    go_ret
    exact ⟨rfl, B7.out⟩
set_option maxRecDepth 100000 in
set_option maxHeartbeats 4000000 in
theorem walk_some (e : Et) (i : Ip) (h : Sg) (body : ByteArray) (w : World) (T : Int) (S t u : ByteArray) (hT : bits .and .i64 e.t 65535 = T)
    (cf : ∀ w : World, Calls Try.prog 7 #[.agg (ipV i), .agg (sgV h), .string body] w fun r w' => r = .returned (.bool true) ∧ Below w.heap.size w w')
    (cs : ∀ w : World, Calls Try.prog 15 #[.agg #[bv e.a0, bv e.a1, bv e.a2, bv e.a3, bv e.a4, bv e.a5, bv e.b0, bv e.b1, bv e.b2, bv e.b3, bv e.b4, bv e.b5, .int .i64 T], .agg (ipV i), .agg (sgV h), .string body] w fun r w' => r = .returned (.string S) ∧ Below w.heap.size w w')
    (cb : ∀ w : World, Calls Try.prog 9 #[.agg #[bv e.a0, bv e.a1, bv e.a2, bv e.a3, bv e.a4, bv e.a5, bv e.b0, bv e.b1, bv e.b2, bv e.b3, bv e.b4, bv e.b5, .int .i64 T], .agg (ipV i)] w fun r w' => r = .returned (.tuple #[.agg #[bv e.b0, bv e.b1, bv e.b2, bv e.b3, bv e.b4, bv e.b5, bv e.a0, bv e.a1, bv e.a2, bv e.a3, bv e.a4, bv e.a5, .int .i64 T], .agg #[.int .i64 i.tos, .int .i64 0, .bool false, .bool false, .int .i64 0, .int .i64 64, .int .i64 i.proto, .int .u32 (i.dst.toNat : Int), .int .u32 (i.src.toNat : Int), .string ⟨#[]⟩]]) ∧ Below w.heap.size w w')
    (cc : ∀ w : World, Calls Try.prog 9 #[.agg #[bv e.b0, bv e.b1, bv e.b2, bv e.b3, bv e.b4, bv e.b5, bv e.a0, bv e.a1, bv e.a2, bv e.a3, bv e.a4, bv e.a5, .int .i64 T], .agg #[.int .i64 i.tos, .int .i64 0, .bool false, .bool false, .int .i64 0, .int .i64 64, .int .i64 i.proto, .int .u32 (i.dst.toNat : Int), .int .u32 (i.src.toNat : Int), .string ⟨#[]⟩]] w fun r w' => r = .returned (.tuple #[.agg #[bv e.a0, bv e.a1, bv e.a2, bv e.a3, bv e.a4, bv e.a5, bv e.b0, bv e.b1, bv e.b2, bv e.b3, bv e.b4, bv e.b5, .int .i64 T], .agg #[.int .i64 i.tos, .int .i64 0, .bool false, .bool false, .int .i64 0, .int .i64 64, .int .i64 i.proto, .int .u32 (i.src.toNat : Int), .int .u32 (i.dst.toNat : Int), .string ⟨#[]⟩]]) ∧ Below w.heap.size w w') (hS : S.toList ≠ []) (hS2 : (S.toList == []) = false)
    (ce : ∀ w : World, Calls Try.prog 23 #[.string S] w fun r w' => r = .returned (.tuple #[.agg #[bv e.a0, bv e.a1, bv e.a2, bv e.a3, bv e.a4, bv e.a5, bv e.b0, bv e.b1, bv e.b2, bv e.b3, bv e.b4, bv e.b5, .int .i64 T], .string t, .int .i64 0]) ∧ Below w.heap.size w w')
    (ci : ∀ w : World, Calls Try.prog 24 #[.string t] w fun r w' => r = .returned (.tuple #[.agg (ipV i), .string u, .int .i64 0]) ∧ Below w.heap.size w w')
    (ct : ∀ w : World, Calls Try.prog 25 #[.int .u32 (i.src.toNat : Int), .int .u32 (i.dst.toNat : Int), .string u] w fun r w' => r = .returned (.tuple #[.agg (sgV h), .string body, .int .i64 0]) ∧ Below w.heap.size w w')
    (se : ∀ w : World, Calls Try.prog 11 #[.agg #[bv e.a0, bv e.a1, bv e.a2, bv e.a3, bv e.a4, bv e.a5, bv e.b0, bv e.b1, bv e.b2, bv e.b3, bv e.b4, bv e.b5, .int .i64 T], .agg #[bv e.a0, bv e.a1, bv e.a2, bv e.a3, bv e.a4, bv e.a5, bv e.b0, bv e.b1, bv e.b2, bv e.b3, bv e.b4, bv e.b5, .int .i64 T]] w fun r w' => r = .returned (.bool true) ∧ Below w.heap.size w w')
    (si : ∀ w : World, Calls Try.prog 12 #[.agg (ipV i), .agg (ipV i)] w fun r w' => r = .returned (.bool true) ∧ Below w.heap.size w w') :
    Calls Try.prog 4 #[.agg (etV e), .agg (ipV i), .agg (sgV h), .string body] w fun r w' => r = .returned (.bool true) ∧ Below w.heap.size w w' := by
  have O0 := own_three w (etV e) (ipV i) (sgV h) 24 27 29
  have ca := fun w => crAwake_any w
  have h6 := eq_six
  go_enter Try.func4, Try.ntmps4
  have HO := (show Hid _ from O0)
  clear O0
  go_wp2_with fail
  refine (cf _).mono ?_
  rintro r w1 ⟨rfl, hb1⟩
  have O1 := (show Hid _ from HO.out.below hb1)
  have O1' := (show Hid (Own3 w _ #[bv e.a0, bv e.a1, bv e.a2, bv e.a3, bv e.a4, bv e.a5, bv e.b0, bv e.b1, bv e.b2, bv e.b3, bv e.b4, bv e.b5, .int .i64 T] (ipV i) (sgV h)) from O1.out.setA 12 (.int .i64 T) (show 12 < 13 from by decide))
  have ⟨⟨q1, z1⟩, ⟨q2, z2⟩, ⟨q3, z3⟩⟩ := O1.out.facts
  have f1 := O1.out.a.f
  clear hb1 HO cf O1
  go_wp2_with fail
  refine (cs _).mono ?_
  rintro r w2 ⟨rfl, hb2⟩
  have O2 := (show Hid _ from O1'.out.below hb2)
  clear hb2 O1' q1 z1 q2 z2 q3 z3 f1 cs hT
  have ⟨⟨q1, z1⟩, ⟨q2, z2⟩, _⟩ := O2.out.facts
  go_wp2_with fail
  refine (cb _).mono ?_
  rintro r w3 ⟨rfl, hb3⟩
  have O3 := (show Hid _ from O2.out.below hb3)
  have O3b := (show Hid _ from (O3.out.alloc (.cells #[bv e.b0, bv e.b1, bv e.b2, bv e.b3, bv e.b4, bv e.b5, bv e.a0, bv e.a1, bv e.a2, bv e.a3, bv e.a4, bv e.a5, .int .i64 T] 24)).alloc (.cells #[.int .i64 i.tos, .int .i64 0, .bool false, .bool false, .int .i64 0, .int .i64 64, .int .i64 i.proto, .int .u32 (i.dst.toNat : Int), .int .u32 (i.src.toNat : Int), .string ⟨#[]⟩] 27))
  have E3 := (show Hid _ from (Own.new O3.out.hb #[bv e.b0, bv e.b1, bv e.b2, bv e.b3, bv e.b4, bv e.b5, bv e.a0, bv e.a1, bv e.a2, bv e.a3, bv e.a4, bv e.a5, .int .i64 T] 24).alloc (.cells #[.int .i64 i.tos, .int .i64 0, .bool false, .bool false, .int .i64 0, .int .i64 64, .int .i64 i.proto, .int .u32 (i.dst.toNat : Int), .int .u32 (i.src.toNat : Int), .string ⟨#[]⟩] 27))
  have I3 := (show Hid _ from Own.new (O3.out.hb.alloc O3.out.hb.size (.cells #[bv e.b0, bv e.b1, bv e.b2, bv e.b3, bv e.b4, bv e.b5, bv e.a0, bv e.a1, bv e.a2, bv e.a3, bv e.a4, bv e.a5, .int .i64 T] 24)) #[.int .i64 i.tos, .int .i64 0, .bool false, .bool false, .int .i64 0, .int .i64 64, .int .i64 i.proto, .int .u32 (i.dst.toNat : Int), .int .u32 (i.src.toNat : Int), .string ⟨#[]⟩] 27)
  clear hb3 O2 q1 z1 q2 z2 cb O3
  go_wp2_with fail
  refine (cc _).mono ?_
  rintro r w4 ⟨rfl, hb4⟩
  have O4' := O3b.out.below hb4
  have O4 := (show Hid _ from (O4'.alloc (.cells #[bv e.a0, bv e.a1, bv e.a2, bv e.a3, bv e.a4, bv e.a5, bv e.b0, bv e.b1, bv e.b2, bv e.b3, bv e.b4, bv e.b5, .int .i64 T] 24)).alloc (.cells #[.int .i64 i.tos, .int .i64 0, .bool false, .bool false, .int .i64 0, .int .i64 64, .int .i64 i.proto, .int .u32 (i.src.toNat : Int), .int .u32 (i.dst.toNat : Int), .string ⟨#[]⟩] 27))
  have I4 := (show Hid _ from ((I3.out.below hb4).alloc (.cells #[bv e.a0, bv e.a1, bv e.a2, bv e.a3, bv e.a4, bv e.a5, bv e.b0, bv e.b1, bv e.b2, bv e.b3, bv e.b4, bv e.b5, .int .i64 T] 24)).alloc (.cells #[.int .i64 i.tos, .int .i64 0, .bool false, .bool false, .int .i64 0, .int .i64 64, .int .i64 i.proto, .int .u32 (i.src.toNat : Int), .int .u32 (i.dst.toNat : Int), .string ⟨#[]⟩] 27))
  have F4 := (show Hid _ from (Own.new O4'.hb #[bv e.a0, bv e.a1, bv e.a2, bv e.a3, bv e.a4, bv e.a5, bv e.b0, bv e.b1, bv e.b2, bv e.b3, bv e.b4, bv e.b5, .int .i64 T] 24).alloc (.cells #[.int .i64 i.tos, .int .i64 0, .bool false, .bool false, .int .i64 0, .int .i64 64, .int .i64 i.proto, .int .u32 (i.src.toNat : Int), .int .u32 (i.dst.toNat : Int), .string ⟨#[]⟩] 27))
  have J4 := (show Hid _ from Own.new (O4'.hb.alloc O4'.hb.size (.cells #[bv e.a0, bv e.a1, bv e.a2, bv e.a3, bv e.a4, bv e.a5, bv e.b0, bv e.b1, bv e.b2, bv e.b3, bv e.b4, bv e.b5, .int .i64 T] 24)) #[.int .i64 i.tos, .int .i64 0, .bool false, .bool false, .int .i64 0, .int .i64 64, .int .i64 i.proto, .int .u32 (i.src.toNat : Int), .int .u32 (i.dst.toNat : Int), .string ⟨#[]⟩] 27)
  clear hb4 O3b E3 I3 cc O4'
  go_upto_region 7 with fail
  have ⟨⟨q1, z1⟩, ⟨q2, z2⟩, ⟨q3, z3⟩⟩ := O4.out.facts
  have q5 := I4.out.q
  have q6 := F4.out.q
  have q7 := J4.out.q
  have s3 : (w3.alloc (.cells #[bv e.b0, bv e.b1, bv e.b2, bv e.b3, bv e.b4, bv e.b5, bv e.a0, bv e.a1, bv e.a2, bv e.a3, bv e.a4, bv e.a5, .int .i64 T] 24)).heap.size = w3.heap.size + 1 := by simp
  have s4 : (w4.alloc (.cells #[bv e.a0, bv e.a1, bv e.a2, bv e.a3, bv e.a4, bv e.a5, bv e.b0, bv e.b1, bv e.b2, bv e.b3, bv e.b4, bv e.b5, .int .i64 T] 24)).heap.size = w4.heap.size + 1 := by simp
  rw [s3] at q5
  rw [s4] at q7
  clear s3 s4 I4 F4 J4
  generalize (w4.alloc (.cells #[bv e.a0, bv e.a1, bv e.a2, bv e.a3, bv e.a4, bv e.a5, bv e.b0, bv e.b1, bv e.b2, bv e.b3, bv e.b4, bv e.b5, .int .i64 T] 24)).alloc _ = W4 at *
  go_wp2_with fail
  refine (ce _).mono ?_
  rintro r w5 ⟨rfl, hb5⟩
  have O5 := (show Hid _ from (O4.out.below hb5).alloc (.cells #[bv e.a0, bv e.a1, bv e.a2, bv e.a3, bv e.a4, bv e.a5, bv e.b0, bv e.b1, bv e.b2, bv e.b3, bv e.b4, bv e.b5, .int .i64 T] 24))
  have E5 := (show Hid _ from Own.new (O4.out.below hb5).hb #[bv e.a0, bv e.a1, bv e.a2, bv e.a3, bv e.a4, bv e.a5, bv e.b0, bv e.b1, bv e.b2, bv e.b3, bv e.b4, bv e.b5, .int .i64 T] 24)
  clear hb5 O4 q1 z1 q2 z2 q3 z3 q5 q6 q7 h6 ce hS hS2
  go_wp2_with fail
  refine (ci _).mono ?_
  rintro r w6 ⟨rfl, hb6⟩
  have O6 := (show Hid _ from (O5.out.below hb6).alloc (.cells (ipV i) 27))
  have E6 := (show Hid _ from (E5.out.below hb6).alloc (.cells (ipV i) 27))
  have I6 := (show Hid _ from Own.new (O5.out.below hb6).hb (ipV i) 27)
  clear hb6 O5 E5 ci
  go_wp2_with fail
  refine (ct _).mono ?_
  rintro r w7 ⟨rfl, hb7⟩
  have O7 := (show Hid _ from (O6.out.below hb7).alloc (.cells (sgV h) 29))
  have E7 := (show Hid _ from (E6.out.below hb7).alloc (.cells (sgV h) 29))
  have I7 := (show Hid _ from (I6.out.below hb7).alloc (.cells (sgV h) 29))
  have H7 := (show Hid _ from Own.new (O6.out.below hb7).hb (sgV h) 29)
  clear hb7 O6 E6 I6 ct
  go_upto_region 14 with fail
  generalize w7.alloc _ = W7 at *
  have ⟨⟨q1, z1⟩, _, _⟩ := O7.out.facts
  have q4 := E7.out.q
  clear E7
  go_wp2_with fail
  refine (se _).mono ?_
  rintro r w8 ⟨rfl, hb8⟩
  have O8 := (show Hid _ from O7.out.below hb8)
  have I8 := (show Hid _ from I7.out.below hb8)
  have H8 := (show Hid _ from H7.out.below hb8)
  clear hb8 O7 I7 H7 q1 z1 q4 se
  have ⟨_, ⟨q2, z2⟩, _⟩ := O8.out.facts
  have q5 := I8.out.q
  go_wp2_with fail
  refine (si _).mono ?_
  rintro r w9 ⟨rfl, hb9⟩
  have O9 := (show Hid _ from O8.out.below hb9)
  have H9 := (show Hid _ from H8.out.below hb9)
  clear hb9 O8 I8 H8 q2 z2 q5 si
  have ⟨_, _, ⟨q3, z3⟩⟩ := O9.out.facts
  have q6 := H9.out.q
  go_wp2_with fail
  refine (ca _).mono ?_
  rintro r w10 ⟨rfl, hb10⟩
  have B10 := (show Hid _ from below_after O9.out.hb hb10)
  clear hb10 O9 H9 q3 z3 q6
  go_wp2_with fail
  go_ret
  exact ⟨rfl, B10.out⟩
set_option maxRecDepth 100000 in
set_option maxHeartbeats 1000000 in
theorem walk_long (e : Et) (i : Ip) (h : Sg) (body : ByteArray) (w : World) (cf : ∀ w : World, Calls Try.prog 7 #[.agg (ipV i), .agg (sgV h), .string body] w fun r w' => r = .returned (.bool false) ∧ Below w.heap.size w w') :
    Calls Try.prog 4 #[.agg (etV e), .agg (ipV i), .agg (sgV h), .string body] w fun r w' => r = .returned (.bool true) ∧ Below w.heap.size w w' := by
  go_enter Try.func4, Try.ntmps4
  go_wp2_with fail
  refine (cf _).mono ?_
  rintro r w1 ⟨rfl, hb1⟩
  have B1 := (show Hid _ from below_after (below3 _ _ _ _) hb1)
  clear hb1 cf
  go_wp2_with fail
  refine (crAwake_any _).mono ?_
  rintro r w2 ⟨rfl, hb2⟩
  have B2 := (show Hid _ from below_after B1.out hb2)
  clear hb2 B1
  go_wp2_with fail
  go_ret
  exact ⟨rfl, B2.out⟩
theorem and_mask (t : Int) : bits .and .i64 t 65535 = t % 65536 := by
  show IntKind.i64.wrap ((BitVec.ofInt 64 t &&& BitVec.ofInt 64 ((65535 : Nat) : Int)).toNat : Nat) = _
  rw [BitVec.toNat_and, ofNat64 _ (by omega), BitVec.toNat_ofInt, show (65535 : Nat) = 2 ^ 16 - 1 from rfl, Nat.and_two_pow_sub_one_eq_mod]
  have e := Pl.wraps_i64 ((((t % ((2 ^ 64 : Nat) : Int)).toNat % 2 ^ 16 : Nat) : Int)) (by omega) (by omega)
  rw [e]
  omega
/-- what may not be is not made -/
theorem segm_none (e : Et) (i : Ip) (h : Sg) (body S : ByteArray) (x : Segm e i h body S) (hn : ¬ (i.May ∧ h.May ∧ 20 + h.opts.size + body.size ≤ 2000)) : S = ⟨#[]⟩ := by
  obtain ⟨p, c, D', hp, ⟨p2, c2, hp2, rfl⟩, rfl⟩ := x
  rcases hp with ⟨hs, hz, rfl, rfl⟩ | ⟨hs, rfl, rfl⟩ | ⟨hs, hz, rfl, rfl⟩
  · rw [if_pos rfl]
    have hi : ¬ i.May := fun hi => hn ⟨hi, hs, hz⟩
    have hc : c2 ≠ 0 := fun hc => hi (hp2.zero.1 hc).1
    rw [if_neg hc]
  · rw [if_neg (by decide)]
  · rw [if_neg (by decide)]
theorem walk_all (e : Et) (i : Ip) (h : Sg) (body : ByteArray) (w : World) (h1 : i.opts.size ≤ 9223372036854775807) (h2 : h.opts.size ≤ 9223372036854775807) (h3 : body.size ≤ 9223372036854775807) :
    Calls Try.prog 4 #[.agg (etV e), .agg (ipV i), .agg (sgV h), .string body] w fun r w' => r = .returned (.bool true) ∧ Below w.heap.size w w' := by
  by_cases hf : i.opts.size ≤ 100 ∧ h.opts.size ≤ 100 ∧ body.size ≤ 2200
  case neg => exact walk_long e i h body w (fun w => few_any i h body false w h3 h1 h2 (by simpa using hf))
  have cf := fun w => few_any i h body true w h3 h1 h2 (by simpa using hf)
  obtain ⟨e1, he1⟩ : ∃ e1 : Et, e1 = ⟨e.a0, e.a1, e.a2, e.a3, e.a4, e.a5, e.b0, e.b1, e.b2, e.b3, e.b4, e.b5, e.t % 65536⟩ := ⟨_, rfl⟩
  have cb := fun w => crBack_any e1 i w
  have cc := fun w => crBack_any e1.back i.back w
  have se := fun w => same_yes e1.a0 e1.a1 e1.a2 e1.a3 e1.a4 e1.a5 e1.b0 e1.b1 e1.b2 e1.b3 e1.b4 e1.b5 e1.t w
  have si := fun w => ipSame_yes i w
  by_cases hall : i.May ∧ h.May ∧ 20 + h.opts.size + body.size ≤ 2000
  · obtain ⟨hi, hs, hz⟩ := hall
    have x := segm_ok e1 i h body hi hs hz
    have cs := fun w => crSegm x (by omega) w
    have hsg := sgPut_size h i.src i.dst body
    have hpz := put_size i (h.put i.src i.dst body)
    have ho := hi.2.2.2.2.2.2.1
    have t0 : 0 ≤ e1.t ∧ e1.t ≤ 65535 := by rw [he1]; show 0 ≤ e.t % 65536 ∧ e.t % 65536 ≤ 65535; omega
    have ce := fun w => crEth_get e1 (i.put (h.put i.src i.dst body)) w t0.1 t0.2 (by omega)
    have ci := fun w => back_self i (h.put i.src i.dst body) w hi (by omega)
    have ct := fun w => tcGet_put h i.src i.dst body w hs hz
    have hne : (e1.put (i.put (h.put i.src i.dst body))).toList ≠ [] := by
      rw [ByteArray.toList_eq]
      intro hc
      have := congrArg List.length hc
      rw [toList_length, etPut_size] at this
      exact absurd this (by show ¬ _ = 0; omega)
    subst he1
    exact walk_some e i h body w (e.t % 65536) _ _ _ (and_mask e.t) cf cs cb cc hne (by simpa using hne) ce ci ct se si
  · obtain ⟨S, x⟩ := segm_ex e1 i h body
    have hS := segm_none e1 i h body S x hall
    have cs := fun w => crSegm x (by omega) w
    subst he1
    by_cases hi : i.May
    case neg =>
      by_cases hs : h.May
      · exact walk_none e i h body w (e.t % 65536) S (and_mask e.t) cf cs cb cc hS false true hf.2.2 hf.2.1 (fun w => check_no i w hi) (fun w => tcCheck_yes h w hs) (.inl rfl)
      · exact walk_none e i h body w (e.t % 65536) S (and_mask e.t) cf cs cb cc hS false false hf.2.2 hf.2.1 (fun w => check_no i w hi) (fun w => tcCheck_no h w hs) (.inl rfl)
    by_cases hs : h.May
    case neg => exact walk_none e i h body w (e.t % 65536) S (and_mask e.t) cf cs cb cc hS true false hf.2.2 hf.2.1 (fun w => check_yes i w hi) (fun w => tcCheck_no h w hs) (.inr (.inl ⟨rfl, rfl⟩))
    exact walk_none e i h body w (e.t % 65536) S (and_mask e.t) cf cs cb cc hS true true hf.2.2 hf.2.1 (fun w => check_yes i w hi) (fun w => tcCheck_yes h w hs) (.inr (.inr ⟨rfl, rfl, by have : ¬ (20 + h.opts.size + body.size ≤ 2000) := fun z => hall ⟨hi, hs, z⟩; omega⟩))

theorem walk (a0 a1 a2 a3 a4 a5 b0 b1 b2 b3 b4 b5 : UInt8) (t : Int) (wt : (Lit.int .i64 t).wf = true) (i : Ip) (wi : i.Wf) (h : Sg) (wh : h.Wf) (body : ByteArray) (wb : body.size ≤ maxLen) (w : World) :
    Calls Try.prog 4 #[.agg (ethB a0 a1 a2 a3 a4 a5 b0 b1 b2 b3 b4 b5 t), .agg (ipV i), .agg (sgV h), .string body] w fun r w' => r = .returned (.bool true) ∧ Below w.heap.size w w' := by
  have o1 := wi.2.2.2.2.2
  have o2 := wh.2.2.2.2
  unfold maxLen at o1 o2 wb
  exact walk_all ⟨a0, a1, a2, a3, a4, a5, b0, b1, b2, b3, b4, b5, t⟩ i h body w (by omega) (by omega) (by omega)

/-! ### THE ROW's STEP -/
set_option maxRecDepth 100000 in
theorem lifted (os : Os) (started : os.Started) (H : Type) (enc : TypeId × Value → H) :
    ReturnsInHanded {} Try.checked os 4 .any (Rows.craftBackSpec.pre6 enc Try.prog Try.f4 Rows.craftBackRow.domain false) (Rows.craftBackSpec.post enc Try.prog Try.f4 false true false false) := by
  refine returnsInHanded_of_change (C := Try.checked) own started (by kernel_rfl) Try.func4
    (ChangeSpec.witness6 (enc := enc) (C := Try.checked) false ⟨#[], #[.agg #[.int .u8 0, .int .u8 0, .int .u8 0, .int .u8 0, .int .u8 0, .int .u8 0, .int .u8 0, .int .u8 0, .int .u8 0, .int .u8 0, .int .u8 0, .int .u8 0, .int .i64 0], .agg #[.int .i64 0, .int .i64 0, .bool false, .bool false, .int .i64 0, .int .i64 0, .int .i64 0, .int .u32 0, .int .u32 0, .string ByteArray.empty], .agg #[.int .i64 0, .int .i64 0, .int .u32 0, .int .u32 0, .int .i64 0, .int .i64 0, .string ByteArray.empty], .string ByteArray.empty], []⟩ 8 (by kernel_rfl) (by kernel_rfl) (by kernel_rfl) (by kernel_rfl)) ?_
  intro W base args ds gs before hval0 hW hcnd _
  have hval : ∀ (j : Nat) t v, Try.f4.params[j]? = some t → args[j]? = some v → Value.okWide Try.prog W .any base t v := hval0
  have hW' := hW
  obtain ⟨p, q, hA0, hV, rfl, hfz, hnd⟩ := hW
  have hA : DataW.TrodAll enc Try.prog W 0 (fun _ => true) true Try.f4.params.toList args.toList ds p := hA0
  have hB := fun (W' : World) (bel : Below W.heap.size W W') => below_trodAll_of laidOut bel _ (by kernel_rfl) hA
  rw [Try.params4] at hA hval
  obtain ⟨v0, vs0, d0, ds0, p0, q0, hargs, rfl, rfl, h0, r0⟩ := trodAll_cons hA
  obtain ⟨v1, vs1, d1, ds1, p1, q1, rfl, rfl, rfl, h1, r1⟩ := trodAll_cons r0
  obtain ⟨v2, vs2, d2, ds2, p2, q2, rfl, rfl, rfl, h2, r2⟩ := trodAll_cons r1
  obtain ⟨v3, vs3, d3, ds3, p3, q3, rfl, rfl, rfl, h3, r3⟩ := trodAll_cons r2
  obtain ⟨rfl, rfl, rfl⟩ := trodAll_nil r3
  obtain rfl : args = #[v0, v1, v2, v3] := by cases args; simp_all
  obtain ⟨rfl, rfl⟩ := trodVars_none hV
  obtain ⟨m0x0, m0x1, m0x2, m0x3, m0x4, m0x5, n0x0, n0x1, n0x2, n0x3, n0x4, n0x5, t0, w0, rfl⟩ := open_eth (hval 0 24 v0 rfl rfl) h0
  obtain ⟨g1, w1, rfl⟩ := open_ip (hval 1 27 v1 rfl rfl) h1
  obtain ⟨g2, w2, rfl⟩ := open_sg (hval 2 29 v2 rfl rfl) h2
  obtain ⟨a3, rfl, rfl, rfl, w3⟩ := open_string Try.underlying9 (hval 3 9 v3 rfl rfl) h3
  clear hA0 hval0
  refine (walk m0x0 m0x1 m0x2 m0x3 m0x4 m0x5 n0x0 n0x1 n0x2 n0x3 n0x4 n0x5 t0 w0 g1 w1 g2 w2 a3 w3 W).mono fun e W' ⟨he, bel⟩ => ?_
  subst he
  exact ⟨_, rfl, _, _, _, [], _, [], hW', trodAll_mk1 (shut_bool Try.underlying4 _), hB W' bel, rfl, bel.frame _, fun h => by cases h⟩

theorem over : Rows.craftBackRow.holds Try.pinned (OpenSpec.ofChange Rows.craftBackSpec) :=
  OpenClaim.holds_of_wide 4 Try.f4 rfl rfl rfl rfl rfl rfl rfl ⟨rfl, rfl, rfl, rfl, rfl⟩ rfl rfl rfl rfl rfl (by kernel_rfl) Try.func4 (by kernel_rfl)
    (of_decide_eq_true (by kernel_rfl)) (by unfold Func.isWrapper; first | (rw [if_pos (by decide +kernel)]; kernel_rfl) | (rw [if_neg (by decide +kernel)]; exact ⟨rfl, rfl⟩))
    (fun os started H enc _ => lifted os started H enc)

/-- THE STATEMENT -/
theorem proved : Rows.CraftBackSaid := over
#print axioms proved
end Go.Proofs.Ythfncbcnokkmiaa.craftBack
