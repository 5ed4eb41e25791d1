/- Contracts of the document's own layer 6, each over those of what it calls. -/
import Derived.Test.YthfncbcnokkmiaaCrPl
import Derived.Handy
namespace Go.Proofs.Ythfncbcnokkmiaa
open Go.RowKit
set_option linter.unusedVariables false
theorem rcEth_put (e : Et) (body : ByteArray) (w : World) (hbs : body.size ≤ 1000000) :
    Calls Try.prog 37 #[.agg (etV e), .string body] w fun r w' => r = .returned (.string (e.put body)) ∧ Below w.heap.size w w' := refPut_any _ _ _ _ _ _ _ _ _ _ _ _ _ _ w hbs
theorem crEth_put (e : Et) (body : ByteArray) (w : World) (hbs : body.size ≤ 1000000) :
    Calls Try.prog 57 #[.agg (etV e), .string body] w fun r w' => r = .returned (.string (e.put body)) ∧ Below w.heap.size w w' := put_any _ _ _ _ _ _ _ _ _ _ _ _ _ _ w hbs
set_option maxHeartbeats 1000000 in
theorem rcData_of (e : Et) (i : Ip) (body p : ByteArray) (c : Int) (w : World) (hs : p.size ≤ 1000000)
    (hp : ∀ w : World, Calls Try.prog 36 #[.agg (ipV i), .string body] w fun r w' => r = .returned (.tuple #[.string p, .int .i64 c]) ∧ Below w.heap.size w w') :
    Calls Try.prog 14 #[.agg (etV e), .agg (ipV i), .string body] w fun r w' => r = .returned (.string (if c = 0 then e.put p else ⟨#[]⟩)) ∧ Below w.heap.size w w' := by
  have he := fun w => rcEth_put e p w hs
  by_cases hc : c = 0
  · rw [if_pos hc]
    have hb : (c != 0) = false := by simpa using hc
    clear hc
    go_enter Try.func14, Try.ntmps14
    go_wp2_with fail
    refine (hp _).mono ?_
    rintro r w1 ⟨rfl, hb1⟩
    have n1 := below_call (below_more (new_alloc w (.cells (etV e) 24)) (size_alloc1 _ _) (.cells (ipV i) 27)) (size_alloc1 _ _) hb1
    obtain ⟨q1, _, z1⟩ := new_in n1
    have B1 := (show Hid _ from below_after (below2 _ _ _) hb1)
    clear hb1 n1 hp
    go_wp2_with fail
    refine (he _).mono ?_
    rintro r w2 ⟨rfl, hb2⟩
    have B2 := (show Hid _ from below_after B1.out hb2)
    clear hb2 B1 q1 z1 he
    go_wp2_with fail
    go_ret
    exact ⟨rfl, B2.out⟩
  · rw [if_neg hc]
    have hb : (c != 0) = true := by simpa using hc
    clear hc
    go_enter Try.func14, Try.ntmps14
    go_wp2_with fail
    refine (hp _).mono ?_
    rintro r w1 ⟨rfl, hb1⟩
    have B1 := (show Hid _ from below_after (below2 _ _ _) hb1)
    clear hb1 hp
    go_wp2_with fail
    go_ret
    exact ⟨rfl, B1.out⟩
theorem below3 (w : World) (A B C : Obj) : Below w.heap.size w (((w.alloc A).alloc B).alloc C) := (below2 w A B).alloc (by simp; omega) _
set_option maxHeartbeats 1000000 in
theorem rcSeg_of (e : Et) (i : Ip) (h : Sg) (body p D : ByteArray) (c : Int) (w : World)
    (hp : ∀ w : World, Calls Try.prog 39 #[.int .u32 (i.src.toNat : Int), .int .u32 (i.dst.toNat : Int), .agg (sgV h), .string body] w fun r w' => r = .returned (.tuple #[.string p, .int .i64 c]) ∧ Below w.heap.size w w')
    (hd : ∀ w : World, Calls Try.prog 14 #[.agg (etV e), .agg (ipV i), .string p] w fun r w' => r = .returned (.string D) ∧ Below w.heap.size w w') :
    Calls Try.prog 16 #[.agg (etV e), .agg (ipV i), .agg (sgV h), .string body] w fun r w' => r = .returned (.string (if c = 0 then D else ⟨#[]⟩)) ∧ Below w.heap.size w w' := by
  by_cases hc : c = 0
  · rw [if_pos hc]
    have hb : (c != 0) = false := by simpa using hc
    clear hc
    go_enter Try.func16, Try.ntmps16
    go_wp2_with fail
    refine (hp _).mono ?_
    rintro r w1 ⟨rfl, hb1⟩
    have n1 := below_call (below_more (below_more (new_alloc w (.cells (etV e) 24)) (size_alloc1 _ _) (.cells (ipV i) 27)) (size_alloc1 _ _) (.cells (sgV h) 29)) (size_alloc1 _ _) hb1
    have m1 := below_call (below_more (new_alloc (w.alloc (.cells (etV e) 24)) (.cells (ipV i) 27)) (size_alloc1 _ _) (.cells (sgV h) 29)) (size_alloc1 _ _) hb1
    obtain ⟨q1, _, z1⟩ := new_in n1
    obtain ⟨r1, _, y1⟩ := new_in m1
    simp only [World.size_alloc] at r1 y1
    have B1 := (show Hid _ from below_after (below3 _ _ _ _) hb1)
    clear hb1 n1 m1 hp
    go_wp2_with fail
    refine (hd _).mono ?_
    rintro r w2 ⟨rfl, hb2⟩
    have B2 := (show Hid _ from below_after B1.out hb2)
    clear hb2 B1 q1 z1 r1 y1 hd
    go_wp2_with fail
    go_ret
    exact ⟨rfl, B2.out⟩
  · rw [if_neg hc]
    have hb : (c != 0) = true := by simpa using hc
    clear hc hd
    go_enter Try.func16, Try.ntmps16
    go_wp2_with fail
    refine (hp _).mono ?_
    rintro r w1 ⟨rfl, hb1⟩
    have B1 := (show Hid _ from below_after (below3 _ _ _ _) hb1)
    clear hb1 hp
    go_wp2_with fail
    go_ret
    exact ⟨rfl, B1.out⟩
end Go.Proofs.Ythfncbcnokkmiaa
