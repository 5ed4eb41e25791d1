/- Layer 6: what is made is got again; stage 6's example. -/
import Derived.Test.YthfncbcnokkmiaaCrs2
import Derived.Test.YthfncbcnokkmiaaIps6
import Derived.Test.YthfncbcnokkmiaaTcs4
import Derived.Test.YthfncbcnokkmiaaDgs5
namespace Go.Proofs.Ythfncbcnokkmiaa
open Go.RowKit
set_option linter.unusedVariables false
theorem crEth_get (e : Et) (p : ByteArray) (w : World) (h0 : 0 ≤ e.t) (h1 : e.t ≤ 65535) (hp : p.size ≤ 2900) :
    Calls Try.prog 23 #[.string (e.put p)] w fun r w' => r = .returned (.tuple #[.agg (etV e), .string p, .int .i64 0]) ∧ Below w.heap.size w w' := by
  have hs := etPut_size e p
  have hl : (⟨#[e.a0, e.a1, e.a2, e.a3, e.a4, e.a5, e.b0, e.b1, e.b2, e.b3, e.b4, e.b5, hiB e.t, loB e.t]⟩ : ByteArray).size = 14 := rfl
  have x0 : (e.put p).extract 0 6 = ⟨#[e.a0, e.a1, e.a2, e.a3, e.a4, e.a5]⟩ := by unfold Et.put; rw [head_ext _ _ _ _ (by rw [hl]; omega)]; rfl
  have x1 : (e.put p).extract 6 12 = ⟨#[e.b0, e.b1, e.b2, e.b3, e.b4, e.b5]⟩ := by unfold Et.put; rw [head_ext _ _ _ _ (by rw [hl]; omega)]; rfl
  have x2 : (e.put p).extract 12 14 = ⟨#[hiB e.t, loB e.t]⟩ := by unfold Et.put; rw [head_ext _ _ _ _ (by rw [hl]; omega)]; rfl
  have x3 : (e.put p).extract 14 (e.put p).size = p := by unfold Et.put; exact tail_ext ⟨#[e.a0, e.a1, e.a2, e.a3, e.a4, e.a5, e.b0, e.b1, e.b2, e.b3, e.b4, e.b5, hiB e.t, loB e.t]⟩ p
  have g := get_ok (e.put p) w (by omega) (by omega) _ _ _ _ _ _ _ _ _ _ _ _ _ _ x0 x1 x2
  have hv := hilo e.t
  rw [Int.emod_eq_of_lt h0 (by omega)] at hv
  rw [hv, x3] at g
  exact g
theorem data_ok (e : Et) (i : Ip) (body : ByteArray) (hm : i.May) (hb : body.size ≤ 2000) : Data e i body (e.put (i.put body)) := ⟨_, _, .inl ⟨hm, hb, rfl, rfl⟩, by rw [if_pos rfl]⟩
theorem segm_ok (e : Et) (i : Ip) (h : Sg) (body : ByteArray) (hm : i.May) (hs : h.May) (hb : 20 + h.opts.size + body.size ≤ 2000) : Segm e i h body (e.put (i.put (h.put i.src i.dst body))) :=
  ⟨_, _, _, .inl ⟨hs, hb, rfl, rfl⟩, data_ok e i _ hm (by rw [sgPut_size]; exact hb), by rw [if_pos rfl]⟩
/-- the example -/
def sg06 : Sg := ⟨5, 80, 0, 0, 0, 0, ⟨#[]⟩⟩
theorem ipBack_may (i : Ip) (h : i.May) : i.back.May := by
  obtain ⟨a, b, c, d, e, f, g, k⟩ := h
  exact ⟨a, ⟨(show (0 : Int) ≤ 64 from by decide), (show (64 : Int) ≤ 255 from by decide)⟩, c, ⟨(show (0 : Int) ≤ 0 from by decide), (show (0 : Int) ≤ 65535 from by decide)⟩, ⟨(show (0 : Int) ≤ 0 from by decide), (show (0 : Int) ≤ 65528 from by decide)⟩, (show (0 : Int) % 8 = 0 from by decide), (show (0 : Nat) ≤ 40 from by decide), (show (0 : Nat) % 4 = 0 from by decide)⟩
theorem ipOn_may (i : Ip) (h : i.May) : i.on.May := by
  obtain ⟨a, b, c, d, e, f, g, k⟩ := h
  exact ⟨a, b, c, d, ⟨(show (0 : Int) ≤ 0 from by decide), (show (0 : Int) ≤ 65528 from by decide)⟩, (show (0 : Int) % 8 = 0 from by decide), (show (0 : Nat) ≤ 40 from by decide), (show (0 : Nat) % 4 = 0 from by decide)⟩
theorem ip0_may (p : Int) (h : 0 ≤ p ∧ p ≤ 255) : (ip0 p).May := ⟨⟨(show (0 : Int) ≤ 0 from by decide), (show (0 : Int) ≤ 255 from by decide)⟩, ⟨(show (0 : Int) ≤ 64 from by decide), (show (64 : Int) ≤ 255 from by decide)⟩, h, ⟨(show (0 : Int) ≤ 0 from by decide), (show (0 : Int) ≤ 65535 from by decide)⟩, ⟨(show (0 : Int) ≤ 0 from by decide), (show (0 : Int) ≤ 65528 from by decide)⟩, (show (0 : Int) % 8 = 0 from by decide), (show (0 : Nat) ≤ 40 from by decide), (show (0 : Nat) % 4 = 0 from by decide)⟩
theorem sg06_may : (sg06.reset true 7 9).May := ⟨⟨by decide, by decide⟩, ⟨by decide, by decide⟩, ⟨by decide, by decide⟩, ⟨by decide, by decide⟩, by decide, by decide⟩
set_option maxRecDepth 100000 in
set_option maxHeartbeats 1000000 in
theorem crAwake_walk (w : World) (D p q : ByteArray)
    (cr : ∀ w : World, Calls Try.prog 17 #[.agg (etV et0), .agg (ipV (ip0 6)), .agg #[.int .i64 5, .int .i64 80, .int .u32 0, .int .u32 0, .int .i64 0, .int .i64 0, .string ⟨#[]⟩], .int .u32 7, .int .u32 9, .bool true] w fun r w' => r = .returned (.string D) ∧ Below w.heap.size w w')
    (ce : ∀ w : World, Calls Try.prog 23 #[.string D] w fun r w' => r = .returned (.tuple #[.agg (etV et0.back), .string p, .int .i64 0]) ∧ Below w.heap.size w w')
    (ci : ∀ w : World, Calls Try.prog 24 #[.string p] w fun r w' => r = .returned (.tuple #[.agg #[.int .i64 0, .int .i64 0, .bool false, .bool false, .int .i64 0, .int .i64 64, .int .i64 6, .int .u32 167772162, .int .u32 167772161, .string ⟨#[]⟩], .string q, .int .i64 0]) ∧ Below w.heap.size w w')
    (ct : ∀ w : World, Calls Try.prog 25 #[.int .u32 167772162, .int .u32 167772161, .string q] w fun r w' => r = .returned (.tuple #[.agg #[.int .i64 80, .int .i64 5, .int .u32 7, .int .u32 9, .int .i64 20, .int .i64 0, .string ⟨#[]⟩], .string ⟨#[]⟩, .int .i64 0]) ∧ Below w.heap.size w w') :
    Calls Try.prog 8 #[] w fun r w' => r = .returned (.bool true) ∧ Below w.heap.size w w' := by
  have c0 := fun w => lawEth_0 w
  have c1 := fun w => lawIP_0 6 w
  generalize et0 = e0 at *
  generalize ip0 6 = i0 at *
  generalize e0.back = eb at *
  go_enter Try.func8, Try.ntmps8
  go_wp2_with fail
  refine (c0 _).mono ?_
  rintro r w1 ⟨rfl, hb1⟩
  have B1 := (show Hid _ from hb1)
  clear hb1 c0
  go_wp2_with fail
  refine (c1 _).mono ?_
  rintro r w2 ⟨rfl, hb2⟩
  have B2 := (show Hid _ from below_after B1.out hb2)
  clear hb2 B1 c1
  go_wp2_with fail
  refine (cr _).mono ?_
  rintro r w3 ⟨rfl, hb3⟩
  have B3 := (show Hid _ from below_after B2.out hb3)
  clear hb3 B2 cr
  go_wp2_with fail
  refine (ce _).mono ?_
  rintro r w4 ⟨rfl, hb4⟩
  have B4 := (show Hid _ from below_after (below_after B3.out hb4) (below1 w4 (.cells (etV eb) 24)))
  clear hb4 B3 ce
  go_wp2_with fail
  refine (ci _).mono ?_
  rintro r w5 ⟨rfl, hb5⟩
  have B5 := (show Hid _ from below_after (below_after B4.out hb5) (below1 w5 (.cells #[.int .i64 0, .int .i64 0, .bool false, .bool false, .int .i64 0, .int .i64 64, .int .i64 6, .int .u32 167772162, .int .u32 167772161, .string ⟨#[]⟩] 27)))
  have N5 := (show Hid _ from new_alloc w5 (.cells #[.int .i64 0, .int .i64 0, .bool false, .bool false, .int .i64 0, .int .i64 64, .int .i64 6, .int .u32 167772162, .int .u32 167772161, .string ⟨#[]⟩] 27))
  clear hb5 B4 ci
  go_wp2_with fail
  refine (ct _).mono ?_
  rintro r w6 ⟨rfl, hb6⟩
  have n6 := below_call N5.out (size_alloc1 _ _) hb6
  obtain ⟨q6, _, z6⟩ := new_in n6
  have B6 := (show Hid _ from below_after (below_after B5.out hb6) (below1 w6 (.cells #[.int .i64 80, .int .i64 5, .int .u32 7, .int .u32 9, .int .i64 20, .int .i64 0, .string ⟨#[]⟩] 29)))
  clear hb6 n6 N5 B5 ct
  go_wp2_with fail
  go_ret
  exact ⟨rfl, B6.out⟩
theorem crAwake_any (w : World) : Calls Try.prog 8 #[] w fun r w' => r = .returned (.bool true) ∧ Below w.heap.size w w' := by
  have hi := ipBack_may _ (ip0_may 6 (by omega))
  have hx : Rese et0 (ip0 6) sg06 7 9 true _ := segm_ok et0.back (ip0 6).back (sg06.reset true 7 9) ⟨#[]⟩ hi sg06_may (by decide)
  have a := fun w => crRese hx w
  have b := fun w => crEth_get et0.back ((ip0 6).back.put ((sg06.reset true 7 9).put (ip0 6).back.src (ip0 6).back.dst ⟨#[]⟩)) w (by decide) (by decide) (by rw [put_size, sgPut_size]; decide)
  have c := fun w => back_self (ip0 6).back ((sg06.reset true 7 9).put (ip0 6).back.src (ip0 6).back.dst ⟨#[]⟩) w hi (by rw [sgPut_size]; decide)
  have d := fun w => tcGet_put (sg06.reset true 7 9) (ip0 6).back.src (ip0 6).back.dst ⟨#[]⟩ w sg06_may (by decide)
  exact crAwake_walk w _ _ _ a b c d
end Go.Proofs.Ythfncbcnokkmiaa
