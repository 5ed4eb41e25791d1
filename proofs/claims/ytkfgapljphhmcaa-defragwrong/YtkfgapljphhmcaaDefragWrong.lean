/- DefragWrong: for any two numbers, a part that may not be is refused with its error and turns nothing, one too long takes its entry with it, and what is no part is whole at once; no condition. -/
import Derived.Test.YtkfgapljphhmcaaDfw
import Derived.Test.YtkfgapljphhmcaaLift
namespace Go.Proofs.Ytkfgapljphhmcaa.defragWrong
open Go.ChangeShapes Go.WideShapes Go.ChangeAt Go.RowKit Go.Maps
set_option linter.unusedVariables false
set_option maxRecDepth 20000

def s8 : ByteArray := ⟨#[49, 50, 51, 52, 53, 54, 55, 56]⟩
def s7 : ByteArray := ⟨#[49, 50, 51, 52, 53, 54, 55]⟩
def sw : ByteArray := ⟨#[119, 104, 111, 108, 101]⟩
theorem ipN_ok (id off : Int) (more : Bool) (h : -9223372036854775808 ≤ id ∧ id ≤ 9223372036854775807) : (ipN id off more).ok := ⟨⟨by show (-9223372036854775808 : Int) ≤ 0; omega, by show (0 : Int) ≤ 9223372036854775807; omega⟩, h⟩
def T1 : Tbl := Tbl.none.put (nmL (ipN 5 0 true)) (Ent.zero.take 0 true s8)
theorem one : Tbl.none.add 3 (ipN 5 0 true) s8 = ⟨T1, ⟨#[]⟩, false, 0⟩ :=
  Tbl.add_open _ _ _ _ rfl (fault_ok (by decide) (by decide) (fun _ => by decide) (by decide) (.inr (by decide))) (by decide)
theorem cut_size (m : Nat) (h : m ≤ 6) : (s7.extract 0 (1 + m)).size = 1 + m := by
  rw [ByteArray.size_extract]
  show min (1 + m) 7 - 0 = 1 + m
  omega
theorem c0 (t : ByteArray) (m : Nat) (h : m ≤ 6) (ht : t.size = 1 + m) : T1.add 3 (ipN 5 8 true) t = ⟨T1, ⟨#[]⟩, false, 3⟩ :=
  Tbl.add_fault _ _ _ _ 3 rfl (by unfold faultC; rw [if_pos]; unfold brokenB; rw [ht]; simp [ipN]; omega) (by decide) (by decide)
theorem c1 : T1.add 3 (ipN 5 8 false) ⟨#[]⟩ = ⟨T1, ⟨#[]⟩, false, 3⟩ := Tbl.add_fault _ _ _ _ 3 rfl (by rfl) (by decide) (by decide)
theorem c2 (t : ByteArray) (m : Nat) (h : m ≤ 6) (ht : t.size = 9 + m) : T1.add 3 (ipN 5 1992 false) t = ⟨T1.del (nmL (ipN 5 0 true)), ⟨#[]⟩, false, 5⟩ :=
  Tbl.add_big _ _ _ _ rfl (by
    unfold faultC
    rw [ht, if_neg, if_pos]
    · show (2000 : Int) - 1992 < _; omega
    · unfold brokenB; simp [ipN])
theorem c3 : T1.add 3 (ipN 5 0 false) sw = ⟨T1, sw, true, 0⟩ := Tbl.add_none _ _ _ _ rfl
theorem c4 (o : Int) (ho : o < 0) : T1.add 3 (ipN 5 o true) s8 = ⟨T1, ⟨#[]⟩, false, 3⟩ :=
  Tbl.add_fault _ _ _ _ 3 rfl (by unfold faultC; rw [if_pos]; unfold brokenB; simp [ipN, ho]) (by decide) (by decide)
theorem n1 : T1.n = 1 := rfl
theorem n0 : (T1.del (nmL (ipN 5 0 true))).n = 0 := by
  unfold Tbl.del
  rw [show T1.S (nmL (ipN 5 0 true)) = some (Ent.zero.take 0 true s8) from Tbl.put_S _ _ _]
  rfl

set_option maxHeartbeats 1000000 in
theorem walk0 (how v : Int) (w : World) (m : Nat) (hm : m ≤ 6) (t : ByteArray) (et : (⟨#[49, 50, 51, 52, 53, 54, 55]⟩ : ByteArray).extract 0 (1 + m) = t) (ht : t.size = 1 + m) (hv : v % 7 = (m : Int)) (hh : how % 5 = 0) :
    Calls Try.prog 6 #[.int .i64 how, .int .i64 v] w fun e w' => e = .returned (.bool true) ∧ Below w.heap.size w w' := by
  have hn := held_new (Below.refl w.heap.size w) 3 9
  have p1 := fun w' => place_any v 7 w' (by omega) (by omega)
  have p2 := fun w' => place_any how 5 w' (by omega) (by omega)
  rw [hv] at p1
  rw [hh] at p2
  clear hv hh
  go_enter Try.func6, Try.ntmps6
  go_wp2_with fail
  refine hn.mono ?_
  rintro r w1 ⟨rfl, t1⟩
  have a1 := held_add t1 (ipN 5 0 true) (ipN_ok _ _ _ (by omega)) s8 (by decide) (by decide) _ one
  generalize w.heap.size + 1 = tb at *
  clear t1 hn
  go_wp2_with fail
  refine a1.mono ?_
  rintro r w2 ⟨rfl, t2⟩
  clear a1
  have a2 := held_add t2 (ipN 5 8 true) (ipN_ok _ _ _ (by omega)) t (by omega) (by decide) _ (c0 t m hm ht)
  have T2 := (show Hid _ from t2)
  clear t2
  go_wp2_with fail
  refine (p1 _).mono ?_
  rintro r w' ⟨rfl, rfl⟩
  go_wp2_with fail
  refine (p2 _).mono ?_
  rintro r w' ⟨rfl, rfl⟩
  clear p1 p2
  go_wp2_with fail
  rw [et]
  refine a2.mono ?_
  rintro r w3 ⟨rfl, t3⟩
  have a3 := held_len t3
  rw [n1] at a3
  have a4 := held_awake t3
  clear t3 a2 T2
  go_wp2_with fail
  refine a3.mono ?_
  rintro r w' ⟨rfl, rfl⟩
  go_wp2_with fail
  refine a4.mono ?_
  rintro r w4 ⟨rfl, hb4⟩
  go_wp2
  go_ret
  exact ⟨rfl, hb4⟩

set_option maxHeartbeats 1000000 in
theorem walk1 (how v : Int) (w : World) (m : Nat) (hm : m ≤ 6) (hv : v % 7 = (m : Int)) (hh : how % 5 = 1) :
    Calls Try.prog 6 #[.int .i64 how, .int .i64 v] w fun e w' => e = .returned (.bool true) ∧ Below w.heap.size w w' := by
  have hn := held_new (Below.refl w.heap.size w) 3 9
  have p1 := fun w' => place_any v 7 w' (by omega) (by omega)
  have p2 := fun w' => place_any how 5 w' (by omega) (by omega)
  rw [hv] at p1
  rw [hh] at p2
  clear hv hh
  go_enter Try.func6, Try.ntmps6
  go_wp2_with fail
  refine hn.mono ?_
  rintro r w1 ⟨rfl, t1⟩
  have a1 := held_add t1 (ipN 5 0 true) (ipN_ok _ _ _ (by omega)) s8 (by decide) (by decide) _ one
  generalize w.heap.size + 1 = tb at *
  clear t1 hn
  go_wp2_with fail
  refine a1.mono ?_
  rintro r w2 ⟨rfl, t2⟩
  clear a1
  have a2 := held_add t2 (ipN 5 8 false) (ipN_ok _ _ _ (by omega)) ⟨#[]⟩ (by decide) (by decide) _ c1
  have T2 := (show Hid _ from t2)
  clear t2
  go_wp2_with fail
  refine (p1 _).mono ?_
  rintro r w' ⟨rfl, rfl⟩
  go_wp2_with fail
  refine (p2 _).mono ?_
  rintro r w' ⟨rfl, rfl⟩
  clear p1 p2
  go_wp2_with fail
  skip
  refine a2.mono ?_
  rintro r w3 ⟨rfl, t3⟩
  have a3 := held_len t3
  rw [n1] at a3
  have a4 := held_awake t3
  clear t3 a2 T2
  go_wp2_with fail
  refine a3.mono ?_
  rintro r w' ⟨rfl, rfl⟩
  go_wp2_with fail
  refine a4.mono ?_
  rintro r w4 ⟨rfl, hb4⟩
  go_wp2
  go_ret
  exact ⟨rfl, hb4⟩

set_option maxHeartbeats 1000000 in
theorem walk2 (how v : Int) (w : World) (m : Nat) (hm : m ≤ 6) (t u : ByteArray) (et : (⟨#[49, 50, 51, 52, 53, 54, 55]⟩ : ByteArray).extract 0 (1 + m) = t) (eu : (⟨#[49, 50, 51, 52, 53, 54, 55, 56]⟩ : ByteArray) ++ t = u) (ht7 : (t.size : Int) ≤ 7) (ht : u.size = 9 + m) (hv : v % 7 = (m : Int)) (hh : how % 5 = 2) :
    Calls Try.prog 6 #[.int .i64 how, .int .i64 v] w fun e w' => e = .returned (.bool true) ∧ Below w.heap.size w w' := by
  have hn := held_new (Below.refl w.heap.size w) 3 9
  have p1 := fun w' => place_any v 7 w' (by omega) (by omega)
  have p2 := fun w' => place_any how 5 w' (by omega) (by omega)
  rw [hv] at p1
  rw [hh] at p2
  clear hv hh
  go_enter Try.func6, Try.ntmps6
  go_wp2_with fail
  refine hn.mono ?_
  rintro r w1 ⟨rfl, t1⟩
  have a1 := held_add t1 (ipN 5 0 true) (ipN_ok _ _ _ (by omega)) s8 (by decide) (by decide) _ one
  generalize w.heap.size + 1 = tb at *
  clear t1 hn
  go_wp2_with fail
  refine a1.mono ?_
  rintro r w2 ⟨rfl, t2⟩
  clear a1
  have a2 := held_add t2 (ipN 5 1992 false) (ipN_ok _ _ _ (by omega)) u (by omega) (by decide) _ (c2 u m hm ht)
  have T2 := (show Hid _ from t2)
  clear t2
  go_wp2_with fail
  refine (p1 _).mono ?_
  rintro r w' ⟨rfl, rfl⟩
  go_wp2_with fail
  refine (p2 _).mono ?_
  rintro r w' ⟨rfl, rfl⟩
  clear p1 p2
  go_wp2_with fail
  try simp only [eu]
  refine a2.mono ?_
  rintro r w3 ⟨rfl, t3⟩
  have a3 := held_len t3
  rw [n0] at a3
  have a4 := held_awake t3
  clear t3 a2 T2
  go_wp2_with fail
  refine a3.mono ?_
  rintro r w' ⟨rfl, rfl⟩
  go_wp2_with fail
  refine a4.mono ?_
  rintro r w4 ⟨rfl, hb4⟩
  go_wp2
  go_ret
  exact ⟨rfl, hb4⟩

set_option maxHeartbeats 1000000 in
theorem walk3 (how v : Int) (w : World) (m : Nat) (hm : m ≤ 6) (hv : v % 7 = (m : Int)) (hh : how % 5 = 3) :
    Calls Try.prog 6 #[.int .i64 how, .int .i64 v] w fun e w' => e = .returned (.bool true) ∧ Below w.heap.size w w' := by
  have hn := held_new (Below.refl w.heap.size w) 3 9
  have p1 := fun w' => place_any v 7 w' (by omega) (by omega)
  have p2 := fun w' => place_any how 5 w' (by omega) (by omega)
  rw [hv] at p1
  rw [hh] at p2
  clear hv hh
  go_enter Try.func6, Try.ntmps6
  go_wp2_with fail
  refine hn.mono ?_
  rintro r w1 ⟨rfl, t1⟩
  have a1 := held_add t1 (ipN 5 0 true) (ipN_ok _ _ _ (by omega)) s8 (by decide) (by decide) _ one
  generalize w.heap.size + 1 = tb at *
  clear t1 hn
  go_wp2_with fail
  refine a1.mono ?_
  rintro r w2 ⟨rfl, t2⟩
  clear a1
  have a2 := held_add t2 (ipN 5 0 false) (ipN_ok _ _ _ (by omega)) sw (by decide) (by decide) _ c3
  have T2 := (show Hid _ from t2)
  clear t2
  go_wp2_with fail
  refine (p1 _).mono ?_
  rintro r w' ⟨rfl, rfl⟩
  go_wp2_with fail
  refine (p2 _).mono ?_
  rintro r w' ⟨rfl, rfl⟩
  clear p1 p2
  go_wp2_with fail
  skip
  refine a2.mono ?_
  rintro r w3 ⟨rfl, t3⟩
  have a3 := held_len t3
  rw [n1] at a3
  have a4 := held_awake t3
  clear t3 a2 T2
  unfold sw
  go_wp2_with fail
  refine a3.mono ?_
  rintro r w' ⟨rfl, rfl⟩
  go_wp2_with fail
  refine a4.mono ?_
  rintro r w4 ⟨rfl, hb4⟩
  go_wp2
  go_ret
  exact ⟨rfl, hb4⟩

set_option maxHeartbeats 1000000 in
theorem walk4 (how v : Int) (w : World) (m : Nat) (hm : m ≤ 6) (hv : v % 7 = (m : Int)) (hh : how % 5 = 4) :
    Calls Try.prog 6 #[.int .i64 how, .int .i64 v] w fun e w' => e = .returned (.bool true) ∧ Below w.heap.size w w' := by
  have hn := held_new (Below.refl w.heap.size w) 3 9
  have p1 := fun w' => place_any v 7 w' (by omega) (by omega)
  have p2 := fun w' => place_any how 5 w' (by omega) (by omega)
  rw [hv] at p1
  rw [hh] at p2
  clear hv hh
  go_enter Try.func6, Try.ntmps6
  go_wp2_with fail
  refine hn.mono ?_
  rintro r w1 ⟨rfl, t1⟩
  have a1 := held_add t1 (ipN 5 0 true) (ipN_ok _ _ _ (by omega)) s8 (by decide) (by decide) _ one
  generalize w.heap.size + 1 = tb at *
  clear t1 hn
  go_wp2_with fail
  refine a1.mono ?_
  rintro r w2 ⟨rfl, t2⟩
  clear a1
  have a2 := held_add t2 (ipN 5 (-8 * (1 + (m : Int))) true) (ipN_ok _ _ _ (by omega)) s8 (by decide) (by show (-8 * (1 + (m : Int))) ≤ _; omega) _ (c4 _ (by omega))
  have T2 := (show Hid _ from t2)
  clear t2
  go_wp2_with fail
  refine (p1 _).mono ?_
  rintro r w' ⟨rfl, rfl⟩
  go_wp2_with fail
  refine (p2 _).mono ?_
  rintro r w' ⟨rfl, rfl⟩
  clear p1 p2
  go_wp2_with fail
  skip
  refine a2.mono ?_
  rintro r w3 ⟨rfl, t3⟩
  have a3 := held_len t3
  rw [n1] at a3
  have a4 := held_awake t3
  clear t3 a2 T2
  go_wp2_with fail
  refine a3.mono ?_
  rintro r w' ⟨rfl, rfl⟩
  go_wp2_with fail
  refine a4.mono ?_
  rintro r w4 ⟨rfl, hb4⟩
  go_wp2
  go_ret
  exact ⟨rfl, hb4⟩

theorem walk (how : Int) (x1 : (Lit.int .i64 how).wf = true) (v : Int) (x2 : (Lit.int .i64 v).wf = true) (w : World) :
    Calls Try.prog 6 #[.int .i64 how, .int .i64 v] w fun e w' => e = .returned (.bool true) ∧ Below w.heap.size w w' := by
  obtain ⟨m, hm⟩ : ∃ m : Nat, v % 7 = (m : Int) := ⟨(v % 7).toNat, by omega⟩
  have h6 : m ≤ 6 := by omega
  have hh : how % 5 = 0 ∨ how % 5 = 1 ∨ how % 5 = 2 ∨ how % 5 = 3 ∨ how % 5 = 4 := by omega
  rcases hh with h | h | h | h | h
  · exact walk0 how v w m h6 _ rfl (cut_size m h6) hm h
  · exact walk1 how v w m h6 hm h
  · exact walk2 how v w m h6 _ _ rfl rfl (by have := cut_size m h6; unfold s7 at this; omega) (by rw [ByteArray.size_append]; have := cut_size m h6; unfold s7 at this; rw [this]; show 8 + _ = _; omega) hm h
  · exact walk3 how v w m h6 hm h
  · exact walk4 how v w m h6 hm h
/-! ### THE ROW's STEP -/
set_option maxRecDepth 100000 in
theorem lifted (os : Os) (started : os.Started) (H : Type) (enc : TypeId × Value → H) :
    ReturnsInHanded {} Try.checked os 6 .any (Rows.defragWrongSpec.pre6 enc Try.prog Try.f6 Rows.defragWrongRow.domain false) (Rows.defragWrongSpec.post enc Try.prog Try.f6 false true false false) := by
  refine returnsInHanded_of_change (C := Try.checked) own started (by kernel_rfl) Try.func6
    (ChangeSpec.witness6 (enc := enc) (C := Try.checked) false ⟨#[], #[.int .i64 0, .int .i64 0], []⟩ 8 (by kernel_rfl) (by kernel_rfl) (by kernel_rfl) (by kernel_rfl)) ?_
  intro W base args ds gs before hval0 hW hcnd _
  have hval : ∀ (j : Nat) t v, Try.f6.params[j]? = some t → args[j]? = some v → Value.okWide Try.prog W .any base t v := hval0
  have hW' := hW
  obtain ⟨p, q, hA0, hV, rfl, hfz, hnd⟩ := hW
  have hA : DataW.TrodAll enc Try.prog W 0 (fun _ => true) true Try.f6.params.toList args.toList ds p := hA0
  have hB := fun (W' : World) (bel : Below W.heap.size W W') => below_trodAll_of laidOut bel _ (by kernel_rfl) hA
  rw [Try.params6] at hA hval
  obtain ⟨v0, vs0, d0, ds0, p0, q0, hargs, rfl, rfl, h0, r0⟩ := trodAll_cons hA
  obtain ⟨v1, vs1, d1, ds1, p1, q1, rfl, rfl, rfl, h1, r1⟩ := trodAll_cons r0
  obtain ⟨rfl, rfl, rfl⟩ := trodAll_nil r1
  obtain rfl : args = #[v0, v1] := by cases args; simp_all
  obtain ⟨rfl, rfl⟩ := trodVars_none hV
  obtain ⟨a0, rfl, rfl, rfl, w0⟩ := open_int Try.underlying3 (hval 0 3 v0 rfl rfl) h0
  obtain ⟨a1, rfl, rfl, rfl, w1⟩ := open_int Try.underlying3 (hval 1 3 v1 rfl rfl) h1
  clear hA0 hval0
  refine (walk a0 w0 a1 w1 W).mono fun e W' ⟨he, bel⟩ => ?_
  subst he
  exact ⟨_, rfl, _, _, _, [], _, [], hW', trodAll_mk1 (shut_bool Try.underlying4 _), hB W' bel, rfl, bel.frame _, fun h => by cases h⟩

theorem over : Rows.defragWrongRow.holds Try.pinned (OpenSpec.ofChange Rows.defragWrongSpec) :=
  OpenClaim.holds_of_wide 6 Try.f6 rfl rfl rfl rfl rfl rfl rfl ⟨rfl, rfl, rfl, rfl, rfl⟩ rfl rfl rfl rfl rfl (by kernel_rfl) Try.func6 (by kernel_rfl)
    (of_decide_eq_true (by kernel_rfl)) (by unfold Func.isWrapper; first | (rw [if_pos (by decide +kernel)]; kernel_rfl) | (rw [if_neg (by decide +kernel)]; exact ⟨rfl, rfl⟩))
    (fun os started H enc _ => lifted os started H enc)

/-- THE STATEMENT -/
theorem proved : Rows.DefragWrongSaid := over
#print axioms proved
end Go.Proofs.Ytkfgapljphhmcaa.defragWrong
