/- SumAdds: for any three numbers, taken as ones below 65536, the sum of the net does not hang on the order or on the brackets, 0 turns nothing, it stays below 65536, and bytes give their number back; no condition. -/
import Derived.Test.YtlphmpmfolngnaaAwake
import Derived.WalkKit
import Derived.ProofKit
import Derived.OpenShut
import Derived.ShutString
namespace Go.Proofs.Ytlphmpmfolngnaa.sumAdds
open Go.ChangeShapes Go.WideShapes Go.ChangeAt Go.RowKit
open Go.ChangeMaps (open_string shut_string)
set_option linter.unusedVariables false      -- a walk need not use every 'w<i>' (that an integer argument fits its kind)

theorem own : ownKnob Try.prog.godebug = none := by kernel_rfl

theorem add_small (x y : Int) (w : World) (hx0 : 0 ≤ x) (hx1 : x ≤ 65535) (hy0 : 0 ≤ y) (hy1 : y ≤ 65535) :
    Calls Try.prog 11 #[.int .i64 x, .int .i64 y] w fun e w' => e = .returned (.int .i64 (Pl.fld (x + y))) ∧ w = w' := by
  have h := add_any x y w
  rw [Int.emod_eq_of_lt hx0 (by omega), Int.emod_eq_of_lt hy0 (by omega)] at h
  exact h
theorem num_big (x : Int) (K : Nat) (hK : K = 2 ∨ K = 7) (w : World) (hx0 : 0 ≤ x) (hx1 : x ≤ 65535) :
    Calls Try.prog 15 #[.string ⟨(Pl.bigL x K).toArray⟩] w fun e w' => e = .returned (.int .i64 x) ∧ w = w' := by
  have h := num_any ⟨(Pl.bigL x K).toArray⟩ w (by show (Pl.bigL x K).toArray.size ≤ _; simp [Pl.bigL_length]; omega)
  have e : Pl.numL (Pl.last7 (⟨(Pl.bigL x K).toArray⟩ : ByteArray).data.toList) = x := by
    show Pl.numL (Pl.last7 (Pl.bigL x K)) = x
    have hl : Pl.last7 (Pl.bigL x K) = Pl.bigL x K := by unfold Pl.last7; rw [Pl.bigL_length, show K - 7 = 0 from by omega]; rfl
    rw [hl, Pl.numL_bigL]
    rcases hK with rfl | rfl <;> omega
  rw [e] at h
  exact h

set_option maxHeartbeats 1000000 in
theorem walk (a0 : Int) (a1 : Int) (a2 : Int) (w : World) :
    Calls Try.prog 5 #[.int .i64 a0, .int .i64 a1, .int .i64 a2] w fun e w' => e = .returned (.bool true) ∧ Below w.heap.size w w' := by
  go_enter Try.func5, Try.ntmps5
  go_wp2_with fail
  refine (place_any _ _ _ (by decide) (by decide)).mono ?_
  rintro e w' ⟨rfl, rfl⟩
  have hx0 : 0 ≤ a0 % 65536 ∧ a0 % 65536 ≤ 65535 := by omega
  generalize a0 % 65536 = x at hx0 ⊢
  go_wp2_with fail
  refine (place_any _ _ _ (by decide) (by decide)).mono ?_
  rintro e w' ⟨rfl, rfl⟩
  have hy0 : 0 ≤ a1 % 65536 ∧ a1 % 65536 ≤ 65535 := by omega
  generalize a1 % 65536 = y at hy0 ⊢
  go_wp2_with fail
  refine (place_any _ _ _ (by decide) (by decide)).mono ?_
  rintro e w' ⟨rfl, rfl⟩
  have hz0 : 0 ≤ a2 % 65536 ∧ a2 % 65536 ≤ 65535 := by omega
  generalize a2 % 65536 = z at hz0 ⊢
  obtain ⟨hx0, hx1⟩ := hx0
  obtain ⟨hy0, hy1⟩ := hy0
  obtain ⟨hz0, hz1⟩ := hz0
  have e1 : Pl.fld (y + x) = Pl.fld (x + y) := by rw [Int.add_comm]
  have hs := Pl.fld_bd (x + y) (by omega)
  have hu := Pl.fld_bd (y + z) (by omega)
  have e2 : Pl.fld (x + Pl.fld (y + z)) = Pl.fld (Pl.fld (x + y) + z) := by
    rw [Pl.fld_add' x _ hx0 (by omega), Pl.fld_add _ z (by omega) hz0, Int.add_assoc]
  have e3 : Pl.fld (x + 0) = x := by rw [Int.add_zero]; exact Pl.fld_small x hx0 hx1
  have e4 := Pl.fld_all x hx0 hx1
  obtain ⟨hs0, hs1⟩ := hs
  obtain ⟨hu0, hu1⟩ := hu
  have E1 : Hid (Pl.fld (y + x) = Pl.fld (x + y)) := e1
  have E2 : Hid (Pl.fld (x + Pl.fld (y + z)) = Pl.fld (Pl.fld (x + y) + z)) := e2
  have E3 : Hid (Pl.fld (x + 0) = x) := e3
  have E4 : Hid (Pl.fld (x + (65535 - x)) = 65535) := e4
  clear e1 e2 e3 e4
  go_wp2_with fail
  refine (add_small _ _ _ hx0 hx1 hy0 hy1).mono ?_
  rintro e w' ⟨rfl, rfl⟩
  go_wp2_with fail
  refine (add_small _ _ _ hy0 hy1 hx0 hx1).mono ?_
  rintro e w' ⟨rfl, rfl⟩
  rw [E1.out]
  go_wp2_with fail
  refine (add_small _ _ _ hs0 hs1 hz0 hz1).mono ?_
  rintro e w' ⟨rfl, rfl⟩
  go_wp2_with fail
  refine (add_small _ _ _ hy0 hy1 hz0 hz1).mono ?_
  rintro e w' ⟨rfl, rfl⟩
  go_wp2_with fail
  refine (add_small _ _ _ hx0 hx1 hu0 hu1).mono ?_
  rintro e w' ⟨rfl, rfl⟩
  rw [E2.out]
  go_wp2_with fail
  refine (add_small _ _ _ hx0 hx1 (by decide) (by decide)).mono ?_
  rintro e w' ⟨rfl, rfl⟩
  rw [E3.out]
  go_wp2_with fail
  refine (add_small _ _ _ hx0 hx1 (by omega) (by omega)).mono ?_
  rintro e w' ⟨rfl, rfl⟩
  rw [E4.out]
  go_wp2_with fail
  refine (big_any _ _ _).mono ?_
  rintro e w1 ⟨rfl, hb1⟩
  have HB1 : Hid (Below w.heap.size w w1) := hb1
  clear hb1
  go_wp2_with fail
  refine (num_big _ 2 (.inl rfl) _ hx0 hx1).mono ?_
  rintro e w' ⟨rfl, rfl⟩
  go_wp2_with fail
  refine (big_any _ _ _).mono ?_
  rintro e w2 ⟨rfl, hb2⟩
  have HB2 : Hid (Below w1.heap.size w1 w2) := hb2
  clear hb2
  go_wp2_with fail
  refine (num_big _ 7 (.inr rfl) _ hx0 hx1).mono ?_
  rintro e w' ⟨rfl, rfl⟩
  go_wp2_with fail
  refine (awake_any _).mono ?_
  rintro e w3 ⟨rfl, hb3⟩
  have HB3 : Hid (Below w2.heap.size w2 w3) := hb3
  clear hb3
  go_wp2_with fail
  go_ret
  exact ⟨rfl, HB1.out.trans ((HB2.out.mono HB1.out.size).trans (HB3.out.mono (Nat.le_trans HB1.out.size HB2.out.size)))⟩

/-! ### THE ROW's STEP: WRITTEN OUT: LEAVE IT -/
set_option maxRecDepth 100000 in
theorem lifted (os : Os) (started : os.Started) (H : Type) (enc : TypeId × Value → H) :
    ReturnsInHanded {} Try.checked os 5 .any (Rows.sumAddsSpec.pre6 enc Try.prog Try.f5 Rows.sumAddsRow.domain false) (Rows.sumAddsSpec.post enc Try.prog Try.f5 false true false false) := by
  refine returnsInHanded_of_change (C := Try.checked) own started (by kernel_rfl) Try.func5
    (ChangeSpec.witness6 (enc := enc) (C := Try.checked) false ⟨#[], #[.int .i64 0, .int .i64 0, .int .i64 0], []⟩ 8 (by kernel_rfl) (by kernel_rfl) (by kernel_rfl) (by kernel_rfl)) ?_
  intro W base args ds gs before hval0 hW hcnd _
  have hval : ∀ (j : Nat) t v, Try.f5.params[j]? = some t → args[j]? = some v → Value.okWide Try.prog W .any base t v := hval0
  have hW' := hW
  obtain ⟨p, q, hA0, hV, rfl, hfz, hnd⟩ := hW
  have hA : DataW.TrodAll enc Try.prog W 0 (fun _ => true) true Try.f5.params.toList args.toList ds p := hA0
  rw [Try.params5] at hA hval
  obtain ⟨v0, vs0, d0, ds0, p0, q0, hargs, rfl, rfl, h0, r0⟩ := trodAll_cons hA
  obtain ⟨v1, vs1, d1, ds1, p1, q1, rfl, rfl, rfl, h1, r1⟩ := trodAll_cons r0
  obtain ⟨v2, vs2, d2, ds2, p2, q2, rfl, rfl, rfl, h2, r2⟩ := trodAll_cons r1
  obtain ⟨rfl, rfl, rfl⟩ := trodAll_nil r2
  obtain rfl : args = #[v0, v1, v2] := by cases args; simp_all
  obtain ⟨rfl, rfl⟩ := trodVars_none hV
  obtain ⟨a0, rfl, rfl, rfl, w0⟩ := open_int Try.underlying3 (hval 0 3 v0 rfl rfl) h0
  obtain ⟨a1, rfl, rfl, rfl, w1⟩ := open_int Try.underlying3 (hval 1 3 v1 rfl rfl) h1
  obtain ⟨a2, rfl, rfl, rfl, w2⟩ := open_int Try.underlying3 (hval 2 3 v2 rfl rfl) h2
  clear hA0 hval0
  simp only [List.append_nil] at hW'
  refine (walk a0 a1 a2 W).mono fun e W' ⟨he, bel⟩ => ?_
  subst he
  exact ⟨_, rfl, _, _, _, [], [], [], hW', trodAll_mk1 (shut_bool Try.underlying4 _), (trodAll_cons_mk (shut_int Try.underlying3 w0) (trodAll_cons_mk (shut_int Try.underlying3 w1) (trodAll_cons_mk (shut_int Try.underlying3 w2) trodAll_mk0))), rfl, bel.frame _, fun h => by cases h⟩

theorem over : Rows.sumAddsRow.holds Try.pinned (OpenSpec.ofChange Rows.sumAddsSpec) :=
  OpenClaim.holds_of_wide 5 Try.f5 rfl rfl rfl rfl rfl rfl rfl ⟨rfl, rfl, rfl, rfl, rfl⟩ rfl rfl rfl rfl rfl (by kernel_rfl) Try.func5 (by kernel_rfl)
    (of_decide_eq_true (by kernel_rfl)) (by unfold Func.isWrapper; first | (rw [if_pos (by decide +kernel)]; kernel_rfl) | (rw [if_neg (by decide +kernel)]; exact ⟨rfl, rfl⟩))
    (fun os started H enc _ => lifted os started H enc)

/-- ████ THE STATEMENT ████ -/
theorem proved : Rows.SumAddsSaid :=
  over
#print axioms proved
end Go.Proofs.Ytlphmpmfolngnaa.sumAdds
