/- EthAll: for any bytes, any head and any body of at most 4000 bytes each, Get and Put answer as the document's own; for longer ones the document's example holds; no condition. -/
import Derived.Test.YtajkcdcnihjfkaaAwake
import Derived.Test.YtajkcdcnihjfkaaLift
namespace Go.Proofs.Ytajkcdcnihjfkaa.ethAll
open Go.ChangeShapes Go.WideShapes Go.ChangeAt Go.RowKit
open Go.ChangeMaps (open_string shut_string)
set_option linter.unusedVariables false

theorem both_get (s : ByteArray) (hs : s.size ≤ 4000) : ∃ (a0 a1 a2 a3 a4 a5 b0 b1 b2 b3 b4 b5 : UInt8) (t : Int) (x : ByteArray) (n : Int),
    (∀ w : World, Calls Try.prog 8 #[.string s] w fun e w' => e = .returned (.tuple #[.agg (ethB a0 a1 a2 a3 a4 a5 b0 b1 b2 b3 b4 b5 t), .string x, .int .i64 n]) ∧ Below w.heap.size w w') ∧
    (∀ w : World, Calls Try.prog 9 #[.string s] w fun e w' => e = .returned (.tuple #[.agg (ethB a0 a1 a2 a3 a4 a5 b0 b1 b2 b3 b4 b5 t), .string x, .int .i64 n]) ∧ Below w.heap.size w w') := by
  by_cases h1 : s.size < 14
  · exact ⟨0, 0, 0, 0, 0, 0, 0, 0, 0, 0, 0, 0, 0, _, _, fun w => get_short s w h1, fun w => refGet_short s w h1⟩
  · by_cases h2 : 3000 < s.size
    · exact ⟨0, 0, 0, 0, 0, 0, 0, 0, 0, 0, 0, 0, 0, _, _, fun w => get_big s w h2 (by omega), fun w => refGet_big s w h2 (by omega)⟩
    · obtain ⟨a0, a1, a2, a3, a4, a5, b0, b1, b2, b3, b4, b5, c0, c1, ha, hb, hc, e, f, _⟩ := twelve s (by omega)
      exact ⟨a0, a1, a2, a3, a4, a5, b0, b1, b2, b3, b4, b5, _, _, _, fun w => get_ok s w (by omega) (by omega) a0 a1 a2 a3 a4 a5 b0 b1 b2 b3 b4 b5 c0 c1 ha hb hc, fun w => refGet_any s w (by omega) (by omega) a0 a1 a2 a3 a4 a5 b0 b1 b2 b3 b4 b5 c0 c1 ha hb hc e f⟩

set_option maxHeartbeats 400000 in
theorem walk_long (s : ByteArray) (x0 x1 x2 x3 x4 x5 y0 y1 y2 y3 y4 y5 : UInt8) (t : Int) (body : ByteArray) (w : World) (w0 : s.size ≤ 9223372036854775807) (w2 : body.size ≤ 9223372036854775807) (h : 4000 < s.size ∨ s.size ≤ 4000 ∧ 4000 < body.size) :
    Calls Try.prog 3 #[.string s, .agg (ethB x0 x1 x2 x3 x4 x5 y0 y1 y2 y3 y4 y5 t), .string body] w fun e w' => e = .returned (.bool true) ∧ Below w.heap.size w w' := by
  rcases h with h | ⟨h1, h⟩
  all_goals
    go_enter Try.func3, Try.ntmps3
    go_wp2_with fail
    refine (awake_any _).mono ?_
    rintro e w1 ⟨rfl, hb1⟩
    go_wp2_with fail
    go_ret
    exact ⟨rfl, below_after (below1 _ _) hb1⟩

set_option maxHeartbeats 2000000 in
theorem walk_short (s : ByteArray) (x0 x1 x2 x3 x4 x5 y0 y1 y2 y3 y4 y5 : UInt8) (t : Int) (body : ByteArray) (w : World) (h1 : s.size ≤ 4000) (h2 : body.size ≤ 4000) :
    Calls Try.prog 3 #[.string s, .agg (ethB x0 x1 x2 x3 x4 x5 y0 y1 y2 y3 y4 y5 t), .string body] w fun e w' => e = .returned (.bool true) ∧ Below w.heap.size w w' := by
  obtain ⟨a0, a1, a2, a3, a4, a5, b0, b1, b2, b3, b4, b5, u, x, n, hg, hr⟩ := both_get s h1
  go_enter Try.func3, Try.ntmps3
  go_wp2_with fail
  refine (hg _).mono ?_
  rintro e w1 ⟨rfl, hb1⟩
  have HB1 := (show Hid (Below _ _ w1) from hb1)
  clear hb1
  go_wp2_with fail
  refine (hr _).mono ?_
  rintro e w2 ⟨rfl, hb2⟩
  have HB2 := (show Hid (Below _ _ w2) from hb2)
  clear hb2
  go_wp2_with fail
  have n1 := below_more (below_call (below_more (below_call (new_alloc w _) (size_alloc1 _ _) HB1.out) (size_alloc1 _ _) _) (size_alloc1 _ _) HB2.out) (size_alloc1 _ _) (.cells (ethB a0 a1 a2 a3 a4 a5 b0 b1 b2 b3 b4 b5 u) 24)
  have n2 := below_more (below_call (new_alloc w1 _) (size_alloc1 _ _) HB2.out) (size_alloc1 _ _) (.cells (ethB a0 a1 a2 a3 a4 a5 b0 b1 b2 b3 b4 b5 u) 24)
  have q1 := cls_new n1
  have q2 := cls_new n2
  have q3 := cls_new (new_alloc w2 (.cells (ethB a0 a1 a2 a3 a4 a5 b0 b1 b2 b3 b4 b5 u) 24))
  have HN := (show Hid (Below _ _ _) from n1)
  clear n1 n2 HB1 HB2
  generalize w2.alloc (.cells (ethB a0 a1 a2 a3 a4 a5 b0 b1 b2 b3 b4 b5 u) 24) = W at q1 q2 q3 HN ⊢
  refine wp_region_calm (by kernel_rfl) (by kernel_rfl) (fun hne => ?_)
  repeat (go_big_quiet_step (first | (go_at_call 10; exact calm_of (same_yes _ _ _ _ _ _ _ _ _ _ _ _ _ _)) | (go_at_call 11; exact calm_of (put_any _ _ _ _ _ _ _ _ _ _ _ _ _ _ _ (by omega))) | (go_at_call 12; exact calm_of (refPut_any _ _ _ _ _ _ _ _ _ _ _ _ _ _ _ (by omega))) | (go_at_call 7; exact calm_of (awake_any _))))
  refine wpQuiet_nil ?_
  rintro _ ⟨z, rfl⟩
  go_wp2
  go_ret
  exact ⟨rfl, below_after ((below1 _ _).trans (HN.out.mono (by omega))) z.bel⟩

theorem walk (s : ByteArray) (w0 : s.size ≤ maxLen) (x0 x1 x2 x3 x4 x5 y0 y1 y2 y3 y4 y5 : UInt8) (t : Int) (_ : (Lit.int .i64 t).wf = true) (body : ByteArray) (w2 : body.size ≤ maxLen) (w : World) :
    Calls Try.prog 3 #[.string s, .agg (ethB x0 x1 x2 x3 x4 x5 y0 y1 y2 y3 y4 y5 t), .string body] w fun e w' => e = .returned (.bool true) ∧ Below w.heap.size w w' := by
  unfold maxLen at w0 w2
  by_cases h1 : s.size ≤ 4000
  · by_cases h2 : body.size ≤ 4000
    · exact walk_short s x0 x1 x2 x3 x4 x5 y0 y1 y2 y3 y4 y5 t body w h1 h2
    · exact walk_long s x0 x1 x2 x3 x4 x5 y0 y1 y2 y3 y4 y5 t body w (by omega) (by omega) (.inr ⟨h1, by omega⟩)
  · exact walk_long s x0 x1 x2 x3 x4 x5 y0 y1 y2 y3 y4 y5 t body w (by omega) (by omega) (.inl (by omega))

/-! ### THE ROW's STEP -/
set_option maxRecDepth 100000 in
theorem lifted (os : Os) (started : os.Started) (H : Type) (enc : TypeId × Value → H) :
    ReturnsInHanded {} Try.checked os 3 .any (Rows.ethAllSpec.pre6 enc Try.prog Try.f3 Rows.ethAllRow.domain false) (Rows.ethAllSpec.post enc Try.prog Try.f3 false true false false) := by
  refine returnsInHanded_of_change (C := Try.checked) own started (by kernel_rfl) Try.func3
    (ChangeSpec.witness6 (enc := enc) (C := Try.checked) false ⟨#[], #[.string ByteArray.empty, .agg #[.int .u8 0, .int .u8 0, .int .u8 0, .int .u8 0, .int .u8 0, .int .u8 0, .int .u8 0, .int .u8 0, .int .u8 0, .int .u8 0, .int .u8 0, .int .u8 0, .int .i64 0], .string ByteArray.empty], []⟩ 8 (by kernel_rfl) (by kernel_rfl) (by kernel_rfl) (by kernel_rfl)) ?_
  intro W base args ds gs before hval0 hW hcnd _
  have hval : ∀ (j : Nat) t v, Try.f3.params[j]? = some t → args[j]? = some v → Value.okWide Try.prog W .any base t v := hval0
  have hW' := hW
  obtain ⟨p, q, hA0, hV, rfl, hfz, hnd⟩ := hW
  have hA : DataW.TrodAll enc Try.prog W 0 (fun _ => true) true Try.f3.params.toList args.toList ds p := hA0
  have hB := fun (W' : World) (bel : Below W.heap.size W W') => below_trodAll_of laidOut bel _ (by kernel_rfl) hA
  rw [Try.params3] at hA hval
  obtain ⟨v0, vs0, d0, ds0, p0, q0, hargs, rfl, rfl, h0, r0⟩ := trodAll_cons hA
  obtain ⟨v1, vs1, d1, ds1, p1, q1, rfl, rfl, rfl, h1, r1⟩ := trodAll_cons r0
  obtain ⟨v2, vs2, d2, ds2, p2, q2, rfl, rfl, rfl, h2, r2⟩ := trodAll_cons r1
  obtain ⟨rfl, rfl, rfl⟩ := trodAll_nil r2
  obtain rfl : args = #[v0, v1, v2] := by cases args; simp_all
  obtain ⟨rfl, rfl⟩ := trodVars_none hV
  obtain ⟨a0, rfl, rfl, rfl, w0⟩ := open_string Try.underlying9 (hval 0 9 v0 rfl rfl) h0
  obtain ⟨m1x0, m1x1, m1x2, m1x3, m1x4, m1x5, n1x0, n1x1, n1x2, n1x3, n1x4, n1x5, t1, w1, rfl⟩ := open_eth (hval 1 24 v1 rfl rfl) h1
  obtain ⟨a2, rfl, rfl, rfl, w2⟩ := open_string Try.underlying9 (hval 2 9 v2 rfl rfl) h2
  clear hA0 hval0
  refine (walk a0 w0 m1x0 m1x1 m1x2 m1x3 m1x4 m1x5 n1x0 n1x1 n1x2 n1x3 n1x4 n1x5 t1 w1 a2 w2 W).mono fun e W' ⟨he, bel⟩ => ?_
  subst he
  exact ⟨_, rfl, _, _, _, [], _, [], hW', trodAll_mk1 (shut_bool Try.underlying4 _), hB W' bel, rfl, bel.frame _, fun h => by cases h⟩

theorem over : Rows.ethAllRow.holds Try.pinned (OpenSpec.ofChange Rows.ethAllSpec) :=
  OpenClaim.holds_of_wide 3 Try.f3 rfl rfl rfl rfl rfl rfl rfl ⟨rfl, rfl, rfl, rfl, rfl⟩ rfl rfl rfl rfl rfl (by kernel_rfl) Try.func3 (by kernel_rfl)
    (of_decide_eq_true (by kernel_rfl)) (by unfold Func.isWrapper; first | (rw [if_pos (by decide +kernel)]; kernel_rfl) | (rw [if_neg (by decide +kernel)]; exact ⟨rfl, rfl⟩))
    (fun os started H enc _ => lifted os started H enc)

/-- THE STATEMENT -/
theorem proved : Rows.EthAllSaid := over
#print axioms proved
end Go.Proofs.Ytajkcdcnihjfkaa.ethAll
