/- DgramAll: for any ends, head, body and bytes, dgram's PutUDP, PutICMP, GetUDP and GetICMP answer as the document's own do; for longer arguments the document's example holds; no condition. -/
import Derived.Test.YtecmaiodjcfekaaDgs5
import Derived.Test.YtecmaiodjcfekaaRefDg2
import Derived.Test.YtecmaiodjcfekaaLiftDg
namespace Go.Proofs.Ytecmaiodjcfekaa.dgramAll
open Go.ChangeShapes Go.WideShapes Go.ChangeAt Go.RowKit
open Go.ChangeMaps (open_string shut_string)
set_option linter.unusedVariables false

theorem putsU (h : Dg) (a b : UInt32) (body : ByteArray) (hb : body.size ≤ 2500) : ∃ (p : ByteArray) (c : Int),
    (∀ w : World, Calls Try.prog 8 #[.int .u32 (a.toNat : Int), .int .u32 (b.toNat : Int), .agg (dgV h), .string body] w fun e w' => e = .returned (.tuple #[.string p, .int .i64 c]) ∧ Below w.heap.size w w') ∧
    (∀ w : World, Calls Try.prog 9 #[.int .u32 (a.toNat : Int), .int .u32 (b.toNat : Int), .agg (dgV h), .string body] w fun e w' => e = .returned (.tuple #[.string p, .int .i64 c]) ∧ Below w.heap.size w w') := by
  by_cases hm : h.MayU
  case neg => exact ⟨_, _, fun w => putUDP_of h a b body _ _ w (fun w => udPut_arg h a b body w hm), fun w => rdPutU_arg h a b body w hm⟩
  by_cases h2 : 8 + body.size ≤ 2000
  · exact ⟨_, _, fun w => putUDP_of h a b body _ _ w (fun w => udPut_ok h a b body w hm h2), fun w => rdPutU_ok h a b body w hm h2⟩
  · exact ⟨_, _, fun w => putUDP_of h a b body _ _ w (fun w => udPut_big h a b body w hm (by omega) (by omega)), fun w => rdPutU_big h a b body w hm (by omega) (by omega)⟩
theorem putsI (h : Dg) (body : ByteArray) (hb : body.size ≤ 2500) : ∃ (p : ByteArray) (c : Int),
    (∀ w : World, Calls Try.prog 10 #[.agg (dgV h), .string body] w fun e w' => e = .returned (.tuple #[.string p, .int .i64 c]) ∧ Below w.heap.size w w') ∧
    (∀ w : World, Calls Try.prog 11 #[.agg (dgV h), .string body] w fun e w' => e = .returned (.tuple #[.string p, .int .i64 c]) ∧ Below w.heap.size w w') := by
  by_cases hm : h.MayI
  case neg => exact ⟨_, _, fun w => putICMP_of h body _ _ w (fun w => icPut_arg h body w hm), fun w => rdPutI_arg h body w hm⟩
  by_cases h2 : 8 + body.size ≤ 2000
  · exact ⟨_, _, fun w => putICMP_of h body _ _ w (fun w => icPut_ok h body w hm h2), fun w => rdPutI_ok h body w hm h2⟩
  · exact ⟨_, _, fun w => putICMP_of h body _ _ w (fun w => icPut_big h body w hm (by omega) (by omega)), fun w => rdPutI_big h body w hm (by omega) (by omega)⟩
theorem getsU (s : ByteArray) (a b : UInt32) (hs : s.size ≤ 900000) : ∃ (H : Dg) (D : ByteArray) (c : Int),
    (∀ w : World, Calls Try.prog 12 #[.int .u32 (a.toNat : Int), .int .u32 (b.toNat : Int), .string s] w fun e w' => e = .returned (.tuple #[.agg (dgV H), .string D, .int .i64 c]) ∧ Below w.heap.size w w') ∧
    (∀ w : World, Calls Try.prog 13 #[.int .u32 (a.toNat : Int), .int .u32 (b.toNat : Int), .string s] w fun e w' => e = .returned (.tuple #[.agg (dgV H), .string D, .int .i64 c]) ∧ Below w.heap.size w w') :=
  ⟨_, _, _, fun w => udGet_any s a b w (by omega), fun w => rdGetU_any s a b w hs⟩
theorem getsI (s : ByteArray) (hs : s.size ≤ 900000) : ∃ (H : Dg) (D : ByteArray) (c : Int),
    (∀ w : World, Calls Try.prog 14 #[.string s] w fun e w' => e = .returned (.tuple #[.agg (dgV H), .string D, .int .i64 c]) ∧ Below w.heap.size w w') ∧
    (∀ w : World, Calls Try.prog 15 #[.string s] w fun e w' => e = .returned (.tuple #[.agg (dgV H), .string D, .int .i64 c]) ∧ Below w.heap.size w w') :=
  ⟨_, _, _, fun w => icGet_any s w (by omega), fun w => rdGetI_any s w hs⟩

set_option maxRecDepth 100000 in
set_option maxHeartbeats 400000 in
theorem walk_long (a b : UInt32) (h : Dg) (body s : ByteArray) (w : World) (w2 : body.size ≤ 9223372036854775807) (w3 : s.size ≤ 9223372036854775807) (hl : 2500 < body.size ∨ (body.size ≤ 2500 ∧ 2500 < s.size)) :
    Calls Try.prog 3 #[.int .u32 (a.toNat : Int), .int .u32 (b.toNat : Int), .agg (dgV h), .string body, .string s] w fun e w' => e = .returned (.bool true) ∧ Below w.heap.size w w' := by
  rcases hl with h1 | ⟨h1, h2⟩
  all_goals
    go_enter Try.func3, Try.ntmps3
    go_wp2_with fail
    refine (dgAwake_any _).mono ?_
    rintro e w1 ⟨rfl, hb1⟩
    go_wp2_with fail
    go_ret
    exact ⟨rfl, below_after (below1 _ _) hb1⟩
set_option maxRecDepth 100000 in
set_option maxHeartbeats 4000000 in
theorem walk_short (a b : UInt32) (h : Dg) (body s : ByteArray) (w : World) (h2 : body.size ≤ 2500) (h3 : s.size ≤ 2500) :
    Calls Try.prog 3 #[.int .u32 (a.toNat : Int), .int .u32 (b.toNat : Int), .agg (dgV h), .string body, .string s] w fun e w' => e = .returned (.bool true) ∧ Below w.heap.size w w' := by
  obtain ⟨p, c, cp, rp⟩ := putsU h a b body h2
  obtain ⟨p2, c2, cp2, rp2⟩ := putsI h body h2
  obtain ⟨H, D, c3, cg, rg⟩ := getsU s a b (by omega)
  obtain ⟨H2, D2, c4, cg2, rg2⟩ := getsI s (by omega)
  have cs := fun w => dgSame_yes H w
  have cs2 := fun w => dgSame_yes H2 w
  go_enter Try.func3, Try.ntmps3
  go_wp2_with fail
  refine (cp _).mono ?_
  rintro e w1 ⟨rfl, hb1⟩
  have n1 := below_call (new_alloc w (.cells (dgV h) 24)) (size_alloc1 _ _) hb1
  obtain ⟨q1, _, z1⟩ := new_in n1
  have N1 := (show Hid _ from n1)
  clear hb1 n1
  go_wp2_with fail
  refine (rp _).mono ?_
  rintro e w2 ⟨rfl, hb2⟩
  have n2 := below_call N1.out (size_alloc1 _ _) hb2
  obtain ⟨q2, _, z2⟩ := new_in n2
  have N2 := (show Hid _ from n2)
  clear hb2 n2 q1 z1 N1 cp rp
  go_wp2_with fail
  refine (cp2 _).mono ?_
  rintro e w3 ⟨rfl, hb3⟩
  have n3 := below_call N2.out (size_alloc1 _ _) hb3
  obtain ⟨q3, _, z3⟩ := new_in n3
  have N3 := (show Hid _ from n3)
  clear hb3 n3 q2 z2 N2 cp2
  go_wp2_with fail
  refine (rp2 _).mono ?_
  rintro e w4 ⟨rfl, hb4⟩
  have n4 := below_call N3.out (size_alloc1 _ _) hb4
  have B4 := (show Hid _ from (below1 w _).trans (n4.mono (Nat.le_succ _)))
  clear hb4 n4 q3 z3 N3 rp2
  go_wp2_with fail
  refine (cg _).mono ?_
  rintro e w5 ⟨rfl, hb5⟩
  have B5 := (show Hid _ from below_after (below_after B4.out hb5) (below1 w5 (.cells (dgV H) 24)))
  have N5 := (show Hid _ from new_alloc w5 (.cells (dgV H) 24))
  clear hb5 B4 cg
  go_wp2_with fail
  refine (rg _).mono ?_
  rintro e w6 ⟨rfl, hb6⟩
  have B6 := (show Hid _ from below_after (below_after B5.out hb6) (below1 w6 (.cells (dgV H) 24)))
  have N6 := (show Hid _ from below_more (below_call N5.out (size_alloc1 _ _) hb6) (size_alloc1 _ _) (.cells (dgV H) 24))
  have M6 := (show Hid _ from new_alloc w6 (.cells (dgV H) 24))
  clear hb6 B5 N5 rg
  go_wp2_with fail
  refine (cg2 _).mono ?_
  rintro e w7 ⟨rfl, hb7⟩
  have B7 := (show Hid _ from below_after (below_after B6.out hb7) (below1 w7 (.cells (dgV H2) 24)))
  have N7 := (show Hid _ from below_more (below_call N6.out (size_alloc1 _ _) hb7) (size_alloc1 _ _) (.cells (dgV H2) 24))
  have M7 := (show Hid _ from below_more (below_call M6.out (size_alloc1 _ _) hb7) (size_alloc1 _ _) (.cells (dgV H2) 24))
  have L7 := (show Hid _ from new_alloc w7 (.cells (dgV H2) 24))
  clear hb7 B6 N6 M6 cg2
  go_wp2_with fail
  refine (rg2 _).mono ?_
  rintro e w8 ⟨rfl, hb8⟩
  have B8 := (show Hid _ from below_after (below_after B7.out hb8) (below1 w8 (.cells (dgV H2) 24)))
  have n8 := below_more (below_call N7.out (size_alloc1 _ _) hb8) (size_alloc1 _ _) (.cells (dgV H2) 24)
  have m8 := below_more (below_call M7.out (size_alloc1 _ _) hb8) (size_alloc1 _ _) (.cells (dgV H2) 24)
  have L8 := (show Hid _ from below_more (below_call L7.out (size_alloc1 _ _) hb8) (size_alloc1 _ _) (.cells (dgV H2) 24))
  have K8 := (show Hid _ from new_alloc w8 (.cells (dgV H2) 24))
  obtain ⟨q8, _, z8⟩ := new_in n8
  obtain ⟨r8, _, y8⟩ := new_in m8
  simp only [World.size_alloc] at z8 y8
  clear hb8 n8 m8 B7 N7 M7 L7 rg2
  generalize hW8 : w8.alloc _ = W8 at q8 r8
  go_wp2_with fail
  refine (cs _).mono ?_
  rintro e w9 ⟨rfl, hb9⟩
  rw [← hW8] at hb9
  have l9 := below_call L8.out (size_alloc1 _ _) hb9
  have k9 := below_call K8.out (size_alloc1 _ _) hb9
  have B9 := (show Hid _ from below_after B8.out hb9)
  obtain ⟨q9, _, z9⟩ := new_in l9
  obtain ⟨r9, _, y9⟩ := new_in k9
  clear hb9 l9 k9 q8 r8 z8 y8 L8 K8 hW8 B8 cs
  go_wp2_with fail
  refine (cs2 _).mono ?_
  rintro e w10 ⟨rfl, hb10⟩
  have B10 := (show Hid _ from below_after B9.out hb10)
  clear hb10 B9 q9 z9 r9 y9 cs2
  go_wp2_with fail
  refine (dgAwake_any _).mono ?_
  rintro e w11 ⟨rfl, hb11⟩
  have B11 := (show Hid _ from below_after B10.out hb11)
  clear hb11 B10
  go_wp2_with fail
  go_ret
  exact ⟨rfl, B11.out⟩

theorem walk (a b : UInt32) (h : Dg) (hw : h.Wf) (body : ByteArray) (w1 : body.size ≤ maxLen) (s : ByteArray) (w2 : s.size ≤ maxLen) (w : World) :
    Calls Try.prog 3 #[.int .u32 (a.toNat : Int), .int .u32 (b.toNat : Int), .agg (dgV h), .string body, .string s] w fun e w' => e = .returned (.bool true) ∧ Below w.heap.size w w' := by
  unfold maxLen at w1 w2
  by_cases h2 : body.size ≤ 2500
  case neg => exact walk_long a b h body s w (by omega) (by omega) (.inl (by omega))
  by_cases h3 : s.size ≤ 2500
  case neg => exact walk_long a b h body s w (by omega) (by omega) (.inr ⟨h2, by omega⟩)
  exact walk_short a b h body s w h2 h3

/-! ### THE ROW's STEP -/
set_option maxRecDepth 100000 in
theorem lifted (os : Os) (started : os.Started) (H : Type) (enc : TypeId × Value → H) :
    ReturnsInHanded {} Try.checked os 3 .any (Rows.dgramAllSpec.pre6 enc Try.prog Try.f3 Rows.dgramAllRow.domain false) (Rows.dgramAllSpec.post enc Try.prog Try.f3 false true false false) := by
  refine returnsInHanded_of_change (C := Try.checked) own started (by kernel_rfl) Try.func3
    (ChangeSpec.witness6 (enc := enc) (C := Try.checked) false ⟨#[], #[.int .u32 0, .int .u32 0, .agg #[.int .i64 0, .int .i64 0, .int .i64 0, .int .i64 0, .int .u32 0], .string ByteArray.empty, .string ByteArray.empty], []⟩ 8 (by kernel_rfl) (by kernel_rfl) (by kernel_rfl) (by kernel_rfl)) ?_
  intro W base args ds gs before hval0 hW hcnd _
  have hval : ∀ (j : Nat) t v, Try.f3.params[j]? = some t → args[j]? = some v → Value.okWide Try.prog W .any base t v := hval0
  have hW' := hW
  obtain ⟨p, q, hA0, hV, rfl, hfz, hnd⟩ := hW
  have hA : DataW.TrodAll enc Try.prog W 0 (fun _ => true) true Try.f3.params.toList args.toList ds p := hA0
  have hB := fun (W' : World) (bel : Below W.heap.size W W') => below_trodAll_of laidOut bel _ (by kernel_rfl) hA
  rw [Try.params3] at hA hval
  obtain ⟨v0, vs0, d0, ds0, p0, q0, hargs, rfl, rfl, h0, r0⟩ := trodAll_cons hA
  obtain ⟨v1, vs1, d1, ds1, p1, q1, rfl, rfl, rfl, h1, r1⟩ := trodAll_cons r0
  obtain ⟨v2, vs2, d2, ds2, p2, q2, rfl, rfl, rfl, h2, r2⟩ := trodAll_cons r1
  obtain ⟨v3, vs3, d3, ds3, p3, q3, rfl, rfl, rfl, h3, r3⟩ := trodAll_cons r2
  obtain ⟨v4, vs4, d4, ds4, p4, q4, rfl, rfl, rfl, h4, r4⟩ := trodAll_cons r3
  obtain ⟨rfl, rfl, rfl⟩ := trodAll_nil r4
  obtain rfl : args = #[v0, v1, v2, v3, v4] := by cases args; simp_all
  obtain ⟨rfl, rfl⟩ := trodVars_none hV
  obtain ⟨a0, rfl, rfl, rfl, w0⟩ := open_int Try.underlying22 (hval 0 22 v0 rfl rfl) h0
  obtain ⟨x0, rfl⟩ := u32_lit w0
  obtain ⟨a1, rfl, rfl, rfl, w1⟩ := open_int Try.underlying22 (hval 1 22 v1 rfl rfl) h1
  obtain ⟨x1, rfl⟩ := u32_lit w1
  obtain ⟨g2, w2, rfl⟩ := open_dg (hval 2 24 v2 rfl rfl) h2
  obtain ⟨a3, rfl, rfl, rfl, w3⟩ := open_string Try.underlying9 (hval 3 9 v3 rfl rfl) h3
  obtain ⟨a4, rfl, rfl, rfl, w4⟩ := open_string Try.underlying9 (hval 4 9 v4 rfl rfl) h4
  clear hA0 hval0
  refine (walk x0 x1 g2 w2 a3 w3 a4 w4 W).mono fun e W' ⟨he, bel⟩ => ?_
  subst he
  exact ⟨_, rfl, _, _, _, [], _, [], hW', trodAll_mk1 (shut_bool Try.underlying4 _), hB W' bel, rfl, bel.frame _, fun h => by cases h⟩

theorem over : Rows.dgramAllRow.holds Try.pinned (OpenSpec.ofChange Rows.dgramAllSpec) :=
  OpenClaim.holds_of_wide 3 Try.f3 rfl rfl rfl rfl rfl rfl rfl ⟨rfl, rfl, rfl, rfl, rfl⟩ rfl rfl rfl rfl rfl (by kernel_rfl) Try.func3 (by kernel_rfl)
    (of_decide_eq_true (by kernel_rfl)) (by unfold Func.isWrapper; first | (rw [if_pos (by decide +kernel)]; kernel_rfl) | (rw [if_neg (by decide +kernel)]; exact ⟨rfl, rfl⟩))
    (fun os started H enc _ => lifted os started H enc)

/-- THE STATEMENT -/
theorem proved : Rows.DgramAllSaid := over
#print axioms proved
end Go.Proofs.Ytecmaiodjcfekaa.dgramAll
