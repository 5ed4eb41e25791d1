/- TcpAll: for any ends, head, body and bytes, tcp's Check, Put and Get answer as the document's own do; for longer arguments the document's example holds; no condition. -/
import Derived.Test.YtpnnaibejgnahaaTcs4
import Derived.Test.YtpnnaibejgnahaaRefTc2
import Derived.Test.YtpnnaibejgnahaaLiftTc
namespace Go.Proofs.Ytpnnaibejgnahaa.tcpAll
open Go.ChangeShapes Go.WideShapes Go.ChangeAt Go.RowKit
open Go.ChangeMaps (open_string shut_string)
set_option linter.unusedVariables false

theorem puts (h : Sg) (a b : UInt32) (body : ByteArray) (hb : body.size ≤ 2500) : ∃ (p : ByteArray) (c : Int),
    (∀ w : World, Calls Try.prog 8 #[.int .u32 (a.toNat : Int), .int .u32 (b.toNat : Int), .agg (sgV h), .string body] w fun e w' => e = .returned (.tuple #[.string p, .int .i64 c]) ∧ Below w.heap.size w w') ∧
    (∀ w : World, Calls Try.prog 9 #[.int .u32 (a.toNat : Int), .int .u32 (b.toNat : Int), .agg (sgV h), .string body] w fun e w' => e = .returned (.tuple #[.string p, .int .i64 c]) ∧ Below w.heap.size w w') := by
  by_cases hm : h.May
  case neg => exact ⟨_, _, fun w => tcPut_arg h a b body w hm, fun w => rtPut_arg h a b body w hm⟩
  by_cases h2 : 20 + h.opts.size + body.size ≤ 2000
  · exact ⟨_, _, fun w => tcPut_ok h a b body w hm h2, fun w => rtPut_ok h a b body w hm h2⟩
  · exact ⟨_, _, fun w => tcPut_big h a b body w hm (by omega) (by omega), fun w => rtPut_big h a b body w hm (by omega) (by omega)⟩
theorem checks (h : Sg) : ∃ b : Bool, (∀ w : World, Calls Try.prog 12 #[.agg (sgV h)] w fun e w' => e = .returned (.bool b) ∧ Below w.heap.size w w') ∧
    (∀ w : World, Calls Try.prog 13 #[.agg (sgV h)] w fun e w' => e = .returned (.bool b) ∧ Below w.heap.size w w') := by
  by_cases hm : h.May
  · exact ⟨_, fun w => tcCheck_yes h w hm, fun w => rtCheck_yes h w hm⟩
  · exact ⟨_, fun w => tcCheck_no h w hm, fun w => rtCheck_no h w hm⟩
theorem gets (s : ByteArray) (a b : UInt32) (hs : s.size ≤ 900000) : ∃ (H : Sg) (D : ByteArray) (c : Int),
    (∀ w : World, Calls Try.prog 10 #[.int .u32 (a.toNat : Int), .int .u32 (b.toNat : Int), .string s] w fun e w' => e = .returned (.tuple #[.agg (sgV H), .string D, .int .i64 c]) ∧ Below w.heap.size w w') ∧
    (∀ w : World, Calls Try.prog 11 #[.int .u32 (a.toNat : Int), .int .u32 (b.toNat : Int), .string s] w fun e w' => e = .returned (.tuple #[.agg (sgV H), .string D, .int .i64 c]) ∧ Below w.heap.size w w') := by
  have g := fun w => tcGet_any s a b w (by omega)
  have r := fun w => rtGet_any s a b w hs
  by_cases h : badT a b s.data.toList = 0
  · rw [h] at g r
    exact ⟨_, _, _, g, r⟩
  · unfold tcAnswer at g r
    rw [if_neg h] at g r
    exact ⟨⟨0, 0, 0, 0, 0, 0, ⟨#[]⟩⟩, ⟨#[]⟩, _, g, r⟩

set_option maxHeartbeats 400000 in
theorem walk_long (a b : UInt32) (h : Sg) (body s : ByteArray) (w : World) (w1 : h.opts.size ≤ 9223372036854775807) (w2 : body.size ≤ 9223372036854775807) (w3 : s.size ≤ 9223372036854775807)
    (hl : 100 < h.opts.size ∨ (h.opts.size ≤ 100 ∧ 2500 < body.size) ∨ (h.opts.size ≤ 100 ∧ body.size ≤ 2500 ∧ 2500 < s.size)) :
    Calls Try.prog 3 #[.int .u32 (a.toNat : Int), .int .u32 (b.toNat : Int), .agg (sgV h), .string body, .string s] w fun e w' => e = .returned (.bool true) ∧ Below w.heap.size w w' := by
  rcases hl with h1 | ⟨h1, h2⟩ | ⟨h1, h2, h3⟩
  all_goals
    go_enter Try.func3, Try.ntmps3
    go_wp2_with fail
    refine (tcAwake_any _).mono ?_
    rintro e w1 ⟨rfl, hb1⟩
    go_wp2_with fail
    go_ret
    exact ⟨rfl, below_after (below1 _ _) hb1⟩
set_option maxRecDepth 100000 in
set_option maxHeartbeats 2000000 in
theorem walk_short (a b : UInt32) (h : Sg) (body s : ByteArray) (w : World) (h1 : h.opts.size ≤ 100) (h2 : body.size ≤ 2500) (h3 : s.size ≤ 2500) :
    Calls Try.prog 3 #[.int .u32 (a.toNat : Int), .int .u32 (b.toNat : Int), .agg (sgV h), .string body, .string s] w fun e w' => e = .returned (.bool true) ∧ Below w.heap.size w w' := by
  obtain ⟨p, c, cp, rp⟩ := puts h a b body h2
  obtain ⟨y, cc, rc⟩ := checks h
  obtain ⟨H, D, c2, cg, rg⟩ := gets s a b (by omega)
  have cs := fun w => sgSame_yes H w
  go_enter Try.func3, Try.ntmps3
  go_wp2_with fail
  refine (cp _).mono ?_
  rintro e w1 ⟨rfl, hb1⟩
  have n1 := below_call (new_alloc w (.cells (sgV h) 24)) (size_alloc1 _ _) hb1
  obtain ⟨q1, _, z1⟩ := new_in n1
  have N1 := (show Hid _ from n1)
  clear hb1 n1
  go_wp2_with fail
  refine (rp _).mono ?_
  rintro e w2 ⟨rfl, hb2⟩
  have n2 := below_call N1.out (size_alloc1 _ _) hb2
  obtain ⟨q2, _, z2⟩ := new_in n2
  have N2 := (show Hid _ from n2)
  clear hb2 n2 q1 z1 N1 cp rp
  go_wp2_with fail
  refine (cg _).mono ?_
  rintro e w3 ⟨rfl, hb3⟩
  have n3 := below_more (below_call N2.out (size_alloc1 _ _) hb3) (size_alloc1 _ _) (.cells (sgV H) 24)
  have N3 := (show Hid _ from n3)
  have m3 := new_alloc w3 (.cells (sgV H) 24)
  have M3 := (show Hid _ from m3)
  clear hb3 n3 m3 q2 z2 N2
  go_wp2_with fail
  refine (rg _).mono ?_
  rintro e w4 ⟨rfl, hb4⟩
  have n4 := below_more (below_call N3.out (size_alloc1 _ _) hb4) (size_alloc1 _ _) (.cells (sgV H) 24)
  have m4 := below_more (below_call M3.out (size_alloc1 _ _) hb4) (size_alloc1 _ _) (.cells (sgV H) 24)
  have l4 := new_alloc w4 (.cells (sgV H) 24)
  obtain ⟨q4, _, z4⟩ := new_in n4
  obtain ⟨r4, _, y4⟩ := new_in m4
  obtain ⟨t4, _, x4⟩ := new_in l4
  have N4 := (show Hid _ from n4)
  have M4 := (show Hid _ from m4)
  have L4 := (show Hid _ from l4)
  clear hb4 n4 m4 l4 N3 M3 cg rg
  go_upto_region 7 with fail
  generalize w4.alloc _ = W4 at *
  have hcl := Cls.cell (w := W4)
  refine wp_region_calm (by kernel_rfl) (by kernel_rfl) (fun hne => ?_)
  repeat (go_big_quiet_step (first | (go_at_call 12; exact calm_of (cc _)) | (go_at_call 13; exact calm_of (rc _)) | (go_at_call 14; exact calm_of (cs _)) | (go_at_call 7; exact calm_of (tcAwake_any _))))
  refine wpQuiet_nil ?_
  rintro _ ⟨x, rfl⟩
  go_wp2_with fail
  go_ret
  exact ⟨rfl, below_after ((below1 w _).trans (N4.out.mono (Nat.le_succ _))) x.bel⟩

theorem walk (a b : UInt32) (h : Sg) (hw : h.Wf) (body : ByteArray) (w1 : body.size ≤ maxLen) (s : ByteArray) (w2 : s.size ≤ maxLen) (w : World) :
    Calls Try.prog 3 #[.int .u32 (a.toNat : Int), .int .u32 (b.toNat : Int), .agg (sgV h), .string body, .string s] w fun e w' => e = .returned (.bool true) ∧ Below w.heap.size w w' := by
  have w0 := hw.2.2.2.2
  unfold maxLen at w0 w1 w2
  by_cases h1 : h.opts.size ≤ 100
  case neg => exact walk_long a b h body s w (by omega) (by omega) (by omega) (.inl (by omega))
  by_cases h2 : body.size ≤ 2500
  case neg => exact walk_long a b h body s w (by omega) (by omega) (by omega) (.inr (.inl ⟨h1, by omega⟩))
  by_cases h3 : s.size ≤ 2500
  case neg => exact walk_long a b h body s w (by omega) (by omega) (by omega) (.inr (.inr ⟨h1, h2, by omega⟩))
  exact walk_short a b h body s w h1 h2 h3

/-! ### THE ROW's STEP -/
set_option maxRecDepth 100000 in
theorem lifted (os : Os) (started : os.Started) (H : Type) (enc : TypeId × Value → H) :
    ReturnsInHanded {} Try.checked os 3 .any (Rows.tcpAllSpec.pre6 enc Try.prog Try.f3 Rows.tcpAllRow.domain false) (Rows.tcpAllSpec.post enc Try.prog Try.f3 false true false false) := by
  refine returnsInHanded_of_change (C := Try.checked) own started (by kernel_rfl) Try.func3
    (ChangeSpec.witness6 (enc := enc) (C := Try.checked) false ⟨#[], #[.int .u32 0, .int .u32 0, .agg #[.int .i64 0, .int .i64 0, .int .u32 0, .int .u32 0, .int .i64 0, .int .i64 0, .string ByteArray.empty], .string ByteArray.empty, .string ByteArray.empty], []⟩ 8 (by kernel_rfl) (by kernel_rfl) (by kernel_rfl) (by kernel_rfl)) ?_
  intro W base args ds gs before hval0 hW hcnd _
  have hval : ∀ (j : Nat) t v, Try.f3.params[j]? = some t → args[j]? = some v → Value.okWide Try.prog W .any base t v := hval0
  have hW' := hW
  obtain ⟨p, q, hA0, hV, rfl, hfz, hnd⟩ := hW
  have hA : DataW.TrodAll enc Try.prog W 0 (fun _ => true) true Try.f3.params.toList args.toList ds p := hA0
  have hB := fun (W' : World) (bel : Below W.heap.size W W') => below_trodAll_of laidOut bel _ (by kernel_rfl) hA
  rw [Try.params3] at hA hval
  obtain ⟨v0, vs0, d0, ds0, p0, q0, hargs, rfl, rfl, h0, r0⟩ := trodAll_cons hA
  obtain ⟨v1, vs1, d1, ds1, p1, q1, rfl, rfl, rfl, h1, r1⟩ := trodAll_cons r0
  obtain ⟨v2, vs2, d2, ds2, p2, q2, rfl, rfl, rfl, h2, r2⟩ := trodAll_cons r1
  obtain ⟨v3, vs3, d3, ds3, p3, q3, rfl, rfl, rfl, h3, r3⟩ := trodAll_cons r2
  obtain ⟨v4, vs4, d4, ds4, p4, q4, rfl, rfl, rfl, h4, r4⟩ := trodAll_cons r3
  obtain ⟨rfl, rfl, rfl⟩ := trodAll_nil r4
  obtain rfl : args = #[v0, v1, v2, v3, v4] := by cases args; simp_all
  obtain ⟨rfl, rfl⟩ := trodVars_none hV
  obtain ⟨a0, rfl, rfl, rfl, w0⟩ := open_int Try.underlying22 (hval 0 22 v0 rfl rfl) h0
  obtain ⟨x0, rfl⟩ := u32_lit w0
  obtain ⟨a1, rfl, rfl, rfl, w1⟩ := open_int Try.underlying22 (hval 1 22 v1 rfl rfl) h1
  obtain ⟨x1, rfl⟩ := u32_lit w1
  obtain ⟨g2, w2, rfl⟩ := open_sg (hval 2 24 v2 rfl rfl) h2
  obtain ⟨a3, rfl, rfl, rfl, w3⟩ := open_string Try.underlying9 (hval 3 9 v3 rfl rfl) h3
  obtain ⟨a4, rfl, rfl, rfl, w4⟩ := open_string Try.underlying9 (hval 4 9 v4 rfl rfl) h4
  clear hA0 hval0
  refine (walk x0 x1 g2 w2 a3 w3 a4 w4 W).mono fun e W' ⟨he, bel⟩ => ?_
  subst he
  exact ⟨_, rfl, _, _, _, [], _, [], hW', trodAll_mk1 (shut_bool Try.underlying4 _), hB W' bel, rfl, bel.frame _, fun h => by cases h⟩

theorem over : Rows.tcpAllRow.holds Try.pinned (OpenSpec.ofChange Rows.tcpAllSpec) :=
  OpenClaim.holds_of_wide 3 Try.f3 rfl rfl rfl rfl rfl rfl rfl ⟨rfl, rfl, rfl, rfl, rfl⟩ rfl rfl rfl rfl rfl (by kernel_rfl) Try.func3 (by kernel_rfl)
    (of_decide_eq_true (by kernel_rfl)) (by unfold Func.isWrapper; first | (rw [if_pos (by decide +kernel)]; kernel_rfl) | (rw [if_neg (by decide +kernel)]; exact ⟨rfl, rfl⟩))
    (fun os started H enc _ => lifted os started H enc)

/-- THE STATEMENT -/
theorem proved : Rows.TcpAllSaid := over
#print axioms proved
end Go.Proofs.Ytpnnaibejgnahaa.tcpAll
