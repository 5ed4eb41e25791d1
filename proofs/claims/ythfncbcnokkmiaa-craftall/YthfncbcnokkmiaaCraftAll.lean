/- CraftAll: for any heads, any body and numbers, craft's Back, Datagram, Segment, Reset and Unreachable answer as the document's own do; for longer arguments the document's example holds; no condition. -/
import Derived.Test.YthfncbcnokkmiaaCrGet
import Derived.Test.YthfncbcnokkmiaaRefCr4
import Derived.Test.YthfncbcnokkmiaaRefIp2
import Derived.Test.YthfncbcnokkmiaaCrOwn
import Derived.Test.YthfncbcnokkmiaaLiftIp
import Derived.Test.YthfncbcnokkmiaaLiftTc
namespace Go.Proofs.Ythfncbcnokkmiaa.craftAll
open Go.ChangeShapes Go.WideShapes Go.ChangeAt Go.RowKit
open Go.ChangeMaps (open_string shut_string)
set_option linter.unusedVariables false
set_option maxRecDepth 100000 in
set_option maxHeartbeats 1000000 in
theorem walk_long (e : Et) (i : Ip) (h : Sg) (body : ByteArray) (seq ack : UInt32) (w : World)
    (cf : ∀ w : World, Calls Try.prog 7 #[.agg (ipV i), .agg (sgV h), .string body] w fun r w' => r = .returned (.bool false) ∧ Below w.heap.size w w') :
    Calls Try.prog 3 #[.agg (etV e), .agg (ipV i), .agg (sgV h), .string body, .int .u32 (seq.toNat : Int), .int .u32 (ack.toNat : Int)] w fun r w' => r = .returned (.bool true) ∧ Below w.heap.size w w' := by
  go_enter Try.func3, Try.ntmps3
  go_wp2_with fail
  refine (cf _).mono ?_
  rintro r w1 ⟨rfl, hb1⟩
  have B1 := (show Hid _ from below_after (below3 _ _ _ _) hb1)
  clear hb1 cf
  go_wp2_with fail
  refine (crAwake_any _).mono ?_
  rintro r w2 ⟨rfl, hb2⟩
  have B2 := (show Hid _ from below_after B1.out hb2)
  clear hb2 B1
  go_wp2_with fail
  go_ret
  exact ⟨rfl, B2.out⟩
set_option maxRecDepth 100000 in
set_option maxHeartbeats 4000000 in
theorem walk_core (e : Et) (i : Ip) (h : Sg) (body : ByteArray) (seq ack : UInt32) (w : World) (eb : Et) (ib : Ip) (D S U : ByteArray) (R : Bool → ByteArray)
    (cf : ∀ w : World, Calls Try.prog 7 #[.agg (ipV i), .agg (sgV h), .string body] w fun r w' => r = .returned (.bool true) ∧ Below w.heap.size w w')
    (cb : ∀ w : World, Calls Try.prog 9 #[.agg (etV e), .agg (ipV i)] w fun r w' => r = .returned (.tuple #[.agg (etV eb), .agg (ipV ib)]) ∧ Below w.heap.size w w')
    (rb : ∀ w : World, Calls Try.prog 10 #[.agg (etV e), .agg (ipV i)] w fun r w' => r = .returned (.tuple #[.agg (etV eb), .agg (ipV ib)]) ∧ Below w.heap.size w w')
    (se : ∀ w : World, Calls Try.prog 11 #[.agg (etV eb), .agg (etV eb)] w fun r w' => r = .returned (.bool true) ∧ Below w.heap.size w w')
    (si : ∀ w : World, Calls Try.prog 12 #[.agg (ipV ib), .agg (ipV ib)] w fun r w' => r = .returned (.bool true) ∧ Below w.heap.size w w')
    (cd : ∀ w : World, Calls Try.prog 13 #[.agg (etV e), .agg (ipV i), .string body] w fun r w' => r = .returned (.string D) ∧ Below w.heap.size w w')
    (rd : ∀ w : World, Calls Try.prog 14 #[.agg (etV e), .agg (ipV i), .string body] w fun r w' => r = .returned (.string D) ∧ Below w.heap.size w w')
    (cs : ∀ w : World, Calls Try.prog 15 #[.agg (etV e), .agg (ipV i), .agg (sgV h), .string body] w fun r w' => r = .returned (.string S) ∧ Below w.heap.size w w')
    (rs : ∀ w : World, Calls Try.prog 16 #[.agg (etV e), .agg (ipV i), .agg (sgV h), .string body] w fun r w' => r = .returned (.string S) ∧ Below w.heap.size w w')
    (cr : ∀ (b : Bool) (w : World), Calls Try.prog 17 #[.agg (etV e), .agg (ipV i), .agg (sgV h), .int .u32 (seq.toNat : Int), .int .u32 (ack.toNat : Int), .bool b] w fun r w' => r = .returned (.string (R b)) ∧ Below w.heap.size w w')
    (rr : ∀ (b : Bool) (w : World), Calls Try.prog 18 #[.agg (etV e), .agg (ipV i), .agg (sgV h), .int .u32 (seq.toNat : Int), .int .u32 (ack.toNat : Int), .bool b] w fun r w' => r = .returned (.string (R b)) ∧ Below w.heap.size w w')
    (cu : ∀ w : World, Calls Try.prog 19 #[.agg (etV e), .agg (ipV i), .string body] w fun r w' => r = .returned (.string U) ∧ Below w.heap.size w w')
    (ru : ∀ w : World, Calls Try.prog 20 #[.agg (etV e), .agg (ipV i), .string body] w fun r w' => r = .returned (.string U) ∧ Below w.heap.size w w') :
    Calls Try.prog 3 #[.agg (etV e), .agg (ipV i), .agg (sgV h), .string body, .int .u32 (seq.toNat : Int), .int .u32 (ack.toNat : Int)] w fun r w' => r = .returned (.bool true) ∧ Below w.heap.size w w' := by
  have O0 := own_three w (etV e) (ipV i) (sgV h) 24 27 29
  have ca := fun w => crAwake_any w
  go_enter Try.func3, Try.ntmps3
  have HO := (show Hid _ from O0)
  clear O0
  go_wp2_with fail
  refine (cf _).mono ?_
  rintro r w1 ⟨rfl, hb1⟩
  have O1 := (show Hid _ from HO.out.below hb1)
  have ⟨⟨q1, z1⟩, ⟨q2, z2⟩, _⟩ := O1.out.facts
  clear hb1 HO cf
  go_wp2_with fail
  refine (cb _).mono ?_
  rintro r w2 ⟨rfl, hb2⟩
  have O2 := (show Hid _ from O1.out.below hb2)
  have O2b := (show Hid _ from (O2.out.alloc (.cells (etV eb) 24)).alloc (.cells (ipV ib) 27))
  have E2 := (show Hid _ from (Own.new O2.out.hb (etV eb) 24).alloc (.cells (ipV ib) 27))
  have I2 := (show Hid _ from Own.new (O2.out.hb.alloc O2.out.hb.size (.cells (etV eb) 24)) (ipV ib) 27)
  have ⟨⟨q3, z3⟩, ⟨q4, z4⟩, _⟩ := O2.out.facts
  clear hb2 O1 q1 z1 q2 z2 cb O2
  go_wp2_with fail
  refine (rb _).mono ?_
  rintro r w3 ⟨rfl, hb3⟩
  have O3 := (show Hid _ from ((O2b.out.below hb3).alloc (.cells (etV eb) 24)).alloc (.cells (ipV ib) 27))
  have E3 := (show Hid _ from ((E2.out.below hb3).alloc (.cells (etV eb) 24)).alloc (.cells (ipV ib) 27))
  have I3 := (show Hid _ from ((I2.out.below hb3).alloc (.cells (etV eb) 24)).alloc (.cells (ipV ib) 27))
  have F3 := (show Hid _ from (Own.new (O2b.out.below hb3).hb (etV eb) 24).alloc (.cells (ipV ib) 27))
  have J3 := (show Hid _ from Own.new ((O2b.out.below hb3).hb.alloc (O2b.out.below hb3).hb.size (.cells (etV eb) 24)) (ipV ib) 27)
  clear hb3 O2b E2 I2 q3 z3 q4 z4 rb
  go_upto_region 5 with fail
  have ⟨⟨q1, z1⟩, ⟨q2, z2⟩, ⟨q3, z3⟩⟩ := O3.out.facts
  have q4 := E3.out.q
  have z4 := E3.out.z
  have q5 := I3.out.q
  have z5 := I3.out.z
  have q6 := F3.out.q
  have z6 := F3.out.z
  have q7 := J3.out.q
  have z7 := J3.out.z
  have HB := O3.out.hb
  clear O3 E3 I3 F3 J3
  have s2 : (w2.alloc (.cells (etV eb) 24)).heap.size = w2.heap.size + 1 := by simp
  have s3 : (w3.alloc (.cells (etV eb) 24)).heap.size = w3.heap.size + 1 := by simp
  rw [s2] at q5 z5
  rw [s3] at q7 z7
  clear s2 s3
  generalize (w3.alloc (.cells (etV eb) 24)).alloc _ = W3 at *
  have HB3 := (show Hid _ from HB)
  clear HB
  have hcl := Cls.cell (w := W3)
  refine wp_region_calm (by kernel_rfl) (by kernel_rfl) (fun hne => ?_)
  repeat (go_big_quiet_step (first | (go_at_call 11; exact calm_of (se _)) | (go_at_call 12; exact calm_of (si _)) | (go_at_call 13; exact calm_of (cd _)) | (go_at_call 14; exact calm_of (rd _)) | (go_at_call 15; exact calm_of (cs _)) | (go_at_call 16; exact calm_of (rs _))))
  refine wpQuiet_nil ?_
  rintro _ ⟨x, rfl⟩
  have B4 := (show Hid _ from below_after HB3.out x.bel)
  have p1 : ∀ o, x.val.cell? ⟨w.heap.size, o, none⟩ = (etV e)[o]? := fun o => (x.cell _ o z1).trans (q1 o)
  have p2 : ∀ o, x.val.cell? ⟨w.heap.size + 1, o, none⟩ = (ipV i)[o]? := fun o => (x.cell _ o z2).trans (q2 o)
  have p3 : ∀ o, x.val.cell? ⟨w.heap.size + 1 + 1, o, none⟩ = (sgV h)[o]? := fun o => (x.cell _ o z3).trans (q3 o)
  have y1 := Nat.lt_of_lt_of_le z1 x.bel.size
  have y2 := Nat.lt_of_lt_of_le z2 x.bel.size
  have y3 := Nat.lt_of_lt_of_le z3 x.bel.size
  generalize x.val = W4 at *
  clear hne hcl q1 q2 q3 q4 q5 q6 q7 z1 z2 z3 z4 z5 z6 z7 HB3 se si cd rd cs rs
  have hcl := Cls.cell (w := W4)
  go_upto_region 7 with fail
  refine wp_region_calm (by kernel_rfl) (by kernel_rfl) (fun hne => ?_)
  repeat (go_big_quiet_step (first | (go_at_call 17; exact calm_of (cr _ _)) | (go_at_call 18; exact calm_of (rr _ _)) | (go_at_call 19; exact calm_of (cu _)) | (go_at_call 20; exact calm_of (ru _)) | (go_at_call 8; exact calm_of (ca _))))
  refine wpQuiet_nil ?_
  rintro _ ⟨x, rfl⟩
  go_wp2_with fail
  go_ret
  exact ⟨rfl, below_after B4.out x.bel⟩
theorem resets (e : Et) (i : Ip) (h : Sg) (seq ack : UInt32) : ∃ R : Bool → ByteArray, ∀ b, Rese e i h seq ack b (R b) := ⟨fun b => (rese_ex e i h seq ack b).choose, fun b => (rese_ex e i h seq ack b).choose_spec⟩
theorem walk_all (e : Et) (i : Ip) (h : Sg) (body : ByteArray) (seq ack : UInt32) (w : World) (h1 : i.opts.size ≤ 9223372036854775807) (h2 : h.opts.size ≤ 9223372036854775807) (h3 : body.size ≤ 9223372036854775807) :
    Calls Try.prog 3 #[.agg (etV e), .agg (ipV i), .agg (sgV h), .string body, .int .u32 (seq.toNat : Int), .int .u32 (ack.toNat : Int)] w fun r w' => r = .returned (.bool true) ∧ Below w.heap.size w w' := by
  by_cases hf : i.opts.size ≤ 100 ∧ h.opts.size ≤ 100 ∧ body.size ≤ 2200
  case neg => exact walk_long e i h body seq ack w (fun w => few_any i h body false w h3 h1 h2 (by simpa using hf))
  obtain ⟨D, hD⟩ := data_ex e i body
  obtain ⟨S, hS⟩ := segm_ex e i h body
  obtain ⟨U, hU⟩ := unre_ex e i body
  obtain ⟨R, hR⟩ := resets e i h seq ack
  exact walk_core e i h body seq ack w e.back i.back D S U R (fun w => few_any i h body true w h3 h1 h2 (by simpa using hf)) (fun w => crBack_any e i w) (fun w => rcBack_any e i w) (fun w => same_yes _ _ _ _ _ _ _ _ _ _ _ _ _ w) (fun w => ipSame_yes _ w)
    (fun w => crData hD (by omega) w) (fun w => rcData hD (by omega) w) (fun w => crSegm hS (by omega) w) (fun w => rcSegm hS (by omega) w) (fun b w => crRese (hR b) w) (fun b w => rcRese (hR b) w) (fun w => crUnre hU (by omega) (by omega) w) (fun w => rcUnre hU (by omega) (by omega) w)
theorem walk (a0 a1 a2 a3 a4 a5 b0 b1 b2 b3 b4 b5 : UInt8) (t : Int) (wt : (Lit.int .i64 t).wf = true) (i : Ip) (wi : i.Wf) (h : Sg) (wh : h.Wf) (body : ByteArray) (wb : body.size ≤ maxLen) (seq ack : UInt32) (w : World) :
    Calls Try.prog 3 #[.agg (ethB a0 a1 a2 a3 a4 a5 b0 b1 b2 b3 b4 b5 t), .agg (ipV i), .agg (sgV h), .string body, .int .u32 (seq.toNat : Int), .int .u32 (ack.toNat : Int)] w fun r w' => r = .returned (.bool true) ∧ Below w.heap.size w w' := by
  have o1 := wi.2.2.2.2.2
  have o2 := wh.2.2.2.2
  unfold maxLen at o1 o2 wb
  exact walk_all ⟨a0, a1, a2, a3, a4, a5, b0, b1, b2, b3, b4, b5, t⟩ i h body seq ack w (by omega) (by omega) (by omega)

/-! ### THE ROW's STEP -/
set_option maxRecDepth 100000 in
theorem lifted (os : Os) (started : os.Started) (H : Type) (enc : TypeId × Value → H) :
    ReturnsInHanded {} Try.checked os 3 .any (Rows.craftAllSpec.pre6 enc Try.prog Try.f3 Rows.craftAllRow.domain false) (Rows.craftAllSpec.post enc Try.prog Try.f3 false true false false) := by
  refine returnsInHanded_of_change (C := Try.checked) own started (by kernel_rfl) Try.func3
    (ChangeSpec.witness6 (enc := enc) (C := Try.checked) false ⟨#[], #[.agg #[.int .u8 0, .int .u8 0, .int .u8 0, .int .u8 0, .int .u8 0, .int .u8 0, .int .u8 0, .int .u8 0, .int .u8 0, .int .u8 0, .int .u8 0, .int .u8 0, .int .i64 0], .agg #[.int .i64 0, .int .i64 0, .bool false, .bool false, .int .i64 0, .int .i64 0, .int .i64 0, .int .u32 0, .int .u32 0, .string ByteArray.empty], .agg #[.int .i64 0, .int .i64 0, .int .u32 0, .int .u32 0, .int .i64 0, .int .i64 0, .string ByteArray.empty], .string ByteArray.empty, .int .u32 0, .int .u32 0], []⟩ 8 (by kernel_rfl) (by kernel_rfl) (by kernel_rfl) (by kernel_rfl)) ?_
  intro W base args ds gs before hval0 hW hcnd _
  have hval : ∀ (j : Nat) t v, Try.f3.params[j]? = some t → args[j]? = some v → Value.okWide Try.prog W .any base t v := hval0
  have hW' := hW
  obtain ⟨p, q, hA0, hV, rfl, hfz, hnd⟩ := hW
  have hA : DataW.TrodAll enc Try.prog W 0 (fun _ => true) true Try.f3.params.toList args.toList ds p := hA0
  have hB := fun (W' : World) (bel : Below W.heap.size W W') => below_trodAll_of laidOut bel _ (by kernel_rfl) hA
  rw [Try.params3] at hA hval
  obtain ⟨v0, vs0, d0, ds0, p0, q0, hargs, rfl, rfl, h0, r0⟩ := trodAll_cons hA
  obtain ⟨v1, vs1, d1, ds1, p1, q1, rfl, rfl, rfl, h1, r1⟩ := trodAll_cons r0
  obtain ⟨v2, vs2, d2, ds2, p2, q2, rfl, rfl, rfl, h2, r2⟩ := trodAll_cons r1
  obtain ⟨v3, vs3, d3, ds3, p3, q3, rfl, rfl, rfl, h3, r3⟩ := trodAll_cons r2
  obtain ⟨v4, vs4, d4, ds4, p4, q4, rfl, rfl, rfl, h4, r4⟩ := trodAll_cons r3
  obtain ⟨v5, vs5, d5, ds5, p5, q5, rfl, rfl, rfl, h5, r5⟩ := trodAll_cons r4
  obtain ⟨rfl, rfl, rfl⟩ := trodAll_nil r5
  obtain rfl : args = #[v0, v1, v2, v3, v4, v5] := by cases args; simp_all
  obtain ⟨rfl, rfl⟩ := trodVars_none hV
  obtain ⟨m0x0, m0x1, m0x2, m0x3, m0x4, m0x5, n0x0, n0x1, n0x2, n0x3, n0x4, n0x5, t0, w0, rfl⟩ := open_eth (hval 0 24 v0 rfl rfl) h0
  obtain ⟨g1, w1, rfl⟩ := open_ip (hval 1 27 v1 rfl rfl) h1
  obtain ⟨g2, w2, rfl⟩ := open_sg (hval 2 29 v2 rfl rfl) h2
  obtain ⟨a3, rfl, rfl, rfl, w3⟩ := open_string Try.underlying9 (hval 3 9 v3 rfl rfl) h3
  obtain ⟨a4, rfl, rfl, rfl, w4⟩ := open_int Try.underlying25 (hval 4 25 v4 rfl rfl) h4
  obtain ⟨x4, rfl⟩ := u32_lit w4
  obtain ⟨a5, rfl, rfl, rfl, w5⟩ := open_int Try.underlying25 (hval 5 25 v5 rfl rfl) h5
  obtain ⟨x5, rfl⟩ := u32_lit w5
  clear hA0 hval0
  refine (walk m0x0 m0x1 m0x2 m0x3 m0x4 m0x5 n0x0 n0x1 n0x2 n0x3 n0x4 n0x5 t0 w0 g1 w1 g2 w2 a3 w3 x4 x5 W).mono fun e W' ⟨he, bel⟩ => ?_
  subst he
  exact ⟨_, rfl, _, _, _, [], _, [], hW', trodAll_mk1 (shut_bool Try.underlying4 _), hB W' bel, rfl, bel.frame _, fun h => by cases h⟩

theorem over : Rows.craftAllRow.holds Try.pinned (OpenSpec.ofChange Rows.craftAllSpec) :=
  OpenClaim.holds_of_wide 3 Try.f3 rfl rfl rfl rfl rfl rfl rfl ⟨rfl, rfl, rfl, rfl, rfl⟩ rfl rfl rfl rfl rfl (by kernel_rfl) Try.func3 (by kernel_rfl)
    (of_decide_eq_true (by kernel_rfl)) (by unfold Func.isWrapper; first | (rw [if_pos (by decide +kernel)]; kernel_rfl) | (rw [if_neg (by decide +kernel)]; exact ⟨rfl, rfl⟩))
    (fun os started H enc _ => lifted os started H enc)

/-- THE STATEMENT -/
theorem proved : Rows.CraftAllSaid := over
#print axioms proved
end Go.Proofs.Ythfncbcnokkmiaa.craftAll
