/- CraftUnreachable: for any body and number, what could not be reached is told to who sent it, with its head and eight bytes; for longer bodies the document's example holds; no condition. -/
import Derived.Test.YthfncbcnokkmiaaCrGet
import Derived.Test.YthfncbcnokkmiaaCrOwn
import Derived.Test.YthfncbcnokkmiaaRows2
import Derived.Test.YthfncbcnokkmiaaLift
namespace Go.Proofs.Ythfncbcnokkmiaa.craftUnreachable
open Go.ChangeShapes Go.WideShapes Go.ChangeAt Go.RowKit
open Go.ChangeMaps (open_string shut_string)
set_option linter.unusedVariables false
theorem made (n : Nat) (z : Int) (hz : z = (n : Int)) (hn : n ≤ 1000000) : ∃ (Z : ByteArray) (M : Array Value), Z.size = n ∧
    (∀ u : World, (Instr.makeSlice 51 (.int .i64 z) (.int .i64 z)).run Try.prog u = .ok (.slice (some ⟨u.heap.size, 0, none⟩) n n) (u.alloc (.cells M 5))) ∧
    (∀ u : World, (convert 51 9 (.slice (some ⟨u.heap.size, 0, none⟩) n n)).run Try.prog (u.alloc (.cells M 5)) = .ok (.string Z) (u.alloc (.cells M 5))) :=
  ⟨zs n, madeCells #[.int .u8 0] n, zs_size n, fun u => make_z n z hz hn u, fun u => conv_zs u n⟩
theorem s1 : ((167772161 : UInt32).toNat : Int) = 167772161 := by simp
theorem s2 : ((167772162 : UInt32).toNat : Int) = 167772162 := by simp
def ipz (Z : ByteArray) : Ip := ⟨0, 0, false, false, 0, 64, 17, 167772161, 167772162, Z⟩
theorem ip0_v : ipV (ip0 17) = #[.int .i64 0, .int .i64 0, .bool false, .bool false, .int .i64 0, .int .i64 64, .int .i64 17, .int .u32 167772161, .int .u32 167772162, .string ⟨#[]⟩] := by
  unfold ipV ip0
  rw [s1, s2]
theorem ipz_v (Z : ByteArray) : ipV (ipz Z) = #[.int .i64 0, .int .i64 0, .bool false, .bool false, .int .i64 0, .int .i64 64, .int .i64 17, .int .u32 167772161, .int .u32 167772162, .string Z] := by
  unfold ipV ipz
  rw [s1, s2]
theorem ipt_v (Z : ByteArray) : ipV (ipz Z).told = #[.int .i64 0, .int .i64 0, .bool false, .bool false, .int .i64 0, .int .i64 64, .int .i64 1, .int .u32 167772162, .int .u32 167772161, .string ⟨#[]⟩] := by
  unfold ipV ipz Ip.told
  rw [s1, s2]
theorem et0_v : etV et0 = #[.int .u8 0, .int .u8 0, .int .u8 0, .int .u8 0, .int .u8 0, .int .u8 2, .int .u8 0, .int .u8 0, .int .u8 0, .int .u8 0, .int .u8 0, .int .u8 1, .int .i64 2048] := rfl
theorem etb_v : etV et0.back = #[.int .u8 0, .int .u8 0, .int .u8 0, .int .u8 0, .int .u8 0, .int .u8 1, .int .u8 0, .int .u8 0, .int .u8 0, .int .u8 0, .int .u8 0, .int .u8 2, .int .i64 2048] := rfl
theorem ipz_may (Z : ByteArray) (h1 : Z.size ≤ 40) (h2 : Z.size % 4 = 0) : (ipz Z).May := ⟨(ip0_may 17 (by omega)).1, (ip0_may 17 (by omega)).2.1, (ip0_may 17 (by omega)).2.2.1, (ip0_may 17 (by omega)).2.2.2.1, (ip0_may 17 (by omega)).2.2.2.2.1, (ip0_may 17 (by omega)).2.2.2.2.2.1, h1, h2⟩
theorem ipt_may (Z : ByteArray) : (ipz Z).told.May := by
  have h := ipBack_may _ (ip0_may 17 (by omega))
  exact ⟨h.1, h.2.1, ⟨show (0 : Int) ≤ 1 from by decide, show (1 : Int) ≤ 255 from by decide⟩, h.2.2.2.1, h.2.2.2.2.1, h.2.2.2.2.2.1, h.2.2.2.2.2.2.1, h.2.2.2.2.2.2.2⟩
theorem told_may : dgTold.MayI := ⟨⟨show (0 : Int) ≤ 3 from by decide, show (3 : Int) ≤ 255 from by decide⟩, ⟨show (0 : Int) ≤ 3 from by decide, show (3 : Int) ≤ 255 from by decide⟩⟩
/-- all that is called, by letters -/
theorem facts (body Z : ByteArray) (hb : body.size ≤ 500) (h1 : Z.size ≤ 40) (h2 : Z.size % 4 = 0) : ∃ (p D q t T : ByteArray) (n : Nat) (mb : Int),
    (∀ w : World, Calls Try.prog 19 #[.agg #[.int .u8 0, .int .u8 0, .int .u8 0, .int .u8 0, .int .u8 0, .int .u8 2, .int .u8 0, .int .u8 0, .int .u8 0, .int .u8 0, .int .u8 0, .int .u8 1, .int .i64 2048], .agg #[.int .i64 0, .int .i64 0, .bool false, .bool false, .int .i64 0, .int .i64 64, .int .i64 17, .int .u32 167772161, .int .u32 167772162, .string Z], .string body] w fun r w' => r = .returned (.string D) ∧ Below w.heap.size w w') ∧
    (∀ w : World, Calls Try.prog 23 #[.string D] w fun r w' => r = .returned (.tuple #[.agg #[.int .u8 0, .int .u8 0, .int .u8 0, .int .u8 0, .int .u8 0, .int .u8 1, .int .u8 0, .int .u8 0, .int .u8 0, .int .u8 0, .int .u8 0, .int .u8 2, .int .i64 2048], .string q, .int .i64 0]) ∧ Below w.heap.size w w') ∧
    (∀ w : World, Calls Try.prog 24 #[.string q] w fun r w' => r = .returned (.tuple #[.agg #[.int .i64 0, .int .i64 0, .bool false, .bool false, .int .i64 0, .int .i64 64, .int .i64 1, .int .u32 167772162, .int .u32 167772161, .string ⟨#[]⟩], .string t, .int .i64 0]) ∧ Below w.heap.size w w') ∧
    (∀ w : World, Calls Try.prog 29 #[.string t] w fun r w' => r = .returned (.tuple #[.agg #[.int .i64 0, .int .i64 0, .int .i64 3, .int .i64 3, .int .u32 0], .string T, .int .i64 0]) ∧ Below w.heap.size w w') ∧
    (∀ w : World, Calls Try.prog 30 #[.agg #[.int .i64 0, .int .i64 0, .bool false, .bool false, .int .i64 0, .int .i64 64, .int .i64 17, .int .u32 167772161, .int .u32 167772162, .string Z], .string body] w fun r w' => r = .returned (.tuple #[.string p, .int .i64 0]) ∧ Below w.heap.size w w') ∧
    wrap64 (20 + (Z.size : Int)) = 20 + (Z.size : Int) ∧ (if 8 < (body.size : Int) then 8 else (body.size : Int)) = mb ∧ 20 + (Z.size : Int) + mb = (n : Int) ∧ (n : Int) ≤ (p.size : Int) ∧ (0 : Int) ≤ (n : Int) ∧ p.extract 0 n = T := by
  have hz := ipz_may Z h1 h2
  have hp : ((ipz Z).put body).size = 20 + Z.size + body.size := put_size (ipz Z) body
  have hn : toldN (ipz Z) ((ipz Z).put body) = if 28 + Z.size < 20 + Z.size + body.size then 28 + Z.size else 20 + Z.size + body.size := by unfold toldN; rw [hp]; rfl
  have hle := toldN_le (ipz Z) ((ipz Z).put body)
  have hT : (((ipz Z).put body).extract 0 (toldN (ipz Z) ((ipz Z).put body))).size ≤ 100 := by
    rw [ByteArray.size_extract, hn]
    split <;> omega
  have ht := icPut_size dgTold (((ipz Z).put body).extract 0 (toldN (ipz Z) ((ipz Z).put body)))
  have hd := data_ok et0.back (ipz Z).told (dgTold.putI (((ipz Z).put body).extract 0 (toldN (ipz Z) ((ipz Z).put body)))) (ipt_may Z) (by omega)
  have hU : Unre et0 (ipz Z) body _ := ⟨_, _, _, _, _, .inl ⟨hz, by omega, rfl, rfl⟩, .inl ⟨told_may, by omega, rfl, rfl⟩, hd, by rw [if_pos rfl]⟩
  have a := fun w => crUnre hU (show Z.size ≤ 1000 from by omega) (by omega) w
  have b := fun w => crEth_get et0.back ((ipz Z).told.put (dgTold.putI (((ipz Z).put body).extract 0 (toldN (ipz Z) ((ipz Z).put body))))) w (by decide) (by decide) (by rw [put_size]; show 20 + 0 + _ ≤ _; omega)
  have c := fun w => back_self (ipz Z).told (dgTold.putI (((ipz Z).put body).extract 0 (toldN (ipz Z) ((ipz Z).put body)))) w (ipt_may Z) (by omega)
  have d := fun w => icGet_put dgTold (((ipz Z).put body).extract 0 (toldN (ipz Z) ((ipz Z).put body))) w told_may (by omega)
  have e := fun w => put_ok (ipz Z) body w hz (by omega)
  rw [et0_v, ipz_v] at a
  rw [etb_v] at b
  rw [ipt_v] at c
  rw [show dgV dgTold.icmp = #[.int .i64 0, .int .i64 0, .int .i64 3, .int .i64 3, .int .u32 0] from rfl] at d
  rw [ipz_v] at e
  generalize toldN (ipz Z) ((ipz Z).put body) = n at *
  refine ⟨_, _, _, _, _, n, if 8 < (body.size : Int) then 8 else (body.size : Int), a, b, c, d, e, ?_, rfl, ?_, ?_, ?_, rfl⟩
  · unfold wrap64; omega
  · rw [hn]
    split <;> split <;> omega
  · omega
  · omega
theorem place_k (v : Int) : ∃ (K m : Int) (n : Nat), (∀ w : World, Calls Try.prog 26 #[.int .i64 v, .int .i64 11] w fun r w' => r = .returned (.int .i64 K) ∧ w = w') ∧ wrap64 (4 * K) = m ∧ m = (n : Int) ∧ n ≤ 40 ∧ n % 4 = 0 := by
  have h0 := Int.emod_nonneg v (show (11 : Int) ≠ 0 from by decide)
  have h1 := Int.emod_lt_of_pos v (show (0 : Int) < 11 from by decide)
  refine ⟨v % 11, 4 * (v % 11), (4 * (v % 11)).toNat, fun w => place_any v 11 w (by decide) (by decide), by unfold wrap64; omega, by omega, by omega, by omega⟩
set_option maxRecDepth 100000 in
set_option maxHeartbeats 400000 in
theorem walk_long (body : ByteArray) (opts : Int) (w : World) (w2 : body.size ≤ 9223372036854775807) (hl : 500 < body.size) :
    Calls Try.prog 6 #[.string body, .int .i64 opts] w fun e w' => e = .returned (.bool true) ∧ Below w.heap.size w w' := by
  go_enter Try.func6, Try.ntmps6
  go_wp2_with fail
  refine (crAwake_any _).mono ?_
  rintro e w1 ⟨rfl, hb1⟩
  go_wp2_with fail
  go_ret
  exact ⟨rfl, hb1⟩
set_option maxRecDepth 100000 in
set_option maxHeartbeats 4000000 in
theorem walk_short (body : ByteArray) (opts : Int) (w : World) (h2 : body.size ≤ 500) :
    Calls Try.prog 6 #[.string body, .int .i64 opts] w fun e w' => e = .returned (.bool true) ∧ Below w.heap.size w w' := by
  obtain ⟨K, m, k, cK, hm, hmk, hk1, hk2⟩ := place_k opts
  obtain ⟨Z, M, hZ, mk, cv⟩ := made k m hmk (by omega)
  obtain ⟨p, D, q, t, T, n, mb, cu, ce, ci, cg, cp, hw1, hmb, hw2, kn, kn0, hT⟩ := facts body Z h2 (by omega) (by omega)
  have c0 := fun w => lawEth_0 w
  rw [et0_v] at c0
  have c1 := fun w => lawIP_0 17 w
  rw [ip0_v] at c1
  have ca := fun w => crAwake_any w
  have hZs : (Z.size : Int) ≤ 40 := by omega
  clear hmk hk1 hk2 hZ
  go_enter Try.func6, Try.ntmps6
  go_wp2_with fail
  refine (c1 _).mono ?_
  rintro e w1 ⟨rfl, hb1⟩
  have O1 := (show Hid _ from Own.new hb1 #[.int .i64 0, .int .i64 0, .bool false, .bool false, .int .i64 0, .int .i64 64, .int .i64 17, .int .u32 167772161, .int .u32 167772162, .string ⟨#[]⟩] 27)
  clear hb1 c1
  go_wp2_with fail
  refine (cK _).mono ?_
  rintro e w' ⟨rfl, rfl⟩
  have q1 := O1.out.q
  have f1 := O1.out.f
  have z1 := O1.out.z
  generalize w1.alloc _ = W1 at *
  have O2 := (show Hid (Own w _ w1.heap.size #[.int .i64 0, .int .i64 0, .bool false, .bool false, .int .i64 0, .int .i64 64, .int .i64 17, .int .u32 167772161, .int .u32 167772162, .string Z]) from (O1.out.set 9 (.string Z) (by decide)).alloc (.cells M 5))
  clear O1 cK
  go_upto_region 5 with fail
  clear q1 f1 z1 mk cv
  generalize (World.setCell W1 _ _).alloc _ = W2 at *
  have q2 := O2.out.q
  have z2 := O2.out.z
  have hcl := Cls.cell (w := W2)
  refine wp_region_calm (by kernel_rfl) (by kernel_rfl) (fun hne => ?_)
  repeat (go_big_quiet_step (first | (go_at_call 28; exact calm_of (c0 _)) | (go_at_call 19; exact calm_of (cu _))))
  refine wpQuiet_nil ?_
  rintro _ ⟨x, rfl⟩
  have O3 := (show Hid _ from O2.out.below x.bel)
  generalize x.val = W3 at *
  clear hne hcl q2 z2 O2 c0 cu
  go_wp2_with fail
  refine (ce _).mono ?_
  rintro e w4 ⟨rfl, hb4⟩
  have O4 := (show Hid _ from (O3.out.below hb4).alloc (.cells #[.int .u8 0, .int .u8 0, .int .u8 0, .int .u8 0, .int .u8 0, .int .u8 1, .int .u8 0, .int .u8 0, .int .u8 0, .int .u8 0, .int .u8 0, .int .u8 2, .int .i64 2048] 24))
  have E4 := (show Hid _ from Own.new (O3.out.below hb4).hb #[.int .u8 0, .int .u8 0, .int .u8 0, .int .u8 0, .int .u8 0, .int .u8 1, .int .u8 0, .int .u8 0, .int .u8 0, .int .u8 0, .int .u8 0, .int .u8 2, .int .i64 2048] 24)
  clear hb4 O3 ce
  go_wp2_with fail
  refine (ci _).mono ?_
  rintro e w5 ⟨rfl, hb5⟩
  have O5 := (show Hid _ from (O4.out.below hb5).alloc (.cells #[.int .i64 0, .int .i64 0, .bool false, .bool false, .int .i64 0, .int .i64 64, .int .i64 1, .int .u32 167772162, .int .u32 167772161, .string ⟨#[]⟩] 27))
  have E5 := (show Hid _ from (E4.out.below hb5).alloc (.cells #[.int .i64 0, .int .i64 0, .bool false, .bool false, .int .i64 0, .int .i64 64, .int .i64 1, .int .u32 167772162, .int .u32 167772161, .string ⟨#[]⟩] 27))
  have J5 := (show Hid _ from Own.new (O4.out.below hb5).hb #[.int .i64 0, .int .i64 0, .bool false, .bool false, .int .i64 0, .int .i64 64, .int .i64 1, .int .u32 167772162, .int .u32 167772161, .string ⟨#[]⟩] 27)
  clear hb5 O4 E4 ci
  go_wp2_with fail
  refine (cg _).mono ?_
  rintro e w6 ⟨rfl, hb6⟩
  have O6' := (show Hid _ from O5.out.below hb6)
  have O6 := (show Hid _ from O6'.out.alloc (.cells #[.int .i64 0, .int .i64 0, .int .i64 3, .int .i64 3, .int .u32 0] 56))
  have E6 := (show Hid _ from (E5.out.below hb6).alloc (.cells #[.int .i64 0, .int .i64 0, .int .i64 3, .int .i64 3, .int .u32 0] 56))
  have J6 := (show Hid _ from (J5.out.below hb6).alloc (.cells #[.int .i64 0, .int .i64 0, .int .i64 3, .int .i64 3, .int .u32 0] 56))
  have H6 := (show Hid _ from Own.new O6'.out.hb #[.int .i64 0, .int .i64 0, .int .i64 3, .int .i64 3, .int .u32 0] 56)
  have q6 := O6'.out.q
  have z6 := O6'.out.z
  clear hb6 O5 E5 J5 cg O6'
  go_wp2_with fail
  refine (cp _).mono ?_
  rintro e w7 ⟨rfl, hb7⟩
  have O7 := (show Hid _ from O6.out.below hb7)
  have q7 := O7.out.q
  have e7 := (E6.out.below hb7).q
  have j7 := (J6.out.below hb7).q
  have h7 := (H6.out.below hb7).q
  clear hb7 O6 E6 J6 H6 q6 z6 cp
  go_wp2_with fail
  refine (ca _).mono ?_
  rintro e w8 ⟨rfl, hb8⟩
  have B8 := (show Hid _ from below_after O7.out.hb hb8)
  clear hb8 O7 q7 e7 j7 h7
  go_wp2_with fail
  go_ret
  exact ⟨rfl, B8.out⟩

theorem walk (body : ByteArray) (w1 : body.size ≤ maxLen) (opts : Int) (w2 : (Lit.int .i64 opts).wf = true) (w : World) :
    Calls Try.prog 6 #[.string body, .int .i64 opts] w fun e w' => e = .returned (.bool true) ∧ Below w.heap.size w w' := by
  unfold maxLen at w1
  by_cases h2 : body.size ≤ 500
  case neg => exact walk_long body opts w (by omega) (by omega)
  exact walk_short body opts w h2

/-! ### THE ROW's STEP -/
set_option maxRecDepth 100000 in
theorem lifted (os : Os) (started : os.Started) (H : Type) (enc : TypeId × Value → H) :
    ReturnsInHanded {} Try.checked os 6 .any (Rows.craftUnreachableSpec.pre6 enc Try.prog Try.f6 Rows.craftUnreachableRow.domain false) (Rows.craftUnreachableSpec.post enc Try.prog Try.f6 false true false false) := by
  refine returnsInHanded_of_change (C := Try.checked) own started (by kernel_rfl) Try.func6
    (ChangeSpec.witness6 (enc := enc) (C := Try.checked) false ⟨#[], #[.string ByteArray.empty, .int .i64 0], []⟩ 8 (by kernel_rfl) (by kernel_rfl) (by kernel_rfl) (by kernel_rfl)) ?_
  intro W base args ds gs before hval0 hW hcnd _
  have hval : ∀ (j : Nat) t v, Try.f6.params[j]? = some t → args[j]? = some v → Value.okWide Try.prog W .any base t v := hval0
  have hW' := hW
  obtain ⟨p, q, hA0, hV, rfl, hfz, hnd⟩ := hW
  have hA : DataW.TrodAll enc Try.prog W 0 (fun _ => true) true Try.f6.params.toList args.toList ds p := hA0
  have hB := fun (W' : World) (bel : Below W.heap.size W W') => below_trodAll_of laidOut bel _ (by kernel_rfl) hA
  rw [Try.params6] at hA hval
  obtain ⟨v0, vs0, d0, ds0, p0, q0, hargs, rfl, rfl, h0, r0⟩ := trodAll_cons hA
  obtain ⟨v1, vs1, d1, ds1, p1, q1, rfl, rfl, rfl, h1, r1⟩ := trodAll_cons r0
  obtain ⟨rfl, rfl, rfl⟩ := trodAll_nil r1
  obtain rfl : args = #[v0, v1] := by cases args; simp_all
  obtain ⟨rfl, rfl⟩ := trodVars_none hV
  obtain ⟨a0, rfl, rfl, rfl, w0⟩ := open_string Try.underlying9 (hval 0 9 v0 rfl rfl) h0
  obtain ⟨a1, rfl, rfl, rfl, w1⟩ := open_int Try.underlying3 (hval 1 3 v1 rfl rfl) h1
  clear hA0 hval0
  refine (walk a0 w0 a1 w1 W).mono fun e W' ⟨he, bel⟩ => ?_
  subst he
  exact ⟨_, rfl, _, _, _, [], _, [], hW', trodAll_mk1 (shut_bool Try.underlying4 _), hB W' bel, rfl, bel.frame _, fun h => by cases h⟩

theorem over : Rows.craftUnreachableRow.holds Try.pinned (OpenSpec.ofChange Rows.craftUnreachableSpec) :=
  OpenClaim.holds_of_wide 6 Try.f6 rfl rfl rfl rfl rfl rfl rfl ⟨rfl, rfl, rfl, rfl, rfl⟩ rfl rfl rfl rfl rfl (by kernel_rfl) Try.func6 (by kernel_rfl)
    (of_decide_eq_true (by kernel_rfl)) (by unfold Func.isWrapper; first | (rw [if_pos (by decide +kernel)]; kernel_rfl) | (rw [if_neg (by decide +kernel)]; exact ⟨rfl, rfl⟩))
    (fun os started H enc _ => lifted os started H enc)

/-- THE STATEMENT -/
theorem proved : Rows.CraftUnreachableSaid := over
#print axioms proved
end Go.Proofs.Ythfncbcnokkmiaa.craftUnreachable
