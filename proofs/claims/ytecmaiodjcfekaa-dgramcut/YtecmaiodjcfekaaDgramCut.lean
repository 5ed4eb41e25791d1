/- DgramCut: for any body and numbers, what is put as UDP is none when it is cut, and none with bytes behind it; for longer bodies the document's example holds; no condition. -/
import Derived.Test.YtecmaiodjcfekaaDgs5
import Derived.Test.YtecmaiodjcfekaaLift
namespace Go.Proofs.Ytecmaiodjcfekaa.dgramCut
open Go.ChangeShapes Go.WideShapes Go.ChangeAt Go.RowKit
open Go.ChangeMaps (open_string shut_string)
set_option linter.unusedVariables false

def exH : Dg := ⟨9, 53, 0, 0, 0⟩
theorem exH_may : exH.MayU := ⟨⟨by decide, by decide⟩, ⟨by decide, by decide⟩⟩
set_option maxRecDepth 100000 in
set_option maxHeartbeats 400000 in
theorem walk_long (body : ByteArray) (cut more : Int) (w : World) (w2 : body.size ≤ 9223372036854775807) (hl : 500 < body.size) :
    Calls Try.prog 6 #[.string body, .int .i64 cut, .int .i64 more] w fun e w' => e = .returned (.bool true) ∧ Below w.heap.size w w' := by
  go_enter Try.func6, Try.ntmps6
  go_wp2_with fail
  refine (dgAwake_any _).mono ?_
  rintro e w1 ⟨rfl, hb1⟩
  go_wp2_with fail
  go_ret
  exact ⟨rfl, hb1⟩
/-- n bytes of 0, made and read as a text: letters alone -/
theorem made (n : Nat) (hn : n ≤ 1000000) : ∃ Z : ByteArray, Z.size = n ∧ Z = zs n := ⟨_, zs_size n, rfl⟩
set_option maxRecDepth 100000 in
set_option maxHeartbeats 2000000 in
theorem walk_core (body : ByteArray) (cut more : Int) (w : World) (h2 : body.size ≤ 500) (p t u Z : ByteArray) (k M : Nat) (c : Int)
    (cp : ∀ w : World, Calls Try.prog 8 #[.int .u32 1, .int .u32 2, .agg #[.int .i64 9, .int .i64 53, .int .i64 0, .int .i64 0, .int .u32 0], .string body] w fun e w' => e = .returned (.tuple #[.string p, .int .i64 0]) ∧ Below w.heap.size w w')
    (h8 : ¬ (p.size : Int) < 8) (hps : (p.size : Int) ≤ 508)
    (cK : ∀ w : World, Calls Try.prog 17 #[.int .i64 cut, .int .i64 (p.size : Int)] w fun e w' => e = .returned (.int .i64 (k : Int)) ∧ w = w')
    (kk : (k : Int) ≤ (p.size : Int)) (et : p.extract 0 k = t)
    (ct : ∀ w : World, Calls Try.prog 12 #[.int .u32 1, .int .u32 2, .string t] w fun e w' => e = .returned (.tuple #[.agg dgZ, .string ⟨#[]⟩, .int .i64 c]) ∧ Below w.heap.size w w')
    (cM : ∀ (w : World) , Calls Try.prog 17 #[.int .i64 more, .int .i64 9] w fun e w' => e = .returned (.int .i64 (more % 9)) ∧ w = w')
    (hM : wrap64 (1 + more % 9) = (M : Int)) (hM2 : IntKind.i64.wrap (1 + more % 9) = (M : Int))
    (hmk : ∀ u : World, (Instr.makeSlice 36 (.int .i64 (M : Int)) (.int .i64 (M : Int))).run Try.prog u = .ok (.slice (some ⟨u.heap.size, 0, none⟩) M M) (u.alloc (.cells (madeCells #[.int .u8 0] M) 5)))
    (hcv : ∀ u : World, (convert 36 9 (.slice (some ⟨u.heap.size, 0, none⟩) M M)).run Try.prog (u.alloc (.cells (madeCells #[.int .u8 0] M) 5)) = .ok (.string Z) (u.alloc (.cells (madeCells #[.int .u8 0] M) 5)))
    (hZ : (Z.size : Int) ≤ 100) (eu : p ++ Z = u)
    (cu : ∀ w : World, Calls Try.prog 12 #[.int .u32 1, .int .u32 2, .string u] w fun e w' => e = .returned (.tuple #[.agg dgZ, .string ⟨#[]⟩, .int .i64 3]) ∧ Below w.heap.size w w')
    (hc : (k : Int) < 8 ∧ c = 2 ∨ ¬ (k : Int) < 8 ∧ c = 3) :
    Calls Try.prog 6 #[.string body, .int .i64 cut, .int .i64 more] w fun e w' => e = .returned (.bool true) ∧ Below w.heap.size w w' := by
  have k0 : (0 : Int) ≤ (k : Int) := by omega
  rcases hc with ⟨h7, rfl⟩ | ⟨h7, rfl⟩
  all_goals
    go_enter Try.func6, Try.ntmps6
    go_wp2_with fail
    refine (cp _).mono ?_
    rintro e w1 ⟨rfl, hb1⟩
    have B1 := (show Hid _ from hb1)
    clear hb1 cp
    go_wp2_with fail
    refine (cK _).mono ?_
    rintro e w' ⟨rfl, rfl⟩
    go_wp2_with fail
    refine (ct _).mono ?_
    rintro e w2 ⟨rfl, hb2⟩
    have B2 := (show Hid _ from below_after (below_after B1.out hb2) (below1 w2 (.cells dgZ 24)))
    clear hb2 B1 ct
    go_wp2_with fail
    refine (cM _).mono ?_
    rintro e w' ⟨rfl, rfl⟩
    generalize w2.alloc _ = W2 at *
    generalize more % 9 = m9 at *
    go_wp2_with fail
    refine (cu _).mono ?_
    rintro e w3 ⟨rfl, hb3⟩
    have B3 := (show Hid _ from below_after (below_after (below_after B2.out (below1 W2 (.cells (madeCells #[.int .u8 0] M) 5))) hb3) (below1 w3 (.cells dgZ 24)))
    clear hb3 B2 cu hmk hcv
    go_wp2_with fail
    refine (dgAwake_any _).mono ?_
    rintro e w4 ⟨rfl, hb4⟩
    have B4 := (show Hid _ from below_after B3.out hb4)
    clear hb4 B3
    go_wp2_with fail
    go_ret
    exact ⟨rfl, B4.out⟩
theorem walk_short (body : ByteArray) (cut more : Int) (w : World) (h2 : body.size ≤ 500) :
    Calls Try.prog 6 #[.string body, .int .i64 cut, .int .i64 more] w fun e w' => e = .returned (.bool true) ∧ Below w.heap.size w w' := by
  have hsz := udPut_size exH 1 2 body
  have hc0 := Int.emod_nonneg cut (show ((8 + body.size : Nat) : Int) ≠ 0 from by omega)
  have hc1 := Int.emod_lt_of_pos cut (show 0 < ((8 + body.size : Nat) : Int) from by omega)
  have hm0 := Int.emod_nonneg more (show (9 : Int) ≠ 0 from by decide)
  have hm1 := Int.emod_lt_of_pos more (show (0 : Int) < 9 from by decide)
  obtain ⟨k, hk⟩ := Int.eq_ofNat_of_zero_le hc0
  obtain ⟨m, hm⟩ := Int.eq_ofNat_of_zero_le hm0
  have hcut := udPut_cut exH 1 2 body exH_may (by omega) k (by omega)
  have hmore := udPut_more exH 1 2 body exH_may (by omega) (zs (1 + m)).data.toList (by rw [toList_length, zs_size]; omega)
  have et : ((exH.putU 1 2 body).extract 0 k).data.toList = (exH.putU 1 2 body).data.toList.take k := by rw [ext_list, List.drop_zero]
  have hts : ((exH.putU 1 2 body).extract 0 k).size ≤ 508 := by rw [← toList_length, et, List.length_take, toList_length, hsz]; omega
  refine walk_core body cut more w h2 (exH.putU 1 2 body) _ _ (zs (1 + m)) k (1 + m) (if k < 8 then 2 else 3) (fun w => putUDP_of exH 1 2 body _ _ w (fun w => udPut_ok exH 1 2 body w exH_may (by omega))) (by omega) (by omega)
    (fun w => ?_) (by omega) rfl (fun w => udGet_wrong _ 1 2 _ w (by omega) (by rw [et]; exact hcut) (by split <;> decide))
    (fun w => place_any more 9 w (by decide) (by decide)) ?_ ?_ (fun u => make_z (1 + m) _ rfl (by omega) u) (fun u => conv_zs u (1 + m)) (by rw [zs_size]; omega) rfl
    (fun w => udGet_wrong _ 1 2 3 w (by rw [ByteArray.size_append, zs_size]; omega) (by rw [toList_append]; exact hmore) (by decide)) ?_
  · have := place_any cut ((exH.putU 1 2 body).size : Int) w (by omega) (by omega)
    rw [hsz, hk] at this
    rw [hsz]
    exact this
  · rw [hm]; unfold wrap64; omega
  · rw [hm]
    have := Pl.wraps_i64 (1 + (m : Int)) (by omega) (by omega)
    rw [this]
    omega
  · by_cases h : k < 8
    · exact .inl ⟨by omega, by rw [if_pos h]⟩
    · exact .inr ⟨by omega, by rw [if_neg h]⟩

theorem walk (body : ByteArray) (w1 : body.size ≤ maxLen) (cut : Int) (w2 : (Lit.int .i64 cut).wf = true) (more : Int) (w3 : (Lit.int .i64 more).wf = true) (w : World) :
    Calls Try.prog 6 #[.string body, .int .i64 cut, .int .i64 more] w fun e w' => e = .returned (.bool true) ∧ Below w.heap.size w w' := by
  unfold maxLen at w1
  by_cases h2 : body.size ≤ 500
  case neg => exact walk_long body cut more w (by omega) (by omega)
  exact walk_short body cut more w h2

/-! ### THE ROW's STEP -/
set_option maxRecDepth 100000 in
theorem lifted (os : Os) (started : os.Started) (H : Type) (enc : TypeId × Value → H) :
    ReturnsInHanded {} Try.checked os 6 .any (Rows.dgramCutSpec.pre6 enc Try.prog Try.f6 Rows.dgramCutRow.domain false) (Rows.dgramCutSpec.post enc Try.prog Try.f6 false true false false) := by
  refine returnsInHanded_of_change (C := Try.checked) own started (by kernel_rfl) Try.func6
    (ChangeSpec.witness6 (enc := enc) (C := Try.checked) false ⟨#[], #[.string ByteArray.empty, .int .i64 0, .int .i64 0], []⟩ 8 (by kernel_rfl) (by kernel_rfl) (by kernel_rfl) (by kernel_rfl)) ?_
  intro W base args ds gs before hval0 hW hcnd _
  have hval : ∀ (j : Nat) t v, Try.f6.params[j]? = some t → args[j]? = some v → Value.okWide Try.prog W .any base t v := hval0
  have hW' := hW
  obtain ⟨p, q, hA0, hV, rfl, hfz, hnd⟩ := hW
  have hA : DataW.TrodAll enc Try.prog W 0 (fun _ => true) true Try.f6.params.toList args.toList ds p := hA0
  have hB := fun (W' : World) (bel : Below W.heap.size W W') => below_trodAll_of laidOut bel _ (by kernel_rfl) hA
  rw [Try.params6] at hA hval
  obtain ⟨v0, vs0, d0, ds0, p0, q0, hargs, rfl, rfl, h0, r0⟩ := trodAll_cons hA
  obtain ⟨v1, vs1, d1, ds1, p1, q1, rfl, rfl, rfl, h1, r1⟩ := trodAll_cons r0
  obtain ⟨v2, vs2, d2, ds2, p2, q2, rfl, rfl, rfl, h2, r2⟩ := trodAll_cons r1
  obtain ⟨rfl, rfl, rfl⟩ := trodAll_nil r2
  obtain rfl : args = #[v0, v1, v2] := by cases args; simp_all
  obtain ⟨rfl, rfl⟩ := trodVars_none hV
  obtain ⟨a0, rfl, rfl, rfl, w0⟩ := open_string Try.underlying9 (hval 0 9 v0 rfl rfl) h0
  obtain ⟨a1, rfl, rfl, rfl, w1⟩ := open_int Try.underlying3 (hval 1 3 v1 rfl rfl) h1
  obtain ⟨a2, rfl, rfl, rfl, w2⟩ := open_int Try.underlying3 (hval 2 3 v2 rfl rfl) h2
  clear hA0 hval0
  refine (walk a0 w0 a1 w1 a2 w2 W).mono fun e W' ⟨he, bel⟩ => ?_
  subst he
  exact ⟨_, rfl, _, _, _, [], _, [], hW', trodAll_mk1 (shut_bool Try.underlying4 _), hB W' bel, rfl, bel.frame _, fun h => by cases h⟩

theorem over : Rows.dgramCutRow.holds Try.pinned (OpenSpec.ofChange Rows.dgramCutSpec) :=
  OpenClaim.holds_of_wide 6 Try.f6 rfl rfl rfl rfl rfl rfl rfl ⟨rfl, rfl, rfl, rfl, rfl⟩ rfl rfl rfl rfl rfl (by kernel_rfl) Try.func6 (by kernel_rfl)
    (of_decide_eq_true (by kernel_rfl)) (by unfold Func.isWrapper; first | (rw [if_pos (by decide +kernel)]; kernel_rfl) | (rw [if_neg (by decide +kernel)]; exact ⟨rfl, rfl⟩))
    (fun os started H enc _ => lifted os started H enc)

/-- THE STATEMENT -/
theorem proved : Rows.DgramCutSaid := over
#print axioms proved
end Go.Proofs.Ytecmaiodjcfekaa.dgramCut
