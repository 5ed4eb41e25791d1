/- CidrDotted: for any four numbers, the address of their last bytes is told as these four with points between, and so is a set of it; no condition. -/
import Derived.Test.YtcnglfjnfllppaaDoorLiftTab
import Derived.Test.YtcnglfjnfllppaaDoorLift
import Derived.Test.YtcnglfjnfllppaaDoorTie
import Derived.Test.YtcnglfjnfllppaaDoorCards
import Derived.LaidMore
import Derived.Lay
import Derived.SevenTiedAt
import Derived.Stop.Joined
namespace Go.Proofs.YtcnglfjnfllppaaDoor.cidrDotted
open Go.ChangeShapes Go.WideShapes Go.ChangeAt Go.RowKit
set_option linter.unusedVariables false
set_option maxRecDepth 20000
theorem rcDigits (v : Nat) (hv : v ≤ 9223372036854775807) (w : World) :
    Calls Tryd.prog 22 #[.int .i64 (v : Int)] w fun e w' => e = .returned (.string (sL (Lib.decDigits v))) ∧ Below w.heap.size w w' := by
  have hd := fun w => rcDec v hv w
  generalize Lib.decDigits v = D at hd ⊢
  go_enter Tryd.func22, Tryd.ntmps22
  go_wp2_with (fail)
  refine (hd _).mono ?_
  rintro e w' ⟨rfl, hb⟩
  go_wp2
  go_ret
  exact ⟨rfl, hb⟩
theorem or_n32 (m n : Nat) (hm : m < 4294967296) (hn : n < 4294967296) : bits .or .u32 (m : Int) (n : Int) = ((m ||| n : Nat) : Int) := by
  have h : m ||| n < 4294967296 := Nat.or_lt_two_pow (n := 32) hm hn
  show IntKind.u32.wrap ((BitVec.ofInt 32 (m : Int) ||| BitVec.ofInt 32 (n : Int)).toNat : Nat) = _
  rw [BitVec.toNat_or, ofNat32s m hm, ofNat32s n hn]
  show ((m ||| n : Nat) : Int) % 4294967296 = _
  omega
theorem or_put (k a b : Nat) (h : b < 2 ^ k) : 2 ^ k * a ||| b = 2 ^ k * a + b := (Nat.two_pow_add_eq_or_of_lt h a).symm
theorem v_or (x y z u : Nat) (x1 : x < 256) (y1 : y < 256) (z1 : z < 256) (u1 : u < 256) :
    bits .or .u32 (bits .or .u32 (bits .or .u32 ((x : Int) % 4294967296 * 16777216 % 4294967296) ((y : Int) % 4294967296 * 65536 % 4294967296)) ((z : Int) % 4294967296 * 256 % 4294967296)) ((u : Int) % 4294967296) =
      ((UInt32.ofNat (x * 16777216 + y * 65536 + z * 256 + u)).toNat : Int) := by
  rw [show (x : Int) % 4294967296 * 16777216 % 4294967296 = ((2 ^ 24 * x : Nat) : Int) by omega, show (y : Int) % 4294967296 * 65536 % 4294967296 = ((2 ^ 16 * y : Nat) : Int) by omega,
    show (z : Int) % 4294967296 * 256 % 4294967296 = ((2 ^ 8 * z : Nat) : Int) by omega, show (u : Int) % 4294967296 = (u : Int) by omega]
  rw [or_n32 _ _ (by omega) (by omega), or_put 24 x (2 ^ 16 * y) (by omega), or_n32 _ _ (by omega) (by omega), show 2 ^ 24 * x + 2 ^ 16 * y = 2 ^ 16 * (2 ^ 8 * x + y) by omega, or_put 16 _ (2 ^ 8 * z) (by omega),
    or_n32 _ _ (by omega) (by omega), show 2 ^ 16 * (2 ^ 8 * x + y) + 2 ^ 8 * z = 2 ^ 8 * (2 ^ 16 * x + 2 ^ 8 * y + z) by omega, or_put 8 _ u (by omega)]
  rw [UInt32.toNat_ofNat', Nat.mod_eq_of_lt (by omega)]
  omega
theorem v_dot (x y z u : Nat) (x1 : x < 256) (y1 : y < 256) (z1 : z < 256) (u1 : u < 256) : dotA (UInt32.ofNat (x * 16777216 + y * 65536 + z * 256 + u)) = dotL x y z u := by
  unfold dotA
  rw [UInt32.toNat_ofNat', Nat.mod_eq_of_lt (by omega)]
  congr 1 <;> omega
theorem v_text (V : UInt32) : textL true [(V, 32)] = [33] ++ dotA V ++ [47, 51, 50] := by
  have h1 : checkL [(V, (32 : Int))] = true := by simp [checkL, badN]
  have h2 : cleanL [(V, (32 : Int))] = [(V, 32)] := by
    unfold cleanL
    rw [if_pos h1]
    show cleanUpto [(V, (32 : Int))] 1 = _
    unfold cleanUpto cleanUpto
    rw [if_neg (by simp [needless])]
    show [cutN (V, (32 : Int))] = _
    unfold cutN
    congr 2
    show V &&& msk 32 = V
    apply UInt32.toNat_inj.1
    rw [UInt32.toNat_and]
    have hV := V.toNat_lt
    show V.toNat &&& 4294967295 = V.toNat
    rw [show V.toNat &&& 4294967295 = V.toNat % 4294967296 from Nat.and_two_pow_sub_one_eq_mod _ 32, Nat.mod_eq_of_lt (by omega)]
  have d32 : Lib.decDigits 32 = [51, 50] := by simp [Lib.decDigits]
  unfold textL
  rw [h1, h2]
  show [33] ++ (dotA V ++ [47] ++ Lib.decDigits 32) = _
  rw [d32]
  simp
set_option maxHeartbeats 2000000 in
theorem walk (a : Int) (ha : (Lit.int .i64 a).wf = true) (b : Int) (hb : (Lit.int .i64 b).wf = true) (c : Int) (hc : (Lit.int .i64 c).wf = true) (d : Int) (hd : (Lit.int .i64 d).wf = true) (w : World) (hM : Mks w) (hT : Tb w) :
    Calls Tryd.prog 7 #[.int .i64 a, .int .i64 b, .int .i64 c, .int .i64 d] w fun e w' => e = .returned (.bool true) ∧ Below w.heap.size w w' := by
  obtain ⟨x, hx⟩ : ∃ x : Nat, a % 256 = (x : Int) := ⟨(a % 256).toNat, by omega⟩
  obtain ⟨y, hy⟩ : ∃ x : Nat, b % 256 = (x : Int) := ⟨(b % 256).toNat, by omega⟩
  obtain ⟨z, hz⟩ : ∃ x : Nat, c % 256 = (x : Int) := ⟨(c % 256).toNat, by omega⟩
  obtain ⟨u, hu⟩ : ∃ x : Nat, d % 256 = (x : Int) := ⟨(d % 256).toNat, by omega⟩
  have hp := fun (v : Int) (w : World) => place_any v 256 w (by omega) (by omega)
  have p1 := fun w => hp a w
  have p2 := fun w => hp b w
  have p3 := fun w => hp c w
  have p4 := fun w => hp d w
  rw [hx] at p1
  rw [hy] at p2
  rw [hz] at p3
  rw [hu] at p4
  have HM := hidB hM
  have HT := hidB hT
  have x1 : x < 256 := by omega
  have y1 : y < 256 := by omega
  have z1 : z < 256 := by omega
  have u1 : u < 256 := by omega
  clear hM hT hp hx hy hz hu ha hb hc hd
  go_enter Tryd.func7, Tryd.ntmps7
  go_wp2_with (fail)
  refine (p1 _).mono ?_
  rintro e w' ⟨rfl, rfl⟩
  go_wp2_with (fail)
  refine (p2 _).mono ?_
  rintro e w' ⟨rfl, rfl⟩
  go_wp2_with (fail)
  refine (p3 _).mono ?_
  rintro e w' ⟨rfl, rfl⟩
  go_wp2_with (fail)
  refine (p4 _).mono ?_
  rintro e w' ⟨rfl, rfl⟩
  clear p1 p2 p3 p4
  have hv := v_or x y z u x1 y1 z1 u1
  have hdot := v_dot x y z u x1 y1 z1 u1
  obtain ⟨V, hV⟩ : ∃ V : UInt32, V = UInt32.ofNat (x * 16777216 + y * 65536 + z * 256 + u) := ⟨_, rfl⟩
  rw [← hV] at hv hdot
  have D1 := fun w => rcDigits x (by omega) w
  have D2 := fun w => rcDigits y (by omega) w
  have D3 := fun w => rcDigits z (by omega) w
  have D4 := fun w => rcDigits u (by omega) w
  have l1 := dec_le3 x x1
  have l2 := dec_le3 y y1
  have l3 := dec_le3 z z1
  have l4 := dec_le3 u u1
  have hlen := dotA_len V
  have htx := v_text V
  have hT0 := fun (W : World) (hT : Tb W) => ciDotted V W hT
  have hT1 := fun (W : World) (p : Option Addr) (c : Nat) (hM : Mks W) (hT : Tb W) (hN : Nets W p c [(V, 32)]) => ciText true p c [(V, 32)] W hM hT hN (by simp)
  simp only [List.length_cons, List.length_nil, Nat.zero_add] at hT1
  rw [htx] at hT1
  rw [hdot] at hlen hT0 hT1
  unfold dotL at hlen hT0 hT1
  generalize Lib.decDigits x = X at *
  generalize Lib.decDigits y = Y at *
  generalize Lib.decDigits z = Z at *
  generalize Lib.decDigits u = U at *
  have ad1 := fun w => addL (P := Tryd.prog) X [46] (by omega) (by simp) w
  have ad2 := fun w => addL (P := Tryd.prog) (X ++ [46]) Y (by simp; omega) (by omega) w
  have ad3 := fun w => addL (P := Tryd.prog) (X ++ [46] ++ Y) [46] (by simp; omega) (by simp) w
  have ad4 := fun w => addL (P := Tryd.prog) (X ++ [46] ++ Y ++ [46]) Z (by simp; omega) (by omega) w
  have ad5 := fun w => addL (P := Tryd.prog) (X ++ [46] ++ Y ++ [46] ++ Z) [46] (by simp; omega) (by simp) w
  have ad6 := fun w => addL (P := Tryd.prog) (X ++ [46] ++ Y ++ [46] ++ Z ++ [46]) U (by simp; omega) (by omega) w
  generalize X ++ [46] ++ Y ++ [46] ++ Z ++ [46] ++ U = T6 at ad6 hlen hT0 hT1
  generalize X ++ [46] ++ Y ++ [46] ++ Z ++ [46] = T5 at ad5 ad6
  generalize X ++ [46] ++ Y ++ [46] ++ Z = T4 at ad4 ad5
  generalize X ++ [46] ++ Y ++ [46] = T3 at ad3 ad4
  generalize X ++ [46] ++ Y = T2 at ad2 ad3
  generalize X ++ [46] = T1 at ad1 ad2
  have e46 : sL [46] = ⟨#[46]⟩ := rfl
  rw [e46] at ad1 ad3 ad5
  have ad7 := fun w => addL (P := Tryd.prog) [33] T6 (by simp) (by omega) w
  have ad8 := fun w => addL (P := Tryd.prog) ([33] ++ T6) [47, 51, 50] (by simp; omega) (by simp) w
  generalize [33] ++ T6 ++ [47, 51, 50] = T8 at ad8 hT1
  generalize [33] ++ T6 = T7 at ad7 ad8
  have e33 : sL [33] = ⟨#[33]⟩ := rfl
  have e32 : sL [47, 51, 50] = ⟨#[47, 51, 50]⟩ := rfl
  rw [e33] at ad7
  rw [e32] at ad8
  clear hdot htx l1 l2 l3 l4 hlen e46 e33 e32 x1 y1 z1 u1 hV
  go_upto_region 4 with fail
  clear hv
  go_wp2_with (fail)
  refine (D1 _).mono ?_
  rintro e w1 ⟨rfl, hb1⟩
  have H1 := hidB hb1; clear hb1
  go_wp2_with (fail)
  refine (D2 _).mono ?_
  rintro e w2 ⟨rfl, hb2⟩
  have H2 := hidB (H1.out.trans (hb2.mono H1.out.size)); clear hb2
  go_wp2_with (fail)
  refine (D3 _).mono ?_
  rintro e w3 ⟨rfl, hb3⟩
  have H3 := hidB (H2.out.trans (hb3.mono H2.out.size)); clear hb3
  go_wp2_with (fail)
  refine (D4 _).mono ?_
  rintro e w4 ⟨rfl, hb4⟩
  have H4 := hidB (H3.out.trans (hb4.mono H3.out.size)); clear hb4
  have hT0 := hT0 w4 (HT.out.below H4.out)
  go_wp2_with (fail)
  refine hT0.mono ?_
  rintro e w5 ⟨rfl, hb5⟩
  have H5 := hidB (H4.out.trans (hb5.mono H4.out.size)); clear hb5 hT0
  have hl := lit_net w5 (V.toNat : Int) 32
  have hal := below_more (Below.refl w5.heap.size w5) (Nat.le_refl _) (.cells #[.int .u32 (V.toNat : Int), .int .i64 32] 35)
  have H6 := hidB (H5.out.trans (hal.mono H5.out.size))
  have hN : Nets (w5.alloc (.cells #[.int .u32 (V.toNat : Int), .int .i64 32] 35)) (some ⟨w5.heap.size, 0, none⟩) 1 [(V, 32)] := by
    refine ⟨Nat.le_refl _, .inr ⟨_, _, rfl, by simp, fun j n hj => ?_⟩⟩
    match j, hj with
    | 0, hj => cases hj; exact ⟨by simp, by simp⟩
    | j + 1, hj => cases hj
  have hT1 := hT1 _ _ _ (HM.out.below H6.out) (HT.out.below H6.out) hN
  clear hN hal
  go_wp2_with (fail)
  refine hT1.mono ?_
  rintro e w7 ⟨rfl, hb7⟩
  have H7 := hidB (H6.out.trans (hb7.mono H6.out.size)); clear hb7 hT1
  have hA := ciAwake w7 (HM.out.below H7.out) (HT.out.below H7.out)
  go_wp2_with (fail)
  refine hA.mono ?_
  rintro e w8 ⟨rfl, hb8⟩
  have H8 := hidB (H7.out.trans (hb8.mono H7.out.size)); clear hb8 hA
  go_wp2_with (fail)
  go_ret
  exact ⟨rfl, H8.out⟩
/-! ### THE ROW's STEP: variables laid, a tied card -/
set_option maxRecDepth 100000 in
theorem lifted (os : Os) (started : os.Started) (H : Type) (enc : TypeId × Value → H) :
    ReturnsInHanded {} Tryd.checked os 7 .any (fun w args => (Rows.cidrDottedSpec.pre enc Tryd.prog Tryd.f7 Rows.cidrDottedRow.domain false w args ∧ laidMetH Tryd.prog Rows.cidrDottedRow.laid w) ∧ sizedMet enc Tryd.prog Tryd.f7 (OpenSpec.ofChange Rows.cidrDottedSpec) false w args)
      (Rows.cidrDottedSpec.post enc Tryd.prog Tryd.f7 false true false false) := by
  refine returnsInHanded_of_change_and (C := Tryd.checked) (X := fun w _ => laidMetH Tryd.prog Rows.cidrDottedRow.laid w) (fun _ _ _ hh h => h.of_heap hh) own started (by kernel_rfl) Tryd.func7
    (ChangeSpec.witness_shaped (enc := enc) (C := Tryd.checked) (os := os) (X := fun w _ => laidMetH Tryd.prog Rows.cidrDottedRow.laid w) false (World.laidAll Tryd.prog os Rows.cidrDottedRow.laid) #[.int .i64 0, .int .i64 0, .int .i64 0, .int .i64 0] 8 (World.laidAll_os _ _ _)
      (World.shaped_of_ZipB (by kernel_rfl) (by kernel_rfl)) (by kernel_rfl) (by kernel_rfl) (by kernel_rfl)
      (by rw [MakeChecks.laidMetH_plain _ _ _ (by kernel_rfl)]; exact laidMet_laidAll _ (by kernel_rfl) (by kernel_rfl))) ?_
  intro W base args ds gs before hval0 hW _ _ hL _
  have hval : ∀ (j : Nat) t v, Tryd.f7.params[j]? = some t → args[j]? = some v → Value.okWide Tryd.prog W .any base t v := hval0
  have hW' := hW
  obtain ⟨p, q, hA0, hV, rfl, hfz, hnd⟩ := hW
  have hA : DataW.TrodAll enc Tryd.prog W 0 (fun _ => true) true Tryd.f7.params.toList args.toList ds p := hA0
  have hB := fun (W' : World) (bel : Below W.heap.size W W') => below_trodAll_of laidOut bel _ (by kernel_rfl) hA
  rw [Tryd.params7] at hA hval
  obtain ⟨v0, vs0, d0, ds0, p0, q0, hargs, rfl, rfl, h0, r0⟩ := trodAll_cons hA
  obtain ⟨v1, vs1, d1, ds1, p1, q1, rfl, rfl, rfl, h1, r1⟩ := trodAll_cons r0
  obtain ⟨v2, vs2, d2, ds2, p2, q2, rfl, rfl, rfl, h2, r2⟩ := trodAll_cons r1
  obtain ⟨v3, vs3, d3, ds3, p3, q3, rfl, rfl, rfl, h3, r3⟩ := trodAll_cons r2
  obtain ⟨rfl, rfl, rfl⟩ := trodAll_nil r3
  obtain rfl : args = #[v0, v1, v2, v3] := by cases args; simp_all
  obtain ⟨rfl, rfl⟩ := trodVars_none hV
  obtain ⟨a0, rfl, rfl, rfl, w0⟩ := open_int Tryd.underlying3 (hval 0 3 v0 rfl rfl) h0
  obtain ⟨a1, rfl, rfl, rfl, w1⟩ := open_int Tryd.underlying3 (hval 1 3 v1 rfl rfl) h1
  obtain ⟨a2, rfl, rfl, rfl, w2⟩ := open_int Tryd.underlying3 (hval 2 3 v2 rfl rfl) h2
  obtain ⟨a3, rfl, rfl, rfl, w3⟩ := open_int Tryd.underlying3 (hval 3 3 v3 rfl rfl) h3
  clear hA0 hval0
  refine (walk a0 w0 a1 w1 a2 w2 a3 w3 W (mks_of hL) (tab_pow hL)).mono fun e W' ⟨he, bel⟩ => ?_
  subst he
  exact ⟨_, rfl, _, _, _, [], _, [], hW', trodAll_mk1 (shut_bool Tryd.underlying4 _), hB W' bel, rfl, bel.frame _, fun h => by cases h⟩

theorem over : Rows.CidrDottedSaid :=
  OpenClaim.holds_of_wide 7 Tryd.f7 rfl rfl rfl rfl rfl rfl rfl ⟨rfl, rfl, rfl, rfl, rfl⟩ rfl rfl rfl rfl rfl (by kernel_rfl) Tryd.func7 (by kernel_rfl)
    (of_decide_eq_true (by kernel_rfl)) (by unfold Func.isWrapper; first | (rw [if_pos (by decide +kernel)]; kernel_rfl) | (rw [if_neg (by decide +kernel)]; exact ⟨rfl, rfl⟩))
    (fun os started H enc _ => lifted os started H enc)

/-- THE STATEMENT: the card -/
theorem proved : Rows.CidrDottedCardSaid :=
  Claim7.holds_tied_plain_at .later [] [.data, .data, .data, .data] true (true, "5e3d923d2ccd30a7cb2f00fb2e251b9ea31824a73c9dcfd24af9987084c360a6") false over (fun _ h => by cases h) (by kernel_rfl) (fun _ h => by cases h) cidrDotted_row_tie rfl ⟨rfl, rfl⟩ (by kernel_rfl) rfl
    (fun f fn hf hfn => by
      obtain rfl : f = 7 := Option.some.inj ((show Tryd.prog.funcNamed "rampart/rampartlaw09.CidrDotted" = some 7 by kernel_rfl).symm.trans hf) |>.symm
      obtain rfl : fn = Tryd.f7 := (Option.some.inj (Tryd.func7.symm.trans hfn)).symm
      exact ⟨by kernel_rfl, fun j t ht => by
        rw [Tryd.params7] at ht
        have hm : t ∈ [3, 3, 3, 3] := by simpa using Array.mem_of_getElem? ht
        have hall : ([3, 3, 3, 3].all fun u => !Tryd.prog.wantsStandIn u) = true := by kernel_rfl
        exact (show Tryd.prog.wantsStandIn t = false by simpa using List.all_eq_true.1 hall t hm)⟩)
    (by kernel_rfl)
#print axioms proved
end Go.Proofs.YtcnglfjnfllppaaDoor.cidrDotted
