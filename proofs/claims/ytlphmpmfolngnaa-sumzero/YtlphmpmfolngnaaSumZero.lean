/- SumZero: for any text of at most 1000 bytes and any number, with its sum in place of two bytes 0 at an even place the sum of the text is 0, and the sum does not hang on the cut; for a longer text the document's example holds; no condition. -/
import Derived.Test.YtlphmpmfolngnaaAwake
import Derived.WalkKit
import Derived.ProofKit
import Derived.OpenShut
import Derived.ShutString
import Derived.Deep.QuietTactic
import Derived.BigQuiet
namespace Go.Proofs.Ytlphmpmfolngnaa.sumZero
open Go.ChangeShapes Go.WideShapes Go.ChangeAt Go.RowKit
open Go.ChangeMaps (open_string shut_string)
set_option linter.unusedVariables false      -- a walk need not use every 'w<i>' (that an integer argument fits its kind)

theorem own : ownKnob Try.prog.godebug = none := by kernel_rfl

theorem of_three (b : Nat) (x y z : ByteArray) (w : World) (r : Int) (h0 : w.cell? ⟨b, 0, none⟩ = some (.string x)) (h1 : w.cell? ⟨b, 1, none⟩ = some (.string y)) (h2 : w.cell? ⟨b, 2, none⟩ = some (.string z))
    (hs : x.size + y.size + z.size ≤ 1000000) (hr : 65535 - Pl.fld (Pl.wt true (x.data.toList ++ (y.data.toList ++ z.data.toList))) = r) :
    Calls Try.prog 9 #[.slice (some ⟨b, 0, none⟩) 3 3] w fun e w' => e = .returned (.int .i64 r) ∧ w = w' := by
  have hc : Pl.cat [x, y, z] = x.data.toList ++ (y.data.toList ++ z.data.toList) := by simp [Pl.cat]
  have hl : (Pl.cat [x, y, z]).length ≤ 1000000 := by
    rw [hc]
    simp only [List.length_append, Array.length_toList]
    show x.size + (y.size + z.size) ≤ _
    omega
  have h := of_any b 0 3 [x, y, z] w hl (by simp) (fun i hi => by
    match i, hi with
    | 0, _ => exact h0
    | 1, _ => exact h1
    | 2, _ => exact h2)
  rw [hc, hr] at h
  exact h
theorem of_one (b : Nat) (x : ByteArray) (w : World) (r : Int) (h0 : w.cell? ⟨b, 0, none⟩ = some (.string x)) (hs : x.size ≤ 1000000) (hr : 65535 - Pl.fld (Pl.wt true x.data.toList) = r) :
    Calls Try.prog 9 #[.slice (some ⟨b, 0, none⟩) 1 1] w fun e w' => e = .returned (.int .i64 r) ∧ w = w' := by
  have hc : Pl.cat [x] = x.data.toList := Pl.cat_one x
  have hl : (Pl.cat [x]).length ≤ 1000000 := by
    rw [hc]
    exact hs
  have h := of_any b 0 1 [x] w hl (by simp) (fun i hi => by
    match i, hi with
    | 0, _ => exact h0)
  rw [hc, hr] at h
  exact h
theorem wt_mid (A B : List UInt8) (hA : A.length % 2 = 0) (x y : UInt8) : Pl.wt true (A ++ ([x, y] ++ B)) = Pl.wt true A + Pl.wt true B + (256 * (x.toNat : Int) + (y.toNat : Int)) := by
  have hp : Pl.par true A = true := by rw [Pl.par_length, if_pos hA]
  have h1 : Pl.wt true ([x, y] ++ B) = 256 * (x.toNat : Int) + ((y.toNat : Int) + Pl.wt true B) := rfl
  rw [Pl.wt_append, hp, h1]
  omega
theorem fld_own (V : Int) (h : 0 ≤ V) : Pl.fld (V + (65535 - Pl.fld V)) = 65535 := by
  unfold Pl.fld
  by_cases h0 : V = 0
  · subst h0
    rfl
  · rw [if_neg h0, if_neg (by omega)]
    omega
theorem big2 (n : Int) (h0 : 0 ≤ n) (h1 : n ≤ 65535) : ∃ x y : UInt8, Pl.bigL n 2 = [x, y] ∧ 256 * (x.toNat : Int) + (y.toNat : Int) = n := by
  refine ⟨UInt8.ofNat (n / 256 % 256).toNat, UInt8.ofNat (n % 256).toNat, rfl, ?_⟩
  rw [UInt8.toNat_ofNat', UInt8.toNat_ofNat', Nat.mod_eq_of_lt (by omega), Nat.mod_eq_of_lt (by omega)]
  omega
/-- what is taken of the text, all by numbers -/
theorem parts (s : ByteArray) (k : Nat) (hk : k ≤ s.size) (h2 : k % 2 = 0) (hs : s.size ≤ 1000) :
    ∃ n : Int, 0 ≤ n ∧ n ≤ 65535 ∧ Hid (65535 - Pl.fld (Pl.wt true ((s.extract 0 k).data.toList ++ ([0, 0] ++ (s.extract k s.size).data.toList))) = n) ∧
      Hid (65535 - Pl.fld (Pl.wt true ((s.extract 0 k).data.toList ++ (Pl.bigL n 2 ++ (s.extract k s.size).data.toList))) = 0) := by
  have hA : (s.extract 0 k).data.toList.length % 2 = 0 := by
    have : (s.extract 0 k).data.toList.length = k := by
      show (s.extract 0 k).size = k
      simp
      omega
    omega
  generalize (s.extract 0 k).data.toList = A at hA ⊢
  generalize (s.extract k s.size).data.toList = B
  have hV := (Pl.wt_bd true A).1
  have hB := (Pl.wt_bd true B).1
  have e0 : Pl.wt true (A ++ ([0, 0] ++ B)) = Pl.wt true A + Pl.wt true B := by
    rw [wt_mid A B hA]
    simp
  have hb := Pl.fld_bd (Pl.wt true A + Pl.wt true B) (by omega)
  obtain ⟨x, y, hxy, hv⟩ := big2 (65535 - Pl.fld (Pl.wt true A + Pl.wt true B)) (by omega) (by omega)
  refine ⟨65535 - Pl.fld (Pl.wt true A + Pl.wt true B), by omega, by omega, by show _ = _; rw [e0], ?_⟩
  show _ = _
  rw [hxy, wt_mid A B hA, hv, fld_own _ (by omega)]
  rfl

set_option maxHeartbeats 400000 in
theorem walk_long (a0 : ByteArray) (a1 : Int) (w : World) (h : 1000 < a0.size) (w0 : a0.size ≤ 9223372036854775807) :
    Calls Try.prog 4 #[.string a0, .int .i64 a1] w fun e w' => e = .returned (.bool true) ∧ Below w.heap.size w w' := by
  go_enter Try.func4, Try.ntmps4
  go_wp2_with fail
  refine (awake_any _).mono ?_
  rintro e w1 ⟨rfl, hb⟩
  go_wp2_with fail
  go_ret
  exact ⟨rfl, hb⟩

set_option maxHeartbeats 1000000 in
theorem walk_short (a0 : ByteArray) (a1 : Int) (w : World) (h : a0.size ≤ 1000) :
    Calls Try.prog 4 #[.string a0, .int .i64 a1] w fun e w' => e = .returned (.bool true) ∧ Below w.heap.size w w' := by
  go_enter Try.func4, Try.ntmps4
  go_wp2_with fail
  refine (place_any _ _ _ (by omega) (by omega)).mono ?_
  rintro e w' ⟨rfl, rfl⟩
  have hk := Int.emod_nonneg a1 (show ((a0.size : Int) / 2 + 1) ≠ 0 from by omega)
  have hk2 := Int.emod_lt_of_pos a1 (show 0 < ((a0.size : Int) / 2 + 1) from by omega)
  obtain ⟨j, hj⟩ := Int.eq_ofNat_of_zero_le hk
  rw [hj] at hk2 ⊢
  clear hj hk
  go_wp2_with fail
  rw [show (2 * (j : Int)) = ((2 * j : Nat) : Int) from by omega]
  have hke : Hid ((2 * j) % 2 = 0) := show (2 * j) % 2 = 0 from by omega
  have hks : 2 * j ≤ a0.size := by omega
  clear hk2
  generalize 2 * j = k at hke hks ⊢
  obtain ⟨n, hn0, hn1, HN, HZ⟩ := parts a0 k hks hke.out h
  go_quiet (fail)
  go_wp2_with fail
  have hA : (a0.extract 0 k).size ≤ 1000 := by simp; omega
  have hB : (a0.extract k a0.size).size ≤ 1000 := by simp; omega
  generalize a0.extract 0 k = A at hA HN HZ ⊢
  generalize a0.extract k a0.size = B at hB HN HZ ⊢
  refine (of_three w.heap.size A ⟨#[0, 0]⟩ B _ n (by exact (World.cell?_alloc_new (w.drewN nq) _ 9 0).trans rfl) (by exact (World.cell?_alloc_new (w.drewN nq) _ 9 1).trans rfl) (by exact (World.cell?_alloc_new (w.drewN nq) _ 9 2).trans rfl) (by show A.size + 2 + B.size ≤ _; omega) HN.out).mono ?_
  rintro e w' ⟨rfl, rfl⟩
  have HB1 : Hid (Below w.heap.size w ((w.drewN nq).alloc (.cells #[.string A, .string ⟨#[0, 0]⟩, .string B] 9))) := (below_drewN (Below.refl _ _) nq).alloc (Nat.le_refl _) _
  generalize (w.drewN nq).alloc (.cells #[.string A, .string ⟨#[0, 0]⟩, .string B] 9) = W1 at HB1 ⊢
  go_wp2_with fail
  refine (big_any _ _ _).mono ?_
  rintro e W2 ⟨rfl, hb2⟩
  have HB2 : Hid (Below W1.heap.size W1 W2) := hb2
  clear hb2
  rw [show cut8 2 = 2 from rfl]
  have hbl : (Pl.bigL n 2).length ≤ 2 := by rw [Pl.bigL_length]; omega
  generalize Pl.bigL n 2 = G at hbl HZ ⊢
  go_wp2_with fail
  refine (of_three W2.heap.size A ⟨G.toArray⟩ B _ 0 (by simp) (by simp) (by simp) (by show A.size + G.toArray.size + B.size ≤ _; simp; omega) HZ.out).mono ?_
  rintro e w' ⟨rfl, rfl⟩
  have HB3 : Hid (Below W2.heap.size W2 (W2.alloc (.cells #[.string A, .string ⟨G.toArray⟩, .string B] 9))) := (Below.refl _ _).alloc (Nat.le_refl _) _
  generalize W2.alloc (.cells #[.string A, .string ⟨G.toArray⟩, .string B] 9) = W3 at HB3 ⊢
  go_wp2_with fail
  refine (of_one W3.heap.size (A ++ ⟨#[0, 0]⟩ ++ B) _ n (by simp) (by rw [ByteArray.size_append, ByteArray.size_append]; show A.size + 2 + B.size ≤ _; omega) (by have e := HN.out; rw [show (A ++ ⟨#[0, 0]⟩ ++ B : ByteArray).data.toList = A.data.toList ++ ([0, 0] ++ B.data.toList) from by simp [ByteArray.data_append]]; exact e)).mono ?_
  rintro e w' ⟨rfl, rfl⟩
  have HB4 : Hid (Below W3.heap.size W3 (W3.alloc (.cells #[.string (A ++ ⟨#[0, 0]⟩ ++ B)] 9))) := (Below.refl _ _).alloc (Nat.le_refl _) _
  generalize W3.alloc (.cells #[.string (A ++ ⟨#[0, 0]⟩ ++ B)] 9) = W4 at HB4 ⊢
  go_wp2_with fail
  refine (awake_any _).mono ?_
  rintro e W5 ⟨rfl, hb5⟩
  have HB5 : Hid (Below W4.heap.size W4 W5) := hb5
  clear hb5
  go_wp2_with fail
  go_ret
  have s2 := Nat.le_trans HB1.out.size HB2.out.size
  have s3 := Nat.le_trans s2 HB3.out.size
  exact ⟨rfl, HB1.out.trans ((HB2.out.mono HB1.out.size).trans ((HB3.out.mono s2).trans ((HB4.out.mono s3).trans (HB5.out.mono (Nat.le_trans s3 HB4.out.size)))))⟩

theorem walk (a0 : ByteArray) (a1 : Int) (w0 : a0.size ≤ maxLen) (w : World) :
    Calls Try.prog 4 #[.string a0, .int .i64 a1] w fun e w' => e = .returned (.bool true) ∧ Below w.heap.size w w' := by
  unfold maxLen at w0
  by_cases h : a0.size ≤ 1000
  · exact walk_short a0 a1 w h
  · exact walk_long a0 a1 w (by omega) (by omega)

/-! ### THE ROW's STEP: WRITTEN OUT: LEAVE IT -/
set_option maxRecDepth 100000 in
theorem lifted (os : Os) (started : os.Started) (H : Type) (enc : TypeId × Value → H) :
    ReturnsInHanded {} Try.checked os 4 .any (Rows.sumZeroSpec.pre6 enc Try.prog Try.f4 Rows.sumZeroRow.domain false) (Rows.sumZeroSpec.post enc Try.prog Try.f4 false true false false) := by
  refine returnsInHanded_of_change (C := Try.checked) own started (by kernel_rfl) Try.func4
    (ChangeSpec.witness6 (enc := enc) (C := Try.checked) false ⟨#[], #[.string ByteArray.empty, .int .i64 0], []⟩ 8 (by kernel_rfl) (by kernel_rfl) (by kernel_rfl) (by kernel_rfl)) ?_
  intro W base args ds gs before hval0 hW hcnd _
  have hval : ∀ (j : Nat) t v, Try.f4.params[j]? = some t → args[j]? = some v → Value.okWide Try.prog W .any base t v := hval0
  have hW' := hW
  obtain ⟨p, q, hA0, hV, rfl, hfz, hnd⟩ := hW
  have hA : DataW.TrodAll enc Try.prog W 0 (fun _ => true) true Try.f4.params.toList args.toList ds p := hA0
  rw [Try.params4] at hA hval
  obtain ⟨v0, vs0, d0, ds0, p0, q0, hargs, rfl, rfl, h0, r0⟩ := trodAll_cons hA
  obtain ⟨v1, vs1, d1, ds1, p1, q1, rfl, rfl, rfl, h1, r1⟩ := trodAll_cons r0
  obtain ⟨rfl, rfl, rfl⟩ := trodAll_nil r1
  obtain rfl : args = #[v0, v1] := by cases args; simp_all
  obtain ⟨rfl, rfl⟩ := trodVars_none hV
  obtain ⟨a0, rfl, rfl, rfl, w0⟩ := open_string Try.underlying9 (hval 0 9 v0 rfl rfl) h0
  obtain ⟨a1, rfl, rfl, rfl, w1⟩ := open_int Try.underlying3 (hval 1 3 v1 rfl rfl) h1
  clear hA0 hval0
  simp only [List.append_nil] at hW'
  refine (walk a0 a1 w0 W).mono fun e W' ⟨he, bel⟩ => ?_
  subst he
  exact ⟨_, rfl, _, _, _, [], [], [], hW', trodAll_mk1 (shut_bool Try.underlying4 _), (trodAll_cons_mk (shut_string Try.underlying9 w0) (trodAll_cons_mk (shut_int Try.underlying3 w1) trodAll_mk0)), rfl, bel.frame _, fun h => by cases h⟩

theorem over : Rows.sumZeroRow.holds Try.pinned (OpenSpec.ofChange Rows.sumZeroSpec) :=
  OpenClaim.holds_of_wide 4 Try.f4 rfl rfl rfl rfl rfl rfl rfl ⟨rfl, rfl, rfl, rfl, rfl⟩ rfl rfl rfl rfl rfl (by kernel_rfl) Try.func4 (by kernel_rfl)
    (of_decide_eq_true (by kernel_rfl)) (by unfold Func.isWrapper; first | (rw [if_pos (by decide +kernel)]; kernel_rfl) | (rw [if_neg (by decide +kernel)]; exact ⟨rfl, rfl⟩))
    (fun os started H enc _ => lifted os started H enc)

/-- ████ THE STATEMENT ████ -/
theorem proved : Rows.SumZeroSaid :=
  over
#print axioms proved
end Go.Proofs.Ytlphmpmfolngnaa.sumZero
