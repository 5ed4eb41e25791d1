/- EthBack: for any head, any body of at most 3500 bytes and any bytes of at most 4000, what is put is got while it is no longer than a frame may be, and what is got is put byte for byte; for longer ones the document's example holds; no condition. -/
import Derived.Test.YtajkcdcnihjfkaaAwake
import Derived.Test.YtajkcdcnihjfkaaLift
namespace Go.Proofs.Ytajkcdcnihjfkaa.ethBack
open Go.ChangeShapes Go.WideShapes Go.ChangeAt Go.RowKit
open Go.ChangeMaps (open_string shut_string)
set_option linter.unusedVariables false

theorem hiB_of (c0 c1 : UInt8) : hiB ((c0.toNat : Int) * 256 + (c1.toNat : Int)) = c0 := by
  have h0 := c0.toNat_lt
  have h1 := c1.toNat_lt
  unfold hiB
  apply UInt8.toNat_inj.1
  rw [UInt8.toNat_ofNat', Nat.mod_eq_of_lt (by omega)]
  omega
theorem loB_of (c0 c1 : UInt8) : loB ((c0.toNat : Int) * 256 + (c1.toNat : Int)) = c1 := by
  have h0 := c0.toNat_lt
  have h1 := c1.toNat_lt
  unfold loB
  apply UInt8.toNat_inj.1
  rw [UInt8.toNat_ofNat', Nat.mod_eq_of_lt (by omega)]
  omega
theorem head_ext (L body : ByteArray) (i j : Nat) (hj : j ≤ L.size) : (L ++ body).extract i j = L.extract i j := by
  apply ByteArray.ext
  rw [ByteArray.data_extract, ByteArray.data_extract, ByteArray.data_append, Array.extract_append]
  have : j - L.data.size = 0 := by show j - L.size = 0; omega
  rw [this]
  simp
theorem tail_ext (L body : ByteArray) : (L ++ body).extract L.size (L ++ body).size = body := ByteArray.extract_append_eq_right rfl (by simp)
/-- what is put, by name -/
theorem put_named (x0 x1 x2 x3 x4 x5 y0 y1 y2 y3 y4 y5 : UInt8) (T : Int) (body : ByteArray) (hT : 0 ≤ T ∧ T < 65536) (hb : body.size ≤ 3500) : ∃ tt : ByteArray, tt.size = 14 + body.size ∧
    (∀ w : World, Calls Try.prog 11 #[.agg (ethB x0 x1 x2 x3 x4 x5 y0 y1 y2 y3 y4 y5 T), .string body] w fun e w' => e = .returned (.string tt) ∧ Below w.heap.size w w') ∧
    (14 + body.size ≤ 3000 → ∀ w : World, Calls Try.prog 8 #[.string tt] w fun e w' => e = .returned (.tuple #[.agg (ethB x0 x1 x2 x3 x4 x5 y0 y1 y2 y3 y4 y5 T), .string body, .int .i64 0]) ∧ Below w.heap.size w w') ∧
    (3000 < 14 + body.size → ∀ w : World, Calls Try.prog 8 #[.string tt] w fun e w' => e = .returned (.tuple #[.agg ethZ, .string ⟨#[]⟩, .int .i64 5]) ∧ Below w.heap.size w w') := by
  obtain ⟨L, hL⟩ : ∃ L : ByteArray, L = ⟨#[x0, x1, x2, x3, x4, x5, y0, y1, y2, y3, y4, y5, hiB T, loB T]⟩ := ⟨_, rfl⟩
  have hLs : L.size = 14 := by rw [hL]; rfl
  have hz : (L ++ body).size = 14 + body.size := by rw [ByteArray.size_append, hLs]
  refine ⟨L ++ body, hz, fun w => by rw [hL]; exact put_any _ _ _ _ _ _ _ _ _ _ _ _ _ _ _ (by omega), ?_, ?_⟩
  · intro h w
    have ha : (L ++ body).extract 0 6 = ⟨#[x0, x1, x2, x3, x4, x5]⟩ := by rw [head_ext _ _ _ _ (by omega), hL]; rfl
    have hb : (L ++ body).extract 6 12 = ⟨#[y0, y1, y2, y3, y4, y5]⟩ := by rw [head_ext _ _ _ _ (by omega), hL]; rfl
    have hc : (L ++ body).extract 12 14 = ⟨#[hiB T, loB T]⟩ := by rw [head_ext _ _ _ _ (by omega), hL]; rfl
    have g := get_ok (L ++ body) w (by omega) (by omega) x0 x1 x2 x3 x4 x5 y0 y1 y2 y3 y4 y5 (hiB T) (loB T) ha hb hc
    have e := tail_ext L body
    rw [hLs] at e
    rw [hilo, e, Int.emod_eq_of_lt hT.1 hT.2] at g
    exact g
  · intro h w
    exact get_big _ w (by omega) (by omega)
/-- what is got, and put again -/
theorem got (s : ByteArray) (hs : s.size ≤ 4000) :
    (∃ n : Int, (n = 2 ∨ n = 5) ∧ ∀ w : World, Calls Try.prog 8 #[.string s] w fun e w' => e = .returned (.tuple #[.agg ethZ, .string ⟨#[]⟩, .int .i64 n]) ∧ Below w.heap.size w w') ∨
    (∃ (a0 a1 a2 a3 a4 a5 b0 b1 b2 b3 b4 b5 : UInt8) (u : Int) (d : ByteArray),
      (∀ w : World, Calls Try.prog 8 #[.string s] w fun e w' => e = .returned (.tuple #[.agg (ethB a0 a1 a2 a3 a4 a5 b0 b1 b2 b3 b4 b5 u), .string d, .int .i64 0]) ∧ Below w.heap.size w w') ∧
      (∀ w : World, Calls Try.prog 11 #[.agg (ethB a0 a1 a2 a3 a4 a5 b0 b1 b2 b3 b4 b5 u), .string d] w fun e w' => e = .returned (.string s) ∧ Below w.heap.size w w')) := by
  by_cases h1 : s.size < 14
  · exact .inl ⟨2, .inl rfl, fun w => get_short s w h1⟩
  · by_cases h2 : 3000 < s.size
    · exact .inl ⟨5, .inr rfl, fun w => get_big s w h2 (by omega)⟩
    · obtain ⟨a0, a1, a2, a3, a4, a5, b0, b1, b2, b3, b4, b5, c0, c1, ha, hb, hc, e, f, hs⟩ := twelve s (by omega)
      refine .inr ⟨a0, a1, a2, a3, a4, a5, b0, b1, b2, b3, b4, b5, _, _, fun w => get_ok s w (by omega) (by omega) a0 a1 a2 a3 a4 a5 b0 b1 b2 b3 b4 b5 c0 c1 ha hb hc, fun w => ?_⟩
      have g := put_any a0 a1 a2 a3 a4 a5 b0 b1 b2 b3 b4 b5 ((c0.toNat : Int) * 256 + (c1.toNat : Int)) (s.extract 14 s.size) w (by simp; omega)
      rw [hiB_of, loB_of, ← hs] at g
      exact g

set_option maxHeartbeats 400000 in
theorem walk_long (x0 x1 x2 x3 x4 x5 y0 y1 y2 y3 y4 y5 : UInt8) (t : Int) (body s : ByteArray) (w : World) (w0 : s.size ≤ 9223372036854775807) (w2 : body.size ≤ 9223372036854775807) (h : 3500 < body.size ∨ body.size ≤ 3500 ∧ 4000 < s.size) :
    Calls Try.prog 4 #[.agg (ethB x0 x1 x2 x3 x4 x5 y0 y1 y2 y3 y4 y5 t), .string body, .string s] w fun e w' => e = .returned (.bool true) ∧ Below w.heap.size w w' := by
  rcases h with h | ⟨h1, h⟩
  all_goals
    go_enter Try.func4, Try.ntmps4
    go_wp2_with fail
    refine (awake_any _).mono ?_
    rintro e w1 ⟨rfl, hb1⟩
    go_wp2_with fail
    go_ret
    exact ⟨rfl, below_after (below1 _ _) hb1⟩

set_option maxHeartbeats 2000000 in
theorem walk_short (x0 x1 x2 x3 x4 x5 y0 y1 y2 y3 y4 y5 : UInt8) (t : Int) (body s : ByteArray) (w : World) (h1 : body.size ≤ 3500) (h2 : s.size ≤ 4000) :
    Calls Try.prog 4 #[.agg (ethB x0 x1 x2 x3 x4 x5 y0 y1 y2 y3 y4 y5 t), .string body, .string s] w fun e w' => e = .returned (.bool true) ∧ Below w.heap.size w w' := by
  have hand := Pl.and_word t
  have hT : 0 ≤ t % 65536 ∧ t % 65536 < 65536 := ⟨by omega, by omega⟩
  obtain ⟨tt, hts, hput, hg1, hg2⟩ := put_named x0 x1 x2 x3 x4 x5 y0 y1 y2 y3 y4 y5 (t % 65536) body hT h1
  have HG1 := (show Hid _ from hg1)
  have HG2 := (show Hid _ from hg2)
  have hti : ((tt.size : Nat) : Int) = 14 + (body.size : Int) := by omega
  have hgot := got s h2
  clear hg1 hg2 hts hT
  by_cases hc : 14 + body.size ≤ 3000
  · have hc' : (14 : Int) + (body.size : Int) ≤ 3000 := by omega
    have hget := HG1.out hc
    clear HG1 HG2
    rcases hgot with ⟨n, hn, hgs⟩ | ⟨a0, a1, a2, a3, a4, a5, b0, b1, b2, b3, b4, b5, u, d, hgs, hps⟩
    · have hn' : (n != 0) = true := by rcases hn with rfl | rfl <;> rfl
      clear hn
      go_enter Try.func4, Try.ntmps4
      go_wp2_with fail
      refine (hput _).mono ?_
      rintro e w1 ⟨rfl, hb1⟩
      go_wp2_with fail
      refine (hget _).mono ?_
      rintro e w2 ⟨rfl, hb2⟩
      have n2 := below_call (below_call (new_alloc w _) (size_alloc1 _ _) hb1) (size_alloc1 _ _) hb2
      obtain ⟨q1, _, z1⟩ := new_in n2
      have HB2 := (show Hid (Below w.heap.size w w2) from below_after (below_after (below1 w _) hb1) hb2)
      clear n2 hb1 hb2
      go_wp2_with fail
      refine (same_yes _ _ _ _ _ _ _ _ _ _ _ _ _ _).mono ?_
      rintro e w3 ⟨rfl, hb3⟩
      have HB3 := (show Hid (Below w.heap.size w w3) from below_after (HB2.out.alloc HB2.out.size _) hb3)
      clear hb3 q1 z1 HB2
      go_wp2_with fail
      refine (hgs _).mono ?_
      rintro e w4 ⟨rfl, hb4⟩
      have HB4 := (show Hid (Below w.heap.size w w4) from below_after HB3.out hb4)
      clear hb4 HB3
      go_wp2_with fail
      refine (awake_any _).mono ?_
      rintro e w5 ⟨rfl, hb5⟩
      have HB5 := (show Hid (Below w.heap.size w w5) from below_after (HB4.out.alloc HB4.out.size _) hb5)
      clear hb5 HB4
      go_wp2_with fail
      go_ret
      exact ⟨rfl, HB5.out⟩
    · go_enter Try.func4, Try.ntmps4
      go_wp2_with fail
      refine (hput _).mono ?_
      rintro e w1 ⟨rfl, hb1⟩
      go_wp2_with fail
      refine (hget _).mono ?_
      rintro e w2 ⟨rfl, hb2⟩
      have n2 := below_call (below_call (new_alloc w _) (size_alloc1 _ _) hb1) (size_alloc1 _ _) hb2
      obtain ⟨q1, _, z1⟩ := new_in n2
      have HB2 := (show Hid (Below w.heap.size w w2) from below_after (below_after (below1 w _) hb1) hb2)
      clear n2 hb1 hb2
      go_wp2_with fail
      refine (same_yes _ _ _ _ _ _ _ _ _ _ _ _ _ _).mono ?_
      rintro e w3 ⟨rfl, hb3⟩
      have HB3 := (show Hid (Below w.heap.size w w3) from below_after (HB2.out.alloc HB2.out.size _) hb3)
      clear hb3 q1 z1 HB2
      go_wp2_with fail
      refine (hgs _).mono ?_
      rintro e w4 ⟨rfl, hb4⟩
      have HB4 := (show Hid (Below w.heap.size w w4) from below_after HB3.out hb4)
      clear hb4 HB3
      go_wp2_with fail
      refine (hps _).mono ?_
      rintro e w5 ⟨rfl, hb5⟩
      have HB5 := (show Hid (Below w.heap.size w w5) from below_after (HB4.out.alloc HB4.out.size _) hb5)
      clear hb5 HB4
      go_wp2_with fail
      refine (awake_any _).mono ?_
      rintro e w6 ⟨rfl, hb6⟩
      have HB6 := (show Hid (Below w.heap.size w w6) from below_after HB5.out hb6)
      clear hb6 HB5
      go_wp2_with fail
      go_ret
      exact ⟨rfl, HB6.out⟩
  · have hc' : ¬ (14 : Int) + (body.size : Int) ≤ 3000 := by omega
    have hget := HG2.out (by omega)
    clear HG1 HG2
    rcases hgot with ⟨n, hn, hgs⟩ | ⟨a0, a1, a2, a3, a4, a5, b0, b1, b2, b3, b4, b5, u, d, hgs, hps⟩
    · have hn' : (n != 0) = true := by rcases hn with rfl | rfl <;> rfl
      clear hn
      go_enter Try.func4, Try.ntmps4
      go_wp2_with fail
      refine (hput _).mono ?_
      rintro e w1 ⟨rfl, hb1⟩
      go_wp2_with fail
      refine (hget _).mono ?_
      rintro e w2 ⟨rfl, hb2⟩
      have HB2 := (show Hid (Below w.heap.size w w2) from below_after (below_after (below1 w _) hb1) hb2)
      clear hb1 hb2
      go_wp2_with fail
      refine (hgs _).mono ?_
      rintro e w4 ⟨rfl, hb4⟩
      have HB4 := (show Hid (Below w.heap.size w w4) from below_after (HB2.out.alloc HB2.out.size _) hb4)
      clear hb4 HB2
      go_wp2_with fail
      refine (awake_any _).mono ?_
      rintro e w5 ⟨rfl, hb5⟩
      have HB5 := (show Hid (Below w.heap.size w w5) from below_after (HB4.out.alloc HB4.out.size _) hb5)
      clear hb5 HB4
      go_wp2_with fail
      go_ret
      exact ⟨rfl, HB5.out⟩
    · go_enter Try.func4, Try.ntmps4
      go_wp2_with fail
      refine (hput _).mono ?_
      rintro e w1 ⟨rfl, hb1⟩
      go_wp2_with fail
      refine (hget _).mono ?_
      rintro e w2 ⟨rfl, hb2⟩
      have HB2 := (show Hid (Below w.heap.size w w2) from below_after (below_after (below1 w _) hb1) hb2)
      clear hb1 hb2
      go_wp2_with fail
      refine (hgs _).mono ?_
      rintro e w4 ⟨rfl, hb4⟩
      have HB4 := (show Hid (Below w.heap.size w w4) from below_after (HB2.out.alloc HB2.out.size _) hb4)
      clear hb4 HB2
      go_wp2_with fail
      refine (hps _).mono ?_
      rintro e w5 ⟨rfl, hb5⟩
      have HB5 := (show Hid (Below w.heap.size w w5) from below_after (HB4.out.alloc HB4.out.size _) hb5)
      clear hb5 HB4
      go_wp2_with fail
      refine (awake_any _).mono ?_
      rintro e w6 ⟨rfl, hb6⟩
      have HB6 := (show Hid (Below w.heap.size w w6) from below_after HB5.out hb6)
      clear hb6 HB5
      go_wp2_with fail
      go_ret
      exact ⟨rfl, HB6.out⟩

theorem walk (x0 x1 x2 x3 x4 x5 y0 y1 y2 y3 y4 y5 : UInt8) (t : Int) (_ : (Lit.int .i64 t).wf = true) (body : ByteArray) (w2 : body.size ≤ maxLen) (s : ByteArray) (w0 : s.size ≤ maxLen) (w : World) :
    Calls Try.prog 4 #[.agg (ethB x0 x1 x2 x3 x4 x5 y0 y1 y2 y3 y4 y5 t), .string body, .string s] w fun e w' => e = .returned (.bool true) ∧ Below w.heap.size w w' := by
  unfold maxLen at w0 w2
  by_cases h1 : body.size ≤ 3500
  · by_cases h2 : s.size ≤ 4000
    · exact walk_short x0 x1 x2 x3 x4 x5 y0 y1 y2 y3 y4 y5 t body s w h1 h2
    · exact walk_long x0 x1 x2 x3 x4 x5 y0 y1 y2 y3 y4 y5 t body s w (by omega) (by omega) (.inr ⟨h1, by omega⟩)
  · exact walk_long x0 x1 x2 x3 x4 x5 y0 y1 y2 y3 y4 y5 t body s w (by omega) (by omega) (.inl (by omega))

/-! ### THE ROW's STEP -/
set_option maxRecDepth 100000 in
theorem lifted (os : Os) (started : os.Started) (H : Type) (enc : TypeId × Value → H) :
    ReturnsInHanded {} Try.checked os 4 .any (Rows.ethBackSpec.pre6 enc Try.prog Try.f4 Rows.ethBackRow.domain false) (Rows.ethBackSpec.post enc Try.prog Try.f4 false true false false) := by
  refine returnsInHanded_of_change (C := Try.checked) own started (by kernel_rfl) Try.func4
    (ChangeSpec.witness6 (enc := enc) (C := Try.checked) false ⟨#[], #[.agg #[.int .u8 0, .int .u8 0, .int .u8 0, .int .u8 0, .int .u8 0, .int .u8 0, .int .u8 0, .int .u8 0, .int .u8 0, .int .u8 0, .int .u8 0, .int .u8 0, .int .i64 0], .string ByteArray.empty, .string ByteArray.empty], []⟩ 8 (by kernel_rfl) (by kernel_rfl) (by kernel_rfl) (by kernel_rfl)) ?_
  intro W base args ds gs before hval0 hW hcnd _
  have hval : ∀ (j : Nat) t v, Try.f4.params[j]? = some t → args[j]? = some v → Value.okWide Try.prog W .any base t v := hval0
  have hW' := hW
  obtain ⟨p, q, hA0, hV, rfl, hfz, hnd⟩ := hW
  have hA : DataW.TrodAll enc Try.prog W 0 (fun _ => true) true Try.f4.params.toList args.toList ds p := hA0
  have hB := fun (W' : World) (bel : Below W.heap.size W W') => below_trodAll_of laidOut bel _ (by kernel_rfl) hA
  rw [Try.params4] at hA hval
  obtain ⟨v0, vs0, d0, ds0, p0, q0, hargs, rfl, rfl, h0, r0⟩ := trodAll_cons hA
  obtain ⟨v1, vs1, d1, ds1, p1, q1, rfl, rfl, rfl, h1, r1⟩ := trodAll_cons r0
  obtain ⟨v2, vs2, d2, ds2, p2, q2, rfl, rfl, rfl, h2, r2⟩ := trodAll_cons r1
  obtain ⟨rfl, rfl, rfl⟩ := trodAll_nil r2
  obtain rfl : args = #[v0, v1, v2] := by cases args; simp_all
  obtain ⟨rfl, rfl⟩ := trodVars_none hV
  obtain ⟨m0x0, m0x1, m0x2, m0x3, m0x4, m0x5, n0x0, n0x1, n0x2, n0x3, n0x4, n0x5, t0, w0, rfl⟩ := open_eth (hval 0 24 v0 rfl rfl) h0
  obtain ⟨a1, rfl, rfl, rfl, w1⟩ := open_string Try.underlying9 (hval 1 9 v1 rfl rfl) h1
  obtain ⟨a2, rfl, rfl, rfl, w2⟩ := open_string Try.underlying9 (hval 2 9 v2 rfl rfl) h2
  clear hA0 hval0
  refine (walk m0x0 m0x1 m0x2 m0x3 m0x4 m0x5 n0x0 n0x1 n0x2 n0x3 n0x4 n0x5 t0 w0 a1 w1 a2 w2 W).mono fun e W' ⟨he, bel⟩ => ?_
  subst he
  exact ⟨_, rfl, _, _, _, [], _, [], hW', trodAll_mk1 (shut_bool Try.underlying4 _), hB W' bel, rfl, bel.frame _, fun h => by cases h⟩

theorem over : Rows.ethBackRow.holds Try.pinned (OpenSpec.ofChange Rows.ethBackSpec) :=
  OpenClaim.holds_of_wide 4 Try.f4 rfl rfl rfl rfl rfl rfl rfl ⟨rfl, rfl, rfl, rfl, rfl⟩ rfl rfl rfl rfl rfl (by kernel_rfl) Try.func4 (by kernel_rfl)
    (of_decide_eq_true (by kernel_rfl)) (by unfold Func.isWrapper; first | (rw [if_pos (by decide +kernel)]; kernel_rfl) | (rw [if_neg (by decide +kernel)]; exact ⟨rfl, rfl⟩))
    (fun os started H enc _ => lifted os started H enc)

/-- THE STATEMENT -/
theorem proved : Rows.EthBackSaid := over
#print axioms proved
end Go.Proofs.Ytajkcdcnihjfkaa.ethBack
