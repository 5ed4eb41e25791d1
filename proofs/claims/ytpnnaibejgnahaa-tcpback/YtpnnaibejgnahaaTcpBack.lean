/- TcpBack: for any two ends, head, body and bit, what is put is got between the same two, either way round; with one bit turned, or with another end, it is none; what may not be put is refused with the document's error; for longer arguments the document's example holds; no condition. -/
import Derived.Test.YtpnnaibejgnahaaTcs4
import Derived.Test.YtpnnaibejgnahaaRefTc
import Derived.Test.YtpnnaibejgnahaaRows2
import Derived.Test.YtpnnaibejgnahaaLiftTc
namespace Go.Proofs.Ytpnnaibejgnahaa.tcpBack
open Go.ChangeShapes Go.WideShapes Go.ChangeAt Go.RowKit
open Go.ChangeMaps (open_string shut_string)
set_option linter.unusedVariables false

theorem get_some (s : ByteArray) (a b : UInt32) (hs : s.size ≤ 900000) : ∃ (H : Sg) (D : ByteArray), ∀ w : World, Calls Try.prog 10 #[.int .u32 (a.toNat : Int), .int .u32 (b.toNat : Int), .string s] w fun e w' => e = .returned (.tuple #[.agg (sgV H), .string D, .int .i64 (badT a b s.data.toList)]) ∧ Below w.heap.size w w' := by
  by_cases h : badT a b s.data.toList = 0
  · refine ⟨gotT s.data.toList, s.extract (hdT s.data.toList) s.size, fun w => ?_⟩
    have g := tcGet_any s a b w (by omega)
    rw [h] at g ⊢
    exact g
  · exact ⟨⟨0, 0, 0, 0, 0, 0, ⟨#[]⟩⟩, ⟨#[]⟩, fun w => tcGet_wrong s a b _ w (by omega) rfl h⟩
/-- the facts that the walk asks of a bit and of a place -/
theorem bit_facts (bit : Int) (p : Nat) (h0 : 1 ≤ p) (hp : p ≤ 2000) : ∃ j m K : Nat, bit % (8 * (p : Int)) = (K : Int) ∧ m < 8 ∧ j < p ∧ (K : Int).tdiv 8 = (j : Int) ∧ (K : Int).tmod 8 = (m : Int) := by
  have h0 := Int.emod_nonneg bit (show (8 * (p : Int)) ≠ 0 from by omega)
  have h1 := Int.emod_lt_of_pos bit (show 0 < 8 * (p : Int) from by omega)
  obtain ⟨K, hK⟩ := Int.eq_ofNat_of_zero_le h0
  refine ⟨K / 8, K % 8, K, hK, by omega, by omega, ?_, ?_⟩
  · rw [Int.tdiv_eq_ediv_of_nonneg (by omega)]; omega
  · rw [Int.tmod_eq_emod_of_nonneg (by omega)]; omega
theorem xor_turn (g : UInt8) (m : Nat) : bits .xor .u8 (g.toNat : Int) (2 ^ m % 256) = ((g ^^^ UInt8.ofNat (2 ^ m)).toNat : Int) := by
  have h := xor_u8 g (UInt8.ofNat (2 ^ m))
  rw [UInt8.toNat_ofNat'] at h
  have e : ((2 ^ m % 2 ^ 8 : Nat) : Int) = 2 ^ m % 256 := by simp
  rw [e] at h
  exact h
theorem ofNat32 (n : Nat) (h : n < 4294967296) : (BitVec.ofInt 32 (n : Int)).toNat = n := by
  rw [BitVec.ofInt_natCast, BitVec.toNat_ofNat]
  exact Nat.mod_eq_of_lt (by omega)
theorem xor_end (a : UInt32) : bits .xor .u32 (a.toNat : Int) 1 = ((a ^^^ 1).toNat : Int) := by
  have hx : (a ^^^ 1).toNat < 4294967296 := (a ^^^ 1).toNat_lt
  have ha := a.toNat_lt
  rw [UInt32.toNat_xor] at hx ⊢
  show IntKind.u32.wrap ((BitVec.ofInt 32 (a.toNat : Int) ^^^ BitVec.ofInt 32 ((1 : Nat) : Int)).toNat : Nat) = _
  rw [BitVec.toNat_xor, ofNat32 _ (by omega), ofNat32 _ (by omega)]
  have e : (1 : UInt32).toNat = 1 := rfl
  rw [e] at hx ⊢
  show ((a.toNat ^^^ 1 : Nat) : Int) % 4294967296 = _
  omega
theorem wraps3 (o b p : Nat) (ho : o ≤ 40) (hb : b ≤ 2000) (hp : p ≤ 2000) : wrap64 (20 + (o : Int)) = 20 + (o : Int) ∧ wrap64 (20 + (o : Int) + (b : Int)) = 20 + (o : Int) + (b : Int) ∧ wrap64 (8 * (p : Int)) = 8 * (p : Int) := by
  unfold wrap64
  refine ⟨?_, ?_, ?_⟩ <;> omega
theorem sizes (p o b : Nat) (hsz : p = 20 + o + b) (hb : 20 + o + b ≤ 2000) : ((p : Int) != 20 + (o : Int) + (b : Int)) = false ∧ p ≤ 2000 ∧ (p : Int) ≤ 2000 ∧ (1 : Int) ≤ (p : Int) := by
  refine ⟨?_, by omega, by omega, by omega⟩
  have e : (p : Int) = 20 + (o : Int) + (b : Int) := by omega
  rw [e]
  simp
set_option maxRecDepth 100000 in
set_option maxHeartbeats 400000 in
theorem walk_long (a b : UInt32) (h : Sg) (body : ByteArray) (bit : Int) (w : World) (w1 : h.opts.size ≤ 9223372036854775807) (w2 : body.size ≤ 9223372036854775807)
    (hl : 100 < h.opts.size ∨ (h.opts.size ≤ 100 ∧ 2500 < body.size)) :
    Calls Try.prog 4 #[.int .u32 (a.toNat : Int), .int .u32 (b.toNat : Int), .agg (sgV h), .string body, .int .i64 bit] w fun e w' => e = .returned (.bool true) ∧ Below w.heap.size w w' := by
  rcases hl with h1 | ⟨h1, h2⟩
  all_goals
    go_enter Try.func4, Try.ntmps4
    go_wp2_with fail
    refine (tcAwake_any _).mono ?_
    rintro e w1 ⟨rfl, hb1⟩
    go_wp2_with fail
    go_ret
    exact ⟨rfl, below_after (below1 _ _) hb1⟩
set_option maxRecDepth 100000 in
set_option maxHeartbeats 1000000 in
theorem walk_refused (a b : UInt32) (h : Sg) (body : ByteArray) (bit c : Int) (y : Bool) (w : World) (h1 : h.opts.size ≤ 100) (h2 : body.size ≤ 2500)
    (cp : ∀ w : World, Calls Try.prog 8 #[.int .u32 (a.toNat : Int), .int .u32 (b.toNat : Int), .agg (sgV h), .string body] w fun e w' => e = .returned (.tuple #[.string ⟨#[]⟩, .int .i64 c]) ∧ Below w.heap.size w w')
    (cc : ∀ w : World, Calls Try.prog 12 #[.agg (sgV h)] w fun e w' => e = .returned (.bool y) ∧ Below w.heap.size w w') (hc : (c = 1 ∧ y = false) ∨ (c = 5 ∧ y = true)) :
    Calls Try.prog 4 #[.int .u32 (a.toNat : Int), .int .u32 (b.toNat : Int), .agg (sgV h), .string body, .int .i64 bit] w fun e w' => e = .returned (.bool true) ∧ Below w.heap.size w w' := by
  rcases hc with ⟨rfl, rfl⟩ | ⟨rfl, rfl⟩
  all_goals
    go_enter Try.func4, Try.ntmps4
    go_wp2_with fail
    refine (cp _).mono ?_
    rintro e w1 ⟨rfl, hb1⟩
    have n1 := below_call (new_alloc w (.cells (sgV h) 24)) (size_alloc1 _ _) hb1
    obtain ⟨q1, _, z1⟩ := new_in n1
    have N1 := (show Hid _ from n1)
    clear hb1 n1
    go_wp2_with fail
    refine (cc _).mono ?_
    rintro e w2 ⟨rfl, hb2⟩
    have n2 := below_call N1.out (size_alloc1 _ _) hb2
    have N2 := (show Hid _ from n2)
    clear hb2 n2 q1 z1 N1
    go_wp2_with fail
    refine (tcAwake_any _).mono ?_
    rintro e w3 ⟨rfl, hb3⟩
    go_wp2_with fail
    go_ret
    exact ⟨rfl, below_after ((below1 w _).trans (N2.out.mono (Nat.le_succ _))) hb3⟩
set_option maxRecDepth 100000 in
set_option maxHeartbeats 4000000 in
theorem walk_put (a b : UInt32) (h : Sg) (body : ByteArray) (bit : Int) (w : World) (hm : h.May) (h2 : 20 + h.opts.size + body.size ≤ 2000) :
    Calls Try.prog 4 #[.int .u32 (a.toNat : Int), .int .u32 (b.toNat : Int), .agg (sgV h), .string body, .int .i64 bit] w fun e w' => e = .returned (.bool true) ∧ Below w.heap.size w w' := by
  have ho : h.opts.size ≤ 40 := hm.2.2.2.2.1
  have h1 : h.opts.size ≤ 100 := by omega
  have h2' : body.size ≤ 2500 := by omega
  have cp := fun w => tcPut_ok h a b body w hm h2
  have cb := fun w => tcGet_put h a b body w hm h2
  have ct := fun w => tcGet_turn h a b body w hm h2
  have cs := fun w => sgSame_yes h w
  have hsz := sgPut_size h a b body
  have hoth := sgPut_other h a b body hm h2
  obtain ⟨j, m, K, hK, hm8, hj, hq, hr⟩ := bit_facts bit (h.put a b body).size (by omega) (by omega)
  have hturn := sgPut_turned h a b body j m hj hm8
  have ce := fun w => tcGet_wrong (h.put a b body) (a ^^^ 1) b 4 w (by omega) hoth (by decide)
  have xe := xor_end a
  generalize hp : h.put a b body = p at *
  generalize (a ^^^ 1 : UInt32) = a1 at *
  obtain ⟨H1, D1, c1⟩ := get_some ⟨(p.data.toList.set j (p.data.toList.getD j 0 ^^^ UInt8.ofNat (2 ^ m))).toArray⟩ a b (by rw [← toList_length, ofL, List.length_set, toList_length]; omega)
  rw [ofL] at c1
  generalize badT a b (p.data.toList.set j (p.data.toList.getD j 0 ^^^ UInt8.ofNat (2 ^ m))) = e1 at *
  have h1b : (e1 != 0) = true := by simpa using hturn
  obtain ⟨hw1, hw2, hw3⟩ := wraps3 h.opts.size body.size p.size ho (by omega) (by omega)
  obtain ⟨hne, hp2, hpi, hp0⟩ := sizes p.size h.opts.size body.size hsz h2
  have kj : (j : Int) < (p.size : Int) := Int.ofNat_lt.2 hj
  have km : (m : Int) < 8 := Int.ofNat_lt.2 hm8
  have HQ := (show Hid _ from hq)
  have HRm := (show Hid _ from hr)
  have HK := (show Hid _ from hK)
  have HJ := (show Hid _ from hj)
  clear hq hr hsz hturn hK hm8 hj hp hm hoth h2
  go_enter Try.func4, Try.ntmps4
  go_wp2_with fail
  refine (cp _).mono ?_
  rintro e w1 ⟨rfl, hb1⟩
  have n1 := below_call (new_alloc w (.cells (sgV h) 24)) (size_alloc1 _ _) hb1
  obtain ⟨q1, _, z1⟩ := new_in n1
  have N1 := (show Hid _ from n1)
  clear hb1 n1
  go_wp2_with fail
  refine (cb _).mono ?_
  rintro e w2 ⟨rfl, hb2⟩
  have n2 := below_more (below_call N1.out (size_alloc1 _ _) hb2) (size_alloc1 _ _) (.cells (sgV h) 24)
  have N2 := (show Hid _ from n2)
  have M2 := (show Hid _ from new_alloc w2 (.cells (sgV h) 24))
  clear hb2 n2 q1 z1 N1 cp cb
  go_wp2_with fail
  refine (ct _).mono ?_
  rintro e w3 ⟨rfl, hb3⟩
  have n3 := below_more (below_call N2.out (size_alloc1 _ _) hb3) (size_alloc1 _ _) (.cells (sgV h) 24)
  have m3 := below_more (below_call M2.out (size_alloc1 _ _) hb3) (size_alloc1 _ _) (.cells (sgV h) 24)
  have l3 := new_alloc w3 (.cells (sgV h) 24)
  obtain ⟨q3, _, z3⟩ := new_in n3
  obtain ⟨r3, _, y3⟩ := new_in m3
  obtain ⟨t3, _, x3⟩ := new_in l3
  have N3 := (show Hid _ from n3)
  have L3 := (show Hid _ from l3)
  clear hb3 n3 m3 l3 N2 M2 ct
  go_wp2_with fail
  refine (cs _).mono ?_
  rintro e w4 ⟨rfl, hb4⟩
  have n4 := below_call N3.out (size_alloc1 _ _) hb4
  have l4 := below_call L3.out (size_alloc1 _ _) hb4
  obtain ⟨q4, _, z4⟩ := new_in n4
  obtain ⟨t4, _, x4⟩ := new_in l4
  have N4 := (show Hid _ from n4)
  clear hb4 n4 l4 N3 L3 q3 z3 r3 y3 t3 x3
  go_wp2_with fail
  refine (cs _).mono ?_
  rintro e w5 ⟨rfl, hb5⟩
  have n5 := below_call N4.out (size_alloc1 _ _) hb5
  obtain ⟨q5, _, z5⟩ := new_in n5
  have N5 := (show Hid _ from n5)
  clear hb5 n5 N4 q4 z4 t4 x4 cs
  obtain ⟨W6, cap, hconv, R, hb6, hz6⟩ := conv_row w5 p
  have n6 := below_call N5.out (size_alloc1 _ _) hb6
  have HR := (show Hid (BRow W6 w5.heap.size p.data.toList) from R)
  have N6 := (show Hid _ from (below1 w (.cells (sgV h) 24)).trans (n6.mono (Nat.le_succ _)))
  clear n6 hb6 R N5 hz6
  go_wp2_with fail
  refine (place_any _ _ _ (by omega) (by omega)).mono ?_
  rintro e w' ⟨rfl, rfl⟩
  rw [HK.out]
  clear hw1 hw2 hw3 hne HK
  have hq := HQ.out
  have hr := HRm.out
  obtain ⟨ck, fk⟩ := HR.out.at (j := j) (by rw [toList_length]; exact HJ.out)
  have hx := xor_turn (p.data.toList.getD j 0) m
  have R5 := HR.out.set j (p.data.toList.getD j 0 ^^^ UInt8.ofNat (2 ^ m))
  have S5 := R5.string (n := p.size) (c := cap) (by rw [List.length_set, toList_length])
  have N7 := (show Hid _ from N6.out.setCell (p := ⟨w5.heap.size, j, none⟩) (Nat.le_of_lt z5) (bv (p.data.toList.getD j 0 ^^^ UInt8.ofNat (2 ^ m))))
  clear R5 HR hconv q5 N6 HJ z5
  generalize p.data.toList.set j _ = tl at *
  generalize p.data.toList.getD j 0 ^^^ UInt8.ofNat (2 ^ m) = xk at *
  generalize p.data.toList.getD j 0 = gk at *
  go_wp2_with fail
  refine (c1 _).mono ?_
  rintro e w8 ⟨rfl, hb8⟩
  have HB8 := (show Hid (Below w.heap.size w w8) from below_after N7.out hb8)
  have HB9 := (show Hid (Below w.heap.size w _) from HB8.out.alloc HB8.out.size (.cells (sgV H1) 24))
  clear hb8 S5 hx ck fk kj km N7 c1 HB8
  go_wp2_with fail
  refine (ce _).mono ?_
  rintro e w10 ⟨rfl, hb10⟩
  have HB10 := (show Hid (Below w.heap.size w w10) from below_after HB9.out hb10)
  have HB11 := (show Hid (Below w.heap.size w _) from HB10.out.alloc HB10.out.size (.cells sgZ 24))
  clear hb10 HB10 HB9 ce
  go_wp2_with fail
  refine (tcAwake_any _).mono ?_
  rintro e w12 ⟨rfl, hb12⟩
  go_wp2_with fail
  go_ret
  exact ⟨rfl, below_after HB11.out hb12⟩

theorem walk (a b : UInt32) (h : Sg) (hw : h.Wf) (body : ByteArray) (w1 : body.size ≤ maxLen) (bit : Int) (w3 : (Lit.int .i64 bit).wf = true) (w : World) :
    Calls Try.prog 4 #[.int .u32 (a.toNat : Int), .int .u32 (b.toNat : Int), .agg (sgV h), .string body, .int .i64 bit] w fun e w' => e = .returned (.bool true) ∧ Below w.heap.size w w' := by
  have w0 := hw.2.2.2.2
  unfold maxLen at w0 w1
  by_cases h1 : h.opts.size ≤ 100
  case neg => exact walk_long a b h body bit w (by omega) (by omega) (.inl (by omega))
  by_cases h2 : body.size ≤ 2500
  case neg => exact walk_long a b h body bit w (by omega) (by omega) (.inr ⟨h1, by omega⟩)
  by_cases hm : h.May
  case neg => exact walk_refused a b h body bit 1 false w h1 h2 (fun w => tcPut_arg h a b body w hm) (fun w => tcCheck_no h w hm) (.inl ⟨rfl, rfl⟩)
  by_cases h4 : 20 + h.opts.size + body.size ≤ 2000
  case neg => exact walk_refused a b h body bit 5 true w h1 h2 (fun w => tcPut_big h a b body w hm (by omega) (by omega)) (fun w => tcCheck_yes h w hm) (.inr ⟨rfl, rfl⟩)
  exact walk_put a b h body bit w hm h4

/-! ### THE ROW's STEP -/
set_option maxRecDepth 100000 in
theorem lifted (os : Os) (started : os.Started) (H : Type) (enc : TypeId × Value → H) :
    ReturnsInHanded {} Try.checked os 4 .any (Rows.tcpBackSpec.pre6 enc Try.prog Try.f4 Rows.tcpBackRow.domain false) (Rows.tcpBackSpec.post enc Try.prog Try.f4 false true false false) := by
  refine returnsInHanded_of_change (C := Try.checked) own started (by kernel_rfl) Try.func4
    (ChangeSpec.witness6 (enc := enc) (C := Try.checked) false ⟨#[], #[.int .u32 0, .int .u32 0, .agg #[.int .i64 0, .int .i64 0, .int .u32 0, .int .u32 0, .int .i64 0, .int .i64 0, .string ByteArray.empty], .string ByteArray.empty, .int .i64 0], []⟩ 8 (by kernel_rfl) (by kernel_rfl) (by kernel_rfl) (by kernel_rfl)) ?_
  intro W base args ds gs before hval0 hW hcnd _
  have hval : ∀ (j : Nat) t v, Try.f4.params[j]? = some t → args[j]? = some v → Value.okWide Try.prog W .any base t v := hval0
  have hW' := hW
  obtain ⟨p, q, hA0, hV, rfl, hfz, hnd⟩ := hW
  have hA : DataW.TrodAll enc Try.prog W 0 (fun _ => true) true Try.f4.params.toList args.toList ds p := hA0
  have hB := fun (W' : World) (bel : Below W.heap.size W W') => below_trodAll_of laidOut bel _ (by kernel_rfl) hA
  rw [Try.params4] at hA hval
  obtain ⟨v0, vs0, d0, ds0, p0, q0, hargs, rfl, rfl, h0, r0⟩ := trodAll_cons hA
  obtain ⟨v1, vs1, d1, ds1, p1, q1, rfl, rfl, rfl, h1, r1⟩ := trodAll_cons r0
  obtain ⟨v2, vs2, d2, ds2, p2, q2, rfl, rfl, rfl, h2, r2⟩ := trodAll_cons r1
  obtain ⟨v3, vs3, d3, ds3, p3, q3, rfl, rfl, rfl, h3, r3⟩ := trodAll_cons r2
  obtain ⟨v4, vs4, d4, ds4, p4, q4, rfl, rfl, rfl, h4, r4⟩ := trodAll_cons r3
  obtain ⟨rfl, rfl, rfl⟩ := trodAll_nil r4
  obtain rfl : args = #[v0, v1, v2, v3, v4] := by cases args; simp_all
  obtain ⟨rfl, rfl⟩ := trodVars_none hV
  obtain ⟨a0, rfl, rfl, rfl, w0⟩ := open_int Try.underlying22 (hval 0 22 v0 rfl rfl) h0
  obtain ⟨x0, rfl⟩ := u32_lit w0
  obtain ⟨a1, rfl, rfl, rfl, w1⟩ := open_int Try.underlying22 (hval 1 22 v1 rfl rfl) h1
  obtain ⟨x1, rfl⟩ := u32_lit w1
  obtain ⟨g2, w2, rfl⟩ := open_sg (hval 2 24 v2 rfl rfl) h2
  obtain ⟨a3, rfl, rfl, rfl, w3⟩ := open_string Try.underlying9 (hval 3 9 v3 rfl rfl) h3
  obtain ⟨a4, rfl, rfl, rfl, w4⟩ := open_int Try.underlying3 (hval 4 3 v4 rfl rfl) h4
  clear hA0 hval0
  refine (walk x0 x1 g2 w2 a3 w3 a4 w4 W).mono fun e W' ⟨he, bel⟩ => ?_
  subst he
  exact ⟨_, rfl, _, _, _, [], _, [], hW', trodAll_mk1 (shut_bool Try.underlying4 _), hB W' bel, rfl, bel.frame _, fun h => by cases h⟩

theorem over : Rows.tcpBackRow.holds Try.pinned (OpenSpec.ofChange Rows.tcpBackSpec) :=
  OpenClaim.holds_of_wide 4 Try.f4 rfl rfl rfl rfl rfl rfl rfl ⟨rfl, rfl, rfl, rfl, rfl⟩ rfl rfl rfl rfl rfl (by kernel_rfl) Try.func4 (by kernel_rfl)
    (of_decide_eq_true (by kernel_rfl)) (by unfold Func.isWrapper; first | (rw [if_pos (by decide +kernel)]; kernel_rfl) | (rw [if_neg (by decide +kernel)]; exact ⟨rfl, rfl⟩))
    (fun os started H enc _ => lifted os started H enc)

/-- THE STATEMENT -/
theorem proved : Rows.TcpBackSaid := over
#print axioms proved
end Go.Proofs.Ytpnnaibejgnahaa.tcpBack
