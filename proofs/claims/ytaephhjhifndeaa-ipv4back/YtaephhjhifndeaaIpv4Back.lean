/- Ipv4Back: for any head, body, bytes behind it and bit, what is put is got whatever stands behind it, with a bit of its head turned (but of its first byte) it is none, cut short it is none; what may not be put is refused with the document's error; for longer arguments the document's example holds; no condition. -/
import Derived.Test.YtaephhjhifndeaaIps6
import Derived.Test.YtaephhjhifndeaaRefIp2
import Derived.Test.YtaephhjhifndeaaRows2
import Derived.Test.YtaephhjhifndeaaLiftIp
namespace Go.Proofs.Ytaephhjhifndeaa.ipv4Back
open Go.ChangeShapes Go.WideShapes Go.ChangeAt Go.RowKit
open Go.ChangeMaps (open_string shut_string)
set_option linter.unusedVariables false

theorem get_some (s : ByteArray) (hs : s.size ≤ 1000000) : ∃ (H : Ip) (D : ByteArray), ∀ w : World, Calls Try.prog 10 #[.string s] w fun e w' => e = .returned (.tuple #[.agg (ipV H), .string D, .int .i64 (badL s.data.toList)]) ∧ Below w.heap.size w w' := by
  by_cases h : badL s.data.toList = 0
  · refine ⟨gotIp s.data.toList, s.extract (hdL s.data.toList) (alL s.data.toList), fun w => ?_⟩
    have g := get_any s w hs
    rw [h] at g ⊢
    exact g
  · exact ⟨⟨0, 0, false, false, 0, 0, 0, 0, 0, ⟨#[]⟩⟩, ⟨#[]⟩, fun w => get_wrong s _ w hs rfl h⟩
/-- the facts that the walk asks of a bit and of a place -/
theorem bit_facts (bit : Int) (o b : Nat) (ho : o ≤ 40) (hb : b ≤ 2000) : ∃ j m K : Nat, bit % (8 * (20 + (o : Int))) = (K : Int) ∧ K = 8 * j + m ∧ m < 8 ∧ j < 20 + o ∧ (K : Int).tdiv 8 = (j : Int) ∧ (K : Int).tmod 8 = (m : Int) := by
  have h0 := Int.emod_nonneg bit (show (8 * (20 + (o : Int))) ≠ 0 from by omega)
  have h1 := Int.emod_lt_of_pos bit (show 0 < 8 * (20 + (o : Int)) from by omega)
  obtain ⟨K, hK⟩ := Int.eq_ofNat_of_zero_le h0
  refine ⟨K / 8, K % 8, K, hK, by omega, by omega, by omega, ?_, ?_⟩
  · rw [Int.tdiv_eq_ediv_of_nonneg (by omega)]; omega
  · rw [Int.tmod_eq_emod_of_nonneg (by omega)]; omega

theorem xor_turn (g : UInt8) (m : Nat) : bits .xor .u8 (g.toNat : Int) (2 ^ m % 256) = ((g ^^^ UInt8.ofNat (2 ^ m)).toNat : Int) := by
  have h := xor_u8 g (UInt8.ofNat (2 ^ m))
  rw [UInt8.toNat_ofNat'] at h
  have e : ((2 ^ m % 2 ^ 8 : Nat) : Int) = 2 ^ m % 256 := by simp
  rw [e] at h
  exact h
theorem wraps3 (o b : Nat) (ho : o ≤ 40) (hb : b ≤ 2000) : wrap64 (20 + (o : Int)) = 20 + (o : Int) ∧ wrap64 (20 + (o : Int) + (b : Int)) = 20 + (o : Int) + (b : Int) ∧ wrap64 (8 * (20 + (o : Int))) = 8 * (20 + (o : Int)) := by
  unfold wrap64
  refine ⟨?_, ?_, ?_⟩ <;> omega
theorem sizes (p o b : Nat) (hsz : p = 20 + o + b) (ho : o ≤ 40) (hb : b ≤ 2000) : ((p : Int) != 20 + (o : Int) + (b : Int)) = false ∧ p ≤ 2060 ∧ (p : Int) ≤ 2060 ∧ (1 : Int) ≤ (p : Int) := by
  refine ⟨?_, by omega, by omega, by omega⟩
  have e : (p : Int) = 20 + (o : Int) + (b : Int) := by omega
  rw [e]
  simp
theorem at_place (o b p j m K : Nat) (h : K = 8 * j + m ∧ m < 8 ∧ j < 20 + o) (hp : p = 20 + o + b) : j < p ∧ (j : Int) < (p : Int) ∧ (m : Int) < 8 := ⟨by omega, by omega, by omega⟩
set_option maxHeartbeats 400000 in
theorem walk_long (h : Ip) (body more : ByteArray) (bit : Int) (w : World) (w1 : h.opts.size ≤ 9223372036854775807) (w2 : body.size ≤ 9223372036854775807) (w3 : more.size ≤ 9223372036854775807)
    (hl : 100 < h.opts.size ∨ (h.opts.size ≤ 100 ∧ 2500 < body.size) ∨ (h.opts.size ≤ 100 ∧ body.size ≤ 2500 ∧ 500 < more.size)) :
    Calls Try.prog 4 #[.agg (ipV h), .string body, .string more, .int .i64 bit] w fun e w' => e = .returned (.bool true) ∧ Below w.heap.size w w' := by
  rcases hl with h1 | ⟨h1, h2⟩ | ⟨h1, h2, h3⟩
  all_goals
    go_enter Try.func4, Try.ntmps4
    go_wp2_with fail
    refine (awake_any _).mono ?_
    rintro e w1 ⟨rfl, hb1⟩
    go_wp2_with fail
    go_ret
    exact ⟨rfl, below_after (below1 _ _) hb1⟩

set_option maxHeartbeats 1000000 in
theorem walk_refused (h : Ip) (body more : ByteArray) (bit c : Int) (b : Bool) (w : World) (h1 : h.opts.size ≤ 100) (h2 : body.size ≤ 2500) (h3 : more.size ≤ 500)
    (cp : ∀ w : World, Calls Try.prog 8 #[.agg (ipV h), .string body] w fun e w' => e = .returned (.tuple #[.string ⟨#[]⟩, .int .i64 c]) ∧ Below w.heap.size w w')
    (cc : ∀ w : World, Calls Try.prog 12 #[.agg (ipV h)] w fun e w' => e = .returned (.bool b) ∧ Below w.heap.size w w') (hc : (c = 1 ∧ b = false) ∨ (c = 5 ∧ b = true)) :
    Calls Try.prog 4 #[.agg (ipV h), .string body, .string more, .int .i64 bit] w fun e w' => e = .returned (.bool true) ∧ Below w.heap.size w w' := by
  rcases hc with ⟨rfl, rfl⟩ | ⟨rfl, rfl⟩
  all_goals
    go_enter Try.func4, Try.ntmps4
    go_wp2_with fail
    refine (cp _).mono ?_
    rintro e w1 ⟨rfl, hb1⟩
    have n1 := below_call (new_alloc w (.cells (ipV h) 24)) (size_alloc1 _ _) hb1
    obtain ⟨q1, _, z1⟩ := new_in n1
    have N1 := (show Hid _ from n1)
    clear hb1 n1
    go_wp2_with fail
    refine (cc _).mono ?_
    rintro e w2 ⟨rfl, hb2⟩
    have n2 := below_call N1.out (size_alloc1 _ _) hb2
    have N2 := (show Hid _ from n2)
    clear hb2 n2 q1 z1 N1
    go_wp2_with fail
    refine (awake_any _).mono ?_
    rintro e w3 ⟨rfl, hb3⟩
    go_wp2_with fail
    go_ret
    exact ⟨rfl, below_after ((below1 w _).trans (N2.out.mono (Nat.le_succ _))) hb3⟩
set_option maxRecDepth 100000 in
set_option maxHeartbeats 4000000 in
theorem walk_put (h : Ip) (body more : ByteArray) (bit : Int) (w : World) (hm : h.May) (h2 : body.size ≤ 2000) (h3 : more.size ≤ 500) :
    Calls Try.prog 4 #[.agg (ipV h), .string body, .string more, .int .i64 bit] w fun e w' => e = .returned (.bool true) ∧ Below w.heap.size w w' := by
  have ho : h.opts.size ≤ 40 := hm.2.2.2.2.2.2.1
  have h1 : h.opts.size ≤ 100 := by omega
  have h2' : body.size ≤ 2500 := by omega
  have cp := fun w => put_ok h body w hm h2
  have cb := fun w => back_any h body more w hm h2 (by omega)
  have cs := fun w => ipSame_yes h w
  obtain ⟨j, m, K, hK, hjm, hm8, hj, hq, hr⟩ := bit_facts bit h.opts.size body.size ho h2
  have hsz := put_size h body
  have hPn : 1 ≤ (h.put body).size := by omega
  have hP0 := Int.emod_nonneg bit (show ((h.put body).size : Int) ≠ 0 from by omega)
  have hP1 := Int.emod_lt_of_pos bit (show 0 < ((h.put body).size : Int) from by omega)
  obtain ⟨M, hM⟩ := Int.eq_ofNat_of_zero_le hP0
  rw [hM] at hP1
  have hcut := put_cut h body M hm h2 (by omega)
  have hturn := fun (h1 : 1 ≤ j) => put_turned h body j m hm h2 h1 hj hm8
  have hel : ((h.put body).extract 0 M).data.toList = (h.put body).data.toList.take M := by rw [ext_list]; rfl
  rw [← hel] at hcut
  generalize hp : h.put body = p at *
  obtain ⟨H2, D2, c2⟩ := get_some (p.extract 0 M) (by simp; omega)
  generalize badL (p.extract 0 M).data.toList = e2 at *
  have hxj : p.data.toList.getD j 0 ^^^ UInt8.ofNat (2 ^ m) = p.data.toList.getD j 0 ^^^ UInt8.ofNat (2 ^ m) := rfl
  obtain ⟨H1, D1, c1⟩ := get_some ⟨(p.data.toList.set j (p.data.toList.getD j 0 ^^^ UInt8.ofNat (2 ^ m))).toArray⟩ (by rw [← toList_length, ofL, List.length_set, toList_length]; omega)
  rw [ofL] at c1
  generalize badL (p.data.toList.set j (p.data.toList.getD j 0 ^^^ UInt8.ofNat (2 ^ m))) = e1 at *
  obtain ⟨hw1, hw2, hw3⟩ := wraps3 h.opts.size body.size ho h2
  obtain ⟨hne, hp2, hpi, hp0⟩ := sizes p.size h.opts.size body.size hsz ho h2
  have HSZ := (show Hid _ from hsz)
  have HQ := (show Hid _ from hq)
  have HRm := (show Hid _ from hr)
  have HCUT := (show Hid (e2 ≠ 0) from hcut)
  have HTURN := (show Hid (1 ≤ j → e1 ≠ 0) from hturn)
  have HK := (show Hid _ from hK)
  have HM := (show Hid _ from hM)
  have HJ := (show Hid (K = 8 * j + m ∧ m < 8 ∧ j < 20 + h.opts.size) from ⟨hjm, hm8, hj⟩)
  clear hq hr hsz hcut hturn hK hM hjm hm8 hj hel hxj hPn hP0 hp hm
  go_enter Try.func4, Try.ntmps4
  go_wp2_with fail
  refine (cp _).mono ?_
  rintro e w1 ⟨rfl, hb1⟩
  have n1 := below_call (new_alloc w (.cells (ipV h) 24)) (size_alloc1 _ _) hb1
  obtain ⟨q1, _, z1⟩ := new_in n1
  have N1 := (show Hid _ from n1)
  clear hb1 n1
  go_wp2_with fail
  refine (cb _).mono ?_
  rintro e w2 ⟨rfl, hb2⟩
  have n2 := below_call N1.out (size_alloc1 _ _) hb2
  have q2 := (new_in (below_more n2 (size_alloc1 _ _) (.cells (ipV h) 24))).1
  have q2' := made_in w2 (ipV h) 24
  have N2 := (show Hid _ from below_more n2 (size_alloc1 _ _) (.cells (ipV h) 24))
  clear hb2 n2 q1 z1 N1 cp cb
  go_wp2_with fail
  refine (cs _).mono ?_
  rintro e w3 ⟨rfl, hb3⟩
  have n3 := below_call N2.out (size_alloc1 _ _) hb3
  obtain ⟨q3, _, z3⟩ := new_in n3
  have N3 := (show Hid _ from n3)
  clear hb3 n3 q2 q2' N2 cs
  obtain ⟨W4, cap, hconv, R, hb4, hz4⟩ := conv_row w3 p
  have n4 := below_call N3.out (size_alloc1 _ _) hb4
  obtain ⟨q4, _, z4⟩ := new_in n4
  have HR := (show Hid (BRow W4 w3.heap.size p.data.toList) from R)
  have N4 := (show Hid _ from n4)
  have HZ4 := (show Hid _ from hz4)
  clear n4 hb4 R N3 hz4
  go_wp2_with fail
  refine (place_any _ _ _ (by omega) (by omega)).mono ?_
  rintro e w' ⟨rfl, rfl⟩
  rw [HK.out]
  clear hw1 hw2 hw3 hne HK
  have hq := HQ.out
  have hr := HRm.out
  obtain ⟨hjp, kj, km⟩ := at_place _ _ _ _ _ _ HJ.out HSZ.out
  obtain ⟨ck, fk⟩ := HR.out.at (j := j) (by rw [toList_length]; exact hjp)
  have hx := xor_turn (p.data.toList.getD j 0) m
  have R5 := HR.out.set j (p.data.toList.getD j 0 ^^^ UInt8.ofNat (2 ^ m))
  have S5 := R5.string (n := p.size) (c := cap) (by rw [List.length_set, toList_length])
  have N5 := (show Hid _ from N4.out.setCell (p := ⟨w3.heap.size, j, none⟩) z3 (bv (p.data.toList.getD j 0 ^^^ UInt8.ofNat (2 ^ m))))
  clear R5 HR hconv q3 N4 hjp HSZ
  generalize p.data.toList.set j _ = tl at *
  generalize p.data.toList.getD j 0 ^^^ UInt8.ofNat (2 ^ m) = xk at *
  generalize p.data.toList.getD j 0 = gk at *
  go_wp2_with fail
  refine (c1 _).mono ?_
  rintro e w5 ⟨rfl, hb5⟩
  have HB5 := (show Hid (Below w.heap.size w w5) from below_call ((below1 w _).trans (N5.out.mono (Nat.le_succ _))) (Nat.le_refl _) hb5)
  clear hb5 S5 hx ck fk kj km N5 c1 q4 z4 HZ4 z3
  have HB6 := (show Hid (Below w.heap.size w _) from HB5.out.alloc HB5.out.size (.cells (ipV H1) 24))
  clear HB5
  go_wp2_with fail
  refine (place_any _ _ _ (by omega) (by omega)).mono ?_
  rintro e w' ⟨rfl, rfl⟩
  rw [HM.out]
  clear HM
  have hMi : (M : Int) ≤ (p.size : Int) := by omega
  go_wp2_with fail
  refine (c2 _).mono ?_
  rintro e w7 ⟨rfl, hb7⟩
  have HB7 := (show Hid (Below w.heap.size w w7) from below_after HB6.out hb7)
  have HB8 := (show Hid (Below w.heap.size w _) from HB7.out.alloc HB7.out.size (.cells (ipV H2) 24))
  clear hb7 HB6 HB7 c2
  have h2b : (e2 != 0) = true := by simpa using HCUT.out
  have htb : 8 ≤ K → (e1 != 0) = true := fun hk => by
    have := HTURN.out (by have := HJ.out; omega)
    simpa using this
  by_cases hk8 : (K : Int) < 8
  · clear htb
    cases h1b : (e1 != 0)
    all_goals
      go_wp2_with fail
      refine (awake_any _).mono ?_
      rintro e w9 ⟨rfl, hb9⟩
      go_wp2_with fail
      go_ret
      exact ⟨rfl, below_after HB8.out hb9⟩
  · have h1b := htb (by omega)
    clear htb
    go_wp2_with fail
    refine (awake_any _).mono ?_
    rintro e w9 ⟨rfl, hb9⟩
    go_wp2_with fail
    go_ret
    exact ⟨rfl, below_after HB8.out hb9⟩

theorem walk (h : Ip) (hw : h.Wf) (body : ByteArray) (w1 : body.size ≤ maxLen) (more : ByteArray) (w2 : more.size ≤ maxLen) (bit : Int) (w3 : (Lit.int .i64 bit).wf = true) (w : World) :
    Calls Try.prog 4 #[.agg (ipV h), .string body, .string more, .int .i64 bit] w fun e w' => e = .returned (.bool true) ∧ Below w.heap.size w w' := by
  have w0 := hw.2.2.2.2.2
  unfold maxLen at w0 w1 w2
  by_cases h1 : h.opts.size ≤ 100
  case neg => exact walk_long h body more bit w (by omega) (by omega) (by omega) (.inl (by omega))
  by_cases h2 : body.size ≤ 2500
  case neg => exact walk_long h body more bit w (by omega) (by omega) (by omega) (.inr (.inl ⟨h1, by omega⟩))
  by_cases h3 : more.size ≤ 500
  case neg => exact walk_long h body more bit w (by omega) (by omega) (by omega) (.inr (.inr ⟨h1, h2, by omega⟩))
  by_cases hm : h.May
  case neg => exact walk_refused h body more bit 1 false w h1 h2 h3 (fun w => put_arg h body w hm) (fun w => check_no h w hm) (.inl ⟨rfl, rfl⟩)
  by_cases h4 : body.size ≤ 2000
  case neg => exact walk_refused h body more bit 5 true w h1 h2 h3 (fun w => put_big h body w hm (by omega) (by omega)) (fun w => check_yes h w hm) (.inr ⟨rfl, rfl⟩)
  exact walk_put h body more bit w hm h4 h3

/-! ### THE ROW's STEP -/
set_option maxRecDepth 100000 in
theorem lifted (os : Os) (started : os.Started) (H : Type) (enc : TypeId × Value → H) :
    ReturnsInHanded {} Try.checked os 4 .any (Rows.ipv4BackSpec.pre6 enc Try.prog Try.f4 Rows.ipv4BackRow.domain false) (Rows.ipv4BackSpec.post enc Try.prog Try.f4 false true false false) := by
  refine returnsInHanded_of_change (C := Try.checked) own started (by kernel_rfl) Try.func4
    (ChangeSpec.witness6 (enc := enc) (C := Try.checked) false ⟨#[], #[.agg #[.int .i64 0, .int .i64 0, .bool false, .bool false, .int .i64 0, .int .i64 0, .int .i64 0, .int .u32 0, .int .u32 0, .string ByteArray.empty], .string ByteArray.empty, .string ByteArray.empty, .int .i64 0], []⟩ 8 (by kernel_rfl) (by kernel_rfl) (by kernel_rfl) (by kernel_rfl)) ?_
  intro W base args ds gs before hval0 hW hcnd _
  have hval : ∀ (j : Nat) t v, Try.f4.params[j]? = some t → args[j]? = some v → Value.okWide Try.prog W .any base t v := hval0
  have hW' := hW
  obtain ⟨p, q, hA0, hV, rfl, hfz, hnd⟩ := hW
  have hA : DataW.TrodAll enc Try.prog W 0 (fun _ => true) true Try.f4.params.toList args.toList ds p := hA0
  have hB := fun (W' : World) (bel : Below W.heap.size W W') => below_trodAll_of laidOut bel _ (by kernel_rfl) hA
  rw [Try.params4] at hA hval
  obtain ⟨v0, vs0, d0, ds0, p0, q0, hargs, rfl, rfl, h0, r0⟩ := trodAll_cons hA
  obtain ⟨v1, vs1, d1, ds1, p1, q1, rfl, rfl, rfl, h1, r1⟩ := trodAll_cons r0
  obtain ⟨v2, vs2, d2, ds2, p2, q2, rfl, rfl, rfl, h2, r2⟩ := trodAll_cons r1
  obtain ⟨v3, vs3, d3, ds3, p3, q3, rfl, rfl, rfl, h3, r3⟩ := trodAll_cons r2
  obtain ⟨rfl, rfl, rfl⟩ := trodAll_nil r3
  obtain rfl : args = #[v0, v1, v2, v3] := by cases args; simp_all
  obtain ⟨rfl, rfl⟩ := trodVars_none hV
  obtain ⟨g0, w0, rfl⟩ := open_ip (hval 0 24 v0 rfl rfl) h0
  obtain ⟨a1, rfl, rfl, rfl, w1⟩ := open_string Try.underlying9 (hval 1 9 v1 rfl rfl) h1
  obtain ⟨a2, rfl, rfl, rfl, w2⟩ := open_string Try.underlying9 (hval 2 9 v2 rfl rfl) h2
  obtain ⟨a3, rfl, rfl, rfl, w3⟩ := open_int Try.underlying3 (hval 3 3 v3 rfl rfl) h3
  clear hA0 hval0
  refine (walk g0 w0 a1 w1 a2 w2 a3 w3 W).mono fun e W' ⟨he, bel⟩ => ?_
  subst he
  exact ⟨_, rfl, _, _, _, [], _, [], hW', trodAll_mk1 (shut_bool Try.underlying4 _), hB W' bel, rfl, bel.frame _, fun h => by cases h⟩

theorem over : Rows.ipv4BackRow.holds Try.pinned (OpenSpec.ofChange Rows.ipv4BackSpec) :=
  OpenClaim.holds_of_wide 4 Try.f4 rfl rfl rfl rfl rfl rfl rfl ⟨rfl, rfl, rfl, rfl, rfl⟩ rfl rfl rfl rfl rfl (by kernel_rfl) Try.func4 (by kernel_rfl)
    (of_decide_eq_true (by kernel_rfl)) (by unfold Func.isWrapper; first | (rw [if_pos (by decide +kernel)]; kernel_rfl) | (rw [if_neg (by decide +kernel)]; exact ⟨rfl, rfl⟩))
    (fun os started H enc _ => lifted os started H enc)

/-- THE STATEMENT -/
theorem proved : Rows.Ipv4BackSaid := over
#print axioms proved
end Go.Proofs.Ytaephhjhifndeaa.ipv4Back
