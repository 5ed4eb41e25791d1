/- SumAll: for any list of texts and any three numbers, the program's sum, addition, bytes and number are the document's own answers where the list has at most ten texts of at most 500 bytes each, and the document's example holds in any case; no condition. -/
import Derived.Test.YtlphmpmfolngnaaAwake
import Derived.WalkKit
import Derived.ProofKit
import Derived.OpenShut
import Derived.ShutString
import Derived.ChangeOld
import Derived.Below
import Derived.SliceStrings
namespace Go.Proofs.Ytlphmpmfolngnaa.sumAll
open Go.ChangeShapes Go.WideShapes Go.ChangeAt Go.RowKit
open Go.ChangeMaps (open_string shut_string)
set_option linter.unusedVariables false

theorem own : ownKnob Try.prog.godebug = none := by kernel_rfl
theorem laidOut : laidOutB Try.prog = true := by kernel_rfl

/-- what the walk is told of the list that came in: it has no text, or its texts lie in a row of cells -/
def IsRow (w : World) (a : Option Addr) (len : Nat) (ss : List ByteArray) : Prop :=
  ss.length = len ∧ len ≤ maxLen ∧ (∀ s ∈ ss, s.size ≤ maxLen) ∧ (len = 0 ∨ ∃ b off : Nat, a = some ⟨b, off, none⟩ ∧ ∀ i, i < len → w.cell? ⟨b, off + i, none⟩ = some (.string (ss.getD i ByteArray.empty)))

set_option maxHeartbeats 400000 in
theorem of_zero (a : Option Addr) (cap : Nat) (w : World) :
    Calls Try.prog 9 #[.slice a 0 cap] w fun e w' => e = .returned (.int .i64 65535) ∧ w = w' := by
  go_enter Try.func9, Try.ntmps9
  go_wp2
  go_loop [3, 4, 10] (fun t s i => t = .int .i64 0 ∧ s = .int .i64 8 ∧ i = .int .i64 0) (fun _ _ _ => 0)
  case atStart => exact ⟨rfl, rfl, rfl⟩
  case round =>
    obtain ⟨rfl, rfl, rfl⟩ := hrel
    have hx := Pl.xor_word 0 (by decide) (by decide)
    have hf : Pl.fld 0 = 0 := rfl
    go_wp2_with (go_at_call 18; refine (fold_any _ _ (by omega) (by omega)).mono ?_; rintro e w' ⟨rfl, rfl⟩)
    go_ret
    exact ⟨rfl, rfl⟩

/-- both sums of one text, whatever its parts -/
theorem of_list (w : World) (a : Option Addr) (len cap : Nat) (ss : List ByteArray) (h : IsRow w a len ss) (h10 : len ≤ 10) (hs : (Pl.cat ss).length ≤ 1000000) (r : Int) (hr : 65535 - Pl.fld (Pl.wt true (Pl.cat ss)) = r) :
    Calls Try.prog 9 #[.slice a len cap] w fun e w' => e = .returned (.int .i64 r) ∧ w = w' := by
  obtain ⟨hl, hm, hz, hc⟩ := h
  rcases hc with rfl | ⟨b, off, rfl, hc⟩
  · have e : ss = [] := List.length_eq_zero_iff.1 hl
    subst e
    subst hr
    exact of_zero a cap w
  · subst hl
    have h := of_any b off cap ss w hs (by omega) hc
    rw [hr] at h
    exact h

theorem refOf_list (t : ByteArray) (l : List UInt8) (w : World) (r : Int) (hs : t.size ≤ 1000000) (ht : t.data.toList = l) (hr : 65535 - Pl.fld (Pl.wt true l) = r) :
    Calls Try.prog 10 #[.string t] w fun e w' => e = .returned (.int .i64 r) ∧ w = w' := by
  have h := refOf_any t w hs
  rw [ht, hr] at h
  exact h
theorem big_as (x n : Int) (G : ByteArray) (w : World) (h : (⟨(Pl.bigL x (cut8 n)).toArray⟩ : ByteArray) = G) :
    Calls Try.prog 13 #[.int .i64 x, .int .i64 n] w fun e w' => e = .returned (.string G) ∧ Below w.heap.size w w' := by
  have hb := big_any x n w
  rw [h] at hb
  exact hb
theorem refBig_as (x n : Int) (G : ByteArray) (w : World) (hn : n ≤ 9223372036854775807) (h : (⟨(Pl.bigL x (cut8 n)).toArray⟩ : ByteArray) = G) :
    Calls Try.prog 14 #[.int .i64 x, .int .i64 n] w fun e w' => e = .returned (.string G) ∧ Below w.heap.size w w' := by
  have hb := refBig_any x n w hn
  rw [h] at hb
  exact hb
theorem add_as (x y r : Int) (w : World) (h : Pl.fld (x % 65536 + y % 65536) = r) :
    Calls Try.prog 11 #[.int .i64 x, .int .i64 y] w fun e w' => e = .returned (.int .i64 r) ∧ w = w' := by
  have hb := add_any x y w
  rw [h] at hb
  exact hb
theorem refAdd_as (x y r : Int) (w : World) (h : Pl.fld (x % 65536 + y % 65536) = r) :
    Calls Try.prog 12 #[.int .i64 x, .int .i64 y] w fun e w' => e = .returned (.int .i64 r) ∧ w = w' := by
  have hb := refAdd_any x y w
  rw [h] at hb
  exact hb
theorem num_as (t : ByteArray) (r : Int) (w : World) (hs : t.size ≤ 1000000) (h : Pl.numL (Pl.last7 t.data.toList) = r) :
    Calls Try.prog 15 #[.string t] w fun e w' => e = .returned (.int .i64 r) ∧ w = w' := by
  have hb := num_any t w hs
  rw [h] at hb
  exact hb
theorem refNum_as (t : ByteArray) (r : Int) (w : World) (hs : t.size ≤ 1000000) (h : Pl.numL (Pl.last7 t.data.toList) = r) :
    Calls Try.prog 16 #[.string t] w fun e w' => e = .returned (.int .i64 r) ∧ w = w' := by
  have hb := refNum_any t w hs
  rw [h] at hb
  exact hb
theorem app_list (t p : ByteArray) (A : List UInt8) (h : t.data.toList = A) : (t ++ p).data.toList = A ++ p.data.toList := by
  rw [← h]
  simp [ByteArray.data_append]

set_option maxHeartbeats 1000000 in
theorem walk (a : Option Addr) (len cap : Nat) (ss : List ByteArray) (x y n : Int) (w : World) (hr : IsRow w a len ss) (hn : n ≤ 9223372036854775807) :
    Calls Try.prog 3 #[.slice a len cap, .int .i64 x, .int .i64 y, .int .i64 n] w fun e w' => e = .returned (.bool true) ∧ Below w.heap.size w w' := by
  have hlm : len ≤ 9223372036854775807 := by have := hr.2.1; unfold maxLen at this; exact this
  have HR : Hid (IsRow w a len ss) := hr
  have hsl : Hid (ss.length = len) := hr.1
  clear hr
  go_enter Try.func3, Try.ntmps3
  go_wp2
  go_loop [9, 10] (fun s i => ∃ (k : Nat) (t : ByteArray), k ≤ len ∧ k ≤ 10 ∧ i = .int .i64 k ∧ s = .string t ∧ Hid (t.data.toList = Pl.cat (ss.take k)) ∧ t.size ≤ 500 * k) (fun _ i => len - (intOf i).toNat)
  case atStart => exact ⟨0, ByteArray.empty, Nat.zero_le _, Nat.zero_le _, rfl, rfl, rfl, Nat.le_refl _⟩
  case round =>
    obtain ⟨k, t, hk, hk10, rfl, rfl, HT, hts⟩ := hrel
    by_cases hlt : k < len
    · by_cases h10 : k < 10
      · obtain ⟨b, off, ha, hc⟩ : ∃ b off : Nat, a = some ⟨b, off, none⟩ ∧ w.cell? ⟨b, off + k, none⟩ = some (.string (ss.getD k ByteArray.empty)) := by
          rcases HR.out.2.2.2 with h0 | ⟨b, off, h1, h2⟩
          · omega
          · exact ⟨b, off, h1, h2 k hlt⟩
        subst ha
        have HS : Hid (Pl.cat (ss.take (k + 1)) = Pl.cat (ss.take k) ++ (ss.getD k ByteArray.empty).data.toList) := Pl.cat_take ss k (by rw [hsl.out]; exact hlt)
        have hpm : (ss.getD k ByteArray.empty).size ≤ 9223372036854775807 := by
          have hk' : k < ss.length := by rw [hsl.out]; exact hlt
          have := HR.out.2.2.1 (ss.getD k ByteArray.empty) (by simp only [List.getD, List.getElem?_eq_getElem hk', Option.getD_some]; exact List.getElem_mem hk')
          unfold maxLen at this
          exact this
        generalize ss.getD k ByteArray.empty = p at hc HS hpm
        by_cases hp : 500 < p.size
        · go_wp2_with (go_at_call 8; refine (awake_any _).mono ?_; rintro e w1 ⟨rfl, hb⟩)
          go_ret
          exact ⟨rfl, by assumption⟩
        · go_wp2
          go_round
          case rel => exact ⟨k + 1, t ++ p, by omega, by omega, by go_num, rfl, by show _ = _; rw [HS.out]; exact app_list t p _ HT.out, by rw [ByteArray.size_append]; omega⟩
          case measure => simp [intOf]; omega
      · have h11 : 10 < len := by omega
        go_wp2_with (go_at_call 8; refine (awake_any _).mono ?_; rintro e w1 ⟨rfl, hb⟩)
        go_ret
        exact ⟨rfl, by assumption⟩
    · have hk' : k = len := by omega
      have hl10 : len ≤ 10 := by omega
      have HT' : Hid (t.data.toList = Pl.cat ss) := by
        have h := HT.out
        rw [List.take_of_length_le (by rw [hsl.out]; omega)] at h
        exact h
      have htl : (Pl.cat ss).length ≤ 1000000 := by rw [← HT'.out]; show t.size ≤ _; omega
      have ht6 : t.size ≤ 1000000 := by omega
      clear hk' HT
      obtain ⟨R, hR⟩ : ∃ R, Hid (65535 - Pl.fld (Pl.wt true (Pl.cat ss)) = R) := ⟨_, rfl⟩
      obtain ⟨D, hD⟩ : ∃ D, Hid (Pl.fld (x % 65536 + y % 65536) = D) := ⟨_, rfl⟩
      obtain ⟨G, hG⟩ : ∃ G : ByteArray, Hid ((⟨(Pl.bigL x (cut8 n)).toArray⟩ : ByteArray) = G) := ⟨_, rfl⟩
      obtain ⟨M, hM⟩ : ∃ M, Hid (Pl.numL (Pl.last7 t.data.toList) = M) := ⟨_, rfl⟩
      go_wp2_with fail
      refine (of_list w a len cap ss HR.out hl10 htl R hR.out).mono ?_
      rintro e w' ⟨rfl, rfl⟩
      go_wp2_with fail
      refine (refOf_list t _ _ R ht6 HT'.out hR.out).mono ?_
      rintro e w' ⟨rfl, rfl⟩
      go_wp2_with fail
      refine (add_as _ _ D _ hD.out).mono ?_
      rintro e w' ⟨rfl, rfl⟩
      go_wp2_with fail
      refine (refAdd_as _ _ D _ hD.out).mono ?_
      rintro e w' ⟨rfl, rfl⟩
      go_wp2_with fail
      refine (big_as _ _ G _ hG.out).mono ?_
      rintro e w1 ⟨rfl, hb⟩
      have HB1 : Hid (Below w.heap.size w w1) := hb
      clear hb
      go_wp2_with fail
      refine (refBig_as _ _ G _ hn hG.out).mono ?_
      rintro e w2 ⟨rfl, hb⟩
      have HB2 : Hid (Below w1.heap.size w1 w2) := hb
      clear hb
      go_wp2_with fail
      refine (num_as t M _ ht6 hM.out).mono ?_
      rintro e w' ⟨rfl, rfl⟩
      go_wp2_with fail
      refine (refNum_as t M _ ht6 hM.out).mono ?_
      rintro e w' ⟨rfl, rfl⟩
      go_wp2_with fail
      refine (awake_any _).mono ?_
      rintro e w3 ⟨rfl, hb⟩
      have HB3 : Hid (Below w2.heap.size w2 w3) := hb
      clear hb
      go_wp2_with fail
      go_ret
      exact ⟨rfl, HB1.out.trans ((HB2.out.mono HB1.out.size).trans (HB3.out.mono (Nat.le_trans HB1.out.size HB2.out.size)))⟩

/-! ### THE ROW's STEP -/
set_option maxRecDepth 100000 in
theorem lifted (os : Os) (started : os.Started) (H : Type) (enc : TypeId × Value → H) :
    ReturnsInHanded {} Try.checked os 3 .any (Rows.sumAllSpec.pre6 enc Try.prog Try.f3 Rows.sumAllRow.domain false) (Rows.sumAllSpec.post enc Try.prog Try.f3 false true false false) := by
  refine returnsInHanded_of_change (C := Try.checked) own started (by kernel_rfl) Try.func3
    (ChangeSpec.witness6 (enc := enc) (C := Try.checked) false ⟨#[], #[.slice none 0 0, .int .i64 0, .int .i64 0, .int .i64 0], []⟩ 8 (by kernel_rfl) (by kernel_rfl) (by kernel_rfl) (by kernel_rfl)) ?_
  intro W base args ds gs before hval0 hW hcnd _
  have hval : ∀ (j : Nat) t v, Try.f3.params[j]? = some t → args[j]? = some v → Value.okWide Try.prog W .any base t v := hval0
  have hW' := hW
  obtain ⟨p, q, hA0, hV, rfl, hfz, hnd⟩ := hW
  have hA : DataW.TrodAll enc Try.prog W 0 (fun _ => true) true Try.f3.params.toList args.toList ds p := hA0
  rw [Try.params3] at hA hval
  obtain ⟨v0, vs0, d0, ds0, p0, q0, hargs, rfl, rfl, h0, r0⟩ := trodAll_cons hA
  obtain ⟨v1, vs1, d1, ds1, p1, q1, rfl, rfl, rfl, h1, r1⟩ := trodAll_cons r0
  obtain ⟨v2, vs2, d2, ds2, p2, q2, rfl, rfl, rfl, h2, r2⟩ := trodAll_cons r1
  obtain ⟨v3, vs3, d3, ds3, p3, q3, rfl, rfl, rfl, h3, r3⟩ := trodAll_cons r2
  obtain ⟨rfl, rfl, rfl⟩ := trodAll_nil r3
  obtain rfl : args = #[v0, v1, v2, v3] := by cases args; simp_all
  obtain ⟨rfl, rfl⟩ := trodVars_none hV
  obtain ⟨a0, len0, cap0, rfl⟩ := okWide_slice Try.underlying22 (hval 0 22 v0 rfl rfl)
  have k0 := h0
  have lt0 : ∀ x ∈ p0, x.block < W.heap.size := by obtain ⟨m, hm⟩ := k0; exact DataW.trod_lt m _ _ _ hm
  obtain ⟨ss, w0⟩ : ∃ ss, IsRow W a0 len0 ss := by
    obtain ⟨fuel, hf⟩ := h0
    rcases open_strings Try.underlying22 Try.underlying9 (by kernel_rfl) hf with ⟨hcs, _⟩ | ⟨x, l, c, zs, hcs, _, hl, hm, hz, _, hcell, hwz⟩
    · simp [Value.cells] at hcs
      obtain ⟨rfl, rfl, rfl⟩ := hcs
      exact ⟨[], rfl, by decide, by simp, .inl rfl⟩
    · simp [Value.cells] at hcs
      obtain ⟨rfl, rfl, rfl⟩ := hcs
      have hzl : zs.length = cap0 := by simpa using hz
      refine ⟨zs.take len0, by simp; omega, by omega, fun s hs => hwz s (List.mem_of_mem_take hs), ?_⟩
      by_cases e0 : len0 = 0
      · exact .inl e0
      · right
        obtain ⟨b, off, spot⟩ := x
        have hspot : spot = none := by simpa [Addr.add] using World.cell?_spot (hcell 0 (by omega))
        subst hspot
        refine ⟨b, off, rfl, fun i hi => ?_⟩
        have h := hcell i (by omega)
        rw [Addr.add_lit] at h
        rw [h]
        simp [List.getD, hi]
  obtain ⟨a1, rfl, rfl, rfl, w1⟩ := open_int Try.underlying3 (hval 1 3 v1 rfl rfl) h1
  obtain ⟨a2, rfl, rfl, rfl, w2⟩ := open_int Try.underlying3 (hval 2 3 v2 rfl rfl) h2
  obtain ⟨a3, rfl, rfl, rfl, w3⟩ := open_int Try.underlying3 (hval 3 3 v3 rfl rfl) h3
  have b3 : a3 ≤ 9223372036854775807 := (bounds_i64 w3).2
  clear hA0 hval0
  refine (walk a0 len0 cap0 ss a1 a2 a3 W w0 b3).mono fun e W' ⟨he, bel⟩ => ?_
  subst he
  exact ⟨_, rfl, _, _, _, [], _, [], hW', trodAll_mk1 (shut_bool Try.underlying4 _), (trodAll_cons_mk (Below.trod laidOut (by kernel_rfl) (of_decide_eq_true (by kernel_rfl)) k0 bel lt0) (trodAll_cons_mk (shut_int Try.underlying3 w1) (trodAll_cons_mk (shut_int Try.underlying3 w2) (trodAll_cons_mk (shut_int Try.underlying3 w3) trodAll_mk0)))), rfl, bel.frame _, fun h => by cases h⟩

theorem over : Rows.sumAllRow.holds Try.pinned (OpenSpec.ofChange Rows.sumAllSpec) :=
  OpenClaim.holds_of_wide 3 Try.f3 rfl rfl rfl rfl rfl rfl rfl ⟨rfl, rfl, rfl, rfl, rfl⟩ rfl rfl rfl rfl rfl (by kernel_rfl) Try.func3 (by kernel_rfl)
    (of_decide_eq_true (by kernel_rfl)) (by unfold Func.isWrapper; first | (rw [if_pos (by decide +kernel)]; kernel_rfl) | (rw [if_neg (by decide +kernel)]; exact ⟨rfl, rfl⟩))
    (fun os started H enc _ => lifted os started H enc)

/-- ████ THE STATEMENT ████ -/
theorem proved : Rows.SumAllSaid := over
#print axioms proved
end Go.Proofs.Ytlphmpmfolngnaa.sumAll
