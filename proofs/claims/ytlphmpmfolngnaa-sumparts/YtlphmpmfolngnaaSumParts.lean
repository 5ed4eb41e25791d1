/- SumParts: for any text of at most 800 bytes and any list of at most twelve numbers, cut by these numbers into parts, the text has the same sum, and with an odd number of bytes the same sum with a byte 0 behind; in any case the document's example holds; no condition. -/
import Derived.Test.YtlphmpmfolngnaaAwake
import Derived.WalkKit
import Derived.ProofKit
import Derived.OpenShut
import Derived.ShutString
import Derived.ChangeOld
import Derived.Below
import Derived.Laws.OwnMore
namespace Go.Proofs.Ytlphmpmfolngnaa.sumParts
open Go.ChangeShapes Go.WideShapes Go.ChangeAt Go.RowKit
open Go.ChangeMaps (open_string shut_string)
set_option linter.unusedVariables false

theorem own : ownKnob Try.prog.godebug = none := by kernel_rfl
theorem laidOut : laidOutB Try.prog = true := by kernel_rfl

/-- WHAT THE WALK IS TOLD OF A SLICE OF INTEGERS THAT CAME IN: it is nil; or it leads to a row of 'cap' cells, the numbers 'zs' (the first 'len' are its elements, the rest its spare room), each fitting its kind. -/
def IsRow (k : IntKind) (w : World) (a : Option Addr) (len cap : Nat) (zs : List Int) : Prop :=
  (a = none ∧ len = 0 ∧ cap = 0 ∧ zs = []) ∨
  ∃ x, a = some x ∧ len ≤ cap ∧ cap ≤ maxLen ∧ zs.length = cap ∧ (∀ i, i < zs.length → w.cell? (x.add i) = some (.int k (zs.getD i 0))) ∧ ∀ n ∈ zs, (Lit.int k n).wf = true

theorem info9 : (Try.prog.info? 9).map (fun i => (i.zero, i.size, i.bytes)) = some (some (.string ByteArray.empty), 1, 16) := by kernel_rfl

/-- the sum of a row of texts that the call itself made -/
theorem of_own (B : Nat) (v : Value) (n : Nat) (ss : List ByteArray) (w : World) (r : Int) (ho : w.ownsRow B 9 1 v n (ss.map Value.string)) (hn : 0 < n) (hl : ss.length = n) (hn' : n ≤ 1000) (hs : (Pl.cat ss).length ≤ 1000000)
    (hr : 65535 - Pl.fld (Pl.wt true (Pl.cat ss)) = r) :
    Calls Try.prog 9 #[v] w fun e w' => e = .returned (.int .i64 r) ∧ w = w' := by
  rcases ho.2 with ⟨_, h0⟩ | ⟨g, cap, cur, hv, _⟩
  · omega
  · subst hv
    subst hl
    have h := of_any g 0 cap ss w hs (by omega) (fun i hi => by
      have hc := ho.cellAt i (by omega)
      rw [Nat.zero_add, hc]
      simp [List.getD, hi])
    rw [hr] at h
    exact h
theorem of_one (b : Nat) (x : ByteArray) (w : World) (r : Int) (h0 : w.cell? ⟨b, 0, none⟩ = some (.string x)) (hs : x.size ≤ 1000000) (hr : 65535 - Pl.fld (Pl.wt true x.data.toList) = r) :
    Calls Try.prog 9 #[.slice (some ⟨b, 0, none⟩) 1 1] w fun e w' => e = .returned (.int .i64 r) ∧ w = w' := by
  have hc : Pl.cat [x] = x.data.toList := Pl.cat_one x
  have hl : (Pl.cat [x]).length ≤ 1000000 := by
    rw [hc]
    exact hs
  have h := of_any b 0 1 [x] w hl (by simp) (fun i hi => by
    match i, hi with
    | 0, _ => exact h0)
  rw [hc, hr] at h
  exact h
theorem own_base {w : World} {B n : Nat} {e : TypeId} {v : Value} {xs : List Value} (h : w.ownsRow B e 1 v n xs) {g : Nat} (hg : v.ownBlock = some g) : B ≤ g := by
  rcases h.2 with ⟨rfl, _⟩ | ⟨g', cap, cur, rfl, hb, _⟩
  · cases hg
  · cases hg
    exact hb
theorem cut_rest (A : List UInt8) (rest : ByteArray) (S : List UInt8) (k : Nat) (hk : k ≤ rest.size) (h : A ++ rest.data.toList = S) : A ++ (rest.extract 0 k).data.toList ++ (rest.extract k rest.size).data.toList = S := by
  rw [List.append_assoc, ← h]
  congr 1
  have e1 : (rest.extract 0 k).data.toList = rest.data.toList.take k := by simp
  have e2 : (rest.extract k rest.size).data.toList = rest.data.toList.drop k := by
    simp
    rw [List.take_of_length_le (by simp)]
  rw [e1, e2, List.take_append_drop]
theorem odd_zero (l : List UInt8) (h : l.length % 2 = 1) : Pl.wt true (l ++ [0]) = Pl.wt true l := by
  rw [Pl.wt_append, Pl.par_length, if_neg (by omega)]
  simp [Pl.wt]

set_option maxHeartbeats 1000000 in
theorem walk_long (a0 : ByteArray) (a1 : Option Addr) (len1 cap1 : Nat) (w : World) (w0 : a0.size ≤ 9223372036854775807) (w1 : len1 ≤ 9223372036854775807) (h : 800 < a0.size ∨ 12 < len1) :
    Calls Try.prog 6 #[.string a0, .slice a1 len1 cap1] w fun e w' => e = .returned (.bool true) ∧ Below w.heap.size w w' := by
  by_cases h8 : 800 < a0.size
  · clear h
    have hd : decide (800 < (a0.size : Int)) = true := by simp; omega
    go_enter Try.func6, Try.ntmps6
    go_wp2_with fail
    refine (awake_any _).mono ?_
    rintro e w1 ⟨rfl, hb⟩
    go_wp2_with fail
    go_ret
    exact ⟨rfl, hb⟩
  · have h12 : 12 < len1 := by omega
    clear h
    have hd : decide (800 < (a0.size : Int)) = false := by simp; omega
    have hd2 : decide (12 < (len1 : Int)) = true := by simp; omega
    go_enter Try.func6, Try.ntmps6
    go_wp2_with fail
    refine (awake_any _).mono ?_
    rintro e w1 ⟨rfl, hb⟩
    go_wp2_with fail
    go_ret
    exact ⟨rfl, hb⟩

set_option maxHeartbeats 2000000 in
theorem walk_short (a0 : ByteArray) (a1 : Option Addr) (len1 cap1 : Nat) (z1 : List Int) (w : World) (w0 : a0.size ≤ 800) (hl12 : len1 ≤ 12) (w1 : IsRow .i64 w a1 len1 cap1 z1) :
    Calls Try.prog 6 #[.string a0, .slice a1 len1 cap1] w fun e w' => e = .returned (.bool true) ∧ Below w.heap.size w w' := by
  obtain ⟨i0, hi, hz0, hz1, hz2⟩ := info_parts info9
  have HR : Hid (IsRow .i64 w a1 len1 cap1 z1) := w1
  clear w1
  have hd : decide (800 < (a0.size : Int)) = false := by simp; omega
  have hd2 : decide (12 < (len1 : Int)) = false := by simp; omega
  have HI : Hid (Try.prog.info? 9 = some i0 ∧ i0.zero = some (.string ByteArray.empty) ∧ i0.size = 1 ∧ i0.bytes = 16) := ⟨hi, hz0, hz1, hz2⟩
  clear hi hz0 hz1 hz2
  go_enter Try.func6, Try.ntmps6
  go_wp2
  go_loopw [5, 6, 7] (fun v r i wr => ∃ (k : Nat) (ss : List ByteArray) (rest : ByteArray), k ≤ len1 ∧ i = .int .i64 k ∧ r = .string rest ∧ Hid (ss.length = k) ∧ wr.ownsRow w.heap.size 9 1 v k (ss.map Value.string) ∧ Hid (Pl.cat ss ++ rest.data.toList = a0.data.toList) ∧ rest.size ≤ 800 ∧ Below w.heap.size w wr) (fun _ _ i _ => len1 - (intOf i).toNat)
  case atStart => exact ⟨0, [], a0, Nat.zero_le _, rfl, rfl, rfl, World.ownsRow_nil _ _ _ _, rfl, w0, Below.refl _ _⟩
  case round =>
    obtain ⟨k, ss, rest, hk, rfl, rfl, HL, hown, HC, hrs, hbel⟩ := hrel
    have HO : Hid (wr.ownsRow w.heap.size 9 1 u5 k (ss.map Value.string)) := hown
    have HB : Hid (Below w.heap.size w wr) := hbel
    clear hown hbel
    by_cases hlt : k < len1
    · obtain ⟨b, off, z, ha, hc⟩ : ∃ (b off : Nat) (z : Int), a1 = some ⟨b, off, none⟩ ∧ wr.cell? ⟨b, off + k, none⟩ = some (.int .i64 z) := by
        rcases HR.out with ⟨_, h0, _⟩ | ⟨x, hx, hlc, hm, hz, hcell, _⟩
        · omega
        · obtain ⟨b, off, spot⟩ := x
          have hc := hcell k (by omega)
          have hspot : spot = none := by simpa [Addr.add] using World.cell?_spot (hcell 0 (by omega))
          subst hspot
          rw [Addr.add_lit] at hc
          exact ⟨b, off, _, hx, (HB.out.cell (World.block_lt_of_cell? w _ hc)).trans hc⟩
      subst ha
      go_wp2_with fail
      refine (place_any _ _ _ (by omega) (by omega)).mono ?_
      rintro e w' ⟨rfl, rfl⟩
      have hp := Int.emod_nonneg z (show ((rest.size : Int) + 1) ≠ 0 from by omega)
      have hp2 := Int.emod_lt_of_pos z (show 0 < ((rest.size : Int) + 1) from by omega)
      obtain ⟨j, hj⟩ := Int.eq_ofNat_of_zero_le hp
      rw [hj] at hp2 ⊢
      have hjs : j ≤ rest.size := by omega
      clear hj hp hp2
      go_wp2_with (at_builtin; refine wpList_append_own _ rfl _ _ 22 rfl w.heap.size 9 i0 (.string ByteArray.empty) 1 16 Try.underlying22 HI.out.1 HI.out.2.1 HI.out.2.2.1 HI.out.2.2.2 rfl (by decide) _ _ _ rfl (HO.out.alloc _) ⟨wr.heap.size, 0, none⟩ 1 1 [.string (rest.extract 0 j)] rfl rfl ?c1 ?c2 ?c3 ?c4 ?c5 ?_)
      case c1 => exact cell_one_new _ _ _
      case c2 => intro u hu; simp at hu; subst hu; rfl
      case c3 => unfold maxLen; omega
      case c4 => omega
      case c5 => have := HB.out.size; simp; omega
      · intro v' w2 hown' hgrow _
        have HO' : Hid (w2.ownsRow w.heap.size 9 1 v' (k + 1) ((ss ++ [rest.extract 0 j]).map Value.string)) := by
          show World.ownsRow _ _ _ _ _ _ _
          rw [List.map_append]
          exact hown'
        have HB' : Hid (Below w.heap.size w w2) := (HB.out.alloc HB.out.size _).grown hgrow (by have := HB.out.size; simp; omega) (fun g hg => own_base HO.out hg)
        clear hown' hgrow
        go_wp2
        go_roundw
        case rel => exact ⟨k + 1, ss ++ [rest.extract 0 j], rest.extract j rest.size, by omega, by go_num, rfl, by show _ = _; rw [List.length_append, HL.out]; rfl, HO'.out, by show _ = _; rw [Pl.cat_append, Pl.cat_one]; exact cut_rest _ rest _ j hjs HC.out, by simp; omega, HB'.out⟩
        case measure => simp [intOf]; omega
    · obtain ⟨R, hR⟩ : ∃ R, Hid (65535 - Pl.fld (Pl.wt true a0.data.toList) = R) := ⟨_, rfl⟩
      go_wp2_with (at_builtin; refine wpList_append_own _ rfl _ _ 22 rfl w.heap.size 9 i0 (.string ByteArray.empty) 1 16 Try.underlying22 HI.out.1 HI.out.2.1 HI.out.2.2.1 HI.out.2.2.2 rfl (by decide) _ _ _ rfl (HO.out.alloc _) ⟨wr.heap.size, 0, none⟩ 1 1 [.string rest] rfl rfl ?c1 ?c2 ?c3 ?c4 ?c5 ?_)
      case c1 => exact cell_one_new _ _ _
      case c2 => intro u hu; simp at hu; subst hu; rfl
      case c3 => unfold maxLen; omega
      case c4 => omega
      case c5 => have := HB.out.size; simp; omega
      · intro v' w2 hown' hgrow _
        have HO' : Hid (w2.ownsRow w.heap.size 9 1 v' (k + 1) ((ss ++ [rest]).map Value.string)) := by
          show World.ownsRow _ _ _ _ _ _ _
          rw [List.map_append]
          exact hown'
        have HB2 : Hid (Below w.heap.size w w2) := (HB.out.alloc HB.out.size _).grown hgrow (by have := HB.out.size; simp; omega) (fun g hg => own_base HO.out hg)
        clear hown' hgrow
        have HCC : Hid (Pl.cat (ss ++ [rest]) = a0.data.toList) := by
          show _ = _
          rw [Pl.cat_append, Pl.cat_one]
          exact HC.out
        go_wp2_with fail
        refine (of_own w.heap.size v' (k + 1) (ss ++ [rest]) _ R HO'.out (by omega) (by rw [List.length_append, HL.out]; rfl) (by omega) (by rw [HCC.out]; show a0.size ≤ _; omega) (by rw [HCC.out]; exact hR.out)).mono ?_
        rintro e w' ⟨rfl, rfl⟩
        go_wp2_with fail
        refine (of_one w2.heap.size a0 _ R (by simp) (by omega) hR.out).mono ?_
        rintro e w' ⟨rfl, rfl⟩
        have HB3 : Hid (Below w.heap.size w (w2.alloc (.cells #[.string a0] 9))) := HB2.out.alloc HB2.out.size _
        generalize w2.alloc (.cells #[.string a0] 9) = W3 at HB3 ⊢
        by_cases hev : a0.size % 2 = 0
        · have he : (((a0.size : Int) % 2) == 0) = true := beq_iff_eq.2 (by omega)
          go_wp2_with fail
          refine (awake_any _).mono ?_
          rintro e W4 ⟨rfl, hb⟩
          have HB4 : Hid (Below W3.heap.size W3 W4) := hb
          clear hb
          go_wp2_with fail
          go_ret
          exact ⟨rfl, HB3.out.trans (HB4.out.mono HB3.out.size)⟩
        · have he : (((a0.size : Int) % 2) == 0) = false := beq_eq_false_iff_ne.2 (by omega)
          have HZ : Hid (65535 - Pl.fld (Pl.wt true (a0 ++ ⟨#[0]⟩).data.toList) = R) := by
            show _ = _
            rw [show (a0 ++ ⟨#[0]⟩ : ByteArray).data.toList = a0.data.toList ++ [0] from by simp [ByteArray.data_append], odd_zero _ (by show a0.size % 2 = 1; omega)]
            exact hR.out
          go_wp2_with fail
          refine (of_one W3.heap.size (a0 ++ ⟨#[0]⟩) _ R (by simp) (by rw [ByteArray.size_append]; show a0.size + 1 ≤ _; omega) HZ.out).mono ?_
          rintro e w' ⟨rfl, rfl⟩
          have HB4 : Hid (Below w.heap.size w (W3.alloc (.cells #[.string (a0 ++ ⟨#[0]⟩)] 9))) := HB3.out.alloc HB3.out.size _
          generalize W3.alloc (.cells #[.string (a0 ++ ⟨#[0]⟩)] 9) = W4 at HB4 ⊢
          go_wp2_with fail
          refine (of_one W4.heap.size a0 _ R (by simp) (by omega) hR.out).mono ?_
          rintro e w' ⟨rfl, rfl⟩
          have HB5 : Hid (Below w.heap.size w (W4.alloc (.cells #[.string a0] 9))) := HB4.out.alloc HB4.out.size _
          generalize W4.alloc (.cells #[.string a0] 9) = W5 at HB5 ⊢
          go_wp2_with fail
          refine (awake_any _).mono ?_
          rintro e W6 ⟨rfl, hb⟩
          have HB6 : Hid (Below W5.heap.size W5 W6) := hb
          clear hb
          go_wp2_with fail
          go_ret
          exact ⟨rfl, HB5.out.trans (HB6.out.mono HB5.out.size)⟩

theorem walk (a0 : ByteArray) (a1 : Option Addr) (len1 cap1 : Nat) (z1 : List Int) (w : World) (w0 : a0.size ≤ maxLen) (w1 : IsRow .i64 w a1 len1 cap1 z1) :
    Calls Try.prog 6 #[.string a0, .slice a1 len1 cap1] w fun e w' => e = .returned (.bool true) ∧ Below w.heap.size w w' := by
  unfold maxLen at w0
  have hlm : len1 ≤ 9223372036854775807 := by
    rcases w1 with ⟨_, h0, _⟩ | ⟨x, _, hl, hm, _⟩
    · omega
    · unfold maxLen at hm
      omega
  by_cases h8 : a0.size ≤ 800
  · by_cases h12 : len1 ≤ 12
    · exact walk_short a0 a1 len1 cap1 z1 w h8 h12 w1
    · exact walk_long a0 a1 len1 cap1 w w0 hlm (.inr (by omega))
  · exact walk_long a0 a1 len1 cap1 w w0 hlm (.inl (by omega))

/-! ### THE ROW's STEP: WRITTEN OUT: LEAVE IT -/
set_option maxRecDepth 100000 in
theorem lifted (os : Os) (started : os.Started) (H : Type) (enc : TypeId × Value → H) :
    ReturnsInHanded {} Try.checked os 6 .any (Rows.sumPartsSpec.pre6 enc Try.prog Try.f6 Rows.sumPartsRow.domain false) (Rows.sumPartsSpec.post enc Try.prog Try.f6 false true false false) := by
  refine returnsInHanded_of_change (C := Try.checked) own started (by kernel_rfl) Try.func6
    (ChangeSpec.witness6 (enc := enc) (C := Try.checked) false ⟨#[], #[.string ByteArray.empty, .slice none 0 0], []⟩ 8 (by kernel_rfl) (by kernel_rfl) (by kernel_rfl) (by kernel_rfl)) ?_
  intro W base args ds gs before hval0 hW hcnd _
  have hval : ∀ (j : Nat) t v, Try.f6.params[j]? = some t → args[j]? = some v → Value.okWide Try.prog W .any base t v := hval0
  have hW' := hW
  obtain ⟨p, q, hA0, hV, rfl, hfz, hnd⟩ := hW
  have hA : DataW.TrodAll enc Try.prog W 0 (fun _ => true) true Try.f6.params.toList args.toList ds p := hA0
  rw [Try.params6] at hA hval
  obtain ⟨v0, vs0, d0, ds0, p0, q0, hargs, rfl, rfl, h0, r0⟩ := trodAll_cons hA
  obtain ⟨v1, vs1, d1, ds1, p1, q1, rfl, rfl, rfl, h1, r1⟩ := trodAll_cons r0
  obtain ⟨rfl, rfl, rfl⟩ := trodAll_nil r1
  obtain rfl : args = #[v0, v1] := by cases args; simp_all
  obtain ⟨rfl, rfl⟩ := trodVars_none hV
  obtain ⟨a0, rfl, rfl, rfl, w0⟩ := open_string Try.underlying9 (hval 0 9 v0 rfl rfl) h0
  obtain ⟨a1, len1, cap1, rfl⟩ := okWide_slice Try.underlying31 (hval 1 31 v1 rfl rfl)
  have k1 := h1
  have lt1 : ∀ x ∈ p1, x.block < W.heap.size := by obtain ⟨m, hm⟩ := k1; exact DataW.trod_lt m _ _ _ hm
  obtain ⟨z1, w1⟩ : ∃ zs, IsRow .i64 W a1 len1 cap1 zs := by
    obtain ⟨fuel, hf⟩ := h1
    rcases open_ints Try.underlying31 Try.underlying3 (by kernel_rfl) hf with ⟨hcs, _⟩ | ⟨x, l, c, zs, hcs, _, hl, hm, hz, _, hcell, hwz⟩
    · simp [Value.cells] at hcs
      obtain ⟨rfl, rfl, rfl⟩ := hcs
      exact ⟨[], .inl ⟨rfl, rfl, rfl, rfl⟩⟩
    · simp [Value.cells] at hcs
      obtain ⟨rfl, rfl, rfl⟩ := hcs
      exact ⟨zs, .inr ⟨_, rfl, hl, hm, by simpa using hz, hcell, hwz⟩⟩
  clear hA0 hval0
  refine (walk a0 a1 len1 cap1 z1 W w0 w1).mono fun e W' ⟨he, bel⟩ => ?_
  subst he
  exact ⟨_, rfl, _, _, _, [], _, [], hW', trodAll_mk1 (shut_bool Try.underlying4 _), (trodAll_cons_mk (shut_string Try.underlying9 w0) (trodAll_cons_mk (Below.trod laidOut (by kernel_rfl) (of_decide_eq_true (by kernel_rfl)) k1 bel lt1) trodAll_mk0)), rfl, bel.frame _, fun h => by cases h⟩

theorem over : Rows.sumPartsRow.holds Try.pinned (OpenSpec.ofChange Rows.sumPartsSpec) :=
  OpenClaim.holds_of_wide 6 Try.f6 rfl rfl rfl rfl rfl rfl rfl ⟨rfl, rfl, rfl, rfl, rfl⟩ rfl rfl rfl rfl rfl (by kernel_rfl) Try.func6 (by kernel_rfl)
    (of_decide_eq_true (by kernel_rfl)) (by unfold Func.isWrapper; first | (rw [if_pos (by decide +kernel)]; kernel_rfl) | (rw [if_neg (by decide +kernel)]; exact ⟨rfl, rfl⟩))
    (fun os started H enc _ => lifted os started H enc)

/-- ████ THE STATEMENT ████ -/
theorem proved : Rows.SumPartsSaid := over
#print axioms proved
end Go.Proofs.Ytlphmpmfolngnaa.sumParts
