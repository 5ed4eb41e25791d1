/- EthParts: for any place, any byte and any body of at most 500 bytes, a byte of a frame's head that is turned turns just the field that it stands in; for a longer body the document's example holds; no condition. -/
import Derived.Test.YtajkcdcnihjfkaaEthSizes
import Derived.LoopN
namespace Go.Proofs.Ytajkcdcnihjfkaa.ethParts
open Go.ChangeShapes Go.WideShapes Go.ChangeAt Go.RowKit
open Go.ChangeMaps (open_string shut_string)
set_option linter.unusedVariables false

theorem xor_u8 (a b : UInt8) : bits .xor .u8 (a.toNat : Int) (b.toNat : Int) = ((a ^^^ b).toNat : Int) := by
  have ha := a.toNat_lt
  have hb := b.toNat_lt
  have h2 : (BitVec.ofInt 8 (a.toNat : Int)).toNat = a.toNat := by
    rw [BitVec.ofInt_natCast, BitVec.toNat_ofNat]
    exact Nat.mod_eq_of_lt (by omega)
  have h3 : (BitVec.ofInt 8 (b.toNat : Int)).toNat = b.toNat := by
    rw [BitVec.ofInt_natCast, BitVec.toNat_ofNat]
    exact Nat.mod_eq_of_lt (by omega)
  have hx : (a ^^^ b).toNat < 256 := (a ^^^ b).toNat_lt
  rw [UInt8.toNat_xor] at hx ⊢
  show IntKind.u8.wrap ((BitVec.ofInt 8 (a.toNat : Int) ^^^ BitVec.ofInt 8 (b.toNat : Int)).toNat : Nat) = _
  rw [BitVec.toNat_xor, h2, h3]
  show ((a.toNat ^^^ b.toNat : Nat) : Int) % 256 = _
  omega
theorem xor_same (a b : UInt8) : a ^^^ b = a ↔ b = 0 := by
  constructor
  · intro h
    have : a ^^^ (a ^^^ b) = a ^^^ a := by rw [h]
    rw [← UInt8.xor_assoc, UInt8.xor_self, UInt8.zero_xor] at this
    exact this
  · rintro rfl
    exact UInt8.xor_zero
/-- the head's bytes -/
def L14 : List UInt8 := [10, 11, 12, 13, 14, 15, 20, 21, 22, 23, 24, 25, 8, 0]
/-- with one turned -/
def M14 (k : Nat) (b : UInt8) : List UInt8 := L14.set k (L14.getD k 0 ^^^ b)
theorem M14_len (k : Nat) (b : UInt8) : (M14 k b).length = 14 := by simp [M14, L14]
theorem M14_at (k i : Nat) (b : UInt8) (hi : i < 14) : (M14 k b).getD i 0 = if k = i then L14.getD i 0 ^^^ b else L14.getD i 0 := by
  have hl : i < L14.length := hi
  unfold M14
  by_cases h : k = i
  · subst h
    simp [List.getD, hl]
  · rw [if_neg h]
    simp [List.getD, List.getElem?_set_ne h]
theorem M14_same (k i : Nat) (b : UInt8) (hi : i < 14) : (((M14 k b).getD i 0).toNat : Int) = ((L14.getD i 0).toNat : Int) ↔ (k ≠ i ∨ b = 0) := by
  rw [M14_at k i b hi]
  by_cases h : k = i
  · rw [if_pos h]
    constructor
    · intro e
      right
      exact (xor_same (L14.getD i 0) b).1 (UInt8.toNat_inj.1 (by omega))
    · rintro (h' | rfl)
      · exact absurd h h'
      · rw [UInt8.xor_zero]
  · rw [if_neg h]
    simp [h]
theorem M14_type (k : Nat) (b : UInt8) (hk : k < 14) : ((((M14 k b).getD 12 0).toNat : Int) * 256 + (((M14 k b).getD 13 0).toNat : Int) = 2048) ↔ (k < 12 ∨ b = 0) := by
  have h12 := M14_same k 12 b (by omega)
  have h13 := M14_same k 13 b (by omega)
  have e12 : ((L14.getD 12 0).toNat : Int) = 8 := rfl
  have e13 : ((L14.getD 13 0).toNat : Int) = 0 := rfl
  have b12 := ((M14 k b).getD 12 0).toNat_lt
  have b13 := ((M14 k b).getD 13 0).toNat_lt
  rw [e12] at h12
  rw [e13] at h13
  generalize ((M14 k b).getD 12 0).toNat = x at *
  generalize ((M14 k b).getD 13 0).toNat = y at *
  by_cases hb : b = 0
  · simp only [hb, or_true, iff_true] at *
    omega
  · simp only [hb, or_false] at *
    omega
theorem list14 (l : List UInt8) (h : l.length = 14) : l = [l.getD 0 0, l.getD 1 0, l.getD 2 0, l.getD 3 0, l.getD 4 0, l.getD 5 0, l.getD 6 0, l.getD 7 0, l.getD 8 0, l.getD 9 0, l.getD 10 0, l.getD 11 0, l.getD 12 0, l.getD 13 0] := by
  match l, h with
  | [_, _, _, _, _, _, _, _, _, _, _, _, _, _], _ => rfl
theorem set_head (L M : List UInt8) (k : Nat) (x : UInt8) (h : k < L.length) : (L ++ M).set k x = L.set k x ++ M := by rw [List.set_append_left _ _ h]

/-- the frame with one byte turned, got -/
theorem get_turned (k : Nat) (b : UInt8) (body : ByteArray) (h : body.size ≤ 500) (m0 m1 m2 m3 m4 m5 m6 m7 m8 m9 m10 m11 m12 m13 : UInt8) (hM : M14 k b = [m0, m1, m2, m3, m4, m5, m6, m7, m8, m9, m10, m11, m12, m13]) (w : World) :
    Calls Try.prog 8 #[.string ⟨(M14 k b ++ body.data.toList).toArray⟩] w fun e w' => e = .returned (.tuple #[.agg (ethB m0 m1 m2 m3 m4 m5 m6 m7 m8 m9 m10 m11 ((m12.toNat : Int) * 256 + (m13.toNat : Int))), .string body, .int .i64 0]) ∧ Below w.heap.size w w' := by
  have g := ethSizes.get_cat m0 m1 m2 m3 m4 m5 m6 m7 m8 m9 m10 m11 m12 m13 body (by omega) w
  rw [hM, ethSizes.cat_lists]
  exact g
theorem put_h (body : ByteArray) (h : body.size ≤ 500) (w : World) :
    Calls Try.prog 11 #[.agg #[.int .u8 10, .int .u8 11, .int .u8 12, .int .u8 13, .int .u8 14, .int .u8 15, .int .u8 20, .int .u8 21, .int .u8 22, .int .u8 23, .int .u8 24, .int .u8 25, .int .i64 2048], .string body] w fun e w' => e = .returned (.string ⟨(L14 ++ body.data.toList).toArray⟩) ∧ Below w.heap.size w w' := by
  have g := put_any 10 11 12 13 14 15 20 21 22 23 24 25 2048 body w (by omega)
  have e : (⟨(L14 ++ body.data.toList).toArray⟩ : ByteArray) = ⟨#[10, 11, 12, 13, 14, 15, 20, 21, 22, 23, 24, 25, hiB 2048, loB 2048]⟩ ++ body := by
    rw [ethSizes.cat_lists]
    rfl
  rw [e]
  exact g

theorem bools (gd hd gs hs : Int) (k i : Nat) (b : UInt8) (hD : gd = hd ↔ (k ≠ i ∨ b = 0)) (hS : gs = hs ↔ (k ≠ 6 + i ∨ b = 0)) :
    ∃ nk nk6 bz : Bool, ((k : Int) != (i : Int)) = nk ∧ ((k : Int) != 6 + (i : Int)) = nk6 ∧ ((b.toNat : Int) == 0) = bz ∧ (gd == hd) = (nk || bz) ∧ (gs == hs) = (nk6 || bz) := by
  refine ⟨_, _, _, rfl, rfl, rfl, ?_, ?_⟩
  · rw [Bool.eq_iff_iff, beq_iff_eq, Bool.or_eq_true, bne_iff_ne, beq_iff_eq, hD]
    have : b = 0 ↔ (b.toNat : Int) = 0 := by rw [← UInt8.toNat_inj]; show b.toNat = 0 ↔ _; omega
    rw [this]
    omega
  · rw [Bool.eq_iff_iff, beq_iff_eq, Bool.or_eq_true, bne_iff_ne, beq_iff_eq, hS]
    have : b = 0 ↔ (b.toNat : Int) = 0 := by rw [← UInt8.toNat_inj]; show b.toNat = 0 ↔ _; omega
    rw [this]
    omega
theorem bools2 (T : Int) (k : Nat) (b : UInt8) (hT : T = 2048 ↔ (k < 12 ∨ b = 0)) :
    ∃ lk bz : Bool, decide ((k : Int) < 12) = lk ∧ ((b.toNat : Int) == 0) = bz ∧ (T == 2048) = (lk || bz) := by
  refine ⟨_, _, rfl, rfl, ?_⟩
  rw [Bool.eq_iff_iff, beq_iff_eq, Bool.or_eq_true, decide_eq_true_iff, beq_iff_eq, hT]
  have : b = 0 ↔ (b.toNat : Int) = 0 := by rw [← UInt8.toNat_inj]; show b.toNat = 0 ↔ _; omega
  rw [this]
  omega
/-- what the two heads' cells say, place by place -/
theorem facts (W : World) (B0 B1 k : Nat) (b : UInt8) (hk : k < 14) (m0 m1 m2 m3 m4 m5 m6 m7 m8 m9 m10 m11 m12 m13 : UInt8) (hM : M14 k b = [m0, m1, m2, m3, m4, m5, m6, m7, m8, m9, m10, m11, m12, m13]) (q1 : ∀ o, W.cell? ⟨B0, o, none⟩ = #[Value.int .u8 10, .int .u8 11, .int .u8 12, .int .u8 13, .int .u8 14, .int .u8 15, .int .u8 20, .int .u8 21, .int .u8 22, .int .u8 23, .int .u8 24, .int .u8 25, .int .i64 2048][o]?)
    (q2 : ∀ o, W.cell? ⟨B1, o, none⟩ = (ethB m0 m1 m2 m3 m4 m5 m6 m7 m8 m9 m10 m11 ((m12.toNat : Int) * 256 + (m13.toNat : Int)))[o]?) :
    (∀ i, i < 6 → ∃ gd hd gs hs : Int, W.cell? ⟨B1, i, none⟩ = some (.int .u8 gd) ∧ W.cell? ⟨B0, i, none⟩ = some (.int .u8 hd) ∧ W.cell? ⟨B1, 6 + i, none⟩ = some (.int .u8 gs) ∧ W.cell? ⟨B0, 6 + i, none⟩ = some (.int .u8 hs) ∧ (gd = hd ↔ (k ≠ i ∨ b = 0)) ∧ (gs = hs ↔ (k ≠ 6 + i ∨ b = 0))) ∧
    ∃ T : Int, W.cell? ⟨B1, 12, none⟩ = some (.int .i64 T) ∧ W.cell? ⟨B0, 12, none⟩ = some (.int .i64 2048) ∧ (T = 2048 ↔ (k < 12 ∨ b = 0)) := by
  have sm := fun i hi => M14_same k i b hi
  have ty := M14_type k b hk
  rw [hM] at sm ty
  refine ⟨six_cases ?_ ?_ ?_ ?_ ?_ ?_, _, q2 12, q1 12, ty⟩
  · exact ⟨_, _, _, _, q2 0, q1 0, q2 6, q1 6, sm 0 (by decide), sm 6 (by decide)⟩
  · exact ⟨_, _, _, _, q2 1, q1 1, q2 7, q1 7, sm 1 (by decide), sm 7 (by decide)⟩
  · exact ⟨_, _, _, _, q2 2, q1 2, q2 8, q1 8, sm 2 (by decide), sm 8 (by decide)⟩
  · exact ⟨_, _, _, _, q2 3, q1 3, q2 9, q1 9, sm 3 (by decide), sm 9 (by decide)⟩
  · exact ⟨_, _, _, _, q2 4, q1 4, q2 10, q1 10, sm 4 (by decide), sm 10 (by decide)⟩
  · exact ⟨_, _, _, _, q2 5, q1 5, q2 11, q1 11, sm 5 (by decide), sm 11 (by decide)⟩

set_option maxRecDepth 100000 in
set_option maxHeartbeats 2000000 in
theorem walk_short (at' : Int) (b : UInt8) (body : ByteArray) (w : World) (h : body.size ≤ 500) :
    Calls Try.prog 6 #[.int .i64 at', bv b, .string body] w fun e w' => e = .returned (.bool true) ∧ Below w.heap.size w w' := by
  go_enter Try.func6, Try.ntmps6
  go_wp2_with fail
  refine wp_loop_rounds 7 ?_
  rw [rounds_succ]; go_wp2_with fail
  rw [rounds_succ]; go_wp2_with fail
  rw [rounds_succ]; go_wp2_with fail
  rw [rounds_succ]; go_wp2_with fail
  rw [rounds_succ]; go_wp2_with fail
  rw [rounds_succ]; go_wp2_with fail
  rw [rounds_succ]; go_wp2_with fail
  obtain ⟨FR, hFR⟩ : ∃ FR : ByteArray, FR = ⟨(L14 ++ body.data.toList).toArray⟩ := ⟨_, rfl⟩
  have hFs : FR.size = 14 + body.size := by
    rw [hFR]
    show (L14 ++ body.data.toList).toArray.size = _
    have e : body.data.size = body.size := rfl
    simp [L14]
    omega
  have hFl : FR.data.toList = L14 ++ body.data.toList := by rw [hFR]
  have hput := put_h body h
  rw [← hFR] at hput
  have HFl := (show Hid (FR.data.toList = L14 ++ body.data.toList) from hFl)
  have hfi : (FR.size : Int) = 14 + (body.size : Int) := by omega
  clear hFR hFl
  refine (hput _).mono ?_
  rintro e w1 ⟨rfl, hb1⟩
  obtain ⟨W2, cap, hconv, R, hb2, hz2⟩ := conv_row w1 FR
  rw [HFl.out] at R
  have n2 := below_call (below_call (new_alloc w _) (size_alloc1 _ _) hb1) (size_alloc1 _ _) hb2
  have HN2 := (show Hid (Below _ _ W2) from n2)
  have HB2 := (show Hid (Below w.heap.size w W2) from (below1 w _).trans (n2.mono (Nat.le_succ _)))
  have HR := (show Hid (BRow W2 w1.heap.size (L14 ++ body.data.toList)) from R)
  have HZ1 := (show Hid (w.heap.size + 1 ≤ w1.heap.size) from by have := hb1.size; simp at this; exact this)
  have HZ2 := (show Hid (w1.heap.size < W2.heap.size) from hz2)
  clear hb1 hb2 n2 R hz2
  go_wp2_with fail
  refine (place_any _ _ _ (by omega) (by omega)).mono ?_
  rintro e w' ⟨rfl, rfl⟩
  have hk0 := Int.emod_nonneg at' (show (14 : Int) ≠ 0 from by omega)
  have hk1 := Int.emod_lt_of_pos at' (show 0 < (14 : Int) from by omega)
  obtain ⟨k, hk⟩ := Int.eq_ofNat_of_zero_le hk0
  rw [hk] at hk1 ⊢
  clear hk hk0 hconv hput
  have hk14 : k < 14 := by omega
  obtain ⟨ck, fk⟩ := HR.out.at (j := k) (by simp [L14]; omega)
  have hgk : (L14 ++ body.data.toList).getD k 0 = L14.getD k 0 := by
    simp [List.getD, List.getElem?_append_left (show k < L14.length from hk14)]
  rw [hgk] at ck
  have hx := xor_u8 (L14.getD k 0) b
  have kb : (k : Int) < 14 + (body.size : Int) := by omega
  have R3 := HR.out.set k (L14.getD k 0 ^^^ b)
  rw [set_head _ _ _ _ (show k < L14.length from hk14)] at R3
  have S3 := R3.string (n := 14 + body.size) (c := cap) (by have e : body.data.size = body.size := rfl; simp [L14] <;> omega)
  have HM := (show Hid (L14.set k (L14.getD k 0 ^^^ b) = M14 k b) from rfl)
  rw [HM.out] at S3
  obtain ⟨m0, m1, m2, m3, m4, m5, m6, m7, m8, m9, m10, m11, m12, m13, hM⟩ : ∃ m0 m1 m2 m3 m4 m5 m6 m7 m8 m9 m10 m11 m12 m13 : UInt8, M14 k b = [m0, m1, m2, m3, m4, m5, m6, m7, m8, m9, m10, m11, m12, m13] := ⟨_, _, _, _, _, _, _, _, _, _, _, _, _, _, list14 _ (M14_len k b)⟩
  have HMM := (show Hid (M14 k b = [m0, m1, m2, m3, m4, m5, m6, m7, m8, m9, m10, m11, m12, m13]) from hM)
  have hget := get_turned k b body h m0 m1 m2 m3 m4 m5 m6 m7 m8 m9 m10 m11 m12 m13 hM
  clear hM
  clear hgk R3 HM HFl
  generalize L14.getD k 0 ^^^ b = xk at *
  generalize L14.getD k 0 = gk at *
  go_wp2_with fail
  refine (hget _).mono ?_
  rintro e w3 ⟨rfl, hb3⟩
  have z3 : w.heap.size < w3.heap.size := by have := hb3.size; have := HZ1.out; have := HZ2.out; simp at *; omega
  have n3 : Below (w.heap.size + 1) _ w3 := (HN2.out.setCell (p := ⟨w1.heap.size, k, none⟩) HZ1.out (.int .u8 (xk.toNat : Int))).trans (hb3.mono (by have := HZ1.out; have := HZ2.out; simp; omega))
  have HB3 := (show Hid (Below w.heap.size w w3) from (below1 w _).trans (n3.mono (Nat.le_succ _)))
  clear hb3 S3 hx ck fk kb hget HN2 HB2 HR HZ1 HZ2
  have q1 := (new_in (below_more n3 (size_alloc1 _ _) (.cells (ethB m0 m1 m2 m3 m4 m5 m6 m7 m8 m9 m10 m11 ((m12.toNat : Int) * 256 + (m13.toNat : Int))) 24))).1
  have q2 := (new_in (new_alloc w3 (.cells (ethB m0 m1 m2 m3 m4 m5 m6 m7 m8 m9 m10 m11 ((m12.toNat : Int) * 256 + (m13.toNat : Int))) 24))).1
  have HB4 := (show Hid (Below w.heap.size w _) from HB3.out.alloc HB3.out.size (.cells (ethB m0 m1 m2 m3 m4 m5 m6 m7 m8 m9 m10 m11 ((m12.toNat : Int) * 256 + (m13.toNat : Int))) 24))
  obtain ⟨F6, T, cT, cH, hT⟩ := facts _ w.heap.size w3.heap.size k b hk14 m0 m1 m2 m3 m4 m5 m6 m7 m8 m9 m10 m11 m12 m13 HMM.out q1 q2
  have HF := (show Hid _ from F6)
  have HT := (show Hid (T = 2048 ↔ (k < 12 ∨ b = 0)) from hT)
  have HCT := (show Hid _ from cT)
  have HCH := (show Hid _ from cH)
  clear q1 q2 F6 hT cT cH n3 HB3
  go_wp2_with fail
  generalize w3.alloc _ = W4 at HF HCT HCH HB4 ⊢
  go_loopw [14] (fun s14 wr => ∃ i q : Nat, i ≤ 6 ∧ s14 = .int .i64 (i : Int) ∧ wr = W4.drewN q) (fun s14 _ => 6 - (intOf s14).toNat)
  case atStart => exact ⟨0, 0, by omega, rfl, rfl⟩
  case round =>
    obtain ⟨i, q, hi, rfl, rfl⟩ := hrel
    by_cases hlt : i < 6
    · obtain ⟨gd, hd, gs, hs, c1, c2, c3, c4, hDi, hSi⟩ := HF.out i hlt
      obtain ⟨nk, nk6, bz, e1, e2, e3, e4, e5⟩ := bools gd hd gs hs k i b hDi hSi
      have i6 : (i : Int) < 6 := by omega
      have i0 : (0 : Int) ≤ (i : Int) := by omega
      clear hDi hSi HF HCT HCH HT
      cases nk <;> cases nk6 <;> cases bz <;> simp only [Bool.or_true, Bool.or_false] at e4 e5
      all_goals
        go_wp2_with fail
        go_quiet (fail)
        go_wp2_with fail
        go_roundw
        case rel => exact ⟨i + 1, _, by omega, by go_num, rfl⟩
        case measure => simp [intOf]; omega
    · obtain rfl : i = 6 := by omega
      obtain ⟨lk, bz, e1, e3, e4⟩ := bools2 T k b HT.out
      have cT := HCT.out
      have cH := HCH.out
      clear HF HCT HCH HT
      cases lk <;> cases bz <;> simp only [Bool.or_true, Bool.or_false] at e4
      all_goals
        go_wp2_with fail
        refine (awake_any _).mono ?_
        rintro e w5 ⟨rfl, hb5⟩
        go_wp2_with fail
        go_ret
        exact ⟨rfl, below_after (below_drewN HB4.out _) hb5⟩

set_option maxHeartbeats 400000 in
theorem walk_long (at' : Int) (b : UInt8) (body : ByteArray) (w : World) (h : 500 < body.size) (w2 : body.size ≤ 9223372036854775807) :
    Calls Try.prog 6 #[.int .i64 at', bv b, .string body] w fun e w' => e = .returned (.bool true) ∧ Below w.heap.size w w' := by
  go_enter Try.func6, Try.ntmps6
  go_wp2_with fail
  refine (awake_any _).mono ?_
  rintro e w1 ⟨rfl, hb1⟩
  go_wp2_with fail
  go_ret
  exact ⟨rfl, hb1⟩

theorem walk (at' : Int) (_ : (Lit.int .i64 at').wf = true) (b : UInt8) (body : ByteArray) (w2 : body.size ≤ maxLen) (w : World) :
    Calls Try.prog 6 #[.int .i64 at', bv b, .string body] w fun e w' => e = .returned (.bool true) ∧ Below w.heap.size w w' := by
  unfold maxLen at w2
  by_cases h : body.size ≤ 500
  · exact walk_short at' b body w h
  · exact walk_long at' b body w (by omega) (by omega)

/-! ### THE ROW's STEP -/
set_option maxRecDepth 100000 in
theorem lifted (os : Os) (started : os.Started) (H : Type) (enc : TypeId × Value → H) :
    ReturnsInHanded {} Try.checked os 6 .any (Rows.ethPartsSpec.pre6 enc Try.prog Try.f6 Rows.ethPartsRow.domain false) (Rows.ethPartsSpec.post enc Try.prog Try.f6 false true false false) := by
  refine returnsInHanded_of_change (C := Try.checked) own started (by kernel_rfl) Try.func6
    (ChangeSpec.witness6 (enc := enc) (C := Try.checked) false ⟨#[], #[.int .i64 0, .int .u8 0, .string ByteArray.empty], []⟩ 8 (by kernel_rfl) (by kernel_rfl) (by kernel_rfl) (by kernel_rfl)) ?_
  intro W base args ds gs before hval0 hW hcnd _
  have hval : ∀ (j : Nat) t v, Try.f6.params[j]? = some t → args[j]? = some v → Value.okWide Try.prog W .any base t v := hval0
  have hW' := hW
  obtain ⟨p, q, hA0, hV, rfl, hfz, hnd⟩ := hW
  have hA : DataW.TrodAll enc Try.prog W 0 (fun _ => true) true Try.f6.params.toList args.toList ds p := hA0
  have hB := fun (W' : World) (bel : Below W.heap.size W W') => below_trodAll_of laidOut bel _ (by kernel_rfl) hA
  rw [Try.params6] at hA hval
  obtain ⟨v0, vs0, d0, ds0, p0, q0, hargs, rfl, rfl, h0, r0⟩ := trodAll_cons hA
  obtain ⟨v1, vs1, d1, ds1, p1, q1, rfl, rfl, rfl, h1, r1⟩ := trodAll_cons r0
  obtain ⟨v2, vs2, d2, ds2, p2, q2, rfl, rfl, rfl, h2, r2⟩ := trodAll_cons r1
  obtain ⟨rfl, rfl, rfl⟩ := trodAll_nil r2
  obtain rfl : args = #[v0, v1, v2] := by cases args; simp_all
  obtain ⟨rfl, rfl⟩ := trodVars_none hV
  obtain ⟨a0, rfl, rfl, rfl, w0⟩ := open_int Try.underlying3 (hval 0 3 v0 rfl rfl) h0
  obtain ⟨a1, rfl, rfl, rfl, w1⟩ := open_int Try.underlying5 (hval 1 5 v1 rfl rfl) h1
  obtain ⟨x1, rfl⟩ := u8_of w1
  obtain ⟨a2, rfl, rfl, rfl, w2⟩ := open_string Try.underlying9 (hval 2 9 v2 rfl rfl) h2
  clear hA0 hval0
  refine (walk a0 w0 x1 a2 w2 W).mono fun e W' ⟨he, bel⟩ => ?_
  subst he
  exact ⟨_, rfl, _, _, _, [], _, [], hW', trodAll_mk1 (shut_bool Try.underlying4 _), hB W' bel, rfl, bel.frame _, fun h => by cases h⟩

theorem over : Rows.ethPartsRow.holds Try.pinned (OpenSpec.ofChange Rows.ethPartsSpec) :=
  OpenClaim.holds_of_wide 6 Try.f6 rfl rfl rfl rfl rfl rfl rfl ⟨rfl, rfl, rfl, rfl, rfl⟩ rfl rfl rfl rfl rfl (by kernel_rfl) Try.func6 (by kernel_rfl)
    (of_decide_eq_true (by kernel_rfl)) (by unfold Func.isWrapper; first | (rw [if_pos (by decide +kernel)]; kernel_rfl) | (rw [if_neg (by decide +kernel)]; exact ⟨rfl, rfl⟩))
    (fun os started H enc _ => lifted os started H enc)

/-- THE STATEMENT -/
theorem proved : Rows.EthPartsSaid := over
#print axioms proved
end Go.Proofs.Ytajkcdcnihjfkaa.ethParts
