/- Plain facts on UDP and ICMP: what is put, what is wrong in bytes, what is got; that what is put is got, and a turned bit, a cut and bytes behind are found. -/
import Derived.Test.YthfncbcnokkmiaaNets
namespace Go.Proofs.Ythfncbcnokkmiaa
open Go.RowKit
set_option linter.unusedVariables false

/-- a head -/
structure Dg where
  src : Int
  dst : Int
  kind : Int
  code : Int
  rest : UInt32
/-- a head's cells -/
abbrev dgV (h : Dg) : Array Value := #[.int .i64 h.src, .int .i64 h.dst, .int .i64 h.kind, .int .i64 h.code, .int .u32 (h.rest.toNat : Int)]
abbrev dgZ : Array Value := #[.int .i64 0, .int .i64 0, .int .i64 0, .int .i64 0, .int .u32 0]
/-- may a head be? -/
def Dg.MayU (h : Dg) : Prop := (0 ≤ h.src ∧ h.src ≤ 65535) ∧ (0 ≤ h.dst ∧ h.dst ≤ 65535)
def Dg.MayI (h : Dg) : Prop := (0 ≤ h.kind ∧ h.kind ≤ 255) ∧ (0 ≤ h.code ∧ h.code ≤ 255)

/-! ### UDP: what is put -/
def Dg.frontU (h : Dg) (n : Nat) : List UInt8 := [hiB h.src, loB h.src, hiB h.dst, loB h.dst, hiB (n : Int), loB (n : Int)]
def udAhead (a b : UInt32) (n : Nat) : List UInt8 := Pl.bigL (a.toNat : Int) 4 ++ (Pl.bigL (b.toNat : Int) 4 ++ (Pl.bigL 17 2 ++ Pl.bigL (n : Int) 2))
/-- how a sum is written -/
def toldU (z : Int) : Int := if z = 0 then 65535 else z
def Dg.sumU (h : Dg) (a b : UInt32) (body : ByteArray) : Int := sumL (udAhead a b (8 + body.size) ++ (h.frontU (8 + body.size) ++ body.data.toList))
def Dg.putU (h : Dg) (a b : UInt32) (body : ByteArray) : ByteArray := ⟨(h.frontU (8 + body.size)).toArray⟩ ++ ⟨(Pl.bigL (toldU (h.sumU a b body)) 2).toArray⟩ ++ body
/-! ### ICMP: what is put -/
def Dg.frontI (h : Dg) : List UInt8 := [loB h.kind, loB h.code]
def Dg.backI (h : Dg) (body : ByteArray) : List UInt8 := Pl.bigL (h.rest.toNat : Int) 4 ++ body.data.toList
def Dg.putI (h : Dg) (body : ByteArray) : ByteArray := ⟨h.frontI.toArray⟩ ++ ⟨(Pl.bigL (sumL (h.frontI ++ h.backI body)) 2).toArray⟩ ++ ⟨(h.backI body).toArray⟩

/-! ### what is wrong, what is got -/
def at2 (l : List UInt8) (i : Nat) : Nat := byteAt l i * 256 + byteAt l (i + 1)
def badU (a b : UInt32) (l : List UInt8) : Int :=
  if l.length < 8 then 2 else if at2 l 4 ≠ l.length then 3 else if 2000 < l.length then 5 else if at2 l 6 ≠ 0 ∧ sumL (udAhead a b l.length ++ l) ≠ 0 then 4 else 0
def badI (l : List UInt8) : Int := if l.length < 8 then 2 else if 2000 < l.length then 5 else if sumL l ≠ 0 then 4 else 0
def gotU (l : List UInt8) : Dg := ⟨(at2 l 0 : Nat), (at2 l 2 : Nat), 0, 0, 0⟩
def gotI (l : List UInt8) : Dg := ⟨0, 0, (byteAt l 0 : Nat), (byteAt l 1 : Nat), UInt32.ofNat (num4 (l.getD 4 0) (l.getD 5 0) (l.getD 6 0) (l.getD 7 0)).toNat⟩
/-- the halves of a head -/
def Dg.udp (h : Dg) : Dg := ⟨h.src, h.dst, 0, 0, 0⟩
def Dg.icmp (h : Dg) : Dg := ⟨0, 0, h.kind, h.code, h.rest⟩

theorem badU_ok (a b : UInt32) (l : List UInt8) (h1 : 8 ≤ l.length) (h2 : at2 l 4 = l.length) (h3 : l.length ≤ 2000) (h4 : at2 l 6 = 0 ∨ sumL (udAhead a b l.length ++ l) = 0) : badU a b l = 0 := by
  unfold badU
  rw [if_neg (by omega), if_neg (by omega), if_neg (by omega), if_neg]
  rintro ⟨x, y⟩
  exact h4.elim x y
theorem badU_sum (a b : UInt32) (l : List UInt8) (h1 : 8 ≤ l.length) (h2 : at2 l 4 = l.length) (h3 : l.length ≤ 2000) (h4 : at2 l 6 ≠ 0) (h5 : sumL (udAhead a b l.length ++ l) ≠ 0) : badU a b l = 4 := by
  unfold badU
  rw [if_neg (by omega), if_neg (by omega), if_neg (by omega), if_pos ⟨h4, h5⟩]
theorem badU_short (a b : UInt32) (l : List UInt8) (h1 : l.length < 8) : badU a b l = 2 := by
  unfold badU
  rw [if_pos h1]
theorem badU_len (a b : UInt32) (l : List UInt8) (h1 : 8 ≤ l.length) (h2 : at2 l 4 ≠ l.length) : badU a b l = 3 := by
  unfold badU
  rw [if_neg (by omega), if_pos h2]

theorem udAhead_length (a b : UInt32) (n : Nat) : (udAhead a b n).length = 12 := by
  unfold udAhead
  simp [Pl.bigL_length]
theorem udFront_length (h : Dg) (n : Nat) : (h.frontU n).length = 6 := rfl
theorem toldU_bd (z : Int) (h0 : 0 ≤ z) (h1 : z ≤ 65535) : 0 < toldU z ∧ toldU z ≤ 65535 := by
  unfold toldU
  split <;> omega
/-- bytes with their sum among them, written so, add up to nothing -/
theorem sum_told (a b : List UInt8) (h : a.length % 2 = 0) : sumL (a ++ (Pl.bigL (toldU (sumL (a ++ b))) 2 ++ b)) = 0 := by
  by_cases hz : sumL (a ++ b) = 0
  · have e : Pl.wt true (a ++ (Pl.bigL (toldU (sumL (a ++ b))) 2 ++ b)) = Pl.wt true (a ++ b) + 65535 := by
      rw [hz]
      show Pl.wt true (a ++ (Pl.bigL 65535 2 ++ b)) = _
      rw [wt_even a _ h, wt_even _ b (by rw [Pl.bigL_length]), wt_two _ (by decide) (by decide), wt_even a b h]
      omega
    rw [sum_zero] at hz ⊢
    rw [e]
    omega
  · unfold toldU
    rw [if_neg hz]
    exact sum_put a b h
theorem udPut_list (h : Dg) (a b : UInt32) (body : ByteArray) : (h.putU a b body).data.toList = h.frontU (8 + body.size) ++ (Pl.bigL (toldU (h.sumU a b body)) 2 ++ body.data.toList) := by
  unfold Dg.putU
  rw [toList_append, toList_append, ofL, ofL]
  simp
theorem udPut_cons (h : Dg) (a b : UInt32) (body : ByteArray) : (h.putU a b body).data.toList = [hiB h.src, loB h.src, hiB h.dst, loB h.dst, hiB ((8 + body.size : Nat) : Int), loB ((8 + body.size : Nat) : Int), hiB (toldU (h.sumU a b body)), loB (toldU (h.sumU a b body))] ++ body.data.toList := by
  rw [udPut_list, big2v]
  rfl
theorem udPut_size (h : Dg) (a b : UInt32) (body : ByteArray) : (h.putU a b body).size = 8 + body.size := by
  rw [← toList_length, udPut_cons, List.length_append, toList_length]
  rfl
theorem udPut_sum (h : Dg) (a b : UInt32) (body : ByteArray) : sumL (udAhead a b (h.putU a b body).data.toList.length ++ (h.putU a b body).data.toList) = 0 := by
  rw [toList_length, udPut_size, udPut_list]
  have h1 := sum_told (udAhead a b (8 + body.size) ++ h.frontU (8 + body.size)) body.data.toList (by rw [List.length_append, udAhead_length, udFront_length])
  rw [List.append_assoc, List.append_assoc] at h1
  exact h1
theorem udSum_bd (h : Dg) (a b : UInt32) (body : ByteArray) : 0 < toldU (h.sumU a b body) ∧ toldU (h.sumU a b body) ≤ 65535 := by
  have := sum_bd (udAhead a b (8 + body.size) ++ (h.frontU (8 + body.size) ++ body.data.toList))
  exact toldU_bd _ this.1 this.2
theorem at2_hilo (l : List UInt8) (i : Nat) (t : Int) (h0 : 0 ≤ t) (h1 : t ≤ 65535) (e0 : byteAt l i = (hiB t).toNat) (e1 : byteAt l (i + 1) = (loB t).toNat) : ((at2 l i : Nat) : Int) = t := by
  unfold at2
  rw [e0, e1]
  have := hilo t
  rw [Int.emod_eq_of_lt h0 (by omega)] at this
  omega
/-- what stands in a message of UDP -/
theorem udPut_at (h : Dg) (a b : UInt32) (body : ByteArray) (hm : h.MayU) (hb : 8 + body.size ≤ 2000) (l : List UInt8) (hl : ∀ i, i < 8 → byteAt l i = byteAt (h.putU a b body).data.toList i) :
    gotU l = h.udp ∧ at2 l 4 = 8 + body.size ∧ at2 l 6 ≠ 0 := by
  obtain ⟨⟨m0, m1⟩, ⟨m2, m3⟩⟩ := hm
  have hs := udSum_bd h a b body
  have q := udPut_cons h a b body
  rw [q] at hl
  have b0 := at2_hilo l 0 h.src m0 m1 (hl 0 (by decide)) (hl 1 (by decide))
  have b2 := at2_hilo l 2 h.dst m2 m3 (hl 2 (by decide)) (hl 3 (by decide))
  have b4 := at2_hilo l 4 ((8 + body.size : Nat) : Int) (by omega) (by omega) (hl 4 (by decide)) (hl 5 (by decide))
  have b6 := at2_hilo l 6 (toldU (h.sumU a b body)) (by omega) (by omega) (hl 6 (by decide)) (hl 7 (by decide))
  refine ⟨?_, by omega, by omega⟩
  unfold gotU Dg.udp
  rw [b0, b2]
/-- what is put has no fault, and is got -/
theorem udPut_got (h : Dg) (a b : UInt32) (body : ByteArray) (hm : h.MayU) (hb : 8 + body.size ≤ 2000) :
    badU a b (h.putU a b body).data.toList = 0 ∧ gotU (h.putU a b body).data.toList = h.udp := by
  obtain ⟨g, g4, g6⟩ := udPut_at h a b body hm hb _ (fun _ _ => rfl)
  have hz : (h.putU a b body).data.toList.length = 8 + body.size := by rw [toList_length, udPut_size]
  exact ⟨badU_ok a b _ (by omega) (by omega) (by omega) (.inr (udPut_sum h a b body)), g⟩
theorem udBody_ext (h : Dg) (a b : UInt32) (body : ByteArray) : (h.putU a b body).extract 8 (h.putU a b body).size = body := by
  apply ByteArray.ext
  apply Array.ext'
  rw [ext_list, List.take_of_length_le (by rw [toList_length]; exact Nat.le_refl _), udPut_cons]
  rfl
theorem byteAt_set (l : List UInt8) (i j : Nat) (x : UInt8) (h : i ≠ j) : byteAt (l.set j x) i = byteAt l i := by
  unfold byteAt
  rw [List.getD_eq_getElem?_getD, List.getD_eq_getElem?_getD, List.getElem?_set_ne (Ne.symm h)]
/-- a bit turned in the body -/
theorem udPut_turned (h : Dg) (a b : UInt32) (body : ByteArray) (hm : h.MayU) (hb : 8 + body.size ≤ 2000) (j m : Nat) (h8j : 8 ≤ j) (hj : j < 8 + body.size) (h8 : m < 8) :
    badU a b ((h.putU a b body).data.toList.set j ((h.putU a b body).data.toList.getD j 0 ^^^ UInt8.ofNat (2 ^ m))) = 4 := by
  have hs := udPut_sum h a b body
  have hz : (h.putU a b body).data.toList.length = 8 + body.size := by rw [toList_length, udPut_size]
  obtain ⟨g, g4, g6⟩ := udPut_at h a b body hm hb ((h.putU a b body).data.toList.set j ((h.putU a b body).data.toList.getD j 0 ^^^ UInt8.ofNat (2 ^ m))) (fun i hi => byteAt_set _ _ _ _ (by omega))
  generalize (h.putU a b body).data.toList = p at *
  have hl : (p.set j (p.getD j 0 ^^^ UInt8.ofNat (2 ^ m))).length = p.length := List.length_set
  refine badU_sum a b _ (by omega) (by omega) (by omega) g6 ?_
  rw [hl]
  have ha := udAhead_length a b p.length
  have e1 : udAhead a b p.length ++ p.set j (p.getD j 0 ^^^ UInt8.ofNat (2 ^ m)) = (udAhead a b p.length ++ p).set (12 + j) (p.getD j 0 ^^^ UInt8.ofNat (2 ^ m)) := by
    rw [List.set_append_right _ _ (by omega), ha, Nat.add_sub_cancel_left]
  have e2 : p.getD j 0 = (udAhead a b p.length ++ p).getD (12 + j) 0 := by
    rw [List.getD_eq_getElem?_getD, List.getD_eq_getElem?_getD, List.getElem?_append_right (by omega), ha, Nat.add_sub_cancel_left]
  rw [e1, e2]
  exact sum_turned _ (12 + j) m (by rw [List.length_append]; omega) h8 hs
/-- two bytes of 0 in the sum's place -/
theorem udPut_unsummed (h : Dg) (a b : UInt32) (body : ByteArray) (hm : h.MayU) (hb : 8 + body.size ≤ 2000) :
    badU a b (((h.putU a b body).data.toList.set 6 0).set 7 0) = 0 ∧ gotU (((h.putU a b body).data.toList.set 6 0).set 7 0) = h.udp ∧ ((((h.putU a b body).data.toList.set 6 0).set 7 0).take (8 + body.size)).drop 8 = body.data.toList := by
  obtain ⟨g, g4, g6⟩ := udPut_at h a b body hm hb _ (fun _ _ => rfl)
  have hq := udPut_cons h a b body
  have hl : (((h.putU a b body).data.toList.set 6 0).set 7 0).length = 8 + body.size := by rw [List.length_set, List.length_set, toList_length, udPut_size]
  have e : ∀ i, i ≠ 6 → i ≠ 7 → byteAt (((h.putU a b body).data.toList.set 6 0).set 7 0) i = byteAt (h.putU a b body).data.toList i := fun i h1 h2 => by rw [byteAt_set _ _ _ _ h2, byteAt_set _ _ _ _ h1]
  have f6 : ∀ (x0 x1 x2 x3 x4 x5 x6 x7 : UInt8) (t : List UInt8), at2 ((([x0, x1, x2, x3, x4, x5, x6, x7] ++ t).set 6 0).set 7 0) 6 = 0 := by intros; simp [at2, byteAt]
  have e6 : at2 (((h.putU a b body).data.toList.set 6 0).set 7 0) 6 = 0 := by rw [hq]; exact f6 _ _ _ _ _ _ _ _ _
  have f8 : ∀ (x0 x1 x2 x3 x4 x5 x6 x7 : UInt8) (t : List UInt8), ((([x0, x1, x2, x3, x4, x5, x6, x7] ++ t).set 6 0).set 7 0).drop 8 = t := fun _ _ _ _ _ _ _ _ _ => rfl
  refine ⟨badU_ok a b _ (by omega) ?_ (by omega) (.inl e6), ?_, ?_⟩
  · have g4' : byteAt (h.putU a b body).data.toList 4 * 256 + byteAt (h.putU a b body).data.toList 5 = 8 + body.size := g4
    show byteAt _ 4 * 256 + byteAt _ 5 = _
    rw [e 4 (by decide) (by decide), e 5 (by decide) (by decide), hl]
    exact g4'
  · rw [← g]
    unfold gotU at2
    rw [e 0 (by decide) (by decide), e 1 (by decide) (by decide), e 2 (by decide) (by decide), e 3 (by decide) (by decide)]
  · rw [List.take_of_length_le (by omega), hq]
    exact f8 _ _ _ _ _ _ _ _ _
/-- cut -/
theorem byteAt_take (l : List UInt8) (i k : Nat) (h : i < k) : byteAt (l.take k) i = byteAt l i := by
  unfold byteAt
  rw [List.getD_eq_getElem?_getD, List.getD_eq_getElem?_getD, List.getElem?_take_of_lt h]
theorem byteAt_app (l m : List UInt8) (i : Nat) (h : i < l.length) : byteAt (l ++ m) i = byteAt l i := by
  unfold byteAt
  rw [List.getD_eq_getElem?_getD, List.getD_eq_getElem?_getD, List.getElem?_append_left h]
theorem udPut_cut (h : Dg) (a b : UInt32) (body : ByteArray) (hm : h.MayU) (hb : 8 + body.size ≤ 2000) (k : Nat) (hk : k < 8 + body.size) :
    badU a b ((h.putU a b body).data.toList.take k) = if k < 8 then 2 else 3 := by
  have hl : ((h.putU a b body).data.toList.take k).length = k := by rw [List.length_take, toList_length, udPut_size]; omega
  by_cases h8 : k < 8
  · rw [if_pos h8]
    exact badU_short a b _ (by omega)
  · rw [if_neg h8]
    obtain ⟨g, g4, g6⟩ := udPut_at h a b body hm hb _ (fun i hi => byteAt_take _ i k (by omega))
    exact badU_len a b _ (by omega) (by omega)
theorem udPut_more (h : Dg) (a b : UInt32) (body : ByteArray) (hm : h.MayU) (hb : 8 + body.size ≤ 2000) (m : List UInt8) (hk : 0 < m.length) :
    badU a b ((h.putU a b body).data.toList ++ m) = 3 := by
  have hl : (h.putU a b body).data.toList.length = 8 + body.size := by rw [toList_length, udPut_size]
  obtain ⟨g, g4, g6⟩ := udPut_at h a b body hm hb ((h.putU a b body).data.toList ++ m) (fun i hi => byteAt_app _ m i (by omega))
  exact badU_len a b _ (by rw [List.length_append]; omega) (by rw [List.length_append]; omega)

/-! ### ICMP -/
theorem icFront_length (h : Dg) : h.frontI.length = 2 := rfl
theorem icBack_length (h : Dg) (body : ByteArray) : (h.backI body).length = 4 + body.size := by
  unfold Dg.backI
  rw [List.length_append, Pl.bigL_length, toList_length]
theorem icPut_list (h : Dg) (body : ByteArray) : (h.putI body).data.toList = h.frontI ++ (Pl.bigL (sumL (h.frontI ++ h.backI body)) 2 ++ h.backI body) := by
  unfold Dg.putI
  rw [toList_append, toList_append, ofL, ofL, ofL]
  simp
theorem icPut_size (h : Dg) (body : ByteArray) : (h.putI body).size = 8 + body.size := by
  rw [← toList_length, icPut_list, List.length_append, List.length_append, Pl.bigL_length, icBack_length]
  show 2 + _ = _
  omega
theorem icPut_sum (h : Dg) (body : ByteArray) : sumL (h.putI body).data.toList = 0 := by
  rw [icPut_list]
  exact sum_put h.frontI (h.backI body) (by rw [icFront_length])
theorem icPut_cons (h : Dg) (body : ByteArray) : ∃ s0 s1 a0 a1 a2 a3 : UInt8, num4 a0 a1 a2 a3 = (h.rest.toNat : Int) ∧ (h.putI body).data.toList = [loB h.kind, loB h.code, s0, s1, a0, a1, a2, a3] ++ body.data.toList := by
  obtain ⟨a0, a1, a2, a3, ea, na⟩ := big4v (h.rest.toNat : Int)
  have l0 := h.rest.toNat_lt
  refine ⟨hiB (sumL (h.frontI ++ h.backI body)), loB (sumL (h.frontI ++ h.backI body)), a0, a1, a2, a3, by omega, ?_⟩
  rw [icPut_list, big2v]
  generalize sumL (h.frontI ++ h.backI body) = S
  unfold Dg.frontI Dg.backI
  rw [ea]
  rfl
theorem icPut_got (h : Dg) (body : ByteArray) (hm : h.MayI) (hb : 8 + body.size ≤ 2000) : badI (h.putI body).data.toList = 0 ∧ gotI (h.putI body).data.toList = h.icmp := by
  obtain ⟨⟨m0, m1⟩, ⟨m2, m3⟩⟩ := hm
  have hs := icPut_sum h body
  have hz : (h.putI body).data.toList.length = 8 + body.size := by rw [toList_length, icPut_size]
  obtain ⟨s0, s1, a0, a1, a2, a3, na, hl⟩ := icPut_cons h body
  refine ⟨?_, ?_⟩
  · unfold badI
    rw [if_neg (by omega), if_neg (by omega), if_neg (by simpa using hs)]
  · have k0 := loB_val h.kind
    have k1 := loB_val h.code
    rw [Int.emod_eq_of_lt (by omega) (by omega)] at k0 k1
    have e0 : ((byteAt (h.putI body).data.toList 0 : Nat) : Int) = h.kind := by rw [hl]; exact k0
    have e1 : ((byteAt (h.putI body).data.toList 1 : Nat) : Int) = h.code := by rw [hl]; exact k1
    have e4 : num4 ((h.putI body).data.toList.getD 4 0) ((h.putI body).data.toList.getD 5 0) ((h.putI body).data.toList.getD 6 0) ((h.putI body).data.toList.getD 7 0) = (h.rest.toNat : Int) := by rw [hl, ← na]; rfl
    unfold gotI Dg.icmp
    rw [e0, e1, e4]
    simp
theorem icBody_ext (h : Dg) (body : ByteArray) : (h.putI body).extract 8 (h.putI body).size = body := by
  apply ByteArray.ext
  apply Array.ext'
  obtain ⟨s0, s1, a0, a1, a2, a3, na, hl⟩ := icPut_cons h body
  rw [ext_list, List.take_of_length_le (by rw [toList_length]; exact Nat.le_refl _), hl]
  rfl
theorem icPut_turned (h : Dg) (body : ByteArray) (hb : 8 + body.size ≤ 2000) (j m : Nat) (hj : j < 8 + body.size) (h8 : m < 8) :
    badI ((h.putI body).data.toList.set j ((h.putI body).data.toList.getD j 0 ^^^ UInt8.ofNat (2 ^ m))) = 4 := by
  have hs := icPut_sum h body
  have hz : (h.putI body).data.toList.length = 8 + body.size := by rw [toList_length, icPut_size]
  generalize (h.putI body).data.toList = p at *
  have := sum_turned p j m (by omega) h8 hs
  unfold badI
  rw [List.length_set, if_neg (by omega), if_neg (by omega), if_pos this]
end Go.Proofs.Ythfncbcnokkmiaa
