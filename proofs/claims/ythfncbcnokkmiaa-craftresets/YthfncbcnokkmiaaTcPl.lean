/- Plain facts on segments: what is put, what is wrong in bytes, what is got; that what is put is got, either way round, and a turned bit is found. -/
import Derived.Test.YthfncbcnokkmiaaNets
namespace Go.Proofs.Ythfncbcnokkmiaa
open Go.RowKit
set_option linter.unusedVariables false

/-- a head -/
structure Sg where
  src : Int
  dst : Int
  seq : UInt32
  ack : UInt32
  flags : Int
  win : Int
  opts : ByteArray
/-- a head's cells -/
abbrev sgV (h : Sg) : Array Value := #[.int .i64 h.src, .int .i64 h.dst, .int .u32 (h.seq.toNat : Int), .int .u32 (h.ack.toNat : Int), .int .i64 h.flags, .int .i64 h.win, .string h.opts]
abbrev sgZ : Array Value := #[.int .i64 0, .int .i64 0, .int .u32 0, .int .u32 0, .int .i64 0, .int .i64 0, .string ⟨#[]⟩]
/-- a head and its body -/
abbrev sbV (h : Sg) (body : ByteArray) : Array Value := #[.int .i64 h.src, .int .i64 h.dst, .int .u32 (h.seq.toNat : Int), .int .u32 (h.ack.toNat : Int), .int .i64 h.flags, .int .i64 h.win, .string h.opts, .string body]
/-- may a head be? -/
def Sg.May (h : Sg) : Prop := (0 ≤ h.src ∧ h.src ≤ 65535) ∧ (0 ≤ h.dst ∧ h.dst ≤ 65535) ∧ (0 ≤ h.win ∧ h.win ≤ 65535) ∧ (0 ≤ h.flags ∧ h.flags ≤ 63) ∧ h.opts.size ≤ 40 ∧ h.opts.size % 4 = 0

/-- what stands ahead of the sum -/
def Sg.front (h : Sg) : List UInt8 := [hiB h.src, loB h.src, hiB h.dst, loB h.dst] ++ (Pl.bigL (h.seq.toNat : Int) 4 ++ (Pl.bigL (h.ack.toNat : Int) 4 ++ [loB ((20 + (h.opts.size : Int)) / 4 * 16), loB h.flags, hiB h.win, loB h.win]))
/-- what stands behind it -/
def Sg.back (h : Sg) (body : ByteArray) : List UInt8 := [0, 0] ++ (h.opts.data.toList ++ body.data.toList)
/-- what is summed ahead of a segment -/
def tcAhead (a b : UInt32) (n : Nat) : List UInt8 := Pl.bigL (a.toNat : Int) 4 ++ (Pl.bigL (b.toNat : Int) 4 ++ (Pl.bigL 6 2 ++ Pl.bigL (n : Int) 2))
/-- a segment -/
def Sg.all (h : Sg) (body : ByteArray) : Nat := 20 + h.opts.size + body.size
def Sg.put (h : Sg) (a b : UInt32) (body : ByteArray) : ByteArray :=
  ⟨h.front.toArray⟩ ++ ⟨(Pl.bigL (sumL (tcAhead a b (h.all body) ++ (h.front ++ h.back body))) 2).toArray⟩ ++ ⟨(h.back body).toArray⟩

/-! ### what is wrong -/
def hdT (l : List UInt8) : Nat := byteAt l 12 / 16 * 4
def badT (a b : UInt32) (l : List UInt8) : Int :=
  if l.length < 20 then 2 else if hdT l < 20 then 3 else if l.length < hdT l then 2 else if byteAt l 12 % 16 ≠ 0 ∨ 63 < byteAt l 13 then 3 else if 2000 < l.length then 5
  else if sumL (tcAhead a b l.length ++ l) ≠ 0 then 4 else 0
/-- no fault at all -/
theorem badT_none (a b : UInt32) (l : List UInt8) : badT a b l = 0 ↔ 20 ≤ l.length ∧ 20 ≤ hdT l ∧ hdT l ≤ l.length ∧ byteAt l 12 % 16 = 0 ∧ byteAt l 13 ≤ 63 ∧ l.length ≤ 2000 ∧ sumL (tcAhead a b l.length ++ l) = 0 := by
  unfold badT
  constructor
  · intro h
    by_cases h1 : l.length < 20
    · rw [if_pos h1] at h; exact absurd h (by decide)
    rw [if_neg h1] at h
    by_cases h2 : hdT l < 20
    · rw [if_pos h2] at h; exact absurd h (by decide)
    rw [if_neg h2] at h
    by_cases h3 : l.length < hdT l
    · rw [if_pos h3] at h; exact absurd h (by decide)
    rw [if_neg h3] at h
    by_cases h4 : byteAt l 12 % 16 ≠ 0 ∨ 63 < byteAt l 13
    · rw [if_pos h4] at h; exact absurd h (by decide)
    rw [if_neg h4] at h
    by_cases h5 : 2000 < l.length
    · rw [if_pos h5] at h; exact absurd h (by decide)
    rw [if_neg h5] at h
    by_cases h6 : sumL (tcAhead a b l.length ++ l) ≠ 0
    · rw [if_pos h6] at h; exact absurd h (by decide)
    simp only [not_or, Decidable.not_not, Nat.not_lt] at h4
    simp only [Decidable.not_not] at h6
    exact ⟨by omega, by omega, by omega, h4.1, h4.2, by omega, h6⟩
  · rintro ⟨h1, h2, h3, h4, h5, h6, h7⟩
    rw [if_neg (by omega), if_neg (by omega), if_neg (by omega), if_neg (by omega), if_neg (by omega), if_neg (by simp only [Decidable.not_not]; exact h7)]
/-- the sum alone is wrong -/
theorem badT_sum (a b : UInt32) (l : List UInt8) (h1 : 20 ≤ l.length) (h2 : 20 ≤ hdT l) (h3 : hdT l ≤ l.length) (h4 : byteAt l 12 % 16 = 0) (h5 : byteAt l 13 ≤ 63) (h6 : l.length ≤ 2000) (h7 : sumL (tcAhead a b l.length ++ l) ≠ 0) : badT a b l = 4 := by
  unfold badT
  rw [if_neg (by omega), if_neg (by omega), if_neg (by omega), if_neg (by omega), if_neg (by omega), if_pos h7]

/-! ### what is got -/
def gotT (l : List UInt8) : Sg where
  src := ((byteAt l 0 * 256 + byteAt l 1 : Nat) : Int)
  dst := ((byteAt l 2 * 256 + byteAt l 3 : Nat) : Int)
  seq := UInt32.ofNat (num4 (l.getD 4 0) (l.getD 5 0) (l.getD 6 0) (l.getD 7 0)).toNat
  ack := UInt32.ofNat (num4 (l.getD 8 0) (l.getD 9 0) (l.getD 10 0) (l.getD 11 0)).toNat
  flags := (byteAt l 13 : Nat)
  win := ((byteAt l 14 * 256 + byteAt l 15 : Nat) : Int)
  opts := ⟨((l.take (hdT l)).drop 20).toArray⟩
theorem Sg.same {a b : Sg} (h1 : a.src = b.src) (h2 : a.dst = b.dst) (h3 : a.seq = b.seq) (h4 : a.ack = b.ack) (h5 : a.flags = b.flags) (h6 : a.win = b.win) (h7 : a.opts = b.opts) : a = b := by
  cases a
  cases b
  simp_all
theorem gotT_fields (l : List UInt8) : (gotT l).src = ((byteAt l 0 * 256 + byteAt l 1 : Nat) : Int) ∧ (gotT l).dst = ((byteAt l 2 * 256 + byteAt l 3 : Nat) : Int) ∧
    (gotT l).seq = UInt32.ofNat (num4 (l.getD 4 0) (l.getD 5 0) (l.getD 6 0) (l.getD 7 0)).toNat ∧ (gotT l).ack = UInt32.ofNat (num4 (l.getD 8 0) (l.getD 9 0) (l.getD 10 0) (l.getD 11 0)).toNat ∧
    (gotT l).flags = (byteAt l 13 : Nat) ∧ (gotT l).win = ((byteAt l 14 * 256 + byteAt l 15 : Nat) : Int) ∧ (gotT l).opts = ⟨((l.take (hdT l)).drop 20).toArray⟩ := ⟨rfl, rfl, rfl, rfl, rfl, rfl, rfl⟩

/-! ### what is put -/
theorem tcAhead_length (a b : UInt32) (n : Nat) : (tcAhead a b n).length = 12 := by
  unfold tcAhead
  simp [Pl.bigL_length]
theorem sgFront_length (h : Sg) : h.front.length = 16 := by
  unfold Sg.front
  simp [Pl.bigL_length]
theorem sgBack_length (h : Sg) (body : ByteArray) : (h.back body).length = 2 + h.opts.size + body.size := by
  unfold Sg.back
  rw [List.length_append, List.length_append, toList_length, toList_length]
  show 2 + _ = _
  omega
theorem sgPut_list (h : Sg) (a b : UInt32) (body : ByteArray) : (h.put a b body).data.toList = h.front ++ (Pl.bigL (sumL (tcAhead a b (h.all body) ++ (h.front ++ h.back body))) 2 ++ h.back body) := by
  unfold Sg.put
  rw [toList_append, toList_append, ofL, ofL, ofL]
  simp
theorem sgPut_size (h : Sg) (a b : UInt32) (body : ByteArray) : (h.put a b body).size = 20 + h.opts.size + body.size := by
  rw [← toList_length, sgPut_list]
  rw [List.length_append, List.length_append, Pl.bigL_length, sgFront_length, sgBack_length]
  omega
/-- ends turned round: the same sum -/
theorem tcAhead_turn (a b : UInt32) (n : Nat) (l : List UInt8) : Pl.wt true (tcAhead b a n ++ l) = Pl.wt true (tcAhead a b n ++ l) := by
  have e : ∀ a b : UInt32, Pl.wt true (tcAhead a b n) = Pl.wt true (Pl.bigL (a.toNat : Int) 4) + (Pl.wt true (Pl.bigL (b.toNat : Int) 4) + Pl.wt true (Pl.bigL 6 2 ++ Pl.bigL (n : Int) 2)) := by
    intro a b
    unfold tcAhead
    rw [wt_even _ _ (by rw [Pl.bigL_length]), wt_even _ _ (by rw [Pl.bigL_length])]
  rw [wt_even _ _ (by rw [tcAhead_length]), wt_even _ _ (by rw [tcAhead_length]), e, e]
  omega
theorem sum_turn (a b : UInt32) (n : Nat) (l : List UInt8) : sumL (tcAhead b a n ++ l) = sumL (tcAhead a b n ++ l) := by
  unfold sumL
  rw [tcAhead_turn]
theorem sgPut_sum (h : Sg) (a b : UInt32) (body : ByteArray) : sumL (tcAhead a b (h.put a b body).data.toList.length ++ (h.put a b body).data.toList) = 0 := by
  rw [toList_length, sgPut_size, sgPut_list]
  have h1 := sum_put (tcAhead a b (h.all body) ++ h.front) (h.back body) (by rw [List.length_append, tcAhead_length, sgFront_length])
  rw [List.append_assoc, List.append_assoc] at h1
  exact h1
/-- a segment, its twenty bytes written out -/
theorem sgPut_cons (h : Sg) (a b : UInt32) (body : ByteArray) : ∃ s0 s1 a0 a1 a2 a3 b0 b1 b2 b3 : UInt8, num4 a0 a1 a2 a3 = (h.seq.toNat : Int) ∧ num4 b0 b1 b2 b3 = (h.ack.toNat : Int) ∧
    (h.put a b body).data.toList = [hiB h.src, loB h.src, hiB h.dst, loB h.dst, a0, a1, a2, a3, b0, b1, b2, b3, loB ((20 + (h.opts.size : Int)) / 4 * 16), loB h.flags, hiB h.win, loB h.win, s0, s1, 0, 0] ++ (h.opts.data.toList ++ body.data.toList) := by
  obtain ⟨a0, a1, a2, a3, ea, na⟩ := big4v (h.seq.toNat : Int)
  obtain ⟨b0, b1, b2, b3, eb, nb⟩ := big4v (h.ack.toNat : Int)
  have l0 := h.seq.toNat_lt
  have l1 := h.ack.toNat_lt
  refine ⟨hiB (sumL (tcAhead a b (h.all body) ++ (h.front ++ h.back body))), loB (sumL (tcAhead a b (h.all body) ++ (h.front ++ h.back body))), a0, a1, a2, a3, b0, b1, b2, b3, by omega, by omega, ?_⟩
  rw [sgPut_list, big2v]
  generalize sumL (tcAhead a b (h.all body) ++ (h.front ++ h.back body)) = S
  unfold Sg.front Sg.back
  rw [ea, eb]
  rfl
/-- what is put has no fault, and is got -/
theorem sgPut_got (h : Sg) (a b : UInt32) (body : ByteArray) (hm : h.May) (hb : 20 + h.opts.size + body.size ≤ 2000) :
    badT a b (h.put a b body).data.toList = 0 ∧ badT b a (h.put a b body).data.toList = 0 ∧ gotT (h.put a b body).data.toList = h ∧ hdT (h.put a b body).data.toList = 20 + h.opts.size := by
  obtain ⟨s0, s1, a0, a1, a2, a3, b0, b1, b2, b3, na, nb, hl⟩ := sgPut_cons h a b body
  have hs := sgPut_sum h a b body
  obtain ⟨m1, m2, m3, m4, m5, m6⟩ := hm
  have hsz := sgPut_size h a b body
  rw [← toList_length] at hsz
  generalize (h.put a b body).data.toList = p at hl hsz hs
  have v0 := hilo h.src
  have v2 := hilo h.dst
  have v12 := loB_val ((20 + (h.opts.size : Int)) / 4 * 16)
  have v13 := loB_val h.flags
  have v14 := hilo h.win
  rw [Int.emod_eq_of_lt (by omega) (by omega)] at v0 v2 v12 v13 v14
  have q0 : byteAt p 0 = (hiB h.src).toNat := by rw [hl]; rfl
  have q1 : byteAt p 1 = (loB h.src).toNat := by rw [hl]; rfl
  have q2 : byteAt p 2 = (hiB h.dst).toNat := by rw [hl]; rfl
  have q3 : byteAt p 3 = (loB h.dst).toNat := by rw [hl]; rfl
  have q12 : byteAt p 12 = (loB ((20 + (h.opts.size : Int)) / 4 * 16)).toNat := by rw [hl]; rfl
  have q13 : byteAt p 13 = (loB h.flags).toNat := by rw [hl]; rfl
  have q14 : byteAt p 14 = (hiB h.win).toNat := by rw [hl]; rfl
  have q15 : byteAt p 15 = (loB h.win).toNat := by rw [hl]; rfl
  have hh : hdT p = 20 + h.opts.size := by unfold hdT; rw [q12]; omega
  have hol : h.opts.data.toList.length = h.opts.size := toList_length _
  refine ⟨?_, ?_, ?_, hh⟩
  · rw [badT_none, hh]
    exact ⟨by omega, by omega, by omega, by rw [q12]; omega, by rw [q13]; omega, by omega, hs⟩
  · rw [badT_none, hh]
    exact ⟨by omega, by omega, by omega, by rw [q12]; omega, by rw [q13]; omega, by omega, by rw [sum_turn]; exact hs⟩
  · have e32 : ∀ (x : UInt32) (v : Int), v = (x.toNat : Int) → UInt32.ofNat v.toNat = x := by
      intro x v hv
      subst hv
      simp
    obtain ⟨f1, f2, f3, f4, f5, f6, f7⟩ := gotT_fields p
    apply Sg.same
    · rw [f1]; omega
    · rw [f2]; omega
    · rw [f3]
      refine e32 _ _ ?_
      rw [← na, hl]
      rfl
    · rw [f4]
      refine e32 _ _ ?_
      rw [← nb, hl]
      rfl
    · rw [f5]; omega
    · rw [f6]; omega
    · rw [f7, hh, hl]
      have e : ([hiB h.src, loB h.src, hiB h.dst, loB h.dst, a0, a1, a2, a3, b0, b1, b2, b3, loB ((20 + (h.opts.size : Int)) / 4 * 16), loB h.flags, hiB h.win, loB h.win, s0, s1, 0, 0] ++ (h.opts.data.toList ++ body.data.toList)).take (20 + h.opts.size) = [hiB h.src, loB h.src, hiB h.dst, loB h.dst, a0, a1, a2, a3, b0, b1, b2, b3, loB ((20 + (h.opts.size : Int)) / 4 * 16), loB h.flags, hiB h.win, loB h.win, s0, s1, 0, 0] ++ h.opts.data.toList := by
        rw [← List.append_assoc]
        exact List.take_left' (by rw [List.length_append, hol]; rfl)
      rw [e]
      rfl
/-- the body behind the head -/
theorem sgBody_ext (h : Sg) (a b : UInt32) (body : ByteArray) : (h.put a b body).extract (20 + h.opts.size) (h.put a b body).size = body := by
  apply ByteArray.ext
  apply Array.ext'
  rw [ext_list, sgPut_size]
  obtain ⟨s0, s1, a0, a1, a2, a3, b0, b1, b2, b3, na, nb, hl⟩ := sgPut_cons h a b body
  have hsz := sgPut_size h a b body
  rw [← toList_length] at hsz
  rw [List.take_of_length_le (by omega), hl, ← List.append_assoc]
  exact List.drop_left' (by rw [List.length_append, toList_length]; rfl)
/-- a bit turned -/
theorem sgPut_turned (h : Sg) (a b : UInt32) (body : ByteArray) (j m : Nat) (hj : j < (h.put a b body).size) (h8 : m < 8) :
    badT a b ((h.put a b body).data.toList.set j ((h.put a b body).data.toList.getD j 0 ^^^ UInt8.ofNat (2 ^ m))) ≠ 0 := by
  have hs := sgPut_sum h a b body
  rw [← toList_length] at hj
  generalize (h.put a b body).data.toList = p at *
  intro hbad
  rw [badT_none, List.length_set] at hbad
  have s1 := hbad.2.2.2.2.2.2
  have ha := tcAhead_length a b p.length
  have e1 : tcAhead a b p.length ++ p.set j (p.getD j 0 ^^^ UInt8.ofNat (2 ^ m)) = (tcAhead a b p.length ++ p).set (12 + j) (p.getD j 0 ^^^ UInt8.ofNat (2 ^ m)) := by
    rw [List.set_append_right _ _ (by omega), ha, Nat.add_sub_cancel_left]
  have e2 : p.getD j 0 = (tcAhead a b p.length ++ p).getD (12 + j) 0 := by
    rw [List.getD_eq_getElem?_getD, List.getD_eq_getElem?_getD, List.getElem?_append_right (by omega), ha, Nat.add_sub_cancel_left]
  rw [e1, e2] at s1
  exact sum_turned _ (12 + j) m (by rw [List.length_append]; omega) h8 hs s1
/-- another end: the sum is wrong -/
theorem wt_four (v : Int) : Pl.wt true (Pl.bigL v 4) = Pl.wt true (Pl.bigL (v / 256) 3) + v % 256 := by
  have e : Pl.bigL v 4 = Pl.bigL (v / 256) 3 ++ [loB v] := rfl
  have p : Pl.par true (Pl.bigL (v / 256) 3) = false := by rw [Pl.par_length, Pl.bigL_length]; rfl
  rw [e, Pl.wt_append, p]
  show _ + (((loB v).toNat : Int) + 0) = _
  rw [loB_val]
  omega
theorem xor_one (a : UInt32) : ((a ^^^ 1).toNat : Int) = (a.toNat : Int) + (if a.toNat % 2 = 0 then 1 else -1) := by
  have h : a.toNat ^^^ 1 = a.toNat + 1 - a.toNat % 2 * 2 := by
    have h1 : (a.toNat ^^^ 1) / 2 = a.toNat / 2 := by rw [Nat.xor_div_two]; exact Nat.xor_zero _
    have h2 : (a.toNat ^^^ 1) % 2 = (a.toNat + 1) % 2 := by
      have := Nat.xor_mod_two_pow (a := a.toNat) (b := 1) (n := 1)
      rw [show 2 ^ 1 = 2 from rfl] at this
      rw [this]
      have : a.toNat % 2 = 0 ∨ a.toNat % 2 = 1 := by omega
      rcases this with e | e <;> rw [Nat.add_mod, e]
      · rfl
      · rfl
    omega
  rw [UInt32.toNat_xor]
  show ((a.toNat ^^^ 1 : Nat) : Int) = _
  rw [h]
  split <;> omega
theorem sgPut_other (h : Sg) (a b : UInt32) (body : ByteArray) (hm : h.May) (hb : 20 + h.opts.size + body.size ≤ 2000) : badT (a ^^^ 1) b (h.put a b body).data.toList = 4 := by
  have g := (sgPut_got h a b body hm hb).1
  rw [badT_none] at g
  obtain ⟨g1, g2, g3, g4, g5, g6, g7⟩ := g
  refine badT_sum _ _ _ g1 g2 g3 g4 g5 g6 ?_
  generalize (h.put a b body).data.toList = p at *
  intro h2
  rw [sum_zero] at g7 h2
  have e : ∀ a : UInt32, Pl.wt true (tcAhead a b p.length ++ p) = Pl.wt true (Pl.bigL ((a.toNat : Int) / 256) 3) + (a.toNat : Int) % 256 + Pl.wt true ((Pl.bigL (b.toNat : Int) 4 ++ (Pl.bigL 6 2 ++ Pl.bigL (p.length : Int) 2)) ++ p) := by
    intro a
    unfold tcAhead
    rw [List.append_assoc, wt_even _ _ (by rw [Pl.bigL_length]), wt_four]
  rw [e] at g7 h2
  have x := xor_one a
  have d : ((a ^^^ 1).toNat : Int) / 256 = (a.toNat : Int) / 256 := by rw [x]; split <;> omega
  rw [d] at h2
  generalize Pl.wt true (Pl.bigL ((a.toNat : Int) / 256) 3) = A at *
  generalize Pl.wt true ((Pl.bigL (b.toNat : Int) 4 ++ (Pl.bigL 6 2 ++ Pl.bigL (p.length : Int) 2)) ++ p) = B at *
  rw [x] at h2
  split at h2 <;> omega
end Go.Proofs.Ythfncbcnokkmiaa
