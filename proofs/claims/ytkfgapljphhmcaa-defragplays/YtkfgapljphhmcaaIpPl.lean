/- Plain facts on datagrams: what is put, what is wrong in bytes, what is got; that what is put is got, and a turned bit is found. -/
import Derived.Test.YtkfgapljphhmcaaNets
namespace Go.Proofs.Ytkfgapljphhmcaa
open Go.RowKit
set_option linter.unusedVariables false

/-- a head -/
structure Ip where
  tos : Int
  id : Int
  more : Bool
  keep : Bool
  off : Int
  ttl : Int
  proto : Int
  src : UInt32
  dst : UInt32
  opts : ByteArray
/-- a head's cells -/
abbrev ipV (h : Ip) : Array Value := #[.int .i64 h.tos, .int .i64 h.id, .bool h.more, .bool h.keep, .int .i64 h.off, .int .i64 h.ttl, .int .i64 h.proto, .int .u32 (h.src.toNat : Int), .int .u32 (h.dst.toNat : Int), .string h.opts]
abbrev ipZ : Array Value := #[.int .i64 0, .int .i64 0, .bool false, .bool false, .int .i64 0, .int .i64 0, .int .i64 0, .int .u32 0, .int .u32 0, .string ⟨#[]⟩]

/-- may a head be? -/
def Ip.May (h : Ip) : Prop := (0 ≤ h.tos ∧ h.tos ≤ 255) ∧ (0 ≤ h.ttl ∧ h.ttl ≤ 255) ∧ (0 ≤ h.proto ∧ h.proto ≤ 255) ∧ (0 ≤ h.id ∧ h.id ≤ 65535) ∧ (0 ≤ h.off ∧ h.off ≤ 65528) ∧ h.off % 8 = 0 ∧ h.opts.size ≤ 40 ∧ h.opts.size % 4 = 0
theorem Ip.may_dec (h : Ip) : h.May ∨ ¬ h.May := Classical.em _

/-- the cutting word -/
def Ip.cut (h : Ip) : Int := h.off / 8 + (if h.keep = true then 16384 else 0) + (if h.more = true then 8192 else 0)
theorem Ip.cut_bd (h : Ip) (hm : h.May) : 0 ≤ h.cut ∧ h.cut < 32768 := by
  obtain ⟨_, _, _, _, h5, _⟩ := hm
  unfold Ip.cut
  split <;> split <;> omega
/-- what stands ahead of the sum -/
def Ip.front (h : Ip) (n : Nat) : List UInt8 := [loB (64 + (20 + (h.opts.size : Int)) / 4), loB h.tos, hiB (20 + (h.opts.size : Int) + (n : Int)), loB (20 + (h.opts.size : Int) + (n : Int)), hiB h.id, loB h.id, hiB h.cut, loB h.cut, loB h.ttl, loB h.proto]
/-- what stands behind it in the head -/
def Ip.ends (h : Ip) : List UInt8 := Pl.bigL (h.src.toNat : Int) 4 ++ (Pl.bigL (h.dst.toNat : Int) 4 ++ h.opts.data.toList)
/-- a datagram -/
def Ip.put (h : Ip) (body : ByteArray) : ByteArray :=
  ⟨(h.front body.size).toArray⟩ ++ ⟨(Pl.bigL (sumL (h.front body.size ++ h.ends)) 2).toArray⟩ ++ ⟨h.ends.toArray⟩ ++ body
/-! ### what is wrong -/
def hdL (l : List UInt8) : Nat := byteAt l 0 % 16 * 4
def alL (l : List UInt8) : Nat := byteAt l 2 * 256 + byteAt l 3
def cwL (l : List UInt8) : Nat := byteAt l 6 * 256 + byteAt l 7
def badL (l : List UInt8) : Int :=
  if l.length < 20 then 2 else if byteAt l 0 / 16 ≠ 4 ∨ hdL l < 20 then 3 else if l.length < hdL l then 2 else if alL l < hdL l then 3 else if l.length < alL l then 2
  else if 32768 ≤ cwL l then 3 else if hdL l + 2000 < alL l then 5 else if sumL (l.take (hdL l)) ≠ 0 then 4 else 0
/-- no fault at all -/
theorem bad_none (l : List UInt8) : badL l = 0 ↔ 20 ≤ l.length ∧ byteAt l 0 / 16 = 4 ∧ 20 ≤ hdL l ∧ hdL l ≤ l.length ∧ hdL l ≤ alL l ∧ alL l ≤ l.length ∧ cwL l < 32768 ∧ alL l ≤ hdL l + 2000 ∧ sumL (l.take (hdL l)) = 0 := by
  unfold badL
  constructor
  · intro h
    by_cases h1 : l.length < 20
    · rw [if_pos h1] at h; exact absurd h (by decide)
    rw [if_neg h1] at h
    by_cases h2 : byteAt l 0 / 16 ≠ 4 ∨ hdL l < 20
    · rw [if_pos h2] at h; exact absurd h (by decide)
    rw [if_neg h2] at h
    by_cases h3 : l.length < hdL l
    · rw [if_pos h3] at h; exact absurd h (by decide)
    rw [if_neg h3] at h
    by_cases h4 : alL l < hdL l
    · rw [if_pos h4] at h; exact absurd h (by decide)
    rw [if_neg h4] at h
    by_cases h5 : l.length < alL l
    · rw [if_pos h5] at h; exact absurd h (by decide)
    rw [if_neg h5] at h
    by_cases h6 : 32768 ≤ cwL l
    · rw [if_pos h6] at h; exact absurd h (by decide)
    rw [if_neg h6] at h
    by_cases h7 : hdL l + 2000 < alL l
    · rw [if_pos h7] at h; exact absurd h (by decide)
    rw [if_neg h7] at h
    by_cases h8 : sumL (l.take (hdL l)) ≠ 0
    · rw [if_pos h8] at h; exact absurd h (by decide)
    simp only [not_or, Decidable.not_not, Nat.not_lt] at h2
    simp only [Decidable.not_not] at h8
    exact ⟨by omega, h2.1, h2.2, by omega, by omega, by omega, by omega, by omega, h8⟩
  · rintro ⟨h1, h2, h3, h4, h5, h6, h7, h8, h9⟩
    rw [if_neg (by omega), if_neg (by simp only [not_or, Decidable.not_not, Nat.not_lt]; exact ⟨h2, h3⟩), if_neg (by omega), if_neg (by omega), if_neg (by omega), if_neg (by omega), if_neg (by omega), if_neg (by simp only [Decidable.not_not]; exact h9)]

/-! ### what is got -/
def gotIp (l : List UInt8) : Ip where
  tos := (byteAt l 1 : Nat)
  id := ((byteAt l 4 * 256 + byteAt l 5 : Nat) : Int)
  more := decide (cwL l / 8192 % 2 = 1)
  keep := decide (cwL l / 16384 % 2 = 1)
  off := ((cwL l % 8192 * 8 : Nat) : Int)
  ttl := (byteAt l 8 : Nat)
  proto := (byteAt l 9 : Nat)
  src := UInt32.ofNat (num4 (l.getD 12 0) (l.getD 13 0) (l.getD 14 0) (l.getD 15 0)).toNat
  dst := UInt32.ofNat (num4 (l.getD 16 0) (l.getD 17 0) (l.getD 18 0) (l.getD 19 0)).toNat
  opts := ⟨((l.take (hdL l)).drop 20).toArray⟩

theorem Ip.same {a b : Ip} (h1 : a.tos = b.tos) (h2 : a.id = b.id) (h3 : a.more = b.more) (h4 : a.keep = b.keep) (h5 : a.off = b.off) (h6 : a.ttl = b.ttl) (h7 : a.proto = b.proto) (h8 : a.src = b.src) (h9 : a.dst = b.dst) (h10 : a.opts = b.opts) : a = b := by
  cases a
  cases b
  simp_all
theorem got_fields (l : List UInt8) : (gotIp l).tos = (byteAt l 1 : Nat) ∧ (gotIp l).id = ((byteAt l 4 * 256 + byteAt l 5 : Nat) : Int) ∧ (gotIp l).more = decide (cwL l / 8192 % 2 = 1) ∧ (gotIp l).keep = decide (cwL l / 16384 % 2 = 1) ∧
    (gotIp l).off = ((cwL l % 8192 * 8 : Nat) : Int) ∧ (gotIp l).ttl = (byteAt l 8 : Nat) ∧ (gotIp l).proto = (byteAt l 9 : Nat) ∧
    (gotIp l).src = UInt32.ofNat (num4 (l.getD 12 0) (l.getD 13 0) (l.getD 14 0) (l.getD 15 0)).toNat ∧ (gotIp l).dst = UInt32.ofNat (num4 (l.getD 16 0) (l.getD 17 0) (l.getD 18 0) (l.getD 19 0)).toNat ∧ (gotIp l).opts = ⟨((l.take (hdL l)).drop 20).toArray⟩ := ⟨rfl, rfl, rfl, rfl, rfl, rfl, rfl, rfl, rfl, rfl⟩

/-! ### sums -/
/-! ### what is put -/
theorem put_list (h : Ip) (body : ByteArray) : (h.put body).data.toList = h.front body.size ++ (Pl.bigL (sumL (h.front body.size ++ h.ends)) 2 ++ h.ends) ++ body.data.toList := by
  unfold Ip.put
  rw [toList_append, toList_append, toList_append, ofL, ofL, ofL]
  simp
theorem ends_length (h : Ip) : h.ends.length = 8 + h.opts.size := by
  unfold Ip.ends
  rw [List.length_append, List.length_append, Pl.bigL_length, Pl.bigL_length, toList_length]
  omega
theorem front_length (h : Ip) (n : Nat) : (h.front n).length = 10 := rfl
theorem put_size (h : Ip) (body : ByteArray) : (h.put body).size = 20 + h.opts.size + body.size := by
  rw [← toList_length, put_list]
  rw [List.length_append, List.length_append, List.length_append, Pl.bigL_length, ends_length, front_length, toList_length]
  omega
/-- a datagram, its twenty bytes written out -/
theorem put_cons (h : Ip) (body : ByteArray) : ∃ s0 s1 a0 a1 a2 a3 b0 b1 b2 b3 : UInt8, num4 a0 a1 a2 a3 = (h.src.toNat : Int) ∧ num4 b0 b1 b2 b3 = (h.dst.toNat : Int) ∧
    h.front body.size ++ (Pl.bigL (sumL (h.front body.size ++ h.ends)) 2 ++ h.ends) =
    [loB (64 + (20 + (h.opts.size : Int)) / 4), loB h.tos, hiB (20 + (h.opts.size : Int) + (body.size : Int)), loB (20 + (h.opts.size : Int) + (body.size : Int)), hiB h.id, loB h.id, hiB h.cut, loB h.cut, loB h.ttl, loB h.proto, s0, s1, a0, a1, a2, a3, b0, b1, b2, b3] ++ h.opts.data.toList := by
  obtain ⟨a0, a1, a2, a3, ea, na⟩ := big4v (h.src.toNat : Int)
  obtain ⟨b0, b1, b2, b3, eb, nb⟩ := big4v (h.dst.toNat : Int)
  have l0 := h.src.toNat_lt
  have l1 := h.dst.toNat_lt
  refine ⟨hiB (sumL (h.front body.size ++ h.ends)), loB (sumL (h.front body.size ++ h.ends)), a0, a1, a2, a3, b0, b1, b2, b3, by omega, by omega, ?_⟩
  rw [big2v]
  generalize sumL (h.front body.size ++ h.ends) = S
  unfold Ip.ends Ip.front
  rw [ea, eb]
  rfl
/-- what is put has no fault, whatever stands behind it, and is got -/
theorem put_got (h : Ip) (body : ByteArray) (more : List UInt8) (hm : h.May) (hb : body.size ≤ 2000) :
    badL ((h.put body).data.toList ++ more) = 0 ∧ gotIp ((h.put body).data.toList ++ more) = h ∧ hdL ((h.put body).data.toList ++ more) = 20 + h.opts.size ∧ alL ((h.put body).data.toList ++ more) = 20 + h.opts.size + body.size := by
  obtain ⟨s0, s1, a0, a1, a2, a3, b0, b1, b2, b3, na, nb, e⟩ := put_cons h body
  have hs := sum_put (h.front body.size) h.ends (by rw [front_length])
  have hl := put_list h body
  rw [e] at hs hl
  have hcut := h.cut_bd hm
  obtain ⟨m1, m2, m3, m4, m5, m6, m7, m8⟩ := hm
  have hsz := put_size h body
  rw [← toList_length] at hsz
  generalize hp : (h.put body).data.toList = p at hl hsz
  have v0 := loB_val (64 + (20 + (h.opts.size : Int)) / 4)
  have v1 := loB_val h.tos
  have v2 := hilo (20 + (h.opts.size : Int) + (body.size : Int))
  have v4 := hilo h.id
  have v6 := hilo h.cut
  have v8 := loB_val h.ttl
  have v9 := loB_val h.proto
  rw [Int.emod_eq_of_lt (by omega) (by omega)] at v0 v1 v2 v4 v6 v8 v9
  have hol : h.opts.data.toList.length = h.opts.size := toList_length _
  have q0 : byteAt (p ++ more) 0 = (loB (64 + (20 + (h.opts.size : Int)) / 4)).toNat := by rw [hl]; rfl
  have q1 : byteAt (p ++ more) 1 = (loB h.tos).toNat := by rw [hl]; rfl
  have q2 : byteAt (p ++ more) 2 = (hiB (20 + (h.opts.size : Int) + (body.size : Int))).toNat := by rw [hl]; rfl
  have q3 : byteAt (p ++ more) 3 = (loB (20 + (h.opts.size : Int) + (body.size : Int))).toNat := by rw [hl]; rfl
  have q4 : byteAt (p ++ more) 4 = (hiB h.id).toNat := by rw [hl]; rfl
  have q5 : byteAt (p ++ more) 5 = (loB h.id).toNat := by rw [hl]; rfl
  have q6 : byteAt (p ++ more) 6 = (hiB h.cut).toNat := by rw [hl]; rfl
  have q7 : byteAt (p ++ more) 7 = (loB h.cut).toNat := by rw [hl]; rfl
  have q8 : byteAt (p ++ more) 8 = (loB h.ttl).toNat := by rw [hl]; rfl
  have q9 : byteAt (p ++ more) 9 = (loB h.proto).toNat := by rw [hl]; rfl
  have hh : hdL (p ++ more) = 20 + h.opts.size := by unfold hdL; rw [q0]; omega
  have ha : alL (p ++ more) = 20 + h.opts.size + body.size := by unfold alL; rw [q2, q3]; omega
  have hc : (cwL (p ++ more) : Int) = h.cut := by unfold cwL; rw [q6, q7]; omega
  have ht : (p ++ more).take (20 + h.opts.size) = [loB (64 + (20 + (h.opts.size : Int)) / 4), loB h.tos, hiB (20 + (h.opts.size : Int) + (body.size : Int)), loB (20 + (h.opts.size : Int) + (body.size : Int)), hiB h.id, loB h.id, hiB h.cut, loB h.cut, loB h.ttl, loB h.proto, s0, s1, a0, a1, a2, a3, b0, b1, b2, b3] ++ h.opts.data.toList := by
    rw [hl, List.append_assoc]
    exact List.take_left' (by rw [List.length_append, hol]; rfl)
  have hlen : (p ++ more).length = 20 + h.opts.size + body.size + more.length := by rw [List.length_append, hsz]
  refine ⟨?_, ?_, hh, ha⟩
  · rw [bad_none, hh, ha, ht]
    exact ⟨by omega, by rw [q0]; omega, by omega, by omega, by omega, by omega, by omega, by omega, hs⟩
  · have e32 : ∀ (x : UInt32) (v : Int), v = (x.toNat : Int) → UInt32.ofNat v.toNat = x := by
      intro x v hv
      subst hv
      simp
    have hco := hc
    unfold Ip.cut at hco
    have hg := got_fields (p ++ more)
    obtain ⟨f1, f2, f3, f4, f5, f6, f7, f8, f9, f10⟩ := hg
    apply Ip.same
    · rw [f1]; omega
    · rw [f2]; omega
    · rw [f3]; clear hc; cases hmore : h.more <;> cases hkeep : h.keep <;> simp [hmore, hkeep] at hco ⊢ <;> omega
    · rw [f4]; clear hc; cases hmore : h.more <;> cases hkeep : h.keep <;> simp [hmore, hkeep] at hco ⊢ <;> omega
    · rw [f5]; clear hc; cases hmore : h.more <;> cases hkeep : h.keep <;> simp [hmore, hkeep] at hco <;> omega
    · rw [f6]; omega
    · rw [f7]; omega
    · rw [f8]
      refine e32 _ _ ?_
      rw [← na, hl]
      rfl
    · rw [f9]
      refine e32 _ _ ?_
      rw [← nb, hl]
      rfl
    · rw [f10, hh, ht]
      rfl
/-- a bit turned in the head, but in its first byte -/
theorem put_turned (h : Ip) (body : ByteArray) (j m : Nat) (hm : h.May) (hb : body.size ≤ 2000) (h1 : 1 ≤ j) (hj : j < 20 + h.opts.size) (h8 : m < 8) :
    badL ((h.put body).data.toList.set j ((h.put body).data.toList.getD j 0 ^^^ UInt8.ofNat (2 ^ m))) ≠ 0 := by
  have g := put_got h body [] hm hb
  rw [List.append_nil] at g
  obtain ⟨g1, _, g3, g4⟩ := g
  have hsz := put_size h body
  rw [← toList_length] at hsz
  generalize (h.put body).data.toList = p at *
  rw [bad_none] at g1
  intro hbad
  rw [bad_none] at hbad
  have s0 := g1.2.2.2.2.2.2.2.2
  have s1 := hbad.2.2.2.2.2.2.2.2
  have hh : hdL (p.set j (p.getD j 0 ^^^ UInt8.ofNat (2 ^ m))) = hdL p := by
    unfold hdL byteAt
    obtain ⟨i, rfl⟩ : ∃ i, j = i + 1 := ⟨j - 1, by omega⟩
    cases p <;> rfl
  rw [hh, g3, List.take_set] at s1
  rw [g3] at s0
  have hl : (p.take (20 + h.opts.size)).length = 20 + h.opts.size := by rw [List.length_take]; omega
  have hg : p.getD j 0 = (p.take (20 + h.opts.size)).getD j 0 := by
    rw [List.getD_eq_getElem?_getD, List.getD_eq_getElem?_getD, List.getElem?_take_of_lt hj]
  rw [hg] at s1
  exact sum_turned _ j m (by omega) h8 s0 s1
/-- cut short -/
theorem put_cut (h : Ip) (body : ByteArray) (n : Nat) (hm : h.May) (hb : body.size ≤ 2000) (hn : n < (h.put body).size) : badL ((h.put body).data.toList.take n) ≠ 0 := by
  have g := put_got h body [] hm hb
  rw [List.append_nil] at g
  obtain ⟨g1, _, g3, g4⟩ := g
  have hsz := put_size h body
  rw [hsz] at hn
  rw [← toList_length] at hsz
  generalize (h.put body).data.toList = p at *
  intro hbad
  rw [bad_none] at hbad
  obtain ⟨b1, _, _, _, _, b6, _⟩ := hbad
  rw [List.length_take] at b1 b6
  have ha : alL (p.take n) = alL p := by
    unfold alL byteAt
    rw [List.getD_eq_getElem?_getD, List.getD_eq_getElem?_getD, List.getElem?_take_of_lt (by omega), List.getElem?_take_of_lt (by omega), ← List.getD_eq_getElem?_getD, ← List.getD_eq_getElem?_getD]
  rw [ha, g4] at b6
  omega
end Go.Proofs.Ytkfgapljphhmcaa
