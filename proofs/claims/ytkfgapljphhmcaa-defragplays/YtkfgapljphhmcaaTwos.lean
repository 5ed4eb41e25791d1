/- Numbers of one, two and four bytes: their bytes, and the numbers that bytes are; bits of small numbers. -/
import Derived.Test.YtkfgapljphhmcaaBytes
namespace Go.Proofs.Ytkfgapljphhmcaa
open Go.RowKit
set_option linter.unusedVariables false

/-! ### bits of numbers that are not negative -/
theorem ofNat64 (n : Nat) (h : n < 4611686018427387904) : (BitVec.ofInt 64 (n : Int)).toNat = n := by
  rw [BitVec.ofInt_natCast, BitVec.toNat_ofNat]
  exact Nat.mod_eq_of_lt (by omega)
theorem or_nat (m n : Nat) (hm : m < 4611686018427387904) (hn : n < 4611686018427387904) : bits .or .i64 (m : Int) (n : Int) = ((m ||| n : Nat) : Int) := by
  have hlt : m ||| n < 2 ^ 62 := Nat.or_lt_two_pow (by omega) (by omega)
  show IntKind.i64.wrap ((BitVec.ofInt 64 (m : Int) ||| BitVec.ofInt 64 (n : Int)).toNat : Nat) = _
  rw [BitVec.toNat_or, ofNat64 m hm, ofNat64 n hn]
  exact Pl.wraps_i64 _ (by omega) (by omega)
theorem and_nat (m n : Nat) (hm : m < 4611686018427387904) (hn : n < 4611686018427387904) : bits .and .i64 (m : Int) (n : Int) = ((m &&& n : Nat) : Int) := by
  have hlt : m &&& n < 2 ^ 62 := Nat.and_lt_two_pow _ (by omega)
  show IntKind.i64.wrap ((BitVec.ofInt 64 (m : Int) &&& BitVec.ofInt 64 (n : Int)).toNat : Nat) = _
  rw [BitVec.toNat_and, ofNat64 m hm, ofNat64 n hn]
  exact Pl.wraps_i64 _ (by omega) (by omega)
/-- a number below a power of two, and a multiple of it -/
theorem or_apart (k : Nat) (a b : Nat) (h : b < 2 ^ k) (h62 : 2 ^ k * a + b < 4611686018427387904) : bits .or .i64 ((b : Nat) : Int) ((2 ^ k * a : Nat) : Int) = ((2 ^ k * a + b : Nat) : Int) := by
  rw [or_nat b (2 ^ k * a) (by omega) (by omega), Nat.or_comm, ← Nat.two_pow_add_eq_or_of_lt h]
theorem or_apart' (k : Nat) (a b : Nat) (h : b < 2 ^ k) (h62 : 2 ^ k * a + b < 4611686018427387904) : bits .or .i64 ((2 ^ k * a : Nat) : Int) ((b : Nat) : Int) = ((2 ^ k * a + b : Nat) : Int) := by
  rw [or_nat (2 ^ k * a) b (by omega) (by omega), ← Nat.two_pow_add_eq_or_of_lt h]
/-- is a bit set? -/
theorem and_bit (n k : Nat) (hn : n < 65536) (hk : k ≤ 61) : bits .and .i64 ((n : Nat) : Int) ((2 ^ k : Nat) : Int) = ((n / 2 ^ k % 2 * 2 ^ k : Nat) : Int) := by
  have hlt : 2 ^ k ≤ 2 ^ 61 := Nat.pow_le_pow_right (by decide) hk
  rw [and_nat n (2 ^ k) (by omega) (by omega)]
  congr 1
  apply Nat.eq_of_testBit_eq
  intro i
  rw [Nat.testBit_and, Nat.testBit_two_pow]
  have : n / 2 ^ k % 2 < 2 := Nat.mod_lt _ (by decide)
  have hb : n.testBit k = decide (n / 2 ^ k % 2 = 1) := Nat.testBit_eq_decide_div_mod_eq
  by_cases hi : k = i
  · subst hi
    rw [hb]
    by_cases h : n / 2 ^ k % 2 = 1
    · simp [h]
    · have h0 : n / 2 ^ k % 2 = 0 := by omega
      simp [h0]
  · by_cases h : n / 2 ^ k % 2 = 1
    · simp [h, hi]
    · have h0 : n / 2 ^ k % 2 = 0 := by omega
      simp [h0, hi]
theorem ofNat8 (a : UInt8) : (BitVec.ofInt 8 (a.toNat : Int)).toNat = a.toNat := by
  have ha := a.toNat_lt
  rw [BitVec.ofInt_natCast, BitVec.toNat_ofNat]
  exact Nat.mod_eq_of_lt (by omega)
theorem xor_u8 (a b : UInt8) : bits .xor .u8 (a.toNat : Int) (b.toNat : Int) = ((a ^^^ b).toNat : Int) := by
  have hx : (a ^^^ b).toNat < 256 := (a ^^^ b).toNat_lt
  rw [UInt8.toNat_xor] at hx ⊢
  show IntKind.u8.wrap ((BitVec.ofInt 8 (a.toNat : Int) ^^^ BitVec.ofInt 8 (b.toNat : Int)).toNat : Nat) = _
  rw [BitVec.toNat_xor, ofNat8, ofNat8]
  show ((a.toNat ^^^ b.toNat : Nat) : Int) % 256 = _
  omega
theorem or_u8 (a b : UInt8) : bits .or .u8 (a.toNat : Int) (b.toNat : Int) = ((a ||| b).toNat : Int) := by
  have hx : (a ||| b).toNat < 256 := (a ||| b).toNat_lt
  rw [UInt8.toNat_or] at hx ⊢
  show IntKind.u8.wrap ((BitVec.ofInt 8 (a.toNat : Int) ||| BitVec.ofInt 8 (b.toNat : Int)).toNat : Nat) = _
  rw [BitVec.toNat_or, ofNat8, ofNat8]
  show ((a.toNat ||| b.toNat : Nat) : Int) % 256 = _
  omega
theorem and_u8 (a b : UInt8) : bits .and .u8 (a.toNat : Int) (b.toNat : Int) = ((a &&& b).toNat : Int) := by
  have hx : (a &&& b).toNat < 256 := (a &&& b).toNat_lt
  rw [UInt8.toNat_and] at hx ⊢
  show IntKind.u8.wrap ((BitVec.ofInt 8 (a.toNat : Int) &&& BitVec.ofInt 8 (b.toNat : Int)).toNat : Nat) = _
  rw [BitVec.toNat_and, ofNat8, ofNat8]
  show ((a.toNat &&& b.toNat : Nat) : Int) % 256 = _
  omega
theorem and_low (a : UInt8) : bits .and .u8 (a.toNat : Int) 15 = ((a.toNat % 16 : Nat) : Int) := by
  have h := and_u8 a 15
  rw [UInt8.toNat_and] at h
  have e : a.toNat &&& (15 : UInt8).toNat = a.toNat % 16 := Nat.and_two_pow_sub_one_eq_mod a.toNat 4
  rw [e] at h
  exact h

/-! ### one, two and four bytes -/
/-- the two bytes of a number -/
def hiB (t : Int) : UInt8 := UInt8.ofNat (t / 256 % 256).toNat
def loB (t : Int) : UInt8 := UInt8.ofNat (t % 256).toNat
theorem big1v (t : Int) : Pl.bigL t 1 = [loB t] := rfl
theorem big2v (t : Int) : Pl.bigL t 2 = [hiB t, loB t] := rfl
theorem loB_val (t : Int) : ((loB t).toNat : Int) = t % 256 := by
  unfold loB
  rw [UInt8.toNat_ofNat', Nat.mod_eq_of_lt (by omega)]
  omega
theorem hilo (t : Int) : ((hiB t).toNat : Int) * 256 + ((loB t).toNat : Int) = t % 65536 := by
  unfold hiB loB
  rw [UInt8.toNat_ofNat', UInt8.toNat_ofNat', Nat.mod_eq_of_lt (by omega), Nat.mod_eq_of_lt (by omega)]
  omega
theorem hiB_of (c0 c1 : UInt8) : hiB ((c0.toNat : Int) * 256 + (c1.toNat : Int)) = c0 := by
  have h0 := c0.toNat_lt
  have h1 := c1.toNat_lt
  unfold hiB
  apply UInt8.toNat_inj.1
  rw [UInt8.toNat_ofNat', Nat.mod_eq_of_lt (by omega)]
  omega
theorem loB_of (c0 c1 : UInt8) : loB ((c0.toNat : Int) * 256 + (c1.toNat : Int)) = c1 := by
  have h0 := c0.toNat_lt
  have h1 := c1.toNat_lt
  unfold loB
  apply UInt8.toNat_inj.1
  rw [UInt8.toNat_ofNat', Nat.mod_eq_of_lt (by omega)]
  omega
/-- the bytes of a number, as a text -/
def bigB (v n : Int) : ByteArray := ⟨(Pl.bigL v (cut8 n)).toArray⟩
theorem bigB_size (v n : Int) : (bigB v n).size = cut8 n := by
  show ((Pl.bigL v (cut8 n)).toArray).size = _
  rw [List.size_toArray, Pl.bigL_length]
theorem bigB1s (v : Int) : (bigB v 1).size = 1 := bigB_size v 1
theorem bigB2s (v : Int) : (bigB v 2).size = 2 := bigB_size v 2
theorem bigB4s (v : Int) : (bigB v 4).size = 4 := bigB_size v 4
theorem bigB1 (v : Int) : bigB v 1 = ⟨#[loB v]⟩ := rfl
theorem bigB2 (v : Int) : bigB v 2 = ⟨#[hiB v, loB v]⟩ := rfl
theorem bigB4 (v : Int) : bigB v 4 = ⟨(Pl.bigL v 4).toArray⟩ := rfl
theorem numL2 (c0 c1 : UInt8) : Pl.numL (Pl.last7 [c0, c1]) = (c0.toNat : Int) * 256 + (c1.toNat : Int) := by simp [Pl.numL, Pl.last7]
/-- the number of four bytes -/
def num4 (c0 c1 c2 c3 : UInt8) : Int := (((c0.toNat : Int) * 256 + (c1.toNat : Int)) * 256 + (c2.toNat : Int)) * 256 + (c3.toNat : Int)
theorem numL4 (c0 c1 c2 c3 : UInt8) : Pl.numL (Pl.last7 [c0, c1, c2, c3]) = num4 c0 c1 c2 c3 := by simp [Pl.numL, Pl.last7, num4]
theorem num4_bd (c0 c1 c2 c3 : UInt8) : 0 ≤ num4 c0 c1 c2 c3 ∧ num4 c0 c1 c2 c3 < 4294967296 := by
  have h0 := c0.toNat_lt
  have h1 := c1.toNat_lt
  have h2 := c2.toNat_lt
  have h3 := c3.toNat_lt
  unfold num4
  omega
/-- four bytes out of a text -/
theorem bytes4 (s : ByteArray) (i : Nat) (h : i + 4 ≤ s.size) : ∃ a0 a1 a2 a3 : UInt8, s.extract i (i + 4) = ⟨#[a0, a1, a2, a3]⟩ ∧ s[i] = a0 ∧ s[i + 1] = a1 ∧ s[i + 2] = a2 ∧ s[i + 3] = a3 := by
  refine ⟨s[i], s[i + 1], s[i + 2], s[i + 3], ?_, rfl, rfl, rfl, rfl⟩
  apply ByteArray.ext
  apply Array.ext
  · simp
    omega
  · intro k h1 h2
    have hk : k < 4 := by simpa using h2
    match k, hk with
    | 0, _ => simp [ByteArray.getElem_eq_getElem_data]
    | 1, _ => simp [ByteArray.getElem_eq_getElem_data]
    | 2, _ => simp [ByteArray.getElem_eq_getElem_data]
    | 3, _ => simp [ByteArray.getElem_eq_getElem_data]
/-- the four bytes of a number that has no more -/
theorem big4v (t : Int) : ∃ c0 c1 c2 c3 : UInt8, Pl.bigL t 4 = [c0, c1, c2, c3] ∧ num4 c0 c1 c2 c3 = t % 4294967296 := by
  refine ⟨UInt8.ofNat (t / 256 / 256 / 256 % 256).toNat, UInt8.ofNat (t / 256 / 256 % 256).toNat, UInt8.ofNat (t / 256 % 256).toNat, UInt8.ofNat (t % 256).toNat, rfl, ?_⟩
  unfold num4
  rw [UInt8.toNat_ofNat', UInt8.toNat_ofNat', UInt8.toNat_ofNat', UInt8.toNat_ofNat', Nat.mod_eq_of_lt (by omega), Nat.mod_eq_of_lt (by omega), Nat.mod_eq_of_lt (by omega), Nat.mod_eq_of_lt (by omega)]
  omega
end Go.Proofs.Ytkfgapljphhmcaa
