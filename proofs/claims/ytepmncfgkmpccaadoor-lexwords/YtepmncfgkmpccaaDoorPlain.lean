/- Plain facts on numbers and bytes, with no program in sight: the sum of the net as one number below 65536 (fld), the weights of a text's bytes (wt), a number's bytes (big) and bytes' number (num). -/
import Derived.Laws.BitsLemmas
import Derived.RowKit
namespace Go.Proofs.YtepmncfgkmpccaaDoor.Pl
open Go.RowKit
set_option linter.unusedVariables false

/-- what is above sixteen bits added below, until there is none -/
def fld (v : Int) : Int := if v = 0 then 0 else (v - 1) % 65535 + 1

theorem fld_step (v : Int) (h : 65535 < v) : fld (v / 65536 + v % 65536) = fld v := by
  unfold fld
  rw [if_neg (by omega), if_neg (by omega)]
  omega
theorem fld_small (v : Int) (h0 : 0 ≤ v) (h : v ≤ 65535) : fld v = v := by
  unfold fld
  split <;> omega
theorem fld_bd (v : Int) (h0 : 0 ≤ v) : 0 ≤ fld v ∧ fld v ≤ 65535 := by
  unfold fld
  split <;> omega
theorem fld_add (a b : Int) (h0 : 0 ≤ a) (h1 : 0 ≤ b) : fld (fld a + b) = fld (a + b) := by
  unfold fld
  by_cases ha : a = 0
  · simp [ha]
  · rw [if_neg ha]
    rw [if_neg (by omega), if_neg (by omega)]
    omega
theorem fld_add' (a b : Int) (h0 : 0 ≤ a) (h1 : 0 ≤ b) : fld (a + fld b) = fld (a + b) := by
  rw [Int.add_comm, fld_add b a h1 h0, Int.add_comm]
theorem fld_all (x : Int) (h0 : 0 ≤ x) (h1 : x ≤ 65535) : fld (x + (65535 - x)) = 65535 := by
  rw [show x + (65535 - x) = 65535 from by omega]
  rfl

/-! ### bits -/
theorem and_mask (n : Int) (k : Nat) (hk : k ≤ 62) : bits .and .i64 n ((2 ^ k - 1 : Nat) : Int) = n % ((2 ^ k : Nat) : Int) := by
  have hlt : 2 ^ k ≤ 2 ^ 62 := Nat.pow_le_pow_right (by decide) hk
  have hpos : 0 < 2 ^ k := Nat.pow_pos (by decide)
  have hm : (BitVec.ofInt 64 ((2 ^ k - 1 : Nat) : Int)).toNat = 2 ^ k - 1 := by
    rw [BitVec.ofInt_natCast, BitVec.toNat_ofNat]
    exact Nat.mod_eq_of_lt (by omega)
  have key : (BitVec.ofInt 64 n &&& BitVec.ofInt 64 ((2 ^ k - 1 : Nat) : Int)).toNat = (n % ((2 ^ 64 : Nat) : Int)).toNat % 2 ^ k := by
    rw [BitVec.toNat_and, BitVec.toNat_ofInt, hm, Nat.and_two_pow_sub_one_eq_mod]
  show IntKind.i64.wrap ((BitVec.ofInt 64 n &&& BitVec.ofInt 64 ((2 ^ k - 1 : Nat) : Int)).toNat : Nat) = _
  rw [key, IntKind.wrap_i64]
  have hd : ((2 ^ k : Nat) : Int) ∣ ((2 ^ 64 : Nat) : Int) := by
    refine ⟨((2 ^ (64 - k) : Nat) : Int), ?_⟩
    rw [← Int.natCast_mul, ← Nat.pow_add, show k + (64 - k) = 64 from by omega]
  have e : (((n % ((2 ^ 64 : Nat) : Int)).toNat % 2 ^ k : Nat) : Int) = n % ((2 ^ k : Nat) : Int) := by
    rw [Int.natCast_emod, Int.toNat_of_nonneg (Int.emod_nonneg _ (by decide)), Int.emod_emod_of_dvd _ hd]
  have b1 : 0 ≤ n % ((2 ^ k : Nat) : Int) := Int.emod_nonneg _ (by omega)
  have b2 : n % ((2 ^ k : Nat) : Int) < ((2 ^ k : Nat) : Int) := Int.emod_lt_of_pos _ (by omega)
  rw [e]
  generalize n % ((2 ^ k : Nat) : Int) = m at b1 b2
  omega
theorem and_word (n : Int) : bits .and .i64 n 65535 = n % 65536 := and_mask n 16 (by decide)
theorem xor_word (x : Int) (h0 : 0 ≤ x) (h1 : x ≤ 65535) : bits .xor .i64 x 65535 = 65535 - x := by
  obtain ⟨n, rfl⟩ := Int.eq_ofNat_of_zero_le h0
  have hn : n < 65536 := by omega
  have h2 : (BitVec.ofInt 64 (n : Int)).toNat = n := by
    rw [BitVec.ofInt_natCast, BitVec.toNat_ofNat]
    exact Nat.mod_eq_of_lt (by omega)
  have h3 : (BitVec.ofInt 64 65535).toNat = 65535 := by decide
  have hx : n ^^^ 65535 = 65535 - n := by
    have := Nat.xor_lt_two_pow (x := n) (y := 65535) (n := 16) (by omega) (by decide)
    have e : ∀ m : Fin 65536, m.val ^^^ 65535 = 65535 - m.val := by
      intro m
      have hh : (BitVec.ofNat 16 m.val ^^^ 65535#16).toNat = (65535#16 - BitVec.ofNat 16 m.val).toNat := by
        have h : BitVec.ofNat 16 m.val ^^^ 65535#16 = 65535#16 - BitVec.ofNat 16 m.val := by
          rw [show (65535#16 : BitVec 16) = BitVec.allOnes 16 from by decide, BitVec.xor_allOnes, BitVec.allOnes_sub_eq_not]
        rw [h]
      rw [BitVec.toNat_xor, BitVec.toNat_sub] at hh
      simp at hh
      have hm := m.isLt
      omega
    exact e ⟨n, hn⟩
  show IntKind.i64.wrap ((BitVec.ofInt 64 (n : Int) ^^^ BitVec.ofInt 64 65535).toNat : Nat) = _
  rw [BitVec.toNat_xor, h2, h3, hx, IntKind.wrap_i64]
  omega
theorem wraps_i64 (n : Int) (h0 : 0 ≤ n) (h1 : n < 2 ^ 63) : IntKind.i64.wrap n = n := by rw [IntKind.wrap_i64]; omega
theorem or_byte (x y : Int) (hx : 0 ≤ x) (hx1 : x < 36028797018963968) (h0 : 0 ≤ y) (h1 : y < 256) : bits .or .i64 (x * 256) y = x * 256 + y :=
  bits_join .i64 63 (by decide) wraps_i64 8 (x * 256) y (by omega) (by omega) (by omega) h0 h1 (by omega)

/-! ### weights -/
def wt : Bool → List UInt8 → Int
  | _, [] => 0
  | true, x :: t => 256 * (x.toNat : Int) + wt false t
  | false, x :: t => (x.toNat : Int) + wt true t
def par (b : Bool) : List UInt8 → Bool
  | [] => b
  | _ :: t => par (!b) t
theorem wt_append (b : Bool) (l m : List UInt8) : wt b (l ++ m) = wt b l + wt (par b l) m := by
  induction l generalizing b with
  | nil => simp [wt, par]
  | cons x t ih => cases b <;> simp [wt, par, ih] <;> omega
theorem par_append (b : Bool) (l m : List UInt8) : par b (l ++ m) = par (par b l) m := by
  induction l generalizing b with
  | nil => simp [par]
  | cons x t ih => simp [par, ih]
theorem wt_bd (b : Bool) (l : List UInt8) : 0 ≤ wt b l ∧ wt b l ≤ 65280 * (l.length : Int) := by
  induction l generalizing b with
  | nil => simp [wt]
  | cons x t ih =>
    have hx : x.toNat < 256 := x.toNat_lt
    cases b
    · have := ih true
      simp only [wt, List.length_cons]
      omega
    · have := ih false
      simp only [wt, List.length_cons]
      omega
theorem par_length (b : Bool) (l : List UInt8) : par b l = if l.length % 2 = 0 then b else !b := by
  induction l generalizing b with
  | nil => simp [par]
  | cons x t ih =>
    rw [par, ih]
    simp only [List.length_cons]
    by_cases h : t.length % 2 = 0
    · rw [if_pos h, if_neg (by omega)]
    · rw [if_neg h, if_pos (by omega)]
      simp
def cat (ss : List ByteArray) : List UInt8 := (ss.map fun s => s.data.toList).flatten
theorem cat_nil : cat [] = [] := rfl
theorem cat_cons (s : ByteArray) (t : List ByteArray) : cat (s :: t) = s.data.toList ++ cat t := by simp [cat]
theorem cat_append (a b : List ByteArray) : cat (a ++ b) = cat a ++ cat b := by simp [cat]
theorem cat_one (s : ByteArray) : cat [s] = s.data.toList := by simp [cat]
theorem cat_take (ss : List ByteArray) (k : Nat) (h : k < ss.length) : cat (ss.take (k + 1)) = cat (ss.take k) ++ (ss.getD k ByteArray.empty).data.toList := by
  rw [List.take_succ_eq_append_getElem h, cat_append, cat_one]
  congr 2
  simp [List.getD, h]
theorem cat_take_le (ss : List ByteArray) (k : Nat) : (cat (ss.take k)).length ≤ (cat ss).length := by
  have h : cat ss = cat (ss.take k) ++ cat (ss.drop k) := by rw [← cat_append, List.take_append_drop]
  rw [h, List.length_append]
  omega

/-! ### bytes' number -/
def numL (l : List UInt8) : Int := l.foldl (fun v x => v * 256 + (x.toNat : Int)) 0
theorem numL_snoc (l : List UInt8) (x : UInt8) : numL (l ++ [x]) = numL l * 256 + (x.toNat : Int) := by simp [numL]
theorem numL_nil : numL [] = 0 := rfl
theorem numL_bd (n : Nat) : ∀ l : List UInt8, l.length = n → 0 ≤ numL l ∧ numL l < 256 ^ n := by
  induction n with
  | zero =>
    intro l h
    have : l = [] := by simpa using h
    subst this
    simp [numL]
  | succ n ih =>
    intro l h
    have hne : l ≠ [] := by intro e; simp [e] at h
    have hs := List.dropLast_concat_getLast hne
    have hl : l.dropLast.length = n := by simp [h]
    have hb := ih _ hl
    rw [← hs, numL_snoc]
    have hx : (l.getLast hne).toNat < 256 := (l.getLast hne).toNat_lt
    rw [Int.pow_succ]
    omega
theorem numL_lt6 (l : List UInt8) (h : l.length ≤ 6) : 0 ≤ numL l ∧ numL l < 281474976710656 := by
  have hb := numL_bd l.length l rfl
  have hc : l.length = 0 ∨ l.length = 1 ∨ l.length = 2 ∨ l.length = 3 ∨ l.length = 4 ∨ l.length = 5 ∨ l.length = 6 := by omega
  rcases hc with e | e | e | e | e | e | e <;> rw [e] at hb <;> omega
/-- the last seven bytes -/
def last7 (l : List UInt8) : List UInt8 := l.drop (l.length - 7)
theorem take_snoc (s : ByteArray) (k : Nat) (h : k < s.size) : s.data.toList.take (k + 1) = s.data.toList.take k ++ [s[k]] := by
  rw [List.take_succ_eq_append_getElem (by simpa using h)]
  rfl

/-! ### a number's bytes -/
def bigL (v : Int) : Nat → List UInt8
  | 0 => []
  | k + 1 => bigL (v / 256) k ++ [UInt8.ofNat (v % 256).toNat]
theorem bigL_length (v : Int) (k : Nat) : (bigL v k).length = k := by
  induction k generalizing v with
  | zero => rfl
  | succ k ih => simp [bigL, ih]
theorem numL_bigL (v : Int) (k : Nat) : numL (bigL v k) = v % 256 ^ k := by
  induction k generalizing v with
  | zero => simp [bigL, numL, Int.emod_one]
  | succ k ih =>
    rw [bigL, numL_snoc, ih]
    have hb : (UInt8.ofNat (v % 256).toNat).toNat = (v % 256).toNat := by
      rw [UInt8.toNat_ofNat']
      exact Nat.mod_eq_of_lt (by omega)
    rw [hb, Int.toNat_of_nonneg (by omega), Int.pow_succ]
    have h1 := Int.emod_add_mul_ediv v (256 ^ k * 256)
    have hp : (0 : Int) < 256 ^ k := Int.pow_pos (by decide)
    have h2 : v % (256 ^ k * 256) = (v / 256 % 256 ^ k) * 256 + v % 256 := by
      rw [Int.mul_comm (256 ^ k) 256]
      have a := Int.emod_add_mul_ediv v 256
      have b := Int.emod_add_mul_ediv (v / 256) (256 ^ k)
      have c0 := Int.emod_nonneg (v / 256) (show (256 : Int) ^ k ≠ 0 from by omega)
      have c1 := Int.emod_lt_of_pos (v / 256) hp
      have e : v = (v / 256 % 256 ^ k) * 256 + v % 256 + (256 * 256 ^ k) * (v / 256 / 256 ^ k) := by
        have b' : (256 : Int) * 256 ^ k * (v / 256 / 256 ^ k) = 256 * (256 ^ k * (v / 256 / 256 ^ k)) := by rw [Int.mul_assoc]
        rw [b']
        omega
      have r0 : 0 ≤ (v / 256 % 256 ^ k) * 256 + v % 256 := by omega
      have r1 : (v / 256 % 256 ^ k) * 256 + v % 256 < 256 * 256 ^ k := by omega
      generalize (v / 256 % 256 ^ k) * 256 + v % 256 = r at e r0 r1
      generalize v / 256 / 256 ^ k = q at e
      rw [e, Int.add_mul_emod_self_left]
      exact Int.emod_eq_of_lt r0 r1
    rw [h2]

end Go.Proofs.YtepmncfgkmpccaaDoor.Pl
