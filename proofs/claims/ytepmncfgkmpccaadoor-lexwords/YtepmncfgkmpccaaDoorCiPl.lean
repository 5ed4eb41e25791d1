/- Layer 9, no program: nets, their first bits, what is needless; where nets lie in memory. -/
import Derived.Test.YtepmncfgkmpccaaDoorLeafs
import Derived.Lib.ItoaNum
namespace Go.Proofs.YtepmncfgkmpccaaDoor
open Go.RowKit
set_option linter.unusedVariables false
theorem ofNat32 (a : UInt32) : (BitVec.ofInt 32 (a.toNat : Int)).toNat = a.toNat := by
  have ha := a.toNat_lt
  rw [BitVec.ofInt_natCast, BitVec.toNat_ofNat]
  exact Nat.mod_eq_of_lt (by omega)
theorem xor_u32 (a b : UInt32) : bits .xor .u32 (a.toNat : Int) (b.toNat : Int) = ((a ^^^ b).toNat : Int) := by
  have hx : (a ^^^ b).toNat < 4294967296 := (a ^^^ b).toNat_lt
  rw [UInt32.toNat_xor] at hx ⊢
  show IntKind.u32.wrap ((BitVec.ofInt 32 (a.toNat : Int) ^^^ BitVec.ofInt 32 (b.toNat : Int)).toNat : Nat) = _
  rw [BitVec.toNat_xor, ofNat32, ofNat32]
  show ((a.toNat ^^^ b.toNat : Nat) : Int) % 4294967296 = _
  omega
theorem and_u32 (a b : UInt32) : bits .and .u32 (a.toNat : Int) (b.toNat : Int) = ((a &&& b).toNat : Int) := by
  have hx : (a &&& b).toNat < 4294967296 := (a &&& b).toNat_lt
  rw [UInt32.toNat_and] at hx ⊢
  show IntKind.u32.wrap ((BitVec.ofInt 32 (a.toNat : Int) &&& BitVec.ofInt 32 (b.toNat : Int)).toNat : Nat) = _
  rw [BitVec.toNat_and, ofNat32, ofNat32]
  show ((a.toNat &&& b.toNat : Nat) : Int) % 4294967296 = _
  omega
theorem or_u32 (a b : UInt32) : bits .or .u32 (a.toNat : Int) (b.toNat : Int) = ((a ||| b).toNat : Int) := by
  have hx : (a ||| b).toNat < 4294967296 := (a ||| b).toNat_lt
  rw [UInt32.toNat_or] at hx ⊢
  show IntKind.u32.wrap ((BitVec.ofInt 32 (a.toNat : Int) ||| BitVec.ofInt 32 (b.toNat : Int)).toNat : Nat) = _
  rw [BitVec.toNat_or, ofNat32, ofNat32]
  show ((a.toNat ||| b.toNat : Nat) : Int) % 4294967296 = _
  omega
theorem u32_inj {a b : UInt32} : ((a.toNat : Int) = (b.toNat : Int)) ↔ a = b := by
  constructor
  · intro h; exact UInt32.toNat_inj.1 (by omega)
  · rintro rfl; rfl
theorem u32_zero {a : UInt32} : ((a.toNat : Int) = 0) ↔ a = 0 := by
  have := u32_inj (a := a) (b := 0)
  simpa using this
/-- a net: an address, how many of its bits -/
abbrev Nt := UInt32 × Int
/-- one that may be -/
abbrev Vn := UInt32 × Fin 33
def Vn.nt (x : Vn) : Nt := (x.1, (x.2.val : Int))
def msk (k : Nat) : UInt32 := UInt32.ofNat (4294967296 - 2 ^ (32 - k))
def inN (n : Nt) (a : UInt32) : Bool := ((a ^^^ n.1) &&& msk n.2.toNat) == 0
def within (n o : Nt) : Bool := decide (o.2 ≤ n.2) && inN o n.1
def okN (n : Nt) : Bool := decide (0 ≤ n.2) && decide (n.2 ≤ 32)
def badN (n : Nt) : Bool := decide (n.2 < 0) || decide (32 < n.2)
def checkL (L : List Nt) : Bool := decide (L.length ≤ 4) && !L.any badN
def needless (L : List Nt) (i : Nat) (n : Nt) : Bool := (L.take i).any (fun e => within n e) || (L.drop (i + 1)).any (fun l => within n l && !within l n)
def cutN (n : Nt) : Nt := (n.1 &&& msk n.2.toNat, n.2)
def cleanUpto (L : List Nt) : Nat → List Nt
  | 0 => []
  | k + 1 => cleanUpto L k ++ (if needless L k (L.getD k default) then [] else [cutN (L.getD k default)])
def cleanL (L : List Nt) : List Nt := if checkL L then cleanUpto L L.length else []
def hasL (no : Bool) (L : List Nt) (a : UInt32) : Bool := checkL L && ((L.any (fun n => inN n a) || L.isEmpty) != no)
theorem badN_ok (n : Nt) : badN n = !okN n := by
  simp only [badN, okN, Bool.not_and]
  congr 1
  · by_cases h : n.2 < 0
    · simp [h, show ¬ (0 ≤ n.2) by omega]
    · simp [h, show (0 ≤ n.2) by omega]
  · by_cases h : 32 < n.2
    · simp [h, show ¬ (n.2 ≤ 32) by omega]
    · simp [h, show (n.2 ≤ 32) by omega]
theorem checkL_len {L : List Nt} (h : checkL L = true) : L.length ≤ 4 := by
  simp only [checkL, Bool.and_eq_true, decide_eq_true_eq] at h; exact h.1
theorem checkL_ok {L : List Nt} (h : checkL L = true) : ∀ n ∈ L, 0 ≤ n.2 ∧ n.2 ≤ 32 := by
  intro n hn
  simp only [checkL, Bool.and_eq_true, Bool.not_eq_true', List.any_eq_false] at h
  have := h.2 n hn
  simp only [badN, Bool.or_eq_true, decide_eq_true_eq, not_or] at this
  omega
/-- nets that may be, as such -/
theorem vn_of : ∀ {L : List Nt}, (∀ n ∈ L, 0 ≤ n.2 ∧ n.2 ≤ 32) → ∃ M : List Vn, L = M.map Vn.nt
  | [], _ => ⟨[], rfl⟩
  | (a, b) :: L, h => by
    obtain ⟨M, rfl⟩ := vn_of (L := L) (fun n hn => h n (List.mem_cons_of_mem _ hn))
    have := h (a, b) (List.mem_cons_self ..)
    refine ⟨(a, ⟨b.toNat, by omega⟩) :: M, ?_⟩
    simp only [List.map_cons, Vn.nt]
    congr 2
    show b = ((b.toNat : Nat) : Int)
    omega
theorem vn_ok (x : Vn) : 0 ≤ x.nt.2 ∧ x.nt.2 ≤ 32 := by
  have := x.2.isLt
  simp only [Vn.nt]; omega
/-- a net's cells -/
def ntC (n : Nt) : List Value := [.int .u32 (n.1.toNat : Int), .int .i64 n.2]
/-- nets in memory -/
def Nets (w : World) (p : Option Addr) (c : Nat) (L : List Nt) : Prop :=
  L.length ≤ c ∧ (L = [] ∨ ∃ b o, p = some ⟨b, o, none⟩ ∧ b < w.heap.size ∧ ∀ j n, L[j]? = some n → w.cell? ⟨b, o + j * 2, none⟩ = some (.int .u32 (n.1.toNat : Int)) ∧ w.cell? ⟨b, o + j * 2 + 1, none⟩ = some (.int .i64 n.2))
theorem Nets.below {w w' : World} {p : Option Addr} {c : Nat} {L : List Nt} (h : Nets w p c L) (hb : Below w.heap.size w w') : Nets w' p c L := by
  obtain ⟨h1, h2⟩ := h
  refine ⟨h1, ?_⟩
  rcases h2 with h2 | ⟨b, o, h3, h4, h5⟩
  · exact .inl h2
  · refine .inr ⟨b, o, h3, Nat.lt_of_lt_of_le h4 hb.size, fun j n hj => ?_⟩
    obtain ⟨g1, g2⟩ := h5 j n hj
    exact ⟨(hb.cell (p := ⟨b, o + j * 2, none⟩) h4).trans g1, (hb.cell (p := ⟨b, o + j * 2 + 1, none⟩) h4).trans g2⟩
theorem Nets.take {w : World} {p : Option Addr} {c : Nat} {L : List Nt} (h : Nets w p c L) (k : Nat) : Nets w p c (L.take k) := by
  obtain ⟨h1, h2⟩ := h
  refine ⟨by simp only [List.length_take]; omega, ?_⟩
  rcases h2 with h2 | ⟨b, o, h3, h4, h5⟩
  · exact .inl (by rw [h2]; simp)
  · refine .inr ⟨b, o, h3, h4, fun j n hj => h5 j n ?_⟩
    rw [List.getElem?_take] at hj
    split at hj
    · exact hj
    · cases hj
theorem Nets.drop {w : World} {b o c : Nat} {L : List Nt} (h : Nets w (some ⟨b, o, none⟩) c L) (k : Nat) : Nets w (some ⟨b, o + k * 2, none⟩) (c - k) (L.drop k) := by
  obtain ⟨h1, h2⟩ := h
  refine ⟨by simp only [List.length_drop]; omega, ?_⟩
  rcases h2 with h2 | ⟨b', o', h3, h4, h5⟩
  · exact .inl (by rw [h2]; simp)
  · simp only [Option.some.injEq, Addr.mk.injEq] at h3
    obtain ⟨rfl, rfl, _⟩ := h3
    refine .inr ⟨b, _, rfl, h4, fun j n hj => ?_⟩
    rw [List.getElem?_drop] at hj
    have := h5 (k + j) n hj
    rw [show o + k * 2 + j * 2 = o + (k + j) * 2 by omega]
    exact this
theorem Nets.cell {w : World} {b o c : Nat} {L : List Nt} (h : Nets w (some ⟨b, o, none⟩) c L) {j : Nat} {n : Nt} (hj : L[j]? = some n) :
    b < w.heap.size ∧ w.cell? ⟨b, o + j * 2, none⟩ = some (.int .u32 (n.1.toNat : Int)) ∧ w.cell? ⟨b, o + j * 2 + 1, none⟩ = some (.int .i64 n.2) := by
  obtain ⟨_, h2⟩ := h
  rcases h2 with h2 | ⟨b', o', h3, h4, h5⟩
  · subst h2; cases hj
  · simp only [Option.some.injEq, Addr.mk.injEq] at h3
    obtain ⟨rfl, rfl, _⟩ := h3
    exact ⟨h4, h5 j n hj⟩
/-- the table of masks lies in its variable -/
def Mks (w : World) : Prop := 0 < w.heap.size ∧ ∀ k, k < 33 → w.cell? ⟨0, k, none⟩ = some (.int .u32 ((msk k).toNat : Int))
theorem Mks.below {w w' : World} (h : Mks w) (hb : Below w.heap.size w w') : Mks w' :=
  ⟨Nat.lt_of_lt_of_le h.1 hb.size, fun k hk => (hb.cell (p := ⟨0, k, none⟩) h.1).trans (h.2 k hk)⟩
theorem msk_shl : ∀ k : Nat, k < 33 → 0 < k → (4294967295 <<< (32 - k)) % 4294967296 = (msk k).toNat := by decide
end Go.Proofs.YtepmncfgkmpccaaDoor
