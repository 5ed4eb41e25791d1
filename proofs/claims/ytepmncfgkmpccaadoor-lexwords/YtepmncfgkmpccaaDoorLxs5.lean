/- Layer 8: bytesOf. -/
import Derived.Test.YtepmncfgkmpccaaDoorLxs4
namespace Go.Proofs.YtepmncfgkmpccaaDoor
open Go.RowKit
set_option linter.unusedVariables false
set_option linter.unusedSimpArgs false

/-- what bytesOf answers, by what is read behind the mark -/
def bytesR (R : Option (List UInt8 × Nat)) : List UInt8 × Nat := match R with
  | none => ([], 0)
  | some p => (p.1, p.2 + 1)
theorem bytesP_R (c : UInt8) (l : List UInt8) : Lx.bytesP (c :: l) = bytesR (Lx.quoted l.length l) := rfl
theorem bytesR_none (acc : List UInt8) (k : Nat) : bytesR (plus acc k none) = ([], 0) := rfl
theorem bytesR_end (acc : List UInt8) (k : Nat) : bytesR (plus acc k (some ([], 1))) = (acc, k + 2) := by
  unfold bytesR plus
  simp
theorem quoted_nil (f : Nat) : Lx.quoted f [] = none := by cases f <;> rfl
theorem quoted_end (f : Nat) (c : UInt8) (l : List UInt8) (h : c.toNat = 34) : Lx.quoted (f + 1) (c :: l) = some ([], 1) := by
  rw [Lx.quoted, if_pos h]
theorem quoted_pairs (f : Nat) (c : UInt8) (l : List UInt8) (h : c.toNat = 124) : Lx.quoted (f + 1) (c :: l) = (if (Lx.pairsP (c :: l)).2 = 0 then none else (Lx.quoted f ((c :: l).drop (Lx.pairsP (c :: l)).2)).map (fun p => ((Lx.pairsP (c :: l)).1 ++ p.1, p.2 + (Lx.pairsP (c :: l)).2))) := by
  rw [Lx.quoted, if_neg (by omega), if_pos h]
theorem quoted_escape (f : Nat) (c : UInt8) (l : List UInt8) (h : c.toNat = 92) : Lx.quoted (f + 1) (c :: l) = (if Lx.begins Lx.escaped l = true then (Lx.quoted f (l.drop 1)).map (fun p => (l.getD 0 0 :: p.1, p.2 + 2)) else none) := by
  rw [Lx.quoted, if_neg (by omega), if_neg (by omega), if_pos h]
theorem quoted_plain (f : Nat) (c : UInt8) (l : List UInt8) (h1 : c.toNat ≠ 34) (h2 : c.toNat ≠ 124) (h3 : c.toNat ≠ 92) (h4 : 32 ≤ c.toNat ∧ c.toNat ≤ 126) : Lx.quoted (f + 1) (c :: l) = (Lx.quoted f l).map (fun p => (c :: p.1, p.2 + 1)) := by
  rw [Lx.quoted, if_neg h1, if_neg h2, if_neg h3, if_pos h4]
theorem quoted_bad (f : Nat) (c : UInt8) (l : List UInt8) (h1 : c.toNat ≠ 34) (h2 : c.toNat ≠ 124) (h3 : c.toNat ≠ 92) (h4 : ¬ (32 ≤ c.toNat ∧ c.toNat ≤ 126)) : Lx.quoted (f + 1) (c :: l) = none := by
  rw [Lx.quoted, if_neg h1, if_neg h2, if_neg h3, if_neg h4]
theorem plus_some (acc u : List UInt8) (k n : Nat) (r : Option (List UInt8 × Nat)) : plus acc k (r.map (fun p => (u ++ p.1, p.2 + n))) = plus (acc ++ u) (k + n) r := by
  cases r with
  | none => rfl
  | some p => simp [plus]; omega
theorem plus_one (acc : List UInt8) (x : UInt8) (k n : Nat) (r : Option (List UInt8 × Nat)) : plus acc k (r.map (fun p => (x :: p.1, p.2 + n))) = plus (acc ++ [x]) (k + n) r := plus_some acc [x] k n r
theorem pairsP_len : ∀ (l : List UInt8) (p : List UInt8 × Nat), Lx.prs l = some p → p.1.length ≤ p.2 := by
  intro l
  induction l using Lx.prs.induct with
  | case1 => simp [Lx.prs]
  | case2 c l h =>
    intro p hp
    rw [prs_bar c l h] at hp
    cases hp
    simp
  | case3 c l h1 h2 ih =>
    intro p hp
    rw [prs_blank c l h2] at hp
    obtain ⟨q, hq, rfl⟩ := Option.map_eq_some_iff.1 hp
    have := ih q hq
    first
      | (simp only [List.length_cons]; omega)
      | (simp only []; omega)
  | case4 c h1 h2 =>
    intro p hp
    rw [Lx.prs.eq_def] at hp
    simp [h1, h2] at hp
  | case5 c h1 h2 d l' h3 ih =>
    intro p hp
    rw [prs_two c d l' h3.1 h3.2] at hp
    obtain ⟨q, hq, rfl⟩ := Option.map_eq_some_iff.1 hp
    have := ih q hq
    first
      | (simp only [List.length_cons]; omega)
      | (simp only []; omega)
  | case6 c h1 h2 d l' h3 =>
    intro p hp
    rw [Lx.prs.eq_def] at hp
    simp only [h1, h2, h3, if_false] at hp
    cases hp
theorem pairs_facts (c : UInt8) (l : List UInt8) : (Lx.pairsP (c :: l)).1.length ≤ (Lx.pairsP (c :: l)).2 ∧ ((Lx.pairsP (c :: l)).2 ≠ 0 → (Lx.pairsP (c :: l)).1 ≠ []) := by
  rw [pairsP_R]
  unfold pairsR
  cases h : Lx.prs l with
  | none => simp
  | some p =>
    have := pairsP_len l p h
    by_cases h2 : p.1 = []
    · simp [h2]
    · simp [h2]; omega
/-- how far bytesOf is -/
def Bst (s : ByteArray) (R : Option (List UInt8 × Nat)) (pos next : Nat) (acc : List UInt8) : Prop :=
  ∃ cur k f : Nat, ((pos ≤ next ∧ cur = next) ∨ (next ≤ pos ∧ cur = pos)) ∧ cur = k + 1 ∧ s.size ≤ cur + f ∧ cur ≤ s.size ∧ acc.length ≤ cur ∧ Lx.Whole s pos next ∧ plus acc k (Lx.quoted f (s.data.toList.drop cur)) = R
theorem Bst.start (s : ByteArray) (h0 : 0 < s.size) (hc : (s.data.toList.getD 0 0).toNat = 34) : Bst s (Lx.quoted (s.data.toList.drop 1).length (s.data.toList.drop 1)) 0 1 [] := by
  have hlen : s.data.toList.length = s.size := by simp
  refine ⟨1, 0, (s.data.toList.drop 1).length, Or.inl ⟨by omega, rfl⟩, rfl, by rw [List.length_drop, hlen]; omega, by omega, by simp, ?_, plus_nil _⟩
  have := Lx.Whole.low (s := s) (at_ := 0) (n := 1) (by
    rw [List.drop_zero]
    have h := drop_at' s 0 h0
    rw [List.drop_zero] at h
    rw [h]
    exact (Lx.Low.zero _).cons (by omega)) (by omega)
  simpa using this
/-- a rune that is left out -/
theorem Bst.skip {s : ByteArray} {R : Option (List UInt8 × Nat)} {pos next : Nat} {acc : List UInt8} (h : Bst s R pos next acc) (hlt : pos < next) : Bst s R (pos + (Utf8.decode s pos).2) next acc ∧ pos + (Utf8.decode s pos).2 ≤ s.size := by
  obtain ⟨cur, k, f, h1, h2, h3, h4, h5, h6, h7⟩ := h
  have hw := h6.2 pos (Nat.le_refl _) hlt
  refine ⟨⟨cur, k, f, Or.inl ⟨hw, by omega⟩, h2, h3, h4, h5, h6.later (by omega), h7⟩, ?_⟩
  have := h6.1
  omega
/-- at the place itself -/
theorem Bst.here {s : ByteArray} {R : Option (List UInt8 × Nat)} {pos next : Nat} {acc : List UInt8} (h : Bst s R pos next acc) (hlt : ¬ pos < next) (hs : pos < s.size) : ∃ k f, pos = k + 1 ∧ s.size ≤ pos + f + 1 ∧ acc.length ≤ pos ∧ plus acc k (Lx.quoted (f + 1) (s.data.toList.getD pos 0 :: s.data.toList.drop (pos + 1))) = R := by
  obtain ⟨cur, k, f, h1, h2, h3, h4, h5, h6, h7⟩ := h
  obtain rfl : cur = pos := by omega
  obtain ⟨f', rfl⟩ : ∃ f', f = f' + 1 := ⟨f - 1, by omega⟩
  rw [drop_at' s cur hs] at h7
  exact ⟨k, f', h2, by omega, h5, h7⟩
theorem Bst.end_ {s : ByteArray} {R : Option (List UInt8 × Nat)} {next : Nat} {acc : List UInt8} (h : Bst s R s.size next acc) : bytesR R = ([], 0) := by
  obtain ⟨cur, k, f, h1, h2, h3, h4, h5, h6, h7⟩ := h
  have := h6.1
  obtain rfl : cur = s.size := by omega
  rw [drop_nil_of s s.size (by omega), quoted_nil] at h7
  rw [← h7]
  rfl
/-- n bytes more are read, all below 128 -/
theorem Bst.go {s : ByteArray} {R : Option (List UInt8 × Nat)} {pos n f k : Nat} {acc : List UInt8} (hn : 1 ≤ n) (hk : pos = k + 1) (hf : s.size ≤ pos + f + 1) (ha : acc.length ≤ pos + n) (hs : pos < s.size) (hl : Lx.Low (s.data.toList.drop pos) n)
    (h : plus acc (k + n) (Lx.quoted f (s.data.toList.drop (pos + n))) = R) (next : Nat) (hnx : next = pos + n ∨ (next ≤ pos + 1 ∧ n = 1)) : Bst s R (pos + 1) next acc := by
  have hw := Lx.Whole.low hl (by omega)
  have h1 := hl.1
  have hlen : s.data.toList.length = s.size := by simp
  rw [List.length_drop, hlen] at h1
  rcases hnx with rfl | ⟨hnx, rfl⟩
  · exact ⟨pos + n, k + n, f, Or.inl ⟨by omega, rfl⟩, by omega, by omega, by omega, by omega, hw.later (by omega), h⟩
  · exact ⟨pos + 1, k + 1, f, Or.inr ⟨by omega, rfl⟩, by omega, by omega, by omega, by omega, ⟨by omega, fun q h1 h2 => by omega⟩, h⟩
end Go.Proofs.YtepmncfgkmpccaaDoor
