/- Layer 9, no program: what clean turns. -/
import Derived.Test.YthhgkiihegmedaaDoorCiPl
namespace Go.Proofs.YthhgkiihegmedaaDoor
set_option linter.unusedVariables false
set_option maxRecDepth 20000
theorem msk_and : ∀ k : Nat, k < 33 → ∀ j : Nat, j ≤ k → msk k &&& msk j = msk j := by decide
theorem xor_mask (x a m : UInt32) : ((x ^^^ a) &&& m) = 0 ↔ x &&& m = a &&& m := by
  rw [show (x ^^^ a) &&& m = (x &&& m) ^^^ (a &&& m) by
    apply UInt32.toNat_inj.1
    rw [UInt32.toNat_and, UInt32.toNat_xor, UInt32.toNat_xor, UInt32.toNat_and, UInt32.toNat_and]
    exact Nat.and_xor_distrib_right ..]
  constructor
  · intro h
    have h1 : ((x &&& m) ^^^ (a &&& m)) ^^^ (a &&& m) = 0 ^^^ (a &&& m) := by rw [h]
    rw [UInt32.xor_assoc, UInt32.xor_self, UInt32.xor_zero, UInt32.zero_xor] at h1
    exact h1
  · intro h
    rw [h, UInt32.xor_self]
/-- an address's first bits -/
def pre (k : Nat) (a : UInt32) : UInt32 := a &&& msk k
theorem pre_pre {j k : Nat} (hk : k < 33) (hj : j ≤ k) (a : UInt32) : pre j (pre k a) = pre j a := by
  unfold pre
  rw [UInt32.and_assoc, msk_and k hk j hj]
theorem pre_less {j k : Nat} (hk : k < 33) (hj : j ≤ k) {a b : UInt32} (h : pre k a = pre k b) : pre j a = pre j b := by
  rw [← pre_pre hk hj a, ← pre_pre hk hj b, h]
theorem inN_iff (n : Nt) (x : UInt32) : inN n x = true ↔ pre n.2.toNat x = pre n.2.toNat n.1 := by
  unfold inN pre
  rw [beq_iff_eq, xor_mask]
theorem within_iff (n o : Nt) : within n o = true ↔ o.2 ≤ n.2 ∧ pre o.2.toNat n.1 = pre o.2.toNat o.1 := by
  unfold within
  rw [Bool.and_eq_true, decide_eq_true_eq, inN_iff]
def Ok (n : Nt) : Prop := 0 ≤ n.2 ∧ n.2 ≤ 32
theorem within_trans {n o q : Nt} (ho : Ok o) (hq : Ok q) (h1 : within n o = true) (h2 : within o q = true) : within n q = true := by
  rw [within_iff] at *
  have a := ho.2
  have b := hq.1
  exact ⟨by omega, (pre_less (by omega) (by omega) h1.2).trans h2.2⟩
theorem within_in {n o : Nt} (hn : Ok n) (ho : Ok o) {x : UInt32} (h : within n o = true) (hx : inN n x = true) : inN o x = true := by
  rw [within_iff] at h
  rw [inN_iff] at *
  have a := hn.2
  have b := ho.1
  exact (pre_less (by omega) (by omega) hx).trans h.2
theorem in_cut (n : Nt) (hn : Ok n) (x : UInt32) : inN (cutN n) x = inN n x := by
  rw [Bool.eq_iff_iff, inN_iff, inN_iff]
  have a := hn.2
  show pre n.2.toNat x = pre n.2.toNat (pre n.2.toNat n.1) ↔ _
  rw [pre_pre (by omega) (Nat.le_refl _)]
theorem within_cut (n o : Nt) (hn : Ok n) (ho : Ok o) : within (cutN n) (cutN o) = within n o := by
  rw [Bool.eq_iff_iff, within_iff, within_iff]
  have a := hn.2
  have b := ho.2
  have c := ho.1
  show (o.2 ≤ n.2 ∧ pre o.2.toNat (pre n.2.toNat n.1) = pre o.2.toNat (pre o.2.toNat o.1)) ↔ _
  rw [pre_pre (by omega) (Nat.le_refl _)]
  constructor
  · rintro ⟨h1, h2⟩
    rw [pre_pre (by omega) (by omega)] at h2
    exact ⟨h1, h2⟩
  · rintro ⟨h1, h2⟩
    rw [pre_pre (by omega) (by omega)]
    exact ⟨h1, h2⟩
theorem cut_cut (n : Nt) (hn : Ok n) : cutN (cutN n) = cutN n := by
  have a := hn.2
  show (pre n.2.toNat (pre n.2.toNat n.1), n.2) = (pre n.2.toNat n.1, n.2)
  rw [pre_pre (by omega) (Nat.le_refl _)]
theorem in_self (n : Nt) : inN n n.1 = true := by rw [inN_iff]
theorem within_self (n : Nt) : within n n = true := by rw [within_iff]; exact ⟨Int.le_refl _, rfl⟩
end Go.Proofs.YthhgkiihegmedaaDoor
