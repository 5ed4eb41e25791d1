/- Layer 9's own answer: digits, dotted. -/
import Derived.Test.YtepmncfgkmpccaaDoorRefCi2
import Derived.Laws.Concat
namespace Go.Proofs.YtepmncfgkmpccaaDoor
open Go.RowKit
set_option linter.unusedVariables false
set_option maxRecDepth 20000
/-- a list of bytes as a string -/
def sL (l : List UInt8) : ByteArray := ⟨l.toArray⟩
theorem sL_size (l : List UInt8) : (sL l).size = l.length := by show l.toArray.size = _; simp
theorem addL {P : Program} (x y : List UInt8) (hx : x.length ≤ 8388608) (hy : y.length ≤ 8388608) (w : World) : (Op.stringOp .add (sL x) (sL y)).run P w = .ok (.string (sL (x ++ y))) w := by
  unfold sL
  exact run_string_add_lists w x y (by omega) (by omega)
theorem dec_len : ∀ (f v : Nat), v < 10 ^ f → 0 < f → (Lib.decDigits v).length ≤ f
  | 0, _, _, h => absurd h (by omega)
  | f + 1, v, h, _ => by
    rw [Lib.decDigits]
    split
    · simp
    · rw [List.length_append]
      have hf : 0 < f := by
        rcases f with _ | f
        · simp at h; omega
        · omega
      have := dec_len f (v / 10) (by rw [Nat.pow_succ] at h; omega) hf
      simp; omega
theorem dec_le (v : Nat) (h : v ≤ 9223372036854775807) : (Lib.decDigits v).length ≤ 19 := dec_len 19 v (by omega) (by omega)
theorem digit_at : ∀ d : Nat, d < 10 → (⟨#[48, 49, 50, 51, 52, 53, 54, 55, 56, 57]⟩ : ByteArray).extract d (d + 1) = sL [UInt8.ofNat (48 + d)]
  | 0, _ => by rfl
  | 1, _ => by rfl
  | 2, _ => by rfl
  | 3, _ => by rfl
  | 4, _ => by rfl
  | 5, _ => by rfl
  | 6, _ => by rfl
  | 7, _ => by rfl
  | 8, _ => by rfl
  | 9, _ => by rfl
  | d + 10, h => absurd h (by omega)
set_option maxHeartbeats 1000000 in
theorem rcDec (v : Nat) (hv : v ≤ 9223372036854775807) (w : World) :
    Calls Tryd.prog 12 #[.int .i64 (v : Int)] w fun e w' => e = .returned (.string (sL (Lib.decDigits v))) ∧ Below w.heap.size w w' := by
  induction v using Nat.strongRecOn generalizing w with
  | _ v ih =>
  by_cases h : v < 10
  · have e := digit_at v h
    have h1 : (v : Int) < 10 := by omega
    have h2 : wrap64 ((v : Int) + 1) = ((v + 1 : Nat) : Int) := by rw [wrap64]; omega
    rw [Lib.decDigits, dif_pos h]
    generalize [UInt8.ofNat (48 + v)] = B at e ⊢
    go_enter Tryd.func12, Tryd.ntmps12
    go_wp2
    go_ret
    exact ⟨rfl, Below.refl _ _⟩
  · have hd : v % 10 < 10 := Nat.mod_lt _ (by omega)
    have e := digit_at (v % 10) hd
    have h1 : ¬ (v : Int) < 10 := by omega
    have h2 : wrap64 (((v % 10 : Nat) : Int) + 1) = ((v % 10 + 1 : Nat) : Int) := by rw [wrap64]; omega
    have hl := dec_le (v / 10) (by omega)
    have hadd := fun w => addL (P := Tryd.prog) (Lib.decDigits (v / 10)) [UInt8.ofNat (48 + v % 10)] (by omega) (by simp) w
    have hih := fun w => ih (v / 10) (by omega) (by omega) w
    rw [Lib.decDigits, dif_neg h]
    have hl2 : [UInt8.ofNat (48 + v % 10)].length = 1 := rfl
    generalize [UInt8.ofNat (48 + v % 10)] = B at e hadd hl2 ⊢
    rw [← e] at hadd
    generalize Lib.decDigits (v / 10) = D at hadd hih hl ⊢
    have hcl := Cls.cell (w := w)
    clear ih e
    go_enter Tryd.func12, Tryd.ntmps12
    go_wp2
    refine wp_region_calm (by kernel_rfl) (by kernel_rfl) (fun hne => ?_)
    repeat (go_big_quiet_step (first | (go_at_call 12; exact calm_of (hih _))))
    refine wpQuiet_nil ?_
    rintro _ ⟨x, rfl⟩
    go_wp2
    go_ret
    exact ⟨rfl, x.bel⟩
end Go.Proofs.YtepmncfgkmpccaaDoor
