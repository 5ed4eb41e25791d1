/- The contract of awake: the document's example, whatever the world. -/
import Derived.Test.YtlphmpmfolngnaaBigs
namespace Go.Proofs.Ytlphmpmfolngnaa
open Go.RowKit
set_option linter.unusedVariables false

theorem of_two (b : Nat) (w : World) (h0 : w.cell? ⟨b, 0, none⟩ = some (.string ⟨#[1]⟩)) (h1 : w.cell? ⟨b, 1, none⟩ = some (.string ⟨#[2]⟩)) :
    Calls Try.prog 9 #[.slice (some ⟨b, 0, none⟩) 2 2] w fun e w' => e = .returned (.int .i64 65277) ∧ w = w' := by
  have h := of_any b 0 2 [⟨#[1]⟩, ⟨#[2]⟩] w (by decide) (by decide) (fun i hi => by
    match i, hi with
    | 0, _ => exact h0
    | 1, _ => exact h1)
  exact h
theorem big_two (w : World) :
    Calls Try.prog 13 #[.int .i64 258, .int .i64 2] w fun e w' => e = .returned (.string ⟨#[1, 2]⟩) ∧ Below w.heap.size w w' := by
  have h := big_any 258 2 w
  have e : (Pl.bigL 258 (cut8 2)).toArray = #[1, 2] := by decide +kernel
  rw [e] at h
  exact h
theorem num_two (w : World) :
    Calls Try.prog 15 #[.string ⟨#[1, 2]⟩] w fun e w' => e = .returned (.int .i64 258) ∧ w = w' := by
  have h := num_any ⟨#[1, 2]⟩ w (by decide)
  exact h

set_option maxHeartbeats 400000 in
theorem awake_any (w : World) :
    Calls Try.prog 8 #[] w fun e w' => e = .returned (.bool true) ∧ Below w.heap.size w w' := by
  go_enter Try.func8, Try.ntmps8
  go_wp2_with fail
  refine (of_nil _).mono ?_
  rintro e w' ⟨rfl, rfl⟩
  go_wp2_with fail
  refine (of_two _ _ (by simp) (by simp)).mono ?_
  rintro e w' ⟨rfl, rfl⟩
  go_wp2_with fail
  refine (big_two _).mono ?_
  rintro e w1 ⟨rfl, hb⟩
  go_wp2_with fail
  refine (num_two _).mono ?_
  rintro e w' ⟨rfl, rfl⟩
  go_wp2_with fail
  go_ret
  exact ⟨rfl, ((Below.refl _ _).alloc (Nat.le_refl _) _).trans (hb.mono (by simp))⟩
end Go.Proofs.Ytlphmpmfolngnaa
