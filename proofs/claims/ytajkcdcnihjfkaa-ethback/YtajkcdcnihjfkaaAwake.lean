/- The contract of layer 2's awake: the document's example, whatever the world. -/
import Derived.Test.YtajkcdcnihjfkaaEths3
namespace Go.Proofs.Ytajkcdcnihjfkaa
open Go.RowKit
set_option linter.unusedVariables false

theorem get_ex1 (w : World) : Calls Try.prog 8 #[.string ⟨#[48, 49, 50, 51, 52, 53, 54, 55, 56, 57, 48, 49, 50]⟩] w fun e w' => e = .returned (.tuple #[.agg ethZ, .string ⟨#[]⟩, .int .i64 2]) ∧ Below w.heap.size w w' :=
  get_short _ w (by decide)
theorem get_ex2 (w : World) : Calls Try.prog 8 #[.string ⟨#[100, 100, 100, 100, 100, 100, 115, 115, 115, 115, 115, 115, 8, 0, 120]⟩] w fun e w' => e = .returned (.tuple #[.agg (ethB 100 100 100 100 100 100 115 115 115 115 115 115 2048), .string ⟨#[120]⟩, .int .i64 0]) ∧ Below w.heap.size w w' := by
  have h := get_ok ⟨#[100, 100, 100, 100, 100, 100, 115, 115, 115, 115, 115, 115, 8, 0, 120]⟩ w (by decide) (by decide) 100 100 100 100 100 100 115 115 115 115 115 115 8 0 (by decide +kernel) (by decide +kernel) (by decide +kernel)
  have e : (ByteArray.mk #[100, 100, 100, 100, 100, 100, 115, 115, 115, 115, 115, 115, 8, 0, 120]).extract 14 (ByteArray.mk #[100, 100, 100, 100, 100, 100, 115, 115, 115, 115, 115, 115, 8, 0, 120]).size = ⟨#[120]⟩ := by decide +kernel
  rw [e] at h
  exact h
set_option maxHeartbeats 400000 in
theorem awake_any (w : World) :
    Calls Try.prog 7 #[] w fun e w' => e = .returned (.bool true) ∧ Below w.heap.size w w' := by
  go_enter Try.func7, Try.ntmps7
  go_wp2_with fail
  refine (get_ex1 _).mono ?_
  rintro e w1 ⟨rfl, hb1⟩
  go_wp2_with fail
  refine (get_ex2 _).mono ?_
  rintro e w2 ⟨rfl, hb2⟩
  go_wp2_with fail
  go_ret
  exact ⟨rfl, (below_after (hb1.alloc hb1.size _) hb2).alloc (Nat.le_trans (hb1.alloc hb1.size _).size hb2.size) _⟩
end Go.Proofs.Ytajkcdcnihjfkaa
