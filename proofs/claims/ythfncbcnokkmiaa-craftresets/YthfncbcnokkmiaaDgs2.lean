/- Contracts of layer 5: put. -/
import Derived.Test.YthfncbcnokkmiaaDgs
namespace Go.Proofs.Ythfncbcnokkmiaa
open Go.RowKit
set_option linter.unusedVariables false
theorem app_nil (s : ByteArray) : (⟨#[]⟩ : ByteArray) ++ s = s := by
  apply ByteArray.ext
  rw [ByteArray.data_append]
  simp
theorem icM_front (n : Nat) (w : World) : Sem.run Try.prog (method (n + 1) 88 (.agg iV) "rampart/dgram.front") w = .ok (103, .agg iV) w := by kernel_rfl
theorem icM_back (n : Nat) (w : World) : Sem.run Try.prog (method (n + 1) 88 (.agg iV) "rampart/dgram.back") w = .ok (101, .agg iV) w := by kernel_rfl
theorem icM_headOf (n : Nat) (w : World) : Sem.run Try.prog (method (n + 1) 88 (.agg iV) "rampart/dgram.headOf") w = .ok (104, .agg iV) w := by kernel_rfl
theorem icPut_arg (h : Dg) (body : ByteArray) (w : World) (hm : ¬ h.MayI) :
    Calls Try.prog 83 #[.agg iV, .agg (dgV h), .string body] w fun e w' => e = .returned (.tuple #[.string ⟨#[]⟩, .int .i64 1]) ∧ Below w.heap.size w w' := by
  go_enter Try.func83, Try.ntmps83
  go_wp2_with fail
  refine (icFits_no h _ hm).mono ?_
  rintro e w1 ⟨rfl, hb1⟩
  have H1 := (show Hid _ from below_after (below2 _ _ _) hb1)
  clear hb1
  go_wp2_with fail
  exact bodyPost_ret (v := .tuple #[.string ⟨#[]⟩, .int .i64 1]) (by simp [results, Try.results83, go_sem]) rfl ⟨rfl, H1.out⟩
theorem icPut_big (h : Dg) (body : ByteArray) (w : World) (hm : h.MayI) (h1 : 2000 < 8 + body.size) (h2 : body.size ≤ 1000000000000) :
    Calls Try.prog 83 #[.agg iV, .agg (dgV h), .string body] w fun e w' => e = .returned (.tuple #[.string ⟨#[]⟩, .int .i64 5]) ∧ Below w.heap.size w w' := by
  have k1 : (2000 : Int) < 8 + (body.size : Int) := by omega
  have k2 : wrap64 (8 + (body.size : Int)) = 8 + (body.size : Int) := by unfold wrap64; omega
  clear h1
  go_enter Try.func83, Try.ntmps83
  go_wp2_with fail
  refine (icFits_yes h _ hm).mono ?_
  rintro e w1 ⟨rfl, hb1⟩
  have H1 := (show Hid _ from below_after (below2 _ _ _) hb1)
  clear hb1
  go_wp2_with fail
  exact bodyPost_ret (v := .tuple #[.string ⟨#[]⟩, .int .i64 5]) (by simp [results, Try.results83, go_sem]) rfl ⟨rfl, H1.out⟩
end Go.Proofs.Ythfncbcnokkmiaa
