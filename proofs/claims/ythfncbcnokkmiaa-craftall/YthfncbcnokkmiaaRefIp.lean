/- Contracts of the document's own layer 3: Check. -/
import Derived.Test.YthfncbcnokkmiaaIps2
namespace Go.Proofs.Ythfncbcnokkmiaa
open Go.RowKit
set_option linter.unusedVariables false
set_option maxHeartbeats 2000000 in
theorem refCheck_yes (h : Ip) (w : World) (hm : h.May) :
    Calls Try.prog 58 #[.agg (ipV h)] w fun e w' => e = .returned (.bool true) ∧ Below w.heap.size w w' := by
  obtain ⟨⟨m0, m1⟩, ⟨m2, m3⟩, ⟨m4, m5⟩, ⟨m6, m7⟩, ⟨m8, m9⟩, m10, m11, m12⟩ := hm
  have t8 : h.off.tmod 8 = 0 := by rw [Int.tmod_eq_emod_of_nonneg m8]; exact m10
  have t4 : Int.tmod (h.opts.size : Int) 4 = 0 := by rw [Int.tmod_eq_emod_of_nonneg (by omega)]; omega
  have k40 : (h.opts.size : Int) ≤ 40 := by omega
  go_enter Try.func58, Try.ntmps58
  go_wp2
  go_ret
  exact ⟨rfl, below1 _ _⟩
set_option maxHeartbeats 8000000 in
theorem refCheck_no (h : Ip) (w : World) (hm : ¬ h.May) :
    Calls Try.prog 58 #[.agg (ipV h)] w fun e w' => e = .returned (.bool false) ∧ Below w.heap.size w w' := by
  have hz : (0 : Int) ≤ (h.opts.size : Int) := by omega
  by_cases a0 : 0 ≤ h.tos
  case neg =>
    go_enter Try.func58, Try.ntmps58
    go_wp2
    go_ret
    exact ⟨rfl, below1 _ _⟩
  by_cases b0 : h.tos ≤ 255
  case neg =>
    go_enter Try.func58, Try.ntmps58
    go_wp2
    go_ret
    exact ⟨rfl, below1 _ _⟩
  by_cases a1 : 0 ≤ h.ttl
  case neg =>
    go_enter Try.func58, Try.ntmps58
    go_wp2
    go_ret
    exact ⟨rfl, below1 _ _⟩
  by_cases b1 : h.ttl ≤ 255
  case neg =>
    go_enter Try.func58, Try.ntmps58
    go_wp2
    go_ret
    exact ⟨rfl, below1 _ _⟩
  by_cases a2 : 0 ≤ h.proto
  case neg =>
    go_enter Try.func58, Try.ntmps58
    go_wp2
    go_ret
    exact ⟨rfl, below1 _ _⟩
  by_cases b2 : h.proto ≤ 255
  case neg =>
    go_enter Try.func58, Try.ntmps58
    go_wp2
    go_ret
    exact ⟨rfl, below1 _ _⟩
  by_cases a3 : 0 ≤ h.id
  case neg =>
    go_enter Try.func58, Try.ntmps58
    go_wp2
    go_ret
    exact ⟨rfl, below1 _ _⟩
  by_cases b3 : h.id ≤ 65535
  case neg =>
    go_enter Try.func58, Try.ntmps58
    go_wp2
    go_ret
    exact ⟨rfl, below1 _ _⟩
  by_cases a4 : 0 ≤ h.off
  case neg =>
    go_enter Try.func58, Try.ntmps58
    go_wp2
    go_ret
    exact ⟨rfl, below1 _ _⟩
  by_cases b4 : h.off ≤ 65528
  case neg =>
    go_enter Try.func58, Try.ntmps58
    go_wp2
    go_ret
    exact ⟨rfl, below1 _ _⟩
  have e8 : h.off.tmod 8 = h.off % 8 := by rw [Int.tmod_eq_emod_of_nonneg a4]
  have e4 : Int.tmod (h.opts.size : Int) 4 = (h.opts.size : Int) % 4 := by rw [Int.tmod_eq_emod_of_nonneg (by omega)]
  by_cases a5 : h.off % 8 = 0
  case neg =>
    have c5 : (h.off % 8 == 0) = false := by simpa using a5
    go_enter Try.func58, Try.ntmps58
    go_wp2
    go_ret
    exact ⟨rfl, below1 _ _⟩
  by_cases a6 : (h.opts.size : Int) ≤ 40
  case neg =>
    go_enter Try.func58, Try.ntmps58
    go_wp2
    go_ret
    exact ⟨rfl, below1 _ _⟩
  by_cases a7 : (h.opts.size : Int) % 4 = 0
  case neg =>
    have c7 : ((h.opts.size : Int) % 4 == 0) = false := by simpa using a7
    go_enter Try.func58, Try.ntmps58
    go_wp2
    go_ret
    exact ⟨rfl, below1 _ _⟩
  exact absurd ⟨⟨a0, b0⟩, ⟨a1, b1⟩, ⟨a2, b2⟩, ⟨a3, b3⟩, ⟨a4, b4⟩, a5, by omega, by omega⟩ hm
end Go.Proofs.Ythfncbcnokkmiaa
