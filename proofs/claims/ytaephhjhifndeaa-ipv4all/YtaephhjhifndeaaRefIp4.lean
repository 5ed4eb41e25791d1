/- Contracts of the document's own layer 3: Get. -/
import Derived.Test.YtaephhjhifndeaaIps5
import Derived.Deep.RegionHeld
namespace Go.Proofs.Ytaephhjhifndeaa
open Go.RowKit
set_option linter.unusedVariables false
theorem refGet_1 (s : ByteArray) (w : World) (h1 : s.size < 20) :
    Calls Try.prog 11 #[.string s] w fun e w' => e = .returned (.tuple #[.agg ipZ, .string ⟨#[]⟩, .int .i64 2]) ∧ Below w.heap.size w w' := by
  go_enter Try.func11, Try.ntmps11
  go_wp2_with fail
  exact bodyPost_ret (v := .tuple #[.agg ipZ, .string ⟨#[]⟩, .int .i64 2]) (by simp [results, Try.results11, go_sem]) rfl ⟨rfl, below1 _ _⟩
set_option maxRecDepth 100000 in
set_option maxHeartbeats 1000000 in
theorem refGet_2a (s tA tC : ByteArray) (a0 : UInt8) (q N A : Nat) (C : Int) (w : World) (k20 : (20 : Int) ≤ (s.size : Int)) (e0 : s[0]'(by omega) = a0) (hl : bits .and .u8 (a0.toNat : Int) 15 = (q : Int)) (hN : wrap64 (4 * (q : Int)) = (N : Int)) (hq : wrap64 (q : Int) = (q : Int)) (xA : s.extract 2 4 = tA) (xC : s.extract 6 8 = tC)
    (cA : ∀ w : World, Calls Try.prog 25 #[.string tA] w fun e w' => e = .returned (.int .i64 (A : Int)) ∧ w = w') (cC : ∀ w : World, Calls Try.prog 25 #[.string tC] w fun e w' => e = .returned (.int .i64 C) ∧ w = w') (h4 : ¬ (a0.toNat : Int) / 16 = 4) :
    Calls Try.prog 11 #[.string s] w fun e w' => e = .returned (.tuple #[.agg ipZ, .string ⟨#[]⟩, .int .i64 3]) ∧ Below w.heap.size w w' := by
  have k0 : (0 : Int) < (s.size : Int) := by omega
  have k4 : (4 : Int) ≤ (s.size : Int) := by omega
  have k8 : (8 : Int) ≤ (s.size : Int) := by omega
  go_enter Try.func11, Try.ntmps11
  go_wp2_with fail
  refine (cA _).mono ?_
  rintro e w' ⟨rfl, rfl⟩
  go_wp2_with fail
  refine (cC _).mono ?_
  rintro e w' ⟨rfl, rfl⟩
  go_wp2_with fail
  exact bodyPost_ret (v := .tuple #[.agg ipZ, .string ⟨#[]⟩, .int .i64 3]) (by simp [results, Try.results11, go_sem]) rfl ⟨rfl, below1 _ _⟩
set_option maxRecDepth 100000 in
set_option maxHeartbeats 1000000 in
theorem refGet_2b (s tA tC : ByteArray) (a0 : UInt8) (q N A : Nat) (C : Int) (w : World) (k20 : (20 : Int) ≤ (s.size : Int)) (e0 : s[0]'(by omega) = a0) (hl : bits .and .u8 (a0.toNat : Int) 15 = (q : Int)) (hN : wrap64 (4 * (q : Int)) = (N : Int)) (hq : wrap64 (q : Int) = (q : Int)) (xA : s.extract 2 4 = tA) (xC : s.extract 6 8 = tC)
    (cA : ∀ w : World, Calls Try.prog 25 #[.string tA] w fun e w' => e = .returned (.int .i64 (A : Int)) ∧ w = w') (cC : ∀ w : World, Calls Try.prog 25 #[.string tC] w fun e w' => e = .returned (.int .i64 C) ∧ w = w') (h4 : (a0.toNat : Int) / 16 = 4) (h2 : (N : Int) < 20) :
    Calls Try.prog 11 #[.string s] w fun e w' => e = .returned (.tuple #[.agg ipZ, .string ⟨#[]⟩, .int .i64 3]) ∧ Below w.heap.size w w' := by
  have k0 : (0 : Int) < (s.size : Int) := by omega
  have k4 : (4 : Int) ≤ (s.size : Int) := by omega
  have k8 : (8 : Int) ≤ (s.size : Int) := by omega
  go_enter Try.func11, Try.ntmps11
  go_wp2_with fail
  refine (cA _).mono ?_
  rintro e w' ⟨rfl, rfl⟩
  go_wp2_with fail
  refine (cC _).mono ?_
  rintro e w' ⟨rfl, rfl⟩
  go_wp2_with fail
  exact bodyPost_ret (v := .tuple #[.agg ipZ, .string ⟨#[]⟩, .int .i64 3]) (by simp [results, Try.results11, go_sem]) rfl ⟨rfl, below1 _ _⟩
set_option maxRecDepth 100000 in
set_option maxHeartbeats 1000000 in
theorem refGet_3 (s tA tC : ByteArray) (a0 : UInt8) (q N A : Nat) (C : Int) (w : World) (k20 : (20 : Int) ≤ (s.size : Int)) (e0 : s[0]'(by omega) = a0) (hl : bits .and .u8 (a0.toNat : Int) 15 = (q : Int)) (hN : wrap64 (4 * (q : Int)) = (N : Int)) (hq : wrap64 (q : Int) = (q : Int)) (xA : s.extract 2 4 = tA) (xC : s.extract 6 8 = tC)
    (cA : ∀ w : World, Calls Try.prog 25 #[.string tA] w fun e w' => e = .returned (.int .i64 (A : Int)) ∧ w = w') (cC : ∀ w : World, Calls Try.prog 25 #[.string tC] w fun e w' => e = .returned (.int .i64 C) ∧ w = w') (h4 : (a0.toNat : Int) / 16 = 4) (h2 : (20 : Int) ≤ (N : Int)) (h3 : (s.size : Int) < (N : Int)) :
    Calls Try.prog 11 #[.string s] w fun e w' => e = .returned (.tuple #[.agg ipZ, .string ⟨#[]⟩, .int .i64 2]) ∧ Below w.heap.size w w' := by
  have k0 : (0 : Int) < (s.size : Int) := by omega
  have k4 : (4 : Int) ≤ (s.size : Int) := by omega
  have k8 : (8 : Int) ≤ (s.size : Int) := by omega
  go_enter Try.func11, Try.ntmps11
  go_wp2_with fail
  refine (cA _).mono ?_
  rintro e w' ⟨rfl, rfl⟩
  go_wp2_with fail
  refine (cC _).mono ?_
  rintro e w' ⟨rfl, rfl⟩
  go_wp2_with fail
  exact bodyPost_ret (v := .tuple #[.agg ipZ, .string ⟨#[]⟩, .int .i64 2]) (by simp [results, Try.results11, go_sem]) rfl ⟨rfl, below1 _ _⟩
set_option maxRecDepth 100000 in
set_option maxHeartbeats 1000000 in
theorem refGet_4 (s tA tC : ByteArray) (a0 : UInt8) (q N A : Nat) (C : Int) (w : World) (k20 : (20 : Int) ≤ (s.size : Int)) (e0 : s[0]'(by omega) = a0) (hl : bits .and .u8 (a0.toNat : Int) 15 = (q : Int)) (hN : wrap64 (4 * (q : Int)) = (N : Int)) (hq : wrap64 (q : Int) = (q : Int)) (xA : s.extract 2 4 = tA) (xC : s.extract 6 8 = tC)
    (cA : ∀ w : World, Calls Try.prog 25 #[.string tA] w fun e w' => e = .returned (.int .i64 (A : Int)) ∧ w = w') (cC : ∀ w : World, Calls Try.prog 25 #[.string tC] w fun e w' => e = .returned (.int .i64 C) ∧ w = w') (h4 : (a0.toNat : Int) / 16 = 4) (h2 : (20 : Int) ≤ (N : Int)) (h3 : (N : Int) ≤ (s.size : Int)) (h5 : (A : Int) < (N : Int)) :
    Calls Try.prog 11 #[.string s] w fun e w' => e = .returned (.tuple #[.agg ipZ, .string ⟨#[]⟩, .int .i64 3]) ∧ Below w.heap.size w w' := by
  have k0 : (0 : Int) < (s.size : Int) := by omega
  have k4 : (4 : Int) ≤ (s.size : Int) := by omega
  have k8 : (8 : Int) ≤ (s.size : Int) := by omega
  go_enter Try.func11, Try.ntmps11
  go_wp2_with fail
  refine (cA _).mono ?_
  rintro e w' ⟨rfl, rfl⟩
  go_wp2_with fail
  refine (cC _).mono ?_
  rintro e w' ⟨rfl, rfl⟩
  go_wp2_with fail
  exact bodyPost_ret (v := .tuple #[.agg ipZ, .string ⟨#[]⟩, .int .i64 3]) (by simp [results, Try.results11, go_sem]) rfl ⟨rfl, below1 _ _⟩
set_option maxRecDepth 100000 in
set_option maxHeartbeats 1000000 in
theorem refGet_5 (s tA tC : ByteArray) (a0 : UInt8) (q N A : Nat) (C : Int) (w : World) (k20 : (20 : Int) ≤ (s.size : Int)) (e0 : s[0]'(by omega) = a0) (hl : bits .and .u8 (a0.toNat : Int) 15 = (q : Int)) (hN : wrap64 (4 * (q : Int)) = (N : Int)) (hq : wrap64 (q : Int) = (q : Int)) (xA : s.extract 2 4 = tA) (xC : s.extract 6 8 = tC)
    (cA : ∀ w : World, Calls Try.prog 25 #[.string tA] w fun e w' => e = .returned (.int .i64 (A : Int)) ∧ w = w') (cC : ∀ w : World, Calls Try.prog 25 #[.string tC] w fun e w' => e = .returned (.int .i64 C) ∧ w = w') (h4 : (a0.toNat : Int) / 16 = 4) (h2 : (20 : Int) ≤ (N : Int)) (h3 : (N : Int) ≤ (s.size : Int)) (h5 : (N : Int) ≤ (A : Int)) (h6 : (s.size : Int) < (A : Int)) :
    Calls Try.prog 11 #[.string s] w fun e w' => e = .returned (.tuple #[.agg ipZ, .string ⟨#[]⟩, .int .i64 2]) ∧ Below w.heap.size w w' := by
  have k0 : (0 : Int) < (s.size : Int) := by omega
  have k4 : (4 : Int) ≤ (s.size : Int) := by omega
  have k8 : (8 : Int) ≤ (s.size : Int) := by omega
  go_enter Try.func11, Try.ntmps11
  go_wp2_with fail
  refine (cA _).mono ?_
  rintro e w' ⟨rfl, rfl⟩
  go_wp2_with fail
  refine (cC _).mono ?_
  rintro e w' ⟨rfl, rfl⟩
  go_wp2_with fail
  exact bodyPost_ret (v := .tuple #[.agg ipZ, .string ⟨#[]⟩, .int .i64 2]) (by simp [results, Try.results11, go_sem]) rfl ⟨rfl, below1 _ _⟩
set_option maxRecDepth 100000 in
set_option maxHeartbeats 1000000 in
theorem refGet_6 (s tA tC : ByteArray) (a0 : UInt8) (q N A : Nat) (C : Int) (w : World) (k20 : (20 : Int) ≤ (s.size : Int)) (e0 : s[0]'(by omega) = a0) (hl : bits .and .u8 (a0.toNat : Int) 15 = (q : Int)) (hN : wrap64 (4 * (q : Int)) = (N : Int)) (hq : wrap64 (q : Int) = (q : Int)) (xA : s.extract 2 4 = tA) (xC : s.extract 6 8 = tC)
    (cA : ∀ w : World, Calls Try.prog 25 #[.string tA] w fun e w' => e = .returned (.int .i64 (A : Int)) ∧ w = w') (cC : ∀ w : World, Calls Try.prog 25 #[.string tC] w fun e w' => e = .returned (.int .i64 C) ∧ w = w') (h4 : (a0.toNat : Int) / 16 = 4) (h2 : (20 : Int) ≤ (N : Int)) (h3 : (N : Int) ≤ (s.size : Int)) (h5 : (N : Int) ≤ (A : Int)) (h6 : (A : Int) ≤ (s.size : Int)) (h7 : (32768 : Int) ≤ C) :
    Calls Try.prog 11 #[.string s] w fun e w' => e = .returned (.tuple #[.agg ipZ, .string ⟨#[]⟩, .int .i64 3]) ∧ Below w.heap.size w w' := by
  have k0 : (0 : Int) < (s.size : Int) := by omega
  have k4 : (4 : Int) ≤ (s.size : Int) := by omega
  have k8 : (8 : Int) ≤ (s.size : Int) := by omega
  go_enter Try.func11, Try.ntmps11
  go_wp2_with fail
  refine (cA _).mono ?_
  rintro e w' ⟨rfl, rfl⟩
  go_wp2_with fail
  refine (cC _).mono ?_
  rintro e w' ⟨rfl, rfl⟩
  go_wp2_with fail
  exact bodyPost_ret (v := .tuple #[.agg ipZ, .string ⟨#[]⟩, .int .i64 3]) (by simp [results, Try.results11, go_sem]) rfl ⟨rfl, below1 _ _⟩
set_option maxRecDepth 100000 in
set_option maxHeartbeats 1000000 in
theorem refGet_7 (s tA tC : ByteArray) (a0 : UInt8) (q N A : Nat) (C : Int) (w : World) (k20 : (20 : Int) ≤ (s.size : Int)) (e0 : s[0]'(by omega) = a0) (hl : bits .and .u8 (a0.toNat : Int) 15 = (q : Int)) (hN : wrap64 (4 * (q : Int)) = (N : Int)) (hq : wrap64 (q : Int) = (q : Int)) (xA : s.extract 2 4 = tA) (xC : s.extract 6 8 = tC)
    (cA : ∀ w : World, Calls Try.prog 25 #[.string tA] w fun e w' => e = .returned (.int .i64 (A : Int)) ∧ w = w') (cC : ∀ w : World, Calls Try.prog 25 #[.string tC] w fun e w' => e = .returned (.int .i64 C) ∧ w = w') (h4 : (a0.toNat : Int) / 16 = 4) (h2 : (20 : Int) ≤ (N : Int)) (h3 : (N : Int) ≤ (s.size : Int)) (h5 : (N : Int) ≤ (A : Int)) (h6 : (A : Int) ≤ (s.size : Int)) (h7 : C < 32768) (hw : wrap64 ((A : Int) - (N : Int)) = (A : Int) - (N : Int)) (h8 : (2000 : Int) < (A : Int) - (N : Int)) :
    Calls Try.prog 11 #[.string s] w fun e w' => e = .returned (.tuple #[.agg ipZ, .string ⟨#[]⟩, .int .i64 5]) ∧ Below w.heap.size w w' := by
  have k0 : (0 : Int) < (s.size : Int) := by omega
  have k4 : (4 : Int) ≤ (s.size : Int) := by omega
  have k8 : (8 : Int) ≤ (s.size : Int) := by omega
  go_enter Try.func11, Try.ntmps11
  go_wp2_with fail
  refine (cA _).mono ?_
  rintro e w' ⟨rfl, rfl⟩
  go_wp2_with fail
  refine (cC _).mono ?_
  rintro e w' ⟨rfl, rfl⟩
  go_wp2_with fail
  exact bodyPost_ret (v := .tuple #[.agg ipZ, .string ⟨#[]⟩, .int .i64 5]) (by simp [results, Try.results11, go_sem]) rfl ⟨rfl, below1 _ _⟩
set_option maxRecDepth 100000 in
set_option maxHeartbeats 1000000 in
theorem refGet_8 (s tA tC : ByteArray) (a0 : UInt8) (q N A : Nat) (C : Int) (w : World) (k20 : (20 : Int) ≤ (s.size : Int)) (e0 : s[0]'(by omega) = a0) (hl : bits .and .u8 (a0.toNat : Int) 15 = (q : Int)) (hN : wrap64 (4 * (q : Int)) = (N : Int)) (hq : wrap64 (q : Int) = (q : Int)) (xA : s.extract 2 4 = tA) (xC : s.extract 6 8 = tC)
    (cA : ∀ w : World, Calls Try.prog 25 #[.string tA] w fun e w' => e = .returned (.int .i64 (A : Int)) ∧ w = w') (cC : ∀ w : World, Calls Try.prog 25 #[.string tC] w fun e w' => e = .returned (.int .i64 C) ∧ w = w') (h4 : (a0.toNat : Int) / 16 = 4) (h2 : (20 : Int) ≤ (N : Int)) (h3 : (N : Int) ≤ (s.size : Int)) (h5 : (N : Int) ≤ (A : Int)) (h6 : (A : Int) ≤ (s.size : Int)) (h7 : C < 32768) (hw : wrap64 ((A : Int) - (N : Int)) = (A : Int) - (N : Int)) (h8 : (A : Int) - (N : Int) ≤ 2000) (z : Int) (cO : ∀ w : World, Calls Try.prog 20 #[.string (s.extract 0 N)] w fun e w' => e = .returned (.int .i64 z) ∧ w = w') (hz : (z != 0) = true) :
    Calls Try.prog 11 #[.string s] w fun e w' => e = .returned (.tuple #[.agg ipZ, .string ⟨#[]⟩, .int .i64 4]) ∧ Below w.heap.size w w' := by
  have k0 : (0 : Int) < (s.size : Int) := by omega
  have k4 : (4 : Int) ≤ (s.size : Int) := by omega
  have k8 : (8 : Int) ≤ (s.size : Int) := by omega
  go_enter Try.func11, Try.ntmps11
  go_wp2_with fail
  refine (cA _).mono ?_
  rintro e w' ⟨rfl, rfl⟩
  go_wp2_with fail
  refine (cC _).mono ?_
  rintro e w' ⟨rfl, rfl⟩
  go_wp2_with fail
  refine (cO _).mono ?_
  rintro e w' ⟨rfl, rfl⟩
  go_wp2_with fail
  exact bodyPost_ret (v := .tuple #[.agg ipZ, .string ⟨#[]⟩, .int .i64 4]) (by simp [results, Try.results11, go_sem]) rfl ⟨rfl, below1 _ _⟩
end Go.Proofs.Ytaephhjhifndeaa
