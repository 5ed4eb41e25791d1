/- Contracts of layer 5: the methods of both protocols. -/
import Derived.Test.YthfncbcnokkmiaaDgPl
import Derived.Handy
namespace Go.Proofs.Ythfncbcnokkmiaa
open Go.RowKit
set_option linter.unusedVariables false

/-- UDP between two ends, as a value -/
abbrev uV (a b : UInt32) : Array Value := #[.int .u32 (a.toNat : Int), .int .u32 (b.toNat : Int)]
abbrev iV : Array Value := #[]
theorem dgWithin_yes (v m : Int) (w : World) (h0 : 0 ≤ v) (h1 : v ≤ m) :
    Calls Try.prog 108 #[.int .i64 v, .int .i64 m] w fun e w' => e = .returned (.bool true) ∧ w = w' := by
  go_enter Try.func108, Try.ntmps108
  go_wp2
  go_ret
  exact ⟨rfl, rfl⟩
theorem dgWithin_no (v m : Int) (w : World) (h : v < 0 ∨ m < v) (hm : 0 ≤ m) :
    Calls Try.prog 108 #[.int .i64 v, .int .i64 m] w fun e w' => e = .returned (.bool false) ∧ w = w' := by
  by_cases h0 : 0 ≤ v
  · have h1 : ¬ v ≤ m := by omega
    clear h
    go_enter Try.func108, Try.ntmps108
    go_wp2
    go_ret
    exact ⟨rfl, rfl⟩
  · clear h
    go_enter Try.func108, Try.ntmps108
    go_wp2
    go_ret
    exact ⟨rfl, rfl⟩
theorem icFits_yes (h : Dg) (w : World) (hm : h.MayI) :
    Calls Try.prog 102 #[.agg iV, .agg (dgV h)] w fun e w' => e = .returned (.bool true) ∧ Below w.heap.size w w' := by
  obtain ⟨⟨m0, m1⟩, ⟨m2, m3⟩⟩ := hm
  go_enter Try.func102, Try.ntmps102
  go_wp2_with fail
  refine (dgWithin_yes _ _ _ m0 m1).mono ?_
  rintro e w' ⟨rfl, rfl⟩
  go_wp2_with fail
  refine (dgWithin_yes _ _ _ m2 m3).mono ?_
  rintro e w' ⟨rfl, rfl⟩
  go_wp2_with fail
  go_ret
  exact ⟨rfl, below2 _ _ _⟩
theorem icFits_no (h : Dg) (w : World) (hm : ¬ h.MayI) :
    Calls Try.prog 102 #[.agg iV, .agg (dgV h)] w fun e w' => e = .returned (.bool false) ∧ Below w.heap.size w w' := by
  by_cases a0 : 0 ≤ h.kind ∧ h.kind ≤ 255
  case neg =>
    go_enter Try.func102, Try.ntmps102; go_wp2_with fail
    refine (dgWithin_no _ _ _ (by omega) (by decide)).mono ?_; rintro e w' ⟨rfl, rfl⟩; go_wp2_with fail; go_ret; exact ⟨rfl, below2 _ _ _⟩
  have a1 : ¬ (0 ≤ h.code ∧ h.code ≤ 255) := fun x => hm ⟨a0, x⟩
  go_enter Try.func102, Try.ntmps102; go_wp2_with fail
  refine (dgWithin_yes _ _ _ a0.1 a0.2).mono ?_; rintro e w' ⟨rfl, rfl⟩; go_wp2_with fail
  refine (dgWithin_no _ _ _ (by omega) (by decide)).mono ?_; rintro e w' ⟨rfl, rfl⟩; go_wp2_with fail; go_ret; exact ⟨rfl, below2 _ _ _⟩
/-! ### what is ahead, front, back -/
theorem udAhead_cat (a b : UInt32) (n : Nat) : bigB (a.toNat : Int) 4 ++ bigB (b.toNat : Int) 4 ++ bigB 17 2 ++ bigB (n : Int) 2 = ⟨(udAhead a b n).toArray⟩ := by
  apply ByteArray.ext
  simp only [ByteArray.data_append]
  apply Array.ext'
  simp [udAhead, bigB4, bigB2, big2v]
theorem udFront_cat (h : Dg) (n : Nat) : bigB h.src 2 ++ bigB h.dst 2 ++ bigB (n : Int) 2 = ⟨(h.frontU n).toArray⟩ := by
  apply ByteArray.ext
  simp only [ByteArray.data_append]
  apply Array.ext'
  simp [Dg.frontU, bigB2]
theorem icFront_cat (h : Dg) : bigB h.kind 1 ++ bigB h.code 1 = ⟨h.frontI.toArray⟩ := by
  apply ByteArray.ext
  simp only [ByteArray.data_append]
  apply Array.ext'
  simp [Dg.frontI, bigB1]
theorem icBack_cat (h : Dg) (body : ByteArray) : bigB (h.rest.toNat : Int) 4 ++ body = ⟨(h.backI body).toArray⟩ := by
  apply ByteArray.ext
  simp only [ByteArray.data_append]
  apply Array.ext'
  simp [Dg.backI, bigB4]
set_option maxHeartbeats 1000000 in
theorem icFront_any (h : Dg) (n : Nat) (w : World) :
    Calls Try.prog 103 #[.agg iV, .agg (dgV h), .int .i64 (n : Int)] w fun e w' => e = .returned (.string ⟨h.frontI.toArray⟩) ∧ Below w.heap.size w w' := by
  rw [← icFront_cat]
  have b1 := bigB1s
  have hcl := Cls.cell (w := (w.alloc (.cells iV 88)).alloc (.cells (dgV h) 56))
  go_enter Try.func103, Try.ntmps103
  go_upto_region 1 with fail
  refine wp_region_calm (by kernel_rfl) (by kernel_rfl) (fun hne => ?_)
  repeat (go_big_quiet_step ((go_at_call 55; exact calm_of (big_b _ _ _))))
  refine wpQuiet_nil ?_
  rintro _ ⟨x, rfl⟩
  go_wp2
  go_ret
  exact ⟨rfl, below_after (below2 _ _ _) x.bel⟩
theorem icAhead_any (n : Nat) (w : World) :
    Calls Try.prog 100 #[.agg iV, .int .i64 (n : Int)] w fun e w' => e = .returned (.string ⟨#[]⟩) ∧ Below w.heap.size w w' := by
  go_enter Try.func100, Try.ntmps100
  go_wp2
  go_ret
  exact ⟨rfl, below1 _ _⟩
theorem icBack_any (h : Dg) (w : World) :
    Calls Try.prog 101 #[.agg iV, .agg (dgV h)] w fun e w' => e = .returned (.string (bigB (h.rest.toNat : Int) 4)) ∧ Below w.heap.size w w' := by
  have s1 := src_bd h.rest
  go_enter Try.func101, Try.ntmps101
  go_wp2_with fail
  refine (big_b _ _ _).mono ?_
  rintro e w1 ⟨rfl, h1⟩
  have H1 := (show Hid _ from below_after (below2 _ _ _) h1)
  clear h1
  go_wp2_with fail
  go_ret
  exact ⟨rfl, H1.out⟩
theorem icTold_any (z : Int) (w : World) :
    Calls Try.prog 106 #[.agg iV, .int .i64 z] w fun e w' => e = .returned (.int .i64 z) ∧ Below w.heap.size w w' := by
  go_enter Try.func106, Try.ntmps106
  go_wp2
  go_ret
  exact ⟨rfl, below1 _ _⟩
theorem icLen_any (s : ByteArray) (w : World) :
    Calls Try.prog 105 #[.agg iV, .string s] w fun e w' => e = .returned (.bool true) ∧ Below w.heap.size w w' := by
  go_enter Try.func105, Try.ntmps105
  go_wp2
  go_ret
  exact ⟨rfl, below1 _ _⟩
theorem icUns_any (s : ByteArray) (w : World) :
    Calls Try.prog 107 #[.agg iV, .string s] w fun e w' => e = .returned (.bool false) ∧ Below w.heap.size w w' := by
  go_enter Try.func107, Try.ntmps107
  go_wp2
  go_ret
  exact ⟨rfl, below1 _ _⟩
/-- two bytes of a message, read as a number -/
theorem two_num (s : ByteArray) (i : Nat) (h : i + 2 ≤ s.size) : ∃ (t : ByteArray) (n : Int), s.extract i (i + 2) = t ∧ t.size = 2 ∧ Pl.numL (Pl.last7 t.data.toList) = n ∧ n = ((at2 s.data.toList i : Nat) : Int) := by
  obtain ⟨c0, c1, e0, g0, g1⟩ := bytes2 s i h
  refine ⟨_, _, rfl, by rw [e0]; rfl, rfl, ?_⟩
  unfold at2
  rw [at_eq s i (by omega), at_eq s (i + 1) (by omega), g0, g1, e0, show (ByteArray.mk #[c0, c1]).data.toList = [c0, c1] from rfl, numL2]
  omega
end Go.Proofs.Ythfncbcnokkmiaa
