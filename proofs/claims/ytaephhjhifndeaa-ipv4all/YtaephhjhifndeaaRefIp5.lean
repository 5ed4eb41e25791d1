/- Contracts of the document's own layer 3: Get. -/
import Derived.Test.YtaephhjhifndeaaIps5
import Derived.Test.YtaephhjhifndeaaFresh
namespace Go.Proofs.Ytaephhjhifndeaa
open Go.RowKit
set_option linter.unusedVariables false
theorem frz (b : Nat) : ∀ (vs : List Value) (o : Nat) (w : World) (x : Addr), (w.setCells b o vs).frozen? x = w.frozen? x
  | [], _, _, _ => rfl
  | v :: r, o, w, x => by
    rw [World.setCells, frz b r (o + 1) _ x]
    simp
/-- a row stored whole into a second block of the call's own -/
theorem stored {w w' : World} {b : Nat} {A Z : Array Value} (vs : List Value) (q1 : ∀ o, w'.cell? ⟨b, o, none⟩ = A[o]?) (hn : A.size = vs.length) (q0 : ∀ o, w'.cell? ⟨w.heap.size, o, none⟩ = Z[o]?) (f0 : ∀ o, w'.frozen? ⟨w.heap.size, o, none⟩ = false) (z : w.heap.size < b) (hb : Below w.heap.size w w') :
    (∀ o, (w'.setCells b 0 vs).cell? ⟨b, o, none⟩ = vs.toArray[o]?) ∧ (∀ o, (w'.setCells b 0 vs).cell? ⟨w.heap.size, o, none⟩ = Z[o]?) ∧ (∀ o, (w'.setCells b 0 vs).frozen? ⟨w.heap.size, o, none⟩ = false) ∧ Below w.heap.size w (w'.setCells b 0 vs) := by
  refine ⟨row_set q1 hn, fun o => ?_, fun o => by rw [frz]; exact f0 o, below_setCells (Nat.le_of_lt z) vs 0 w' hb⟩
  rw [World.cell?_setCells_out b vs 0 w' _ (fun e _ => absurd e (by show ¬ w.heap.size = b; omega))]
  exact q0 o
set_option maxRecDepth 100000 in
set_option maxHeartbeats 8000000 in
theorem refGet_9 (s tA tC : ByteArray) (a0 : UInt8) (q N A : Nat) (C : Int) (w : World) (k20 : (20 : Int) ≤ (s.size : Int)) (e0 : s[0]'(by omega) = a0) (hl : bits .and .u8 (a0.toNat : Int) 15 = (q : Int)) (hN : wrap64 (4 * (q : Int)) = (N : Int)) (hq : wrap64 (q : Int) = (q : Int)) (xA : s.extract 2 4 = tA) (xC : s.extract 6 8 = tC)
    (cA : ∀ w : World, Calls Try.prog 25 #[.string tA] w fun e w' => e = .returned (.int .i64 (A : Int)) ∧ w = w') (cC : ∀ w : World, Calls Try.prog 25 #[.string tC] w fun e w' => e = .returned (.int .i64 C) ∧ w = w') (h4 : (a0.toNat : Int) / 16 = 4) (h2 : (20 : Int) ≤ (N : Int)) (h3 : (N : Int) ≤ (s.size : Int)) (h5 : (N : Int) ≤ (A : Int)) (h6 : (A : Int) ≤ (s.size : Int)) (h7 : C < 32768) (hw : wrap64 ((A : Int) - (N : Int)) = (A : Int) - (N : Int)) (h8 : (A : Int) - (N : Int) ≤ 2000) (z : Int) (cO : ∀ w : World, Calls Try.prog 20 #[.string (s.extract 0 N)] w fun e w' => e = .returned (.int .i64 z) ∧ w = w') (hz : (z != 0) = false)
    (a1 a8 a9 : UInt8) (t1 t2 t3 : ByteArray) (n1 n2 n3 z1 z2 z3 z4 S D : Int) (m k : Bool)
    (e1 : s[1]'(by omega) = a1) (e8 : s[8]'(by omega) = a8) (e9 : s[9]'(by omega) = a9) (x1 : s.extract 4 6 = t1) (x2 : s.extract 12 16 = t2) (x3 : s.extract 16 20 = t3)
    (y1 : bits .and .i64 C 8192 = z1) (y2 : (z1 != 0) = m) (y3 : bits .and .i64 C 16384 = z2) (y4 : (z2 != 0) = k) (y5 : bits .and .i64 C 8191 = z3) (y6 : wrap64 (z3 * 8) = z4) (u1 : IntKind.u32.wrap n2 = S) (u2 : IntKind.u32.wrap n3 = D)
    (c3 : ∀ w : World, Calls Try.prog 25 #[.string t1] w fun e w' => e = .returned (.int .i64 n1) ∧ w = w') (c4 : ∀ w : World, Calls Try.prog 25 #[.string t2] w fun e w' => e = .returned (.int .i64 n2) ∧ w = w') (c5 : ∀ w : World, Calls Try.prog 25 #[.string t3] w fun e w' => e = .returned (.int .i64 n3) ∧ w = w') :
    Calls Try.prog 11 #[.string s] w fun e w' => e = .returned (.tuple #[.agg #[.int .i64 (a1.toNat : Int), .int .i64 n1, .bool m, .bool k, .int .i64 z4, .int .i64 (a8.toNat : Int), .int .i64 (a9.toNat : Int), .int .u32 S, .int .u32 D, .string (s.extract 20 N)], .string (s.extract N A), .int .i64 0]) ∧ Below w.heap.size w w' := by
  have k0 : (0 : Int) < (s.size : Int) := by omega
  have k4 : (4 : Int) ≤ (s.size : Int) := by omega
  have k8 : (8 : Int) ≤ (s.size : Int) := by omega
  have k6 : (6 : Int) ≤ (s.size : Int) := by omega
  have k16 : (16 : Int) ≤ (s.size : Int) := by omega
  have g1 : (1 : Int) < (s.size : Int) := by omega
  have g8 : (8 : Int) < (s.size : Int) := by omega
  have g9 : (9 : Int) < (s.size : Int) := by omega
  have wa1 := u8_wrap a1
  have wa8 := u8_wrap a8
  have wa9 := u8_wrap a9
  go_enter Try.func11, Try.ntmps11
  go_wp2_with fail
  refine (cA _).mono ?_
  rintro e w' ⟨rfl, rfl⟩
  go_wp2_with fail
  refine (cC _).mono ?_
  rintro e w' ⟨rfl, rfl⟩
  go_wp2_with fail
  refine (cO _).mono ?_
  rintro e w' ⟨rfl, rfl⟩
  go_wp2_with fail
  clear cA cC cO
  go_cut [8] (fun s8 wx => ∃ b : Nat, s8 = .pointer (some ⟨b, 0, none⟩) ∧ w.heap.size < b ∧ (∀ o, wx.cell? ⟨b, o, none⟩ = (#[.int .i64 (a1.toNat : Int), .int .i64 n1, .bool m, .bool k, .int .i64 z4, .int .i64 (a8.toNat : Int), .int .i64 (a9.toNat : Int), .int .u32 S, .int .u32 D, .string (s.extract 20 N)] : Array Value)[o]?) ∧ (∀ o, wx.cell? ⟨w.heap.size, o, none⟩ = ipZ[o]?) ∧ (∀ o, wx.frozen? ⟨w.heap.size, o, none⟩ = false) ∧ Below w.heap.size w wx)
  case first =>
    refine wp_region_fresh 33 (A := ?A) (B := .cells ipZ 24) (by kernel_rfl) (by kernel_rfl) (by rfl) rfl rfl ?hal ?walk ?tail
    case hal => intro a u; simp [execOp, go_sem]
    case walk =>
      intro DD hDD hne
      simp only [List.take_succ_cons, List.take_zero]
      repeat (go_big_quiet_step (first | (go_at_call_of 25 t1; exact calmD_same (c3 _)) | (go_at_call_of 25 t2; exact calmD_same (c4 _)) | (go_at_call_of 25 t3; exact calmD_same (c5 _))))
      refine wpQuiet_nil ?_
      rfl
    case tail =>
      intro u w2 hu hw2
      simp only [List.drop_succ_cons, List.drop_zero]
      obtain ⟨q1, f1, z1⟩ := new_in hw2
      have hus := hu.size
      have zb : w.heap.size < u.heap.size := Nat.lt_of_lt_of_le (by simp) hus
      have n0 := below_call (new_alloc w (.cells ipZ 24)) (size_alloc1 _ _) hu
      have n2 := (below_more n0 (size_alloc1 _ _) (.cells ipZ 24)).trans (hw2.mono (by omega))
      obtain ⟨q0, f0, z0⟩ := new_in n2
      have st := (show Hid _ from stored [.int .i64 (a1.toNat : Int), .int .i64 n1, .bool m, .bool k, .int .i64 z4, .int .i64 (a8.toNat : Int), .int .i64 (a9.toNat : Int), .int .u32 S, .int .u32 D, .string (s.extract 20 N)] q1 rfl q0 f0 zb ((below1 w _).trans (n2.mono (Nat.le_succ _))))
      clear hu hw2 hus n0 n2 c3 c4 c5
      go_wp2_with fail
      go_meet
      exact ⟨u.heap.size, rfl, zb, st.out.1, st.out.2.1, st.out.2.2.1, st.out.2.2.2⟩
  case rest =>
    obtain ⟨b, rfl, zb, qb, q0, f0, hb⟩ := hcut
    have HB := (show Hid _ from hb)
    clear hb
    obtain ⟨uy, huy, qy, HBy⟩ := set_row (vs := [.int .i64 (a1.toNat : Int), .int .i64 n1, .bool m, .bool k, .int .i64 z4, .int .i64 (a8.toNat : Int), .int .i64 (a9.toNat : Int), .int .u32 S, .int .u32 D, .string (s.extract 20 N)]) q0 HB rfl
    go_wp2_with fail
    go_region
    all_goals
      go_wp2_with fail
      change bodyPost _ _ _ _ _ (World.drew (World.setCells wc w.heap.size 0 [.int .i64 (a1.toNat : Int), .int .i64 n1, .bool m, .bool k, .int .i64 z4, .int .i64 (a8.toNat : Int), .int .i64 (a9.toNat : Int), .int .u32 S, .int .u32 D, .string (s.extract 20 N)]))
      rw [huy]
      exact bodyPost_ret (v := .tuple #[.agg #[.int .i64 (a1.toNat : Int), .int .i64 n1, .bool m, .bool k, .int .i64 z4, .int .i64 (a8.toNat : Int), .int .i64 (a9.toNat : Int), .int .u32 S, .int .u32 D, .string (s.extract 20 N)], .string (s.extract N A), .int .i64 0]) (by simp [results, Try.results11, go_sem, qy]) rfl ⟨rfl, HBy.out.drew⟩
end Go.Proofs.Ytaephhjhifndeaa
