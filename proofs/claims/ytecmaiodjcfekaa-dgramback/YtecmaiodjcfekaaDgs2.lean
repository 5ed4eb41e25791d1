/- Contracts of layer 5: put. -/
import Derived.Test.YtecmaiodjcfekaaDgs
namespace Go.Proofs.Ytecmaiodjcfekaa
open Go.RowKit
set_option linter.unusedVariables false
theorem app_nil (s : ByteArray) : (⟨#[]⟩ : ByteArray) ++ s = s := by
  apply ByteArray.ext
  rw [ByteArray.data_append]
  simp
/-! ### which method a name leads to -/
theorem udM_front (n : Nat) (a b : UInt32) (w : World) : Sem.run Try.prog (method (n + 1) 43 (.agg (uV a b)) "rampart/dgram.front") w = .ok (50, .agg (uV a b)) w := by kernel_rfl
theorem udM_back (n : Nat) (a b : UInt32) (w : World) : Sem.run Try.prog (method (n + 1) 43 (.agg (uV a b)) "rampart/dgram.back") w = .ok (48, .agg (uV a b)) w := by kernel_rfl
theorem udM_headOf (n : Nat) (a b : UInt32) (w : World) : Sem.run Try.prog (method (n + 1) 43 (.agg (uV a b)) "rampart/dgram.headOf") w = .ok (51, .agg (uV a b)) w := by kernel_rfl
theorem icM_front (n : Nat) (w : World) : Sem.run Try.prog (method (n + 1) 48 (.agg iV) "rampart/dgram.front") w = .ok (60, .agg iV) w := by kernel_rfl
theorem icM_back (n : Nat) (w : World) : Sem.run Try.prog (method (n + 1) 48 (.agg iV) "rampart/dgram.back") w = .ok (58, .agg iV) w := by kernel_rfl
theorem icM_headOf (n : Nat) (w : World) : Sem.run Try.prog (method (n + 1) 48 (.agg iV) "rampart/dgram.headOf") w = .ok (61, .agg iV) w := by kernel_rfl
theorem udPut_arg (h : Dg) (a b : UInt32) (body : ByteArray) (w : World) (hm : ¬ h.MayU) :
    Calls Try.prog 18 #[.agg (uV a b), .agg (dgV h), .string body] w fun e w' => e = .returned (.tuple #[.string ⟨#[]⟩, .int .i64 1]) ∧ Below w.heap.size w w' := by
  go_enter Try.func18, Try.ntmps18
  go_wp2_with fail
  refine (udFits_no h a b _ hm).mono ?_
  rintro e w1 ⟨rfl, hb1⟩
  have H1 := (show Hid _ from below_after (below2 _ _ _) hb1)
  clear hb1
  go_wp2_with fail
  exact bodyPost_ret (v := .tuple #[.string ⟨#[]⟩, .int .i64 1]) (by simp [results, Try.results18, go_sem]) rfl ⟨rfl, H1.out⟩
theorem udPut_big (h : Dg) (a b : UInt32) (body : ByteArray) (w : World) (hm : h.MayU) (h1 : 2000 < 8 + body.size) (h2 : body.size ≤ 1000000000000) :
    Calls Try.prog 18 #[.agg (uV a b), .agg (dgV h), .string body] w fun e w' => e = .returned (.tuple #[.string ⟨#[]⟩, .int .i64 5]) ∧ Below w.heap.size w w' := by
  have k1 : (2000 : Int) < 8 + (body.size : Int) := by omega
  have k2 : wrap64 (8 + (body.size : Int)) = 8 + (body.size : Int) := by unfold wrap64; omega
  clear h1
  go_enter Try.func18, Try.ntmps18
  go_wp2_with fail
  refine (udFits_yes h a b _ hm).mono ?_
  rintro e w1 ⟨rfl, hb1⟩
  have H1 := (show Hid _ from below_after (below2 _ _ _) hb1)
  clear hb1
  go_wp2_with fail
  exact bodyPost_ret (v := .tuple #[.string ⟨#[]⟩, .int .i64 5]) (by simp [results, Try.results18, go_sem]) rfl ⟨rfl, H1.out⟩
theorem icPut_arg (h : Dg) (body : ByteArray) (w : World) (hm : ¬ h.MayI) :
    Calls Try.prog 21 #[.agg iV, .agg (dgV h), .string body] w fun e w' => e = .returned (.tuple #[.string ⟨#[]⟩, .int .i64 1]) ∧ Below w.heap.size w w' := by
  go_enter Try.func21, Try.ntmps21
  go_wp2_with fail
  refine (icFits_no h _ hm).mono ?_
  rintro e w1 ⟨rfl, hb1⟩
  have H1 := (show Hid _ from below_after (below2 _ _ _) hb1)
  clear hb1
  go_wp2_with fail
  exact bodyPost_ret (v := .tuple #[.string ⟨#[]⟩, .int .i64 1]) (by simp [results, Try.results21, go_sem]) rfl ⟨rfl, H1.out⟩
theorem icPut_big (h : Dg) (body : ByteArray) (w : World) (hm : h.MayI) (h1 : 2000 < 8 + body.size) (h2 : body.size ≤ 1000000000000) :
    Calls Try.prog 21 #[.agg iV, .agg (dgV h), .string body] w fun e w' => e = .returned (.tuple #[.string ⟨#[]⟩, .int .i64 5]) ∧ Below w.heap.size w w' := by
  have k1 : (2000 : Int) < 8 + (body.size : Int) := by omega
  have k2 : wrap64 (8 + (body.size : Int)) = 8 + (body.size : Int) := by unfold wrap64; omega
  clear h1
  go_enter Try.func21, Try.ntmps21
  go_wp2_with fail
  refine (icFits_yes h _ hm).mono ?_
  rintro e w1 ⟨rfl, hb1⟩
  have H1 := (show Hid _ from below_after (below2 _ _ _) hb1)
  clear hb1
  go_wp2_with fail
  exact bodyPost_ret (v := .tuple #[.string ⟨#[]⟩, .int .i64 5]) (by simp [results, Try.results21, go_sem]) rfl ⟨rfl, H1.out⟩
set_option maxHeartbeats 2000000 in
theorem udPut_ok (h : Dg) (a b : UInt32) (body : ByteArray) (w : World) (hm : h.MayU) (h1 : 8 + body.size ≤ 2000) :
    Calls Try.prog 18 #[.agg (uV a b), .agg (dgV h), .string body] w fun e w' => e = .returned (.tuple #[.string (h.putU a b body), .int .i64 0]) ∧ Below w.heap.size w w' := by
  have hc := fun w => udFits_yes h a b w hm
  have hf := fun w => udFront_any h a b (8 + body.size) w
  have hbk := fun w => udBack_any h a b w
  have hah := fun w => udAhead_any a b (8 + body.size) w
  obtain ⟨F, hF⟩ : ∃ F : ByteArray, F = ⟨(h.frontU (8 + body.size)).toArray⟩ := ⟨_, rfl⟩
  obtain ⟨G, hG⟩ : ∃ G : ByteArray, G = ⟨(udAhead a b (8 + body.size)).toArray⟩ := ⟨_, rfl⟩
  have hFs : F.size = 6 := by rw [hF, ← toList_length, ofL, udFront_length]
  have hGs : G.size = 12 := by rw [hG, ← toList_length, ofL, udAhead_length]
  have hput : F ++ bigB (toldU (sumL (G.data.toList ++ (F.data.toList ++ body.data.toList)))) 2 ++ body = h.putU a b body := by
    rw [hF, hG, ofL, ofL]
    rfl
  have hof := fun (b : Nat) (w : World) => of_three b 3 G F body w (by omega)
  rw [← hF] at hf
  rw [← hG] at hah
  rw [← hput]
  have hn : ((8 + body.size : Nat) : Int) = 8 + (body.size : Int) := by omega
  rw [hn] at hf hah
  have k2 : wrap64 (8 + (body.size : Int)) = 8 + (body.size : Int) := by unfold wrap64; omega
  have k1 : ¬ (2000 : Int) < 8 + (body.size : Int) := by omega
  have hbs : body.size ≤ 2000 := by omega
  have b2 := bigB2s
  generalize sumL (G.data.toList ++ (F.data.toList ++ body.data.toList)) = z at *
  have ht := fun w => udTold_any a b z w
  clear hm hF hG hput hn h1
  go_enter Try.func18, Try.ntmps18
  go_wp2_with fail
  refine (hc _).mono ?_
  rintro e w1 ⟨rfl, hb1⟩
  have n1 := below_call (below_more (new_alloc w (.cells (uV a b) 43)) (size_alloc1 _ _) (.cells (dgV h) 24)) (size_alloc1 _ _) hb1
  have m1 := below_call (new_alloc (w.alloc (.cells (uV a b) 43)) (.cells (dgV h) 24)) (size_alloc1 _ _) hb1
  obtain ⟨q1, _, z1⟩ := new_in n1
  obtain ⟨r1, _, y1⟩ := new_in m1
  simp only [World.size_alloc] at r1 y1
  have N1 := (show Hid _ from n1)
  have M1 := (show Hid _ from m1)
  clear hb1 n1 m1 hc
  have hcl := Cls.cell (w := w1)
  have he := app_nil body
  have mf := fun (n : Nat) (w : World) => udM_front n a b w
  have mb := fun (n : Nat) (w : World) => udM_back n a b w
  go_upto_region 6 with fail
  refine wp_region_calm (by kernel_rfl) (by kernel_rfl) (fun hne => ?_)
  repeat (go_big_quiet_step (first | (go_at_call 50; exact calm_of (hf _)) | (go_at_call 48; exact calm_of (hbk _))))
  refine wpQuiet_nil ?_
  rintro _ ⟨x, rfl⟩
  have n2 := below_call N1.out (size_alloc1 _ _) x.bel
  obtain ⟨q2, _, z2⟩ := new_in n2
  have N2 := (show Hid _ from n2)
  generalize x.val = w2 at *
  clear hne hcl mf mb q1 z1 r1 y1 N1 M1 n2 hf hbk
  go_wp2_with fail
  refine (hah _).mono ?_
  rintro e w3 ⟨rfl, hb3⟩
  have n3 := below_call N2.out (size_alloc1 _ _) hb3
  obtain ⟨q3, _, z3⟩ := new_in n3
  have N3 := (show Hid _ from below_more n3 (size_alloc1 _ _) (.cells #[.string G, .string F, .string body] 9))
  clear hb3 n3 N2 q2 z2 hah
  go_wp2_with fail
  refine (hof _ _ (by simp) (by simp) (by simp)).mono ?_
  rintro e w4 ⟨rfl, rfl⟩
  go_wp2_with fail
  refine (ht _).mono ?_
  rintro e w5 ⟨rfl, hb5⟩
  have N5 := (show Hid _ from below_call N3.out (size_alloc1 _ _) hb5)
  clear hb5 N3 q3 z3 ht hof
  go_wp2_with fail
  refine (big_b _ _ _).mono ?_
  rintro e w6 ⟨rfl, hb6⟩
  have N6 := (show Hid _ from below_call N5.out (size_alloc1 _ _) hb6)
  clear hb6 N5
  go_wp2_with fail
  exact bodyPost_ret (v := .tuple #[.string (F ++ bigB (toldU z) 2 ++ body), .int .i64 0]) (by simp [results, Try.results18, go_sem]) rfl ⟨rfl, (below1 w _).trans (N6.out.mono (Nat.le_succ _))⟩
end Go.Proofs.Ytecmaiodjcfekaa
