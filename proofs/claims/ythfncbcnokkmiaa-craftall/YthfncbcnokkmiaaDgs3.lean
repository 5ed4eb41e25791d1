/- Contracts of layer 5: put of ICMP, both Puts; the heads and the faults of bytes. -/
import Derived.Test.YthfncbcnokkmiaaDgs2
namespace Go.Proofs.Ythfncbcnokkmiaa
open Go.RowKit
set_option linter.unusedVariables false
set_option maxHeartbeats 2000000 in
theorem icPut_ok (h : Dg) (body : ByteArray) (w : World) (hm : h.MayI) (h1 : 8 + body.size ≤ 2000) :
    Calls Try.prog 83 #[.agg iV, .agg (dgV h), .string body] w fun e w' => e = .returned (.tuple #[.string (h.putI body), .int .i64 0]) ∧ Below w.heap.size w w' := by
  have hc := fun w => icFits_yes h w hm
  have hf := fun w => icFront_any h (8 + body.size) w
  have hbk := fun w => icBack_any h w
  have hah := fun w => icAhead_any (8 + body.size) w
  obtain ⟨F, hF⟩ : ∃ F : ByteArray, F = ⟨h.frontI.toArray⟩ := ⟨_, rfl⟩
  obtain ⟨E, hE⟩ : ∃ E : ByteArray, E = ⟨(h.backI body).toArray⟩ := ⟨_, rfl⟩
  have hFs : F.size = 2 := by rw [hF, ← toList_length, ofL, icFront_length]
  have hEs : E.size ≤ 2000 := by rw [hE, ← toList_length, ofL, icBack_length]; omega
  have hput : F ++ bigB (sumL ((⟨#[]⟩ : ByteArray).data.toList ++ (F.data.toList ++ E.data.toList))) 2 ++ E = h.putI body := by
    rw [hF, hE, ofL, ofL]
    rfl
  have hcat := icBack_cat h body
  rw [← hE] at hcat
  have hof := fun (b : Nat) (w : World) => of_three b 3 ⟨#[]⟩ F E w (by rw [hFs]; show 0 + 2 + _ ≤ _; omega)
  rw [← hF] at hf
  rw [← hput]
  have hn : ((8 + body.size : Nat) : Int) = 8 + (body.size : Int) := by omega
  rw [hn] at hf hah
  have k2 : wrap64 (8 + (body.size : Int)) = 8 + (body.size : Int) := by unfold wrap64; omega
  have k1 : ¬ (2000 : Int) < 8 + (body.size : Int) := by omega
  have hbs : body.size ≤ 2000 := by omega
  have b2 := bigB2s
  have b4 := bigB4s
  generalize sumL ((⟨#[]⟩ : ByteArray).data.toList ++ (F.data.toList ++ E.data.toList)) = z at *
  have ht := fun w => icTold_any z w
  generalize bigB (h.rest.toNat : Int) 4 = R at *
  have hRs : (R.size : Int) ≤ 2000 := by
    have := congrArg ByteArray.size hcat
    rw [ByteArray.size_append] at this
    omega
  clear hm hF hE hput hn h1
  go_enter Try.func83, Try.ntmps83
  go_wp2_with fail
  refine (hc _).mono ?_
  rintro e w1 ⟨rfl, hb1⟩
  have n1 := below_call (below_more (new_alloc w (.cells iV 88)) (size_alloc1 _ _) (.cells (dgV h) 56)) (size_alloc1 _ _) hb1
  have m1 := below_call (new_alloc (w.alloc (.cells iV 88)) (.cells (dgV h) 56)) (size_alloc1 _ _) hb1
  obtain ⟨q1, _, z1⟩ := new_in n1
  obtain ⟨r1, _, y1⟩ := new_in m1
  simp only [World.size_alloc] at r1 y1
  have N1 := (show Hid _ from n1)
  have M1 := (show Hid _ from m1)
  clear hb1 n1 m1 hc
  have hcl := Cls.cell (w := w1)
  have mf := icM_front
  have mb := icM_back
  go_upto_region 6 with fail
  refine wp_region_calm (by kernel_rfl) (by kernel_rfl) (fun hne => ?_)
  repeat (go_big_quiet_step (first | (go_at_call 103; exact calm_of (hf _)) | (go_at_call 101; exact calm_of (hbk _))))
  refine wpQuiet_nil ?_
  rintro _ ⟨x, rfl⟩
  have n2 := below_call N1.out (size_alloc1 _ _) x.bel
  obtain ⟨q2, _, z2⟩ := new_in n2
  have N2 := (show Hid _ from n2)
  generalize x.val = w2 at *
  clear hne hcl mf mb q1 z1 r1 y1 N1 M1 n2 hf hbk
  go_wp2_with fail
  refine (hah _).mono ?_
  rintro e w3 ⟨rfl, hb3⟩
  have n3 := below_call N2.out (size_alloc1 _ _) hb3
  obtain ⟨q3, _, z3⟩ := new_in n3
  have N3 := (show Hid _ from below_more n3 (size_alloc1 _ _) (.cells #[.string ⟨#[]⟩, .string F, .string E] 9))
  clear hb3 n3 N2 q2 z2 hah
  go_wp2_with fail
  refine (hof _ _ (by simp) (by simp) (by simp)).mono ?_
  rintro e w4 ⟨rfl, rfl⟩
  go_wp2_with fail
  refine (ht _).mono ?_
  rintro e w5 ⟨rfl, hb5⟩
  have N5 := (show Hid _ from below_call N3.out (size_alloc1 _ _) hb5)
  clear hb5 N3 q3 z3 ht hof
  go_wp2_with fail
  refine (big_b _ _ _).mono ?_
  rintro e w6 ⟨rfl, hb6⟩
  have N6 := (show Hid _ from below_call N5.out (size_alloc1 _ _) hb6)
  clear hb6 N5
  go_wp2_with fail
  exact bodyPost_ret (v := .tuple #[.string (F ++ bigB z 2 ++ E), .int .i64 0]) (by simp [results, Try.results83, go_sem]) rfl ⟨rfl, (below1 w _).trans (N6.out.mono (Nat.le_succ _))⟩
theorem putICMP_of (h : Dg) (body p : ByteArray) (c : Int) (w : World)
    (hp : ∀ w : World, Calls Try.prog 83 #[.agg iV, .agg (dgV h), .string body] w fun e w' => e = .returned (.tuple #[.string p, .int .i64 c]) ∧ Below w.heap.size w w') :
    Calls Try.prog 64 #[.agg (dgV h), .string body] w fun e w' => e = .returned (.tuple #[.string p, .int .i64 c]) ∧ Below w.heap.size w w' := by
  go_enter Try.func64, Try.ntmps64
  go_wp2_with fail
  refine (hp _).mono ?_
  rintro e w1 ⟨rfl, hb1⟩
  have H1 := (show Hid _ from below_after (below1 _ _) hb1)
  clear hb1
  go_wp2_with fail
  exact bodyPost_ret (v := .tuple #[.string p, .int .i64 c]) (by simp [results, Try.results64, go_sem]) rfl ⟨rfl, H1.out⟩
end Go.Proofs.Ythfncbcnokkmiaa
