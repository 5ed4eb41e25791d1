/- Contracts of layer 4: tcp's Put. -/
import Derived.Test.YthfncbcnokkmiaaTcs
namespace Go.Proofs.Ythfncbcnokkmiaa
open Go.RowKit
set_option linter.unusedVariables false
set_option maxHeartbeats 400000 in
theorem tcPut_arg (h : Sg) (a b : UInt32) (body : ByteArray) (w : World) (hm : ¬ h.May) :
    Calls Try.prog 61 #[.int .u32 (a.toNat : Int), .int .u32 (b.toNat : Int), .agg (sgV h), .string body] w fun e w' => e = .returned (.tuple #[.string ⟨#[]⟩, .int .i64 1]) ∧ Below w.heap.size w w' := by
  go_enter Try.func61, Try.ntmps61
  go_wp2_with fail
  refine (tcCheck_no h _ hm).mono ?_
  rintro e w1 ⟨rfl, hb1⟩
  go_wp2_with fail
  exact bodyPost_ret (v := .tuple #[.string ⟨#[]⟩, .int .i64 1]) (by simp [results, Try.results61, go_sem]) rfl ⟨rfl, below_after (below1 _ _) hb1⟩
set_option maxHeartbeats 1000000 in
theorem tcPut_big (h : Sg) (a b : UInt32) (body : ByteArray) (w : World) (hm : h.May) (h1 : 2000 < 20 + h.opts.size + body.size) (h2 : body.size ≤ 1000000000000) :
    Calls Try.prog 61 #[.int .u32 (a.toNat : Int), .int .u32 (b.toNat : Int), .agg (sgV h), .string body] w fun e w' => e = .returned (.tuple #[.string ⟨#[]⟩, .int .i64 5]) ∧ Below w.heap.size w w' := by
  have hc := fun w => tcCheck_yes h w hm
  have ha := fun w => tcAll_any h body w (by have := hm.2.2.2.2.1; omega) h2
  have k1 : (2000 : Int) < ((h.all body : Nat) : Int) := by unfold Sg.all; omega
  generalize h.all body = n at *
  clear hm h1
  go_enter Try.func61, Try.ntmps61
  go_wp2_with fail
  refine (hc _).mono ?_
  rintro e w1 ⟨rfl, hb1⟩
  have n1 := below_call (new_alloc w (.cells (sgV h) 29)) (size_alloc1 _ _) hb1
  obtain ⟨q1, _, z1⟩ := new_in n1
  have N1 := (show Hid _ from n1)
  clear hb1 n1 hc
  go_wp2_with fail
  refine (ha _).mono ?_
  rintro e w2 ⟨rfl, hb2⟩
  have HB := (show Hid _ from below_after ((below1 w _).trans ((below_more N1.out (size_alloc1 _ _) _).mono (Nat.le_succ _))) hb2)
  clear hb2
  go_wp2_with fail
  exact bodyPost_ret (v := .tuple #[.string ⟨#[]⟩, .int .i64 5]) (by simp [results, Try.results61, go_sem]) rfl ⟨rfl, HB.out⟩
set_option maxHeartbeats 2000000 in
theorem tcPut_ok (h : Sg) (a b : UInt32) (body : ByteArray) (w : World) (hm : h.May) (h1 : 20 + h.opts.size + body.size ≤ 2000) :
    Calls Try.prog 61 #[.int .u32 (a.toNat : Int), .int .u32 (b.toNat : Int), .agg (sgV h), .string body] w fun e w' => e = .returned (.tuple #[.string (h.put a b body), .int .i64 0]) ∧ Below w.heap.size w w' := by
  have ho : h.opts.size ≤ 40 := hm.2.2.2.2.1
  have hc := fun w => tcCheck_yes h w hm
  have ha := fun w => tcAll_any h body w (by omega) (by omega)
  have hf := fun w => tcFront_any h body w ho
  have hbk := fun w => tcBack_any h body w (by omega) (by omega)
  have hah := fun w => tcAhead_any a b (h.all body) w
  have k1 : ((h.all body : Nat) : Int) ≤ 2000 := by unfold Sg.all; omega
  obtain ⟨F, hF⟩ : ∃ F : ByteArray, F = ⟨h.front.toArray⟩ := ⟨_, rfl⟩
  obtain ⟨E, hE⟩ : ∃ E : ByteArray, E = ⟨(h.back body).toArray⟩ := ⟨_, rfl⟩
  obtain ⟨G, hG⟩ : ∃ G : ByteArray, G = ⟨(tcAhead a b (h.all body)).toArray⟩ := ⟨_, rfl⟩
  have hFs : F.size = 16 := by rw [hF, ← toList_length, ofL, sgFront_length]
  have hEs : E.size ≤ 2000 := by rw [hE, ← toList_length, ofL, sgBack_length]; omega
  have hGs : G.size = 12 := by rw [hG, ← toList_length, ofL, tcAhead_length]
  have hput : F ++ bigB (sumL (G.data.toList ++ (F.data.toList ++ E.data.toList))) 2 ++ E = h.put a b body := by
    rw [hF, hE, hG, ofL, ofL, ofL]
    rfl
  have hof := fun (b : Nat) (w : World) => of_three b 3 G F E w (by omega)
  rw [← hF] at hf
  rw [← hE] at hbk
  rw [← hG] at hah
  rw [← hput]
  generalize h.all body = n at *
  clear hm hF hE hG hput h1 ho
  have b2 := bigB2s
  have hEs' : (E.size : Int) ≤ 2000 := by omega
  go_enter Try.func61, Try.ntmps61
  go_wp2_with fail
  refine (hc _).mono ?_
  rintro e w1 ⟨rfl, hb1⟩
  have n1 := below_call (new_alloc w (.cells (sgV h) 29)) (size_alloc1 _ _) hb1
  obtain ⟨q1, _, z1⟩ := new_in n1
  have N1 := (show Hid _ from (below1 w _).trans ((below_more n1 (size_alloc1 _ _) (.cells (sbV h body) 84)).mono (Nat.le_succ _)))
  clear hb1 n1 hc
  go_wp2_with fail
  clear q1 z1
  refine (ha _).mono ?_
  rintro e w2 ⟨rfl, hb2⟩
  have n2 := below_call (new_alloc w1 (.cells (sbV h body) 84)) (size_alloc1 _ _) hb2
  obtain ⟨q2, _, z2⟩ := new_in n2
  have M2 := (show Hid _ from n2)
  have N2 := (show Hid _ from below_after N1.out hb2)
  clear hb2 n2 N1
  have hcl := Cls.cell (w := w2)
  go_upto_region 6 with fail
  refine wp_region_calm (by kernel_rfl) (by kernel_rfl) (fun hne => ?_)
  repeat (go_big_quiet_step (first | (go_at_call 81; exact calm_of (hf _)) | (go_at_call 82; exact calm_of (hbk _))))
  refine wpQuiet_nil ?_
  rintro _ ⟨x, rfl⟩
  have n3 := below_call M2.out (size_alloc1 _ _) x.bel
  obtain ⟨q3, _, z3⟩ := new_in n3
  have N3 := (show Hid _ from below_after N2.out x.bel)
  generalize x.val = w3 at *
  clear n3 hcl hne q2 z2 N2 M2 hf hbk
  go_wp2_with fail
  refine (ha _).mono ?_
  rintro e w4 ⟨rfl, hb4⟩
  have N4 := (show Hid _ from below_after N3.out hb4)
  clear hb4 N3 q3 z3 ha
  go_wp2_with fail
  refine (hah _).mono ?_
  rintro e w5 ⟨rfl, hb5⟩
  have N5 := (show Hid _ from below_after N4.out hb5)
  clear hb5 N4 hah
  go_wp2_with fail
  refine (hof _ _ (by simp) (by simp) (by simp)).mono ?_
  rintro e w6 ⟨rfl, rfl⟩
  go_wp2_with fail
  refine (big_b _ _ _).mono ?_
  rintro e w7 ⟨rfl, hb7⟩
  have HB := (show Hid _ from below_after (below_after N5.out (below1 _ _)) hb7)
  clear hb7
  go_wp2_with fail
  exact bodyPost_ret (v := .tuple #[.string (F ++ bigB (sumL (G.data.toList ++ (F.data.toList ++ E.data.toList))) 2 ++ E), .int .i64 0]) (by simp [results, Try.results61, go_sem]) rfl ⟨rfl, HB.out⟩
end Go.Proofs.Ythfncbcnokkmiaa
