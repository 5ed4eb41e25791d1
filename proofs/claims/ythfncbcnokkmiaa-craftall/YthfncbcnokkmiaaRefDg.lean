/- Contracts of the document's own layer 5: layer 4's Sum, Same, both Puts. -/
import Derived.Test.YthfncbcnokkmiaaDgs
namespace Go.Proofs.Ythfncbcnokkmiaa
open Go.RowKit
set_option linter.unusedVariables false
set_option maxHeartbeats 1000000 in
theorem rdSum_any (a b : UInt32) (s : ByteArray) (w : World) (hs : s.size ≤ 900000) :
    Calls Try.prog 63 #[.int .u32 (a.toNat : Int), .int .u32 (b.toNat : Int), .int .i64 17, .string s] w fun e w' => e = .returned (.int .i64 (sumL (udAhead a b s.size ++ s.data.toList))) ∧ Below w.heap.size w w' := by
  have hcat := udAhead_cat a b s.size
  obtain ⟨G, hG⟩ : ∃ G : ByteArray, G = ⟨(udAhead a b s.size).toArray⟩ := ⟨_, rfl⟩
  rw [← hG] at hcat
  have hGs : G.size = 12 := by rw [hG, ← toList_length, ofL, udAhead_length]
  have hof := fun w => refOf_any (G ++ s) w (by rw [ByteArray.size_append]; omega)
  have hr : 65535 - Pl.fld (Pl.wt true (G ++ s).data.toList) = sumL (udAhead a b s.size ++ s.data.toList) := by rw [toList_append, hG, ofL]; rfl
  rw [hr] at hof
  rw [← hcat] at hof
  generalize sumL (udAhead a b s.size ++ s.data.toList) = z at *
  clear hr hcat hG hGs
  have s1 := src_bd a
  have s2 := src_bd b
  have b2 := bigB2s
  have b4 := bigB4s
  go_enter Try.func63, Try.ntmps63
  go_wp2_with fail
  refine (refBig_b _ _ _ (by decide)).mono ?_
  rintro e w1 ⟨rfl, h1⟩
  have H1 := (show Hid _ from h1)
  clear h1
  go_wp2_with fail
  refine (refBig_b _ _ _ (by decide)).mono ?_
  rintro e w2 ⟨rfl, h2⟩
  have H2 := (show Hid _ from below_after H1.out h2)
  clear h2 H1
  go_wp2_with fail
  refine (refBig_b _ _ _ (by decide)).mono ?_
  rintro e w3 ⟨rfl, h3⟩
  have H3 := (show Hid _ from below_after H2.out h3)
  clear h3 H2
  go_wp2_with fail
  refine (refBig_b _ _ _ (by decide)).mono ?_
  rintro e w4 ⟨rfl, h4⟩
  have H4 := (show Hid _ from below_after H3.out h4)
  clear h4 H3
  go_wp2_with fail
  refine (hof _).mono ?_
  rintro e w5 ⟨rfl, rfl⟩
  go_wp2_with fail
  go_ret
  exact ⟨rfl, H4.out⟩
set_option maxHeartbeats 4000000 in
theorem rdPutI_arg (h : Dg) (body : ByteArray) (w : World) (hm : ¬ h.MayI) :
    Calls Try.prog 43 #[.agg (dgV h), .string body] w fun e w' => e = .returned (.tuple #[.string ⟨#[]⟩, .int .i64 1]) ∧ Below w.heap.size w w' := by
  by_cases a_kind : 0 ≤ h.kind
  case neg =>
    go_enter Try.func43, Try.ntmps43
    go_wp2_with fail
    exact bodyPost_ret (v := .tuple #[.string ⟨#[]⟩, .int .i64 1]) (by simp [results, Try.results43, go_sem]) rfl ⟨rfl, below1 _ _⟩
  by_cases b_kind : h.kind ≤ 255
  case neg =>
    go_enter Try.func43, Try.ntmps43
    go_wp2_with fail
    exact bodyPost_ret (v := .tuple #[.string ⟨#[]⟩, .int .i64 1]) (by simp [results, Try.results43, go_sem]) rfl ⟨rfl, below1 _ _⟩
  by_cases a_code : 0 ≤ h.code
  case neg =>
    go_enter Try.func43, Try.ntmps43
    go_wp2_with fail
    exact bodyPost_ret (v := .tuple #[.string ⟨#[]⟩, .int .i64 1]) (by simp [results, Try.results43, go_sem]) rfl ⟨rfl, below1 _ _⟩
  by_cases b_code : h.code ≤ 255
  case neg =>
    go_enter Try.func43, Try.ntmps43
    go_wp2_with fail
    exact bodyPost_ret (v := .tuple #[.string ⟨#[]⟩, .int .i64 1]) (by simp [results, Try.results43, go_sem]) rfl ⟨rfl, below1 _ _⟩
  exact absurd ⟨⟨a_kind, b_kind⟩, ⟨a_code, b_code⟩⟩ hm
set_option maxHeartbeats 1000000 in
theorem rdPutI_big (h : Dg) (body : ByteArray) (w : World) (hm : h.MayI) (h1 : 2000 < 8 + body.size) (h2 : body.size ≤ 1000000000000) :
    Calls Try.prog 43 #[.agg (dgV h), .string body] w fun e w' => e = .returned (.tuple #[.string ⟨#[]⟩, .int .i64 5]) ∧ Below w.heap.size w w' := by
  obtain ⟨⟨m0, m1⟩, ⟨m2, m3⟩⟩ := hm
  have k1 : (1992 : Int) < (body.size : Int) := by omega
  go_enter Try.func43, Try.ntmps43
  go_wp2_with fail
  exact bodyPost_ret (v := .tuple #[.string ⟨#[]⟩, .int .i64 5]) (by simp [results, Try.results43, go_sem]) rfl ⟨rfl, below1 _ _⟩
set_option maxHeartbeats 4000000 in
theorem rdPutI_ok (h : Dg) (body : ByteArray) (w : World) (hm : h.MayI) (h1 : 8 + body.size ≤ 2000) :
    Calls Try.prog 43 #[.agg (dgV h), .string body] w fun e w' => e = .returned (.tuple #[.string (h.putI body), .int .i64 0]) ∧ Below w.heap.size w w' := by
  obtain ⟨⟨m0, m1⟩, ⟨m2, m3⟩⟩ := hm
  have hfc := icFront_cat h
  have hbc := icBack_cat h body
  obtain ⟨F, hF⟩ : ∃ F : ByteArray, F = ⟨h.frontI.toArray⟩ := ⟨_, rfl⟩
  obtain ⟨E, hE⟩ : ∃ E : ByteArray, E = ⟨(h.backI body).toArray⟩ := ⟨_, rfl⟩
  rw [← hF] at hfc
  rw [← hE] at hbc
  have hFs : F.size = 2 := by rw [hF, ← toList_length, ofL, icFront_length]
  have hEs : E.size = 4 + body.size := by rw [hE, ← toList_length, ofL, icBack_length]
  have hput : F ++ bigB (sumL (h.frontI ++ h.backI body)) 2 ++ E = h.putI body := by
    rw [hF, hE]
    rfl
  have hz : 65535 - Pl.fld (Pl.wt true (F ++ (⟨#[0, 0]⟩ : ByteArray) ++ E).data.toList) = sumL (h.frontI ++ h.backI body) := by
    rw [toList_append, toList_append, hF, hE, ofL, ofL]
    have z := sum_zeros h.frontI (h.backI body) (by rw [icFront_length])
    rw [← List.append_assoc] at z
    exact z
  have hs := fun w => refOf_any (F ++ (⟨#[0, 0]⟩ : ByteArray) ++ E) w (by rw [ByteArray.size_append, ByteArray.size_append, hFs, hEs]; show 2 + 2 + _ ≤ _; omega)
  rw [hz] at hs
  rw [← hput]
  generalize sumL (h.frontI ++ h.backI body) = z at *
  clear hz hput hF hE
  have hEs' : (E.size : Int) ≤ 2000 := by omega
  have k1 : ¬ (1992 : Int) < (body.size : Int) := by omega
  have hbs : body.size ≤ 2000 := by omega
  have b1 := bigB1s
  have b2 := bigB2s
  have b4 := bigB4s
  have s1 := src_bd h.rest
  clear h1 hEs
  have hcl := Cls.cell (w := w.alloc (.cells (dgV h) 56))
  go_enter Try.func43, Try.ntmps43
  go_upto_region 5 with fail
  refine wp_region_calm (by kernel_rfl) (by kernel_rfl) (fun hne => ?_)
  repeat (go_big_quiet_step ((go_at_call 59; exact calm_of (refBig_b _ _ _ (by decide)))))
  refine wpQuiet_nil ?_
  rintro _ ⟨x, rfl⟩
  obtain ⟨q2, _, z2, N2⟩ := cls_in x
  generalize x.val = w2 at *
  clear hne hcl
  go_wp2_with fail
  refine (refBig_b _ _ _ (by decide)).mono ?_
  rintro e w3 ⟨rfl, hb3⟩
  have N3 := (show Hid _ from below_after N2.out hb3)
  clear hb3 N2 q2 z2
  go_wp2_with fail
  refine (hs _).mono ?_
  rintro e w4 ⟨rfl, rfl⟩
  clear hs
  go_wp2_with fail
  refine (refBig_b _ _ _ (by decide)).mono ?_
  rintro e w5 ⟨rfl, hb5⟩
  have N5 := (show Hid _ from below_after N3.out hb5)
  clear hb5 N3
  go_wp2_with fail
  exact bodyPost_ret (v := .tuple #[.string (F ++ bigB z 2 ++ E), .int .i64 0]) (by simp [results, Try.results43, go_sem]) rfl ⟨rfl, N5.out⟩
end Go.Proofs.Ythfncbcnokkmiaa
