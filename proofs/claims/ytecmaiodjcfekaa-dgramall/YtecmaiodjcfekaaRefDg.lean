/- Contracts of the document's own layer 5: layer 4's Sum, Same, both Puts. -/
import Derived.Test.YtecmaiodjcfekaaDgs
namespace Go.Proofs.Ytecmaiodjcfekaa
open Go.RowKit
set_option linter.unusedVariables false
set_option maxHeartbeats 2000000 in
theorem dgSame_yes (h : Dg) (w : World) :
    Calls Try.prog 16 #[.agg (dgV h), .agg (dgV h)] w fun e w' => e = .returned (.bool true) ∧ Below w.heap.size w w' := by
  go_enter Try.func16, Try.ntmps16
  go_wp2
  go_ret
  exact ⟨rfl, below2 _ _ _⟩
set_option maxHeartbeats 1000000 in
theorem rdSum_any (a b : UInt32) (s : ByteArray) (w : World) (hs : s.size ≤ 900000) :
    Calls Try.prog 20 #[.int .u32 (a.toNat : Int), .int .u32 (b.toNat : Int), .int .i64 17, .string s] w fun e w' => e = .returned (.int .i64 (sumL (udAhead a b s.size ++ s.data.toList))) ∧ Below w.heap.size w w' := by
  have hcat := udAhead_cat a b s.size
  obtain ⟨G, hG⟩ : ∃ G : ByteArray, G = ⟨(udAhead a b s.size).toArray⟩ := ⟨_, rfl⟩
  rw [← hG] at hcat
  have hGs : G.size = 12 := by rw [hG, ← toList_length, ofL, udAhead_length]
  have hof := fun w => refOf_any (G ++ s) w (by rw [ByteArray.size_append]; omega)
  have hr : 65535 - Pl.fld (Pl.wt true (G ++ s).data.toList) = sumL (udAhead a b s.size ++ s.data.toList) := by rw [toList_append, hG, ofL]; rfl
  rw [hr] at hof
  rw [← hcat] at hof
  generalize sumL (udAhead a b s.size ++ s.data.toList) = z at *
  clear hr hcat hG hGs
  have s1 := src_bd a
  have s2 := src_bd b
  have b2 := bigB2s
  have b4 := bigB4s
  go_enter Try.func20, Try.ntmps20
  go_wp2_with fail
  refine (refBig_b _ _ _ (by decide)).mono ?_
  rintro e w1 ⟨rfl, h1⟩
  have H1 := (show Hid _ from h1)
  clear h1
  go_wp2_with fail
  refine (refBig_b _ _ _ (by decide)).mono ?_
  rintro e w2 ⟨rfl, h2⟩
  have H2 := (show Hid _ from below_after H1.out h2)
  clear h2 H1
  go_wp2_with fail
  refine (refBig_b _ _ _ (by decide)).mono ?_
  rintro e w3 ⟨rfl, h3⟩
  have H3 := (show Hid _ from below_after H2.out h3)
  clear h3 H2
  go_wp2_with fail
  refine (refBig_b _ _ _ (by decide)).mono ?_
  rintro e w4 ⟨rfl, h4⟩
  have H4 := (show Hid _ from below_after H3.out h4)
  clear h4 H3
  go_wp2_with fail
  refine (hof _).mono ?_
  rintro e w5 ⟨rfl, rfl⟩
  go_wp2_with fail
  go_ret
  exact ⟨rfl, H4.out⟩
set_option maxHeartbeats 4000000 in
theorem rdPutU_arg (h : Dg) (a b : UInt32) (body : ByteArray) (w : World) (hm : ¬ h.MayU) :
    Calls Try.prog 9 #[.int .u32 (a.toNat : Int), .int .u32 (b.toNat : Int), .agg (dgV h), .string body] w fun e w' => e = .returned (.tuple #[.string ⟨#[]⟩, .int .i64 1]) ∧ Below w.heap.size w w' := by
  by_cases a_src : 0 ≤ h.src
  case neg =>
    go_enter Try.func9, Try.ntmps9
    go_wp2_with fail
    exact bodyPost_ret (v := .tuple #[.string ⟨#[]⟩, .int .i64 1]) (by simp [results, Try.results9, go_sem]) rfl ⟨rfl, below1 _ _⟩
  by_cases b_src : h.src ≤ 65535
  case neg =>
    go_enter Try.func9, Try.ntmps9
    go_wp2_with fail
    exact bodyPost_ret (v := .tuple #[.string ⟨#[]⟩, .int .i64 1]) (by simp [results, Try.results9, go_sem]) rfl ⟨rfl, below1 _ _⟩
  by_cases a_dst : 0 ≤ h.dst
  case neg =>
    go_enter Try.func9, Try.ntmps9
    go_wp2_with fail
    exact bodyPost_ret (v := .tuple #[.string ⟨#[]⟩, .int .i64 1]) (by simp [results, Try.results9, go_sem]) rfl ⟨rfl, below1 _ _⟩
  by_cases b_dst : h.dst ≤ 65535
  case neg =>
    go_enter Try.func9, Try.ntmps9
    go_wp2_with fail
    exact bodyPost_ret (v := .tuple #[.string ⟨#[]⟩, .int .i64 1]) (by simp [results, Try.results9, go_sem]) rfl ⟨rfl, below1 _ _⟩
  exact absurd ⟨⟨a_src, b_src⟩, ⟨a_dst, b_dst⟩⟩ hm
set_option maxHeartbeats 1000000 in
theorem rdPutU_big (h : Dg) (a b : UInt32) (body : ByteArray) (w : World) (hm : h.MayU) (h1 : 2000 < 8 + body.size) (h2 : body.size ≤ 1000000000000) :
    Calls Try.prog 9 #[.int .u32 (a.toNat : Int), .int .u32 (b.toNat : Int), .agg (dgV h), .string body] w fun e w' => e = .returned (.tuple #[.string ⟨#[]⟩, .int .i64 5]) ∧ Below w.heap.size w w' := by
  obtain ⟨⟨m0, m1⟩, ⟨m2, m3⟩⟩ := hm
  have k1 : (1992 : Int) < (body.size : Int) := by omega
  go_enter Try.func9, Try.ntmps9
  go_wp2_with fail
  exact bodyPost_ret (v := .tuple #[.string ⟨#[]⟩, .int .i64 5]) (by simp [results, Try.results9, go_sem]) rfl ⟨rfl, below1 _ _⟩
set_option maxHeartbeats 4000000 in
theorem rdPutU_ok (h : Dg) (a b : UInt32) (body : ByteArray) (w : World) (hm : h.MayU) (h1 : 8 + body.size ≤ 2000) :
    Calls Try.prog 9 #[.int .u32 (a.toNat : Int), .int .u32 (b.toNat : Int), .agg (dgV h), .string body] w fun e w' => e = .returned (.tuple #[.string (h.putU a b body), .int .i64 0]) ∧ Below w.heap.size w w' := by
  obtain ⟨⟨m0, m1⟩, ⟨m2, m3⟩⟩ := hm
  have hfc := udFront_cat h (8 + body.size)
  obtain ⟨F, hF⟩ : ∃ F : ByteArray, F = ⟨(h.frontU (8 + body.size)).toArray⟩ := ⟨_, rfl⟩
  rw [← hF] at hfc
  have hn : ((8 + body.size : Nat) : Int) = 8 + (body.size : Int) := by omega
  rw [hn] at hfc
  have hFs : F.size = 6 := by rw [hF, ← toList_length, ofL, udFront_length]
  have hput : F ++ bigB (toldU (h.sumU a b body)) 2 ++ body = h.putU a b body := by
    rw [hF]
    rfl
  have hsz : (F ++ (⟨#[0, 0]⟩ : ByteArray) ++ body).size = 8 + body.size := by
    rw [ByteArray.size_append, ByteArray.size_append, hFs]
    show 6 + 2 + _ = _
    omega
  have hz : sumL (udAhead a b (F ++ (⟨#[0, 0]⟩ : ByteArray) ++ body).size ++ (F ++ (⟨#[0, 0]⟩ : ByteArray) ++ body).data.toList) = h.sumU a b body := by
    rw [hsz, toList_append, toList_append, hF, ofL]
    have z := sum_zeros (udAhead a b (8 + body.size) ++ h.frontU (8 + body.size)) body.data.toList (by rw [List.length_append, udAhead_length, udFront_length])
    rw [List.append_assoc, List.append_assoc, ← List.append_assoc (h.frontU (8 + body.size))] at z
    exact z
  have hs := fun w => rdSum_any a b (F ++ (⟨#[0, 0]⟩ : ByteArray) ++ body) w (by rw [hsz]; omega)
  rw [hz] at hs
  rw [← hput]
  generalize h.sumU a b body = z at *
  clear hz hput hF hsz hn
  have hw : wrap64 (8 + (body.size : Int)) = 8 + (body.size : Int) := by unfold wrap64; omega
  have k1 : ¬ (1992 : Int) < (body.size : Int) := by omega
  have hbs : body.size ≤ 2000 := by omega
  have b2 := bigB2s
  clear h1
  have hcl := Cls.cell (w := w.alloc (.cells (dgV h) 24))
  go_enter Try.func9, Try.ntmps9
  go_upto_region 5 with fail
  refine wp_region_calm (by kernel_rfl) (by kernel_rfl) (fun hne => ?_)
  repeat (go_big_quiet_step ((go_at_call 19; exact calm_of (refBig_b _ _ _ (by decide)))))
  refine wpQuiet_nil ?_
  rintro _ ⟨x, rfl⟩
  have N2 := (show Hid _ from below_after (below1 _ _) x.bel)
  generalize x.val = w2 at *
  clear hne hcl
  go_wp2_with fail
  refine (hs _).mono ?_
  rintro e w4 ⟨rfl, hb4⟩
  have N4 := (show Hid _ from below_after N2.out hb4)
  clear hb4 N2 hs
  by_cases hz0 : z = 0
  · have hzb : (z == 0) = true := by simpa using hz0
    have ht : toldU z = 65535 := by unfold toldU; rw [if_pos hz0]
    have HT := (show Hid _ from ht)
    clear hz0 ht
    go_wp2_with fail
    refine (refBig_b _ _ _ (by decide)).mono ?_
    rintro e w5 ⟨rfl, hb5⟩
    have N5 := (show Hid _ from below_after N4.out hb5)
    clear hb5 N4
    go_wp2_with fail
    exact bodyPost_ret (v := .tuple #[.string (F ++ bigB 65535 2 ++ body), .int .i64 0]) (by simp [results, Try.results9, go_sem]) rfl ⟨by rw [HT.out], N5.out⟩
  · have hzb : (z == 0) = false := by simpa using hz0
    have ht : toldU z = z := by unfold toldU; rw [if_neg hz0]
    have HT := (show Hid _ from ht)
    clear hz0 ht
    go_wp2_with fail
    refine (refBig_b _ _ _ (by decide)).mono ?_
    rintro e w5 ⟨rfl, hb5⟩
    have N5 := (show Hid _ from below_after N4.out hb5)
    clear hb5 N4
    go_wp2_with fail
    exact bodyPost_ret (v := .tuple #[.string (F ++ bigB z 2 ++ body), .int .i64 0]) (by simp [results, Try.results9, go_sem]) rfl ⟨by rw [HT.out], N5.out⟩
set_option maxHeartbeats 4000000 in
theorem rdPutI_arg (h : Dg) (body : ByteArray) (w : World) (hm : ¬ h.MayI) :
    Calls Try.prog 11 #[.agg (dgV h), .string body] w fun e w' => e = .returned (.tuple #[.string ⟨#[]⟩, .int .i64 1]) ∧ Below w.heap.size w w' := by
  by_cases a_kind : 0 ≤ h.kind
  case neg =>
    go_enter Try.func11, Try.ntmps11
    go_wp2_with fail
    exact bodyPost_ret (v := .tuple #[.string ⟨#[]⟩, .int .i64 1]) (by simp [results, Try.results11, go_sem]) rfl ⟨rfl, below1 _ _⟩
  by_cases b_kind : h.kind ≤ 255
  case neg =>
    go_enter Try.func11, Try.ntmps11
    go_wp2_with fail
    exact bodyPost_ret (v := .tuple #[.string ⟨#[]⟩, .int .i64 1]) (by simp [results, Try.results11, go_sem]) rfl ⟨rfl, below1 _ _⟩
  by_cases a_code : 0 ≤ h.code
  case neg =>
    go_enter Try.func11, Try.ntmps11
    go_wp2_with fail
    exact bodyPost_ret (v := .tuple #[.string ⟨#[]⟩, .int .i64 1]) (by simp [results, Try.results11, go_sem]) rfl ⟨rfl, below1 _ _⟩
  by_cases b_code : h.code ≤ 255
  case neg =>
    go_enter Try.func11, Try.ntmps11
    go_wp2_with fail
    exact bodyPost_ret (v := .tuple #[.string ⟨#[]⟩, .int .i64 1]) (by simp [results, Try.results11, go_sem]) rfl ⟨rfl, below1 _ _⟩
  exact absurd ⟨⟨a_kind, b_kind⟩, ⟨a_code, b_code⟩⟩ hm
set_option maxHeartbeats 1000000 in
theorem rdPutI_big (h : Dg) (body : ByteArray) (w : World) (hm : h.MayI) (h1 : 2000 < 8 + body.size) (h2 : body.size ≤ 1000000000000) :
    Calls Try.prog 11 #[.agg (dgV h), .string body] w fun e w' => e = .returned (.tuple #[.string ⟨#[]⟩, .int .i64 5]) ∧ Below w.heap.size w w' := by
  obtain ⟨⟨m0, m1⟩, ⟨m2, m3⟩⟩ := hm
  have k1 : (1992 : Int) < (body.size : Int) := by omega
  go_enter Try.func11, Try.ntmps11
  go_wp2_with fail
  exact bodyPost_ret (v := .tuple #[.string ⟨#[]⟩, .int .i64 5]) (by simp [results, Try.results11, go_sem]) rfl ⟨rfl, below1 _ _⟩
set_option maxHeartbeats 4000000 in
theorem rdPutI_ok (h : Dg) (body : ByteArray) (w : World) (hm : h.MayI) (h1 : 8 + body.size ≤ 2000) :
    Calls Try.prog 11 #[.agg (dgV h), .string body] w fun e w' => e = .returned (.tuple #[.string (h.putI body), .int .i64 0]) ∧ Below w.heap.size w w' := by
  obtain ⟨⟨m0, m1⟩, ⟨m2, m3⟩⟩ := hm
  have hfc := icFront_cat h
  have hbc := icBack_cat h body
  obtain ⟨F, hF⟩ : ∃ F : ByteArray, F = ⟨h.frontI.toArray⟩ := ⟨_, rfl⟩
  obtain ⟨E, hE⟩ : ∃ E : ByteArray, E = ⟨(h.backI body).toArray⟩ := ⟨_, rfl⟩
  rw [← hF] at hfc
  rw [← hE] at hbc
  have hFs : F.size = 2 := by rw [hF, ← toList_length, ofL, icFront_length]
  have hEs : E.size = 4 + body.size := by rw [hE, ← toList_length, ofL, icBack_length]
  have hput : F ++ bigB (sumL (h.frontI ++ h.backI body)) 2 ++ E = h.putI body := by
    rw [hF, hE]
    rfl
  have hz : 65535 - Pl.fld (Pl.wt true (F ++ (⟨#[0, 0]⟩ : ByteArray) ++ E).data.toList) = sumL (h.frontI ++ h.backI body) := by
    rw [toList_append, toList_append, hF, hE, ofL, ofL]
    have z := sum_zeros h.frontI (h.backI body) (by rw [icFront_length])
    rw [← List.append_assoc] at z
    exact z
  have hs := fun w => refOf_any (F ++ (⟨#[0, 0]⟩ : ByteArray) ++ E) w (by rw [ByteArray.size_append, ByteArray.size_append, hFs, hEs]; show 2 + 2 + _ ≤ _; omega)
  rw [hz] at hs
  rw [← hput]
  generalize sumL (h.frontI ++ h.backI body) = z at *
  clear hz hput hF hE
  have hEs' : (E.size : Int) ≤ 2000 := by omega
  have k1 : ¬ (1992 : Int) < (body.size : Int) := by omega
  have hbs : body.size ≤ 2000 := by omega
  have b1 := bigB1s
  have b2 := bigB2s
  have b4 := bigB4s
  have s1 := src_bd h.rest
  clear h1 hEs
  have hcl := Cls.cell (w := w.alloc (.cells (dgV h) 24))
  go_enter Try.func11, Try.ntmps11
  go_upto_region 5 with fail
  refine wp_region_calm (by kernel_rfl) (by kernel_rfl) (fun hne => ?_)
  repeat (go_big_quiet_step ((go_at_call 19; exact calm_of (refBig_b _ _ _ (by decide)))))
  refine wpQuiet_nil ?_
  rintro _ ⟨x, rfl⟩
  obtain ⟨q2, _, z2, N2⟩ := cls_in x
  generalize x.val = w2 at *
  clear hne hcl
  go_wp2_with fail
  refine (refBig_b _ _ _ (by decide)).mono ?_
  rintro e w3 ⟨rfl, hb3⟩
  have N3 := (show Hid _ from below_after N2.out hb3)
  clear hb3 N2 q2 z2
  go_wp2_with fail
  refine (hs _).mono ?_
  rintro e w4 ⟨rfl, rfl⟩
  clear hs
  go_wp2_with fail
  refine (refBig_b _ _ _ (by decide)).mono ?_
  rintro e w5 ⟨rfl, hb5⟩
  have N5 := (show Hid _ from below_after N3.out hb5)
  clear hb5 N3
  go_wp2_with fail
  exact bodyPost_ret (v := .tuple #[.string (F ++ bigB z 2 ++ E), .int .i64 0]) (by simp [results, Try.results11, go_sem]) rfl ⟨rfl, N5.out⟩
end Go.Proofs.Ytecmaiodjcfekaa
