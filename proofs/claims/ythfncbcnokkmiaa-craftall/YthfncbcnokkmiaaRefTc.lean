/- Contracts of the document's own layer 4: Check, Same, Sum, Put. -/
import Derived.Test.YthfncbcnokkmiaaTcs
namespace Go.Proofs.Ythfncbcnokkmiaa
open Go.RowKit
set_option linter.unusedVariables false
set_option maxHeartbeats 2000000 in
theorem rtCheck_yes (h : Sg) (w : World) (hm : h.May) :
    Calls Try.prog 62 #[.agg (sgV h)] w fun e w' => e = .returned (.bool true) ∧ Below w.heap.size w w' := by
  obtain ⟨⟨m0, m1⟩, ⟨m2, m3⟩, ⟨m4, m5⟩, ⟨m6, m7⟩, m11, m12⟩ := hm
  have t4 : Int.tmod (h.opts.size : Int) 4 = 0 := by rw [Int.tmod_eq_emod_of_nonneg (by omega)]; omega
  have k40 : (h.opts.size : Int) ≤ 40 := by omega
  go_enter Try.func62, Try.ntmps62
  go_wp2
  go_ret
  exact ⟨rfl, below1 _ _⟩
set_option maxHeartbeats 8000000 in
theorem rtCheck_no (h : Sg) (w : World) (hm : ¬ h.May) :
    Calls Try.prog 62 #[.agg (sgV h)] w fun e w' => e = .returned (.bool false) ∧ Below w.heap.size w w' := by
  have hz : (0 : Int) ≤ (h.opts.size : Int) := by omega
  by_cases a0 : 0 ≤ h.src
  case neg =>
    go_enter Try.func62, Try.ntmps62
    go_wp2
    go_ret
    exact ⟨rfl, below1 _ _⟩
  by_cases b0 : h.src ≤ 65535
  case neg =>
    go_enter Try.func62, Try.ntmps62
    go_wp2
    go_ret
    exact ⟨rfl, below1 _ _⟩
  by_cases a1 : 0 ≤ h.dst
  case neg =>
    go_enter Try.func62, Try.ntmps62
    go_wp2
    go_ret
    exact ⟨rfl, below1 _ _⟩
  by_cases b1 : h.dst ≤ 65535
  case neg =>
    go_enter Try.func62, Try.ntmps62
    go_wp2
    go_ret
    exact ⟨rfl, below1 _ _⟩
  by_cases a2 : 0 ≤ h.win
  case neg =>
    go_enter Try.func62, Try.ntmps62
    go_wp2
    go_ret
    exact ⟨rfl, below1 _ _⟩
  by_cases b2 : h.win ≤ 65535
  case neg =>
    go_enter Try.func62, Try.ntmps62
    go_wp2
    go_ret
    exact ⟨rfl, below1 _ _⟩
  by_cases a3 : 0 ≤ h.flags
  case neg =>
    go_enter Try.func62, Try.ntmps62
    go_wp2
    go_ret
    exact ⟨rfl, below1 _ _⟩
  by_cases b3 : h.flags ≤ 63
  case neg =>
    go_enter Try.func62, Try.ntmps62
    go_wp2
    go_ret
    exact ⟨rfl, below1 _ _⟩
  have e4 : Int.tmod (h.opts.size : Int) 4 = (h.opts.size : Int) % 4 := by rw [Int.tmod_eq_emod_of_nonneg (by omega)]
  by_cases a6 : (h.opts.size : Int) ≤ 40
  case neg =>
    go_enter Try.func62, Try.ntmps62
    go_wp2
    go_ret
    exact ⟨rfl, below1 _ _⟩
  by_cases a7 : (h.opts.size : Int) % 4 = 0
  case neg =>
    have c7 : ((h.opts.size : Int) % 4 == 0) = false := by simpa using a7
    go_enter Try.func62, Try.ntmps62
    go_wp2
    go_ret
    exact ⟨rfl, below1 _ _⟩
  exact absurd ⟨⟨a0, b0⟩, ⟨a1, b1⟩, ⟨a2, b2⟩, ⟨a3, b3⟩, by omega, by omega⟩ hm
set_option maxHeartbeats 1000000 in
theorem rtSum_any (a b : UInt32) (s : ByteArray) (w : World) (hs : s.size ≤ 900000) :
    Calls Try.prog 63 #[.int .u32 (a.toNat : Int), .int .u32 (b.toNat : Int), .int .i64 6, .string s] w fun e w' => e = .returned (.int .i64 (sumL (tcAhead a b s.size ++ s.data.toList))) ∧ Below w.heap.size w w' := by
  have hcat := tcAhead_cat a b s.size
  obtain ⟨G, hG⟩ : ∃ G : ByteArray, G = ⟨(tcAhead a b s.size).toArray⟩ := ⟨_, rfl⟩
  rw [← hG] at hcat
  have hGs : G.size = 12 := by rw [hG, ← toList_length, ofL, tcAhead_length]
  have hof := fun w => refOf_any (G ++ s) w (by rw [ByteArray.size_append]; omega)
  have hr : 65535 - Pl.fld (Pl.wt true (G ++ s).data.toList) = sumL (tcAhead a b s.size ++ s.data.toList) := by rw [toList_append, hG, ofL]; rfl
  rw [hr] at hof
  rw [← hcat] at hof
  generalize sumL (tcAhead a b s.size ++ s.data.toList) = z at *
  clear hr hcat hG hGs
  have s1 := src_bd a
  have s2 := src_bd b
  have b2 := bigB2s
  have b4 := bigB4s
  go_enter Try.func63, Try.ntmps63
  go_wp2_with fail
  refine (refBig_b _ _ _ (by decide)).mono ?_
  rintro e w1 ⟨rfl, h1⟩
  have H1 := (show Hid _ from h1)
  clear h1
  go_wp2_with fail
  refine (refBig_b _ _ _ (by decide)).mono ?_
  rintro e w2 ⟨rfl, h2⟩
  have H2 := (show Hid _ from below_after H1.out h2)
  clear h2 H1
  go_wp2_with fail
  refine (refBig_b _ _ _ (by decide)).mono ?_
  rintro e w3 ⟨rfl, h3⟩
  have H3 := (show Hid _ from below_after H2.out h3)
  clear h3 H2
  go_wp2_with fail
  refine (refBig_b _ _ _ (by decide)).mono ?_
  rintro e w4 ⟨rfl, h4⟩
  have H4 := (show Hid _ from below_after H3.out h4)
  clear h4 H3
  go_wp2_with fail
  refine (hof _).mono ?_
  rintro e w5 ⟨rfl, rfl⟩
  go_wp2_with fail
  go_ret
  exact ⟨rfl, H4.out⟩
set_option maxHeartbeats 400000 in
theorem rtPut_arg (h : Sg) (a b : UInt32) (body : ByteArray) (w : World) (hm : ¬ h.May) :
    Calls Try.prog 39 #[.int .u32 (a.toNat : Int), .int .u32 (b.toNat : Int), .agg (sgV h), .string body] w fun e w' => e = .returned (.tuple #[.string ⟨#[]⟩, .int .i64 1]) ∧ Below w.heap.size w w' := by
  go_enter Try.func39, Try.ntmps39
  go_wp2_with fail
  refine (rtCheck_no h _ hm).mono ?_
  rintro e w1 ⟨rfl, hb1⟩
  go_wp2_with fail
  exact bodyPost_ret (v := .tuple #[.string ⟨#[]⟩, .int .i64 1]) (by simp [results, Try.results39, go_sem]) rfl ⟨rfl, below_after (below1 _ _) hb1⟩
set_option maxHeartbeats 1000000 in
theorem rtPut_big (h : Sg) (a b : UInt32) (body : ByteArray) (w : World) (hm : h.May) (h1 : 2000 < 20 + h.opts.size + body.size) (h2 : body.size ≤ 1000000000000) :
    Calls Try.prog 39 #[.int .u32 (a.toNat : Int), .int .u32 (b.toNat : Int), .agg (sgV h), .string body] w fun e w' => e = .returned (.tuple #[.string ⟨#[]⟩, .int .i64 5]) ∧ Below w.heap.size w w' := by
  have hc := fun w => rtCheck_yes h w hm
  have ho : h.opts.size ≤ 40 := hm.2.2.2.2.1
  have hw : wrap64 (1980 - (h.opts.size : Int)) = 1980 - (h.opts.size : Int) := by unfold wrap64; omega
  have k1 : 1980 - (h.opts.size : Int) < (body.size : Int) := by omega
  clear hm h1
  go_enter Try.func39, Try.ntmps39
  go_wp2_with fail
  refine (hc _).mono ?_
  rintro e w1 ⟨rfl, hb1⟩
  have n1 := below_call (new_alloc w (.cells (sgV h) 29)) (size_alloc1 _ _) hb1
  obtain ⟨q1, _, z1⟩ := new_in n1
  have N1 := (show Hid _ from below_after (below1 w _) hb1)
  clear hb1 n1 hc
  go_wp2_with fail
  exact bodyPost_ret (v := .tuple #[.string ⟨#[]⟩, .int .i64 5]) (by simp [results, Try.results39, go_sem]) rfl ⟨rfl, N1.out⟩
set_option maxHeartbeats 8000000 in
theorem rtPut_ok (h : Sg) (a b : UInt32) (body : ByteArray) (w : World) (hm : h.May) (h1 : 20 + h.opts.size + body.size ≤ 2000) :
    Calls Try.prog 39 #[.int .u32 (a.toNat : Int), .int .u32 (b.toNat : Int), .agg (sgV h), .string body] w fun e w' => e = .returned (.tuple #[.string (h.put a b body), .int .i64 0]) ∧ Below w.heap.size w w' := by
  have ho : h.opts.size ≤ 40 := hm.2.2.2.2.1
  have hc := fun w => rtCheck_yes h w hm
  have hfc := sgFront_cat h
  have hbc := sgBack_cat h body
  obtain ⟨F, hF⟩ : ∃ F : ByteArray, F = ⟨h.front.toArray⟩ := ⟨_, rfl⟩
  obtain ⟨E, hE⟩ : ∃ E : ByteArray, E = ⟨(h.back body).toArray⟩ := ⟨_, rfl⟩
  have hFs : F.size = 16 := by rw [hF, ← toList_length, ofL, sgFront_length]
  have hEs0 : E.size = 2 + h.opts.size + body.size := by rw [hE, ← toList_length, ofL, sgBack_length]
  have hput : F ++ bigB (sumL (tcAhead a b (h.all body) ++ (h.front ++ h.back body))) 2 ++ E = h.put a b body := by
    rw [hF, hE]
    rfl
  have hz : sumL (tcAhead a b (F ++ (⟨#[0, 0]⟩ : ByteArray) ++ E).size ++ (F ++ (⟨#[0, 0]⟩ : ByteArray) ++ E).data.toList) = sumL (tcAhead a b (h.all body) ++ (h.front ++ h.back body)) := by
    rw [ByteArray.size_append, ByteArray.size_append, hFs, hEs0, toList_append, toList_append, hF, hE, ofL, ofL]
    rw [show 16 + (⟨#[0, 0]⟩ : ByteArray).size + (2 + h.opts.size + body.size) = h.all body from by show 16 + 2 + _ = _; unfold Sg.all; omega]
    have z := sum_zeros (tcAhead a b (h.all body) ++ h.front) (h.back body) (by rw [List.length_append, tcAhead_length, sgFront_length])
    rw [List.append_assoc, List.append_assoc, ← List.append_assoc h.front] at z
    exact z
  have hs := fun w => rtSum_any a b (F ++ (⟨#[0, 0]⟩ : ByteArray) ++ E) w (by rw [ByteArray.size_append, ByteArray.size_append, hFs, hEs0]; show 16 + 2 + _ ≤ _; omega)
  rw [hz] at hs
  rw [← hput]
  rw [← hF] at hfc
  rw [← hE] at hbc
  generalize sumL (tcAhead a b (h.all body) ++ (h.front ++ h.back body)) = z at *
  clear hz hput hF hE
  have hw : wrap64 (1980 - (h.opts.size : Int)) = 1980 - (h.opts.size : Int) := by unfold wrap64; omega
  have k1 : ¬ (1980 - (h.opts.size : Int) < (body.size : Int)) := by omega
  have hEs : E.size ≤ 2000 := by omega
  have hbs : body.size ≤ 2000 := by omega
  obtain ⟨K, hK⟩ : ∃ K : Int, 20 + (h.opts.size : Int) = K := ⟨_, rfl⟩
  rw [hK] at hfc
  have hK1 : wrap64 K = K := by unfold wrap64; omega
  have hK3 : K.tdiv 4 = K / 4 := Int.tdiv_eq_ediv_of_nonneg (by omega)
  have hK5 : wrap64 (K / 4) = K / 4 := by unfold wrap64; omega
  have hK6 : wrap64 (K / 4 * 16) = K / 4 * 16 := by unfold wrap64; omega
  have s1 := src_bd h.seq
  have s2 := src_bd h.ack
  have b1 := bigB1s
  have b2 := bigB2s
  have b4 := bigB4s
  clear hm h1 hEs0
  go_enter Try.func39, Try.ntmps39
  go_wp2_with fail
  refine (hc _).mono ?_
  rintro e w1 ⟨rfl, hb1⟩
  have n1 := below_call (new_alloc w (.cells (sgV h) 29)) (size_alloc1 _ _) hb1
  obtain ⟨q1, _, z1⟩ := new_in n1
  have N1 := (show Hid _ from n1)
  clear hb1 n1 hc
  have hcl := Cls.cell (w := w1)
  go_upto_region 5 with fail
  refine wp_region_calm (by kernel_rfl) (by kernel_rfl) (fun hne => ?_)
  repeat (go_big_quiet_step ((go_at_call 59; exact calm_of (refBig_b _ _ _ (by decide)))))
  refine wpQuiet_nil ?_
  rintro _ ⟨x, rfl⟩
  have n2 := below_call N1.out (size_alloc1 _ _) x.bel
  obtain ⟨q2, _, z2⟩ := new_in n2
  have N2 := (show Hid _ from (below1 w _).trans (n2.mono (Nat.le_succ _)))
  generalize x.val = w2 at *
  clear hne hcl q1 z1 N1 n2
  go_wp2_with fail
  refine (hs _).mono ?_
  rintro e w4 ⟨rfl, hb4⟩
  have N4 := (show Hid _ from below_after N2.out hb4)
  clear hb4 N2 q2 z2
  go_wp2_with fail
  refine (refBig_b _ _ _ (by decide)).mono ?_
  rintro e w5 ⟨rfl, hb5⟩
  have N5 := (show Hid _ from below_after N4.out hb5)
  clear hb5 N4
  go_wp2_with fail
  exact bodyPost_ret (v := .tuple #[.string (F ++ bigB z 2 ++ E), .int .i64 0]) (by simp [results, Try.results39, go_sem]) rfl ⟨rfl, N5.out⟩
end Go.Proofs.Ythfncbcnokkmiaa
