/- Contracts of the document's own layer 3: Put. -/
import Derived.Test.YthfncbcnokkmiaaRefIp
namespace Go.Proofs.Ythfncbcnokkmiaa
open Go.RowKit
set_option linter.unusedVariables false
set_option maxHeartbeats 400000 in
theorem refPut_arg (h : Ip) (body : ByteArray) (w : World) (hm : ¬ h.May) :
    Calls Try.prog 36 #[.agg (ipV h), .string body] w fun e w' => e = .returned (.tuple #[.string ⟨#[]⟩, .int .i64 1]) ∧ Below w.heap.size w w' := by
  go_enter Try.func36, Try.ntmps36
  go_wp2_with fail
  refine (refCheck_no h _ hm).mono ?_
  rintro e w1 ⟨rfl, hb1⟩
  go_wp2_with fail
  exact bodyPost_ret (v := .tuple #[.string ⟨#[]⟩, .int .i64 1]) (by simp [results, Try.results36, go_sem]) rfl ⟨rfl, below_after (below1 _ _) hb1⟩
set_option maxHeartbeats 400000 in
theorem refPut_big (h : Ip) (body : ByteArray) (w : World) (hm : h.May) (h1 : 2000 < body.size) (h2 : body.size ≤ 9223372036854775807) :
    Calls Try.prog 36 #[.agg (ipV h), .string body] w fun e w' => e = .returned (.tuple #[.string ⟨#[]⟩, .int .i64 5]) ∧ Below w.heap.size w w' := by
  have hc := fun w => refCheck_yes h w hm
  clear hm
  have k1 : ¬ ((body.size : Int) ≤ 2000) := by omega
  go_enter Try.func36, Try.ntmps36
  go_wp2_with fail
  refine (hc _).mono ?_
  rintro e w1 ⟨rfl, hb1⟩
  go_wp2_with fail
  exact bodyPost_ret (v := .tuple #[.string ⟨#[]⟩, .int .i64 5]) (by simp [results, Try.results36, go_sem]) rfl ⟨rfl, below_after (below1 _ _) hb1⟩
set_option maxHeartbeats 8000000 in
theorem refPut_ok (h : Ip) (body : ByteArray) (w : World) (hm : h.May) (h1 : body.size ≤ 2000) :
    Calls Try.prog 36 #[.agg (ipV h), .string body] w fun e w' => e = .returned (.tuple #[.string (h.put body), .int .i64 0]) ∧ Below w.heap.size w w' := by
  have hc := fun w => refCheck_yes h w hm
  have ho : (h.opts.size : Int) ≤ 40 := by have := hm.2.2.2.2.2.2.1; omega
  have hec := ends_cat h
  have k1 : (body.size : Int) ≤ 2000 := by omega
  obtain ⟨E, hE⟩ : ∃ E : ByteArray, E = ⟨h.ends.toArray⟩ := ⟨_, rfl⟩
  obtain ⟨F, hF⟩ : ∃ F : ByteArray, F = ⟨(h.front body.size).toArray⟩ := ⟨_, rfl⟩
  have hFs : F.size = 10 := by rw [hF]; rfl
  have hEs : E.size = 8 + h.opts.size := by rw [hE, ← toList_length, ofL, ends_length]
  have hz : sumL (F ++ (⟨#[0, 0]⟩ : ByteArray) ++ E).data.toList = sumL (F.data.toList ++ E.data.toList) := by
    rw [toList_append, toList_append, List.append_assoc]
    exact sum_zeros _ _ (by rw [toList_length, hFs])
  have hput : F ++ bigB (sumL (F.data.toList ++ E.data.toList)) 2 ++ E ++ body = h.put body := by
    rw [hF, hE, ofL, ofL]
    rfl
  have hof := fun w => refOf_any (F ++ (⟨#[0, 0]⟩ : ByteArray) ++ E) w (by rw [ByteArray.size_append, ByteArray.size_append, hFs, hEs]; show 10 + 2 + _ ≤ _; omega)
  have hz' : 65535 - Pl.fld (Pl.wt true (F ++ (⟨#[0, 0]⟩ : ByteArray) ++ E).data.toList) = sumL (F.data.toList ++ E.data.toList) := hz
  rw [hz'] at hof
  obtain ⟨m1, m2, m3, m4, m5, m6, m7, m8⟩ := hm
  obtain ⟨K, hK⟩ : ∃ K : Int, 20 + (h.opts.size : Int) = K := ⟨_, rfl⟩
  obtain ⟨n, hn⟩ : ∃ n : Int, h.off / 8 = n := ⟨_, rfl⟩
  obtain ⟨c, hcu⟩ : ∃ c : Int, h.cut = c := ⟨_, rfl⟩
  have hq : h.off.tdiv 8 = n := by rw [Int.tdiv_eq_ediv_of_nonneg m5.1]; exact hn
  have hn1 : wrap64 n = n := by unfold wrap64; omega
  have hn2 : wrap64 (n + 16384) = n + 16384 := by unfold wrap64; omega
  obtain ⟨c1, hC1⟩ : ∃ c1 : Int, c1 = n + (if h.keep = true then 16384 else 0) := ⟨_, rfl⟩
  have hb1 : 0 ≤ c1 ∧ c1 < 32768 := by rw [hC1]; split <;> omega
  have hc1 : wrap64 c1 = c1 := by unfold wrap64; omega
  have hc2 : wrap64 (c1 + 8192) = c1 + 8192 := by unfold wrap64; omega
  have HC1 := (show Hid _ from hC1)
  have HCW : Hid (c = c1 + (if h.more = true then 8192 else 0)) := by show c = _; rw [← hcu, hC1, ← hn]; rfl
  clear hb1 hC1
  have hcat : bigB (64 + K / 4) 1 ++ bigB h.tos 1 ++ bigB (K + (body.size : Int)) 2 ++ bigB h.id 2 ++ bigB c 2 ++ bigB h.ttl 1 ++ bigB h.proto 1 = F := by
    rw [hF]
    unfold Ip.front
    rw [hK, hcu]
    exact front_cat _ _ _ _ _ _ _ _ _ _
  have hK1 : wrap64 K = K := by unfold wrap64; omega
  have hK2 : wrap64 (K + (body.size : Int)) = K + (body.size : Int) := by unfold wrap64; omega
  have hK3 : K.tdiv 4 = K / 4 := Int.tdiv_eq_ediv_of_nonneg (by omega)
  have hK5 : wrap64 (K / 4) = K / 4 := by unfold wrap64; omega
  have hK6 : wrap64 (64 + K / 4) = 64 + K / 4 := by unfold wrap64; omega
  rw [← hE] at hec
  rw [← hput]
  clear hE hF hput hz hz' hcu m1 m2 m3 m4 m5 m6 m7 m8
  have s1 := src_bd h.src
  have s2 := src_bd h.dst
  have b1 := bigB1s
  have b2 := bigB2s
  have b4 := bigB4s
  have hEs2 : E.size ≤ 48 := by omega
  have hos : h.opts.size ≤ 40 := by omega
  clear hEs hn
  go_enter Try.func36, Try.ntmps36
  go_wp2_with fail
  refine (hc _).mono ?_
  rintro e w1 ⟨rfl, hb1⟩
  have n1 := below_call (new_alloc w (.cells (ipV h) 27)) (size_alloc1 _ _) hb1
  obtain ⟨q1, _, z1⟩ := new_in n1
  have N1 := (show Hid _ from n1)
  clear hb1 n1 hc
  go_upto_if 26 with fail
  go_cut [7] from 8 to 28 (fun s7 wx => s7 = .int .i64 c1 ∧ wx = w1)
  case first =>
    cases hk : h.keep
    all_goals
      go_wp2_with fail
      go_meet
      refine ⟨?_, rfl⟩
      simp [HC1.out, hk, hn1, hn2]
  case rest =>
  obtain ⟨rfl, rfl⟩ := hcut
  go_upto_if 30 with fail
  go_cut [7] from 8 to 32 (fun s7 wx => s7 = .int .i64 c ∧ wx = wc)
  case first =>
    cases hmo : h.more
    all_goals
      go_wp2_with fail
      go_meet
      refine ⟨?_, rfl⟩
      simp [HCW.out, hmo, hc2]
  case rest =>
  obtain ⟨rfl, rfl⟩ := hcut
  rename World => wd
  clear HCW HC1 hn1 hn2 hc1 hc2 hq
  have hcl := Cls.cell (w := wd)
  go_upto_region 11 with fail
  refine wp_region_calm (by kernel_rfl) (by kernel_rfl) (fun hne => ?_)
  repeat (go_big_quiet_step ((go_at_call 59; exact calm_of (refBig_b _ _ _ (by decide)))))
  refine wpQuiet_nil ?_
  rintro _ ⟨x, rfl⟩
  have n2 := below_call N1.out (size_alloc1 _ _) x.bel
  obtain ⟨q2, _, z2⟩ := new_in n2
  have N2 := (show Hid _ from n2)
  generalize x.val = w2 at *
  clear hne hcl q1 z1 N1 n2
  have hcl := Cls.cell (w := w2)
  go_upto_region 12 with fail
  refine wp_region_calm (by kernel_rfl) (by kernel_rfl) (fun hne => ?_)
  repeat (go_big_quiet_step ((go_at_call 59; exact calm_of (refBig_b _ _ _ (by decide)))))
  refine wpQuiet_nil ?_
  rintro _ ⟨y, rfl⟩
  have n3 := below_call N2.out (size_alloc1 _ _) y.bel
  have N3 := (show Hid _ from n3)
  generalize y.val = w3 at *
  clear n3 hcl hne q2 z2 N2
  go_wp2_with fail
  refine (hof _).mono ?_
  rintro e w4 ⟨rfl, rfl⟩
  go_wp2_with fail
  refine (refBig_b _ _ _ (by decide)).mono ?_
  rintro e w5 ⟨rfl, hb5⟩
  go_wp2_with fail
  exact bodyPost_ret (v := .tuple #[.string (F ++ bigB (sumL (F.data.toList ++ E.data.toList)) 2 ++ E ++ body), .int .i64 0]) (by simp [results, Try.results36, go_sem]) rfl ⟨rfl, below_call ((below1 w _).trans (N3.out.mono (Nat.le_succ _))) (Nat.le_refl _) hb5⟩
end Go.Proofs.Ythfncbcnokkmiaa
