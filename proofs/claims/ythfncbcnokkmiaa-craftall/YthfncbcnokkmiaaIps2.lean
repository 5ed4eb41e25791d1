/- Contracts of layer 3: ipv4's Put. -/
import Derived.Test.YthfncbcnokkmiaaIps
namespace Go.Proofs.Ythfncbcnokkmiaa
open Go.RowKit
set_option linter.unusedVariables false

set_option maxHeartbeats 400000 in
theorem put_arg (h : Ip) (body : ByteArray) (w : World) (hm : ¬ h.May) :
    Calls Try.prog 30 #[.agg (ipV h), .string body] w fun e w' => e = .returned (.tuple #[.string ⟨#[]⟩, .int .i64 1]) ∧ Below w.heap.size w w' := by
  go_enter Try.func30, Try.ntmps30
  go_wp2_with fail
  refine (check_no h _ hm).mono ?_
  rintro e w1 ⟨rfl, hb1⟩
  go_wp2_with fail
  exact bodyPost_ret (v := .tuple #[.string ⟨#[]⟩, .int .i64 1]) (by simp [results, Try.results30, go_sem]) rfl ⟨rfl, below_after (below1 _ _) hb1⟩
set_option maxHeartbeats 400000 in
theorem put_big (h : Ip) (body : ByteArray) (w : World) (hm : h.May) (h1 : 2000 < body.size) (h2 : body.size ≤ 9223372036854775807) :
    Calls Try.prog 30 #[.agg (ipV h), .string body] w fun e w' => e = .returned (.tuple #[.string ⟨#[]⟩, .int .i64 5]) ∧ Below w.heap.size w w' := by
  have hc := fun w => check_yes h w hm
  clear hm
  have k1 : ¬ ((body.size : Int) ≤ 2000) := by omega
  go_enter Try.func30, Try.ntmps30
  go_wp2_with fail
  refine (hc _).mono ?_
  rintro e w1 ⟨rfl, hb1⟩
  go_wp2_with fail
  exact bodyPost_ret (v := .tuple #[.string ⟨#[]⟩, .int .i64 5]) (by simp [results, Try.results30, go_sem]) rfl ⟨rfl, below_after (below1 _ _) hb1⟩
theorem ends_cat (h : Ip) : bigB (h.src.toNat : Int) 4 ++ bigB (h.dst.toNat : Int) 4 ++ h.opts = ⟨h.ends.toArray⟩ := by
  apply ByteArray.ext
  rw [ByteArray.data_append, ByteArray.data_append]
  apply Array.ext'
  simp [Ip.ends, bigB4]
set_option maxHeartbeats 2000000 in
theorem put_ok (h : Ip) (body : ByteArray) (w : World) (hm : h.May) (h1 : body.size ≤ 2000) :
    Calls Try.prog 30 #[.agg (ipV h), .string body] w fun e w' => e = .returned (.tuple #[.string (h.put body), .int .i64 0]) ∧ Below w.heap.size w w' := by
  have hc := fun w => check_yes h w hm
  have hf := fun w => front_any h body.size w hm (by omega)
  have ho : (h.opts.size : Int) ≤ 40 := by have := hm.2.2.2.2.2.2.1; omega
  have hec := ends_cat h
  have k1 : (body.size : Int) ≤ 2000 := by omega
  obtain ⟨F, hF⟩ : ∃ F : ByteArray, F = ⟨(h.front body.size).toArray⟩ := ⟨_, rfl⟩
  obtain ⟨E, hE⟩ : ∃ E : ByteArray, E = ⟨h.ends.toArray⟩ := ⟨_, rfl⟩
  have hFs : F.size = 10 := by rw [hF]; rfl
  have hEs : E.size = 8 + h.opts.size := by rw [hE, ← toList_length, ofL, ends_length]
  have hput : F ++ bigB (sumL (F.data.toList ++ E.data.toList)) 2 ++ E ++ body = h.put body := by
    rw [hF, hE, ofL, ofL]
    rfl
  have hof := fun (b : Nat) (w : World) => of_two b 2 F E w (by omega)
  rw [← hF] at hf
  rw [← hE] at hec
  rw [← hput]
  clear hm hF hE hput
  have s1 := src_bd h.src
  have s2 := src_bd h.dst
  have b2 := bigB2s
  have b4 := bigB4s
  have hEs' : (E.size : Int) ≤ 48 := by omega
  have hEs2 : E.size ≤ 48 := by omega
  have hos : h.opts.size ≤ 40 := by omega
  clear hEs
  go_enter Try.func30, Try.ntmps30
  go_wp2_with fail
  refine (hc _).mono ?_
  rintro e w1 ⟨rfl, hb1⟩
  have n1 := below_call (new_alloc w (.cells (ipV h) 27)) (size_alloc1 _ _) hb1
  obtain ⟨q1, _, z1⟩ := new_in n1
  have N1 := (show Hid _ from n1)
  clear hb1 n1
  go_wp2_with fail
  refine (hf _).mono ?_
  rintro e w2 ⟨rfl, hb2⟩
  have n2 := below_call N1.out (size_alloc1 _ _) hb2
  obtain ⟨q2, _, z2⟩ := new_in n2
  have hcl := Cls.cell (w := w2)
  have N2 := (show Hid _ from n2)
  clear hb2 n2 q1 z1 N1
  go_upto_region 6 with fail
  refine wp_region_calm (by kernel_rfl) (by kernel_rfl) (fun hne => ?_)
  repeat (go_big_quiet_step ((go_at_call 55; exact calm_of (big_b _ _ _))))
  refine wpQuiet_nil ?_
  rintro _ ⟨x, rfl⟩
  have n3 := below_call N2.out (size_alloc1 _ _) x.bel
  have N3 := (show Hid _ from n3)
  generalize x.val = w3 at *
  clear n3 hcl hne q2 z2 N2 hc hf
  go_wp2_with fail
  refine (hof _ _ (by simp) (by simp)).mono ?_
  rintro e w4 ⟨rfl, rfl⟩
  go_wp2_with fail
  refine (big_b _ _ _).mono ?_
  rintro e w5 ⟨rfl, hb5⟩
  go_wp2_with fail
  exact bodyPost_ret (v := .tuple #[.string (F ++ bigB (sumL (F.data.toList ++ E.data.toList)) 2 ++ E ++ body), .int .i64 0]) (by simp [results, Try.results30, go_sem]) rfl ⟨rfl, below_call ((below1 w _).trans ((N3.out.alloc (Nat.le_trans (size_alloc1 _ _) N3.out.size) _).mono (Nat.le_succ _))) (Nat.le_refl _) hb5⟩
end Go.Proofs.Ythfncbcnokkmiaa
