/- Layer 7: contracts of a part's looks (within, isPart, isBroken), and of take, count. -/
import Derived.Test.YtkfgapljphhmcaaDfs2
namespace Go.Proofs.Ytkfgapljphhmcaa
open Go.RowKit
set_option linter.unusedVariables false
set_option maxRecDepth 20000
set_option maxHeartbeats 400000 in
theorem within_any (v l m : Int) (w : World) :
    Calls Try.prog 20 #[.int .i64 v, .int .i64 l, .int .i64 m] w fun r w' => r = .returned (.int .i64 (max l (min v m))) ∧ w = w' := by
  go_enter Try.func20, Try.ntmps20
  go_wp2
  all_goals go_ret
  all_goals exact ⟨ret_int (by simp only [Int.max_def, Int.min_def]; repeat' split; all_goals omega), rfl⟩
set_option maxHeartbeats 400000 in
theorem isPart_any (i : Ip) (w : World) :
    Calls Try.prog 22 #[.agg (ipV i)] w fun r w' => r = .returned (.bool (i.more || decide (0 < i.off))) ∧ Below w.heap.size w w' := by
  obtain ⟨m, hm⟩ : ∃ m, m = i.more := ⟨_, rfl⟩
  go_enter Try.func22, Try.ntmps22
  unfold ipV
  rw [← hm]
  clear hm
  cases m
  all_goals go_wp2
  all_goals go_ret
  all_goals exact ⟨by simp, below1 _ _⟩
set_option maxHeartbeats 1000000 in
theorem isBroken_any (i : Ip) (s : ByteArray) (hs : s.size ≤ 1000000000) (w : World) :
    Calls Try.prog 31 #[.agg (ipV i), .string s] w fun r w' => r = .returned (.bool (decide (s.size = 0) || decide (i.off < 0) || (i.more && decide (s.size % 8 ≠ 0)))) ∧ Below w.heap.size w w' := by
  obtain ⟨m, hm⟩ : ∃ m, m = i.more := ⟨_, rfl⟩
  obtain ⟨n, hn⟩ : ∃ n, s.size = n := ⟨_, rfl⟩
  have ht : ((n : Int).tmod 8) = ((n % 8 : Nat) : Int) := by rw [Int.tmod_eq_emod_of_nonneg (by omega)]; omega
  rw [hn] at hs
  obtain ⟨q, hq⟩ : ∃ q : Nat, q = n % 8 := ⟨_, rfl⟩
  have hq8 : q < 8 := by omega
  rw [← hq] at ht
  unfold ipV
  rw [← hm, hn, ← hq]
  clear hm hq
  go_enter Try.func31, Try.ntmps31
  by_cases n0 : n = 0
  · have d0 : ((n : Int) == 0) = true := beq_iff_eq.2 (by omega)
    go_wp2
    go_ret
    exact ⟨by simp [n0], below1 _ _⟩
  · have d0 : ((n : Int) == 0) = false := by simp; omega
    by_cases o0 : i.off < 0
    · have d1 : decide (i.off < 0) = true := by simp [o0]
      go_wp2
      go_ret
      exact ⟨by simp [o0], below1 _ _⟩
    · have d1 : decide (i.off < 0) = false := by simp; omega
      cases m
      · go_wp2
        go_ret
        exact ⟨by simp <;> omega, below1 _ _⟩
      · by_cases q0 : q = 0
        · have d2 : ((q : Int) != 0) = false := by simp; omega
          go_wp2
          go_ret
          exact ⟨by simp <;> omega, below1 _ _⟩
        · have d2 : ((q : Int) != 0) = true := by simp; omega
          go_wp2
          go_ret
          exact ⟨by simp <;> omega, below1 _ _⟩
theorem byte_at (s : ByteArray) (k : Nat) (hk : k < s.size) : s.data.toList.getD k 0 = s[k] := by
  rw [List.getD_eq_getElem?_getD, List.getElem?_eq_getElem (by rw [Array.length_toList]; exact hk)]
  rfl
set_option maxHeartbeats 2000000 in
theorem take_any (w : World) (B : Nat) (e : Ent) (i : Ip) (off : Nat) (s : ByteArray) (h : EntAt w B e) (ho : i.off = (off : Int)) (hs : off + s.size ≤ 2000) (ht : e.tot ≤ 2000) :
    Calls Try.prog 25 #[.pointer (some ⟨B, 0, none⟩), .agg (ipV i), .string s] w fun r w' => r = .returned (.tuple #[]) ∧ EntAt w' B (e.take off i.more s) ∧ w.grownBy w' (some B) := by
  obtain ⟨m, hm⟩ : ∃ m, m = i.more := ⟨_, rfl⟩
  unfold ipV
  rw [← hm, ho]
  clear hm ho
  have c2 := h.n
  have hlt := h.lt
  have H := (show Hid _ from h)
  clear h
  go_enter Try.func25, Try.ntmps25
  cases m
  by_cases e0 : e.tot = 0
  rw [e0] at c2
  have hen := end_any _ B e (off + s.size) (H.out.below (below1 w (.cells #[.int .i64 i.tos, .int .i64 i.id, .bool false, .bool i.keep, .int .i64 (off : Int), .int .i64 i.ttl, .int .i64 i.proto, .int .u32 (i.src.toNat : Int), .int .u32 (i.dst.toNat : Int), .string i.opts] 29))) hs
  rw [Int.natCast_add] at hen
  go_wp2_with fail
  refine hen.mono ?_
  rintro r W1 ⟨rfl, he1, hg1, hz1⟩
  clear hen
  have hz1' : W1.heap.size = w.heap.size + 1 := by rw [hz1]; simp
  have hc4 : W1.cell? ⟨w.heap.size, 4, none⟩ = some (.int .i64 (off : Int)) := by
    rw [World.cell?_of_block (hg1.block w.heap.size (by simp) (by simp; omega)), World.cell?_alloc_new]; rfl
  have HF := (show Hid _ from ((World.grownBy_alloc w (.cells #[.int .i64 i.tos, .int .i64 i.id, .bool false, .bool i.keep, .int .i64 (off : Int), .int .i64 i.ttl, .int .i64 i.proto, .int .u32 (i.src.toNat : Int), .int .u32 (i.dst.toNat : Int), .string i.opts] 29) (some B)).trans hg1))
  obtain ⟨E1, hE1⟩ : ∃ E1, E1 = e.endAt (off + s.size) := ⟨_, rfl⟩
  rw [← hE1] at he1
  have HX : Hid (E1 = e.start off false s.size) := by rw [hE1]; show _ = _; unfold Ent.start; rw [if_pos ⟨rfl, e0⟩]
  have ht1 : E1.tot ≤ 2000 := by rw [hE1]; exact hs
  have HE := (show Hid _ from he1)
  clear hE1 he1 hg1 hz1
  go_wp2_with fail
  rotate_left 1
  have d0 : ((e.tot : Int) == 0) = false := by simp; omega
  go_wp2_with fail
  try simp only [d0]
  clear d0
  try (rename ((e.tot : Int) == 0) = false => hq; clear hq)
  obtain ⟨W1, hW1⟩ : ∃ W1, W1 = w.alloc (.cells #[.int .i64 i.tos, .int .i64 i.id, .bool false, .bool i.keep, .int .i64 (off : Int), .int .i64 i.ttl, .int .i64 i.proto, .int .u32 (i.src.toNat : Int), .int .u32 (i.dst.toNat : Int), .string i.opts] 29) := ⟨_, rfl⟩
  have HE : Hid (EntAt W1 B e) := by rw [hW1]; exact H.out.below (below1 _ _)
  have hz1' : W1.heap.size = w.heap.size + 1 := by rw [hW1]; simp
  have hc4 : W1.cell? ⟨w.heap.size, 4, none⟩ = some (.int .i64 (off : Int)) := by rw [hW1, World.cell?_alloc_new]; rfl
  have HF : Hid (w.grownBy W1 (some B)) := by rw [hW1]; exact World.grownBy_alloc _ _ _
  obtain ⟨E1, hE1⟩ : ∃ E1, E1 = e := ⟨_, rfl⟩
  rw [← hE1] at HE
  have HX : Hid (E1 = e.start off false s.size) := by rw [hE1]; show _ = _; unfold Ent.start; rw [if_neg (fun h => e0 h.2)]
  have ht1 : E1.tot ≤ 2000 := by rw [hE1]; exact ht
  rw [← hW1]
  clear hW1 hE1
  rotate_left 1
  go_wp2_with fail
  obtain ⟨W1, hW1⟩ : ∃ W1, W1 = w.alloc (.cells #[.int .i64 i.tos, .int .i64 i.id, .bool true, .bool i.keep, .int .i64 (off : Int), .int .i64 i.ttl, .int .i64 i.proto, .int .u32 (i.src.toNat : Int), .int .u32 (i.dst.toNat : Int), .string i.opts] 29) := ⟨_, rfl⟩
  have HE : Hid (EntAt W1 B e) := by rw [hW1]; exact H.out.below (below1 _ _)
  have hz1' : W1.heap.size = w.heap.size + 1 := by rw [hW1]; simp
  have hc4 : W1.cell? ⟨w.heap.size, 4, none⟩ = some (.int .i64 (off : Int)) := by rw [hW1, World.cell?_alloc_new]; rfl
  have HF : Hid (w.grownBy W1 (some B)) := by rw [hW1]; exact World.grownBy_alloc _ _ _
  obtain ⟨E1, hE1⟩ : ∃ E1, E1 = e := ⟨_, rfl⟩
  rw [← hE1] at HE
  have HX : Hid (E1 = e.start off true s.size) := by rw [hE1]; show _ = _; unfold Ent.start; rw [if_neg (fun h => Bool.noConfusion h.1)]
  have ht1 : E1.tot ≤ 2000 := by rw [hE1]; exact ht
  rw [← hW1]
  clear hW1 hE1
  rotate_left 1
  all_goals
    clear c2 H
    have hz1 : w.heap.size < W1.heap.size := by omega
    go_loopw [26] (fun t wr => ∃ k : Nat, k ≤ s.size ∧ t = .int .i64 (k : Int) ∧ Hid (EntAt wr B (E1.layN off s k)) ∧ Hid (W1.grownBy wr (some B))) (fun t _ => s.size - (intOf t).toNat)
    case atStart => exact ⟨0, by omega, rfl, HE, show Hid _ from grown_refl _ _⟩
    case round =>
      obtain ⟨k, hk, rfl, HK, HG⟩ := hrel
      by_cases hlt2 : k < s.size
      · have hb4 : wr.cell? ⟨w.heap.size, 4, none⟩ = some (.int .i64 (off : Int)) := by
          rw [World.cell?_of_block (HG.out.block w.heap.size hz1 (by simp; omega))]; exact hc4
        have hzr : w.heap.size < wr.heap.size := Nat.lt_of_lt_of_le hz1 HG.out.size
        have hcl := Cls.cell (w := wr)
        clear hc4
        go_upto_region 6 with fail
        refine wp_region_calm_tail 8 (by kernel_rfl) (by kernel_rfl) (fun hne => ?_)
        simp only [List.take_succ_cons, List.take_zero, List.drop_succ_cons, List.drop_zero]
        repeat (go_big_quiet_step (fail))
        refine wpQuiet_nil ?_
        rintro _ ⟨x, rfl⟩
        clear hne hcl
        have hla := lay_any x.val B (E1.layN off s k) (off + k) s[k] (HK.out.below x.bel) (by omega) (by rw [Ent.layN_tot]; exact ht1)
        rw [Int.natCast_add] at hla
        have HG2 : Hid (W1.grownBy x.val (some B)) := HG.out.trans ⟨x.bel.os, x.bel.tape, x.bel.output, x.bel.size, fun k hk _ => x.bel.block k hk⟩
        generalize x.val = w2 at *
        clear HK hb4 HG
        go_wp2_with fail
        refine hla.mono ?_
        rintro r w3 ⟨rfl, he3, hg3, hz3⟩
        clear hla
        have HE3 : Hid (EntAt w3 B (E1.layN off s (k + 1))) := by
          show EntAt w3 B ((E1.layN off s k).lay (off + k) (s.data.toList.getD k 0))
          rw [byte_at s k hlt2]
          exact he3
        have HG3 := (show Hid _ from HG2.out.trans hg3)
        clear he3 hg3 hz3 HG2
        go_wp2_with fail
        go_roundw
        case rel => exact ⟨k + 1, by omega, by go_num, HE3, HG3⟩
        case measure => simp [intOf]; omega
      · obtain rfl : k = s.size := by omega
        go_wp2_with fail
        refine bodyPost_end (results_none Try.results25 _ _ _) rfl ⟨rfl, ?_, HF.out.trans HG.out⟩
        unfold Ent.take
        rw [← HX.out]
        exact HK.out
end Go.Proofs.Ytkfgapljphhmcaa
