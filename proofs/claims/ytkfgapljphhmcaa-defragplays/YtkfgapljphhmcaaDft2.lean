/- Layer 7: contracts of New, Len, faultOf. -/
import Derived.Test.YtkfgapljphhmcaaDft
namespace Go.Proofs.Ytkfgapljphhmcaa
open Go.RowKit Go.Maps
set_option linter.unusedVariables false
set_option maxRecDepth 20000
theorem tab_new {w W : World} {most ticks : Int} (hm : 1 ≤ most ∧ most ≤ 32) (ht : 1 ≤ ticks ∧ ticks ≤ 100000) (hW : W = (w.alloc (.map #[] 0)).alloc (.cells #[.int .i64 most, .int .i64 ticks, .map (some w.heap.size)] 52)) :
    Tab W (fun b => b = w.heap.size ∨ b = w.heap.size + 1) (w.heap.size + 1) w.heap.size most ticks (fun _ => none) (fun _ => none) 0 := by
  have hz : (w.alloc (.map #[] 0)).heap.size = w.heap.size + 1 := by simp
  have hc : ∀ o, W.cell? ⟨w.heap.size + 1, o, none⟩ = (#[.int .i64 most, .int .i64 ticks, .map (some w.heap.size)] : Array Value)[o]? := fun o => by
    rw [hW, ← hz, World.cell?_alloc_new]
  refine ⟨by rw [hc]; rfl, by rw [hc]; rfl, by rw [hc]; rfl, ⟨.map [], ?_, rfl, fun kl => rfl, fun kl z => rfl⟩, (fun kl B h => by cases h), fun _ _ => rfl, (fun k1 k2 B h => by cases h), .inr rfl, .inl rfl, by omega, fun b hb => ?_, ⟨by omega, hm, ht⟩, fun kl h => absurd rfl h⟩
  · rw [hW]
    exact (World.ownsMap_made w _ _ _).alloc _
  · have : W.heap.size = w.heap.size + 2 := by rw [hW]; simp
    omega
set_option maxHeartbeats 1000000 in
theorem new_any (most ticks : Int) (w : World) :
    Calls Try.prog 8 #[.int .i64 most, .int .i64 ticks] w fun r w' => r = .returned (.pointer (some ⟨w.heap.size + 1, 0, none⟩)) ∧ Below w.heap.size w w' ∧
      Tab w' (fun b => b = w.heap.size ∨ b = w.heap.size + 1) (w.heap.size + 1) w.heap.size (max 1 (min most 32)) (max 1 (min ticks 100000)) (fun _ => none) (fun _ => none) 0 := by
  have h1 := fun w => within_any most 1 32 w
  have h2 := fun w => within_any ticks 1 100000 w
  have H := (show Hid _ from (fun (W : World) (e : W = _) => tab_new (w := w) (most := max 1 (min most 32)) (ticks := max 1 (min ticks 100000)) (by omega) (by omega) e))
  obtain ⟨m, hm⟩ : ∃ m, m = max 1 (min most 32) := ⟨_, rfl⟩
  obtain ⟨t, ht⟩ : ∃ t, t = max 1 (min ticks 100000) := ⟨_, rfl⟩
  rw [← hm] at h1 H
  rw [← ht] at h2 H
  rw [← hm, ← ht]
  clear hm ht
  have hmm := @run_makeMap Try.prog
  go_enter Try.func8, Try.ntmps8
  go_wp2_with fail
  refine (h1 _).mono ?_
  rintro r w1 ⟨rfl, rfl⟩
  go_wp2_with fail
  refine (h2 _).mono ?_
  rintro r w1 ⟨rfl, rfl⟩
  clear h1 h2
  go_wp2
  go_ret
  refine ⟨by simp, ?_, H.out _ rfl⟩
  exact ((Below.refl _ _).alloc (Nat.le_refl _) _).alloc (by simp) _
set_option maxHeartbeats 1000000 in
theorem len_any {w : World} {F : Nat → Prop} {tb mb : Nat} {most ticks : Int} {blk : Lit → Option Nat} {S : Lit → Option Ent} {cnt : Nat} (h : Tab w F tb mb most ticks blk S cnt) :
    Calls Try.prog 17 #[.pointer (some ⟨tb, 0, none⟩)] w fun r w' => r = .returned (.int .i64 (cnt : Int)) ∧ w = w' := by
  have c2 := h.c2
  have hlt := h.lt tb h.ft
  obtain ⟨D, ho, hz, _⟩ := h.map
  clear h
  go_enter Try.func17, Try.ntmps17
  go_wp2_with (first | (at_len; refine wpList_len_own _ rfl _ 50 rfl 54 55 Try.underlying50 _ mb cnt D rfl ho ?_) | go_in)
  go_ret
  exact ⟨rfl, rfl⟩
def brokenB (i : Ip) (n : Nat) : Bool := decide (n = 0) || decide (i.off < 0) || (i.more && decide (n % 8 ≠ 0))
def faultC (most : Int) (known : Bool) (cnt : Nat) (i : Ip) (n : Nat) : Int := if brokenB i n then 3 else if 2000 - i.off < (n : Int) then 5 else if known = false ∧ most ≤ (cnt : Int) then 10 else 0
/-- what the map says at a key, in whatever world that has the map -/
theorem look_at {w : World} {mb cnt : Nat} {D : DataW Nat} {blk : Lit → Option Nat} (ho : w.ownsMap Try.prog 54 ptrR mb cnt D) (hr : Reads D blk) {i : Ip} (hk : keyOf Try.prog 54 (.agg (nmV i)) = some (nmL i)) :
    (Instr.lookup 50 (.map (some mb)) (.agg (nmV i)) false).run Try.prog w = .ok (.pointer ((blk (nmL i)).map fun B => ⟨B, 0, none⟩)) w := by
  obtain ⟨v, ps, h1, h2⟩ := ho.lookup nmLaw Try.underlying50 (z := .pointer none) (by kernel_rfl) ptrR_none hk
  rw [h1]
  rw [hr.2] at h2
  rcases ptrR_inv h2 with ⟨rfl, h3⟩ | ⟨B, rfl, h3⟩
  · cases hb : blk (nmL i) with
    | none => rfl
    | some B => rw [hb] at h3; cases h3
  · cases hb : blk (nmL i) with
    | none => rw [hb] at h3; cases h3
    | some B' => rw [hb] at h3; cases h3; rfl
theorem owns_cls {w : World} {mb cnt : Nat} {D : DataW Nat} (ho : w.ownsMap Try.prog 54 ptrR mb cnt D) (x : Cls w) : x.val.ownsMap Try.prog 54 ptrR mb cnt D := by
  have hlt := ho.lt
  obtain ⟨es, cl, h1, h2⟩ := ho
  exact ⟨es, cl, (x.bel.block mb hlt).trans h1, h2⟩
theorem two_new {w W : World} {A Z : Array Value} {s t : TypeId} (h : Below ((w.alloc (.cells A s)).alloc (.cells Z t)).heap.size ((w.alloc (.cells A s)).alloc (.cells Z t)) W) :
    (∀ o, W.cell? ⟨w.heap.size, o, none⟩ = A[o]?) ∧ w.heap.size < W.heap.size ∧ (∀ o, W.cell? ⟨w.heap.size + 1, o, none⟩ = Z[o]?) ∧ w.heap.size + 1 < W.heap.size := by
  have hz : (w.alloc (.cells A s)).heap.size = w.heap.size + 1 := by simp
  have hz2 : ((w.alloc (.cells A s)).alloc (.cells Z t)).heap.size = w.heap.size + 2 := by simp
  have := h.size
  refine ⟨fun o => ?_, by omega, fun o => ?_, by omega⟩
  · rw [h.cell (by show w.heap.size < _; omega), World.cell?_alloc_old _ _ _ (by show w.heap.size ≠ _; omega), World.cell?_alloc_new]
  · rw [h.cell (by show w.heap.size + 1 < _; omega), ← hz, World.cell?_alloc_new]
set_option maxHeartbeats 2000000 in
theorem faultOf_any {w : World} {F : Nat → Prop} {tb mb : Nat} {most ticks : Int} {blk : Lit → Option Nat} {S : Lit → Option Ent} {cnt : Nat} (h : Tab w F tb mb most ticks blk S cnt) (i : Ip) (hk : keyOf Try.prog 54 (.agg (nmV i)) = some (nmL i)) (s : ByteArray) (hs : s.size ≤ 1000000000) (hio : i.off ≤ 9223372036854775807) :
    Calls Try.prog 23 #[.pointer (some ⟨tb, 0, none⟩), .agg (nmV i), .agg (ipV i), .string s] w fun r w' => r = .returned (.int .i64 (faultC most (blk (nmL i)).isSome cnt i s.size)) ∧ Below w.heap.size w w' := by
  have hbr := fun w => isBroken_any i s hs w
  have hlt := h.lt tb h.ft
  have H := (show Hid _ from h)
  have HK := (show Hid _ from hk)
  clear h hk
  obtain ⟨P, hP⟩ : ∃ P, blk (nmL i) = P := ⟨_, rfl⟩
  have HP := (show Hid _ from hP)
  rw [hP]
  clear hP
  obtain ⟨b, hb⟩ : ∃ b, b = brokenB i s.size := ⟨_, rfl⟩
  unfold brokenB at hb
  rw [← hb] at hbr
  go_enter Try.func23, Try.ntmps23
  go_wp2_with fail
  refine (hbr _).mono ?_
  rintro r w1 ⟨rfl, hb1⟩
  clear hbr
  have hB1 := below_after (below_more (below1 w (.cells (nmV i) 54)) (Nat.le_refl _) (.cells (ipV i) 29)) hb1
  obtain ⟨q1, z1, q2, z2⟩ := two_new hb1
  have HT := (show Hid _ from H.out.below hB1)
  have HB := (show Hid _ from hB1)
  clear hb1 hB1 H
  have hbb : Hid (b = brokenB i s.size) := by rw [hb]; rfl
  clear hb
  cases b
  · have ho0 : 0 ≤ i.off := by
      have := hbb.out
      unfold brokenB at this
      simp at this
      omega
    have n0 : ((s.size : Nat) : Int) ≤ 1000000000 := by omega
    by_cases hbig : 2000 - i.off < (s.size : Int)
    · have d1 : decide (2000 - i.off < (s.size : Int)) = true := by simp [hbig]
      go_wp2
      go_ret
      exact ⟨ret_int (by unfold faultC; rw [← hbb.out]; simp [hbig]), HB.out⟩
    · have d1 : decide (2000 - i.off < (s.size : Int)) = false := by simp; omega
      obtain ⟨D, ho, hz, hr⟩ := HT.out.map
      have c0 := HT.out.c0
      have c2 := HT.out.c2
      have hlt1 := HT.out.lt tb HT.out.ft
      have hlk := fun (x : Cls w1) => look_at (owns_cls ho x) hr HK.out
      have hln := fun (x : Cls w1) (ty : TypeId) => (owns_cls ho x).len (t := 50) (e := 55) Try.underlying50 ty
      rw [hz] at hln
      have hcl := Cls.cell (w := w1)
      rw [HP.out] at hlk
      clear ho hz hr HK
      go_upto_region 5 with fail
      refine wp_region_calm (by kernel_rfl) (by kernel_rfl) (fun hne => ?_)
      cases P with
      | some B =>
        repeat (go_big_quiet_step (fail))
        refine wpQuiet_nil ?_
        rintro _ ⟨x, rfl⟩
        go_wp2
        go_ret
        exact ⟨ret_int (by unfold faultC; rw [← hbb.out]; simp [hbig]), HB.out.trans (x.bel.mono HB.out.size)⟩
      | none =>
        by_cases hfull : most ≤ (cnt : Int)
        · have d2 : decide (most ≤ (cnt : Int)) = true := by simp [hfull]
          repeat (go_big_quiet_step (fail))
          refine wpQuiet_nil ?_
          rintro _ ⟨x, rfl⟩
          go_wp2
          go_ret
          exact ⟨ret_int (by unfold faultC; rw [← hbb.out]; simp [hbig, hfull]), HB.out.trans (x.bel.mono HB.out.size)⟩
        · have d2 : decide (most ≤ (cnt : Int)) = false := by simp; omega
          repeat (go_big_quiet_step (fail))
          refine wpQuiet_nil ?_
          rintro _ ⟨x, rfl⟩
          go_wp2
          go_ret
          exact ⟨ret_int (by unfold faultC; rw [← hbb.out]; simp; rw [if_neg (by omega), if_neg (by omega)]), HB.out.trans (x.bel.mono HB.out.size)⟩
  · go_wp2
    go_ret
    exact ⟨ret_int (by unfold faultC; rw [← hbb.out]; rfl), HB.out⟩
end Go.Proofs.Ytkfgapljphhmcaa
