/- Layer 7: contract of entryOf. -/
import Derived.Test.YtkfgapljphhmcaaDft3
namespace Go.Proofs.Ytkfgapljphhmcaa
open Go.RowKit Go.Maps
set_option linter.unusedVariables false
set_option maxRecDepth 20000
theorem zero_ent (w : World) : (zeroValue 59).run Try.prog w = .ok (.agg entZ) w := by kernel_rfl
set_option maxHeartbeats 2000000 in
theorem entryOf_known {w : World} {F : Nat → Prop} {tb mb : Nat} {most ticks : Int} {blk : Lit → Option Nat} {S : Lit → Option Ent} {cnt : Nat} (h : Tab w F tb mb most ticks blk S cnt) (i : Ip) (hk : keyOf Try.prog 54 (.agg (nmV i)) = some (nmL i)) (B : Nat) (hB : blk (nmL i) = some B) :
    Calls Try.prog 24 #[.pointer (some ⟨tb, 0, none⟩), .agg (nmV i)] w fun r w' => r = .returned (.pointer (some ⟨B, 0, none⟩)) ∧ Below w.heap.size w w' := by
  have hlt := h.lt tb h.ft
  have hb1 := below1 w (.cells (nmV i) 54)
  have h1 := h.below hb1
  have q1 : ∀ o, (w.alloc (.cells (nmV i) 54)).cell? ⟨w.heap.size, o, none⟩ = (nmV i)[o]? := fun o => World.cell?_alloc_new _ _ _ _
  have z1 : w.heap.size < (w.alloc (.cells (nmV i) 54)).heap.size := by simp
  obtain ⟨D, ho, hz, hr⟩ := h1.map
  have hlk := fun (x : Cls (w.alloc (.cells (nmV i) 54))) => look_at (owns_cls ho x) hr hk
  rw [hB] at hlk
  have c2 := h1.c2
  have hlt1 := h1.lt tb h1.ft
  have hcl := Cls.cell (w := w.alloc (.cells (nmV i) 54))
  have HB := (show Hid _ from hb1)
  clear h h1 ho hz hr hk hb1
  go_enter Try.func24, Try.ntmps24
  go_upto_region 1 with fail
  refine wp_region_calm (by kernel_rfl) (by kernel_rfl) (fun hne => ?_)
  repeat (go_big_quiet_step (fail))
  refine wpQuiet_nil ?_
  rintro _ ⟨x, rfl⟩
  go_wp2
  go_ret
  exact ⟨rfl, HB.out.trans (x.bel.mono HB.out.size)⟩
set_option maxHeartbeats 2000000 in
theorem entryOf_new {w : World} {F : Nat → Prop} {tb mb : Nat} {most ticks : Int} {blk : Lit → Option Nat} {S : Lit → Option Ent} {cnt : Nat} (h : Tab w F tb mb most ticks blk S cnt) (i : Ip) (hk : keyOf Try.prog 54 (.agg (nmV i)) = some (nmL i)) (hB : blk (nmL i) = none) (hc : (cnt : Int) < most) :
    Calls Try.prog 24 #[.pointer (some ⟨tb, 0, none⟩), .agg (nmV i)] w fun r w' => ∃ B, r = .returned (.pointer (some ⟨B, 0, none⟩)) ∧ w.heap.size ≤ B ∧ w.grownBy w' (some mb) ∧
      Tab w' (fun b => F b ∨ b = B) tb mb most ticks (upd blk (nmL i) (some B)) (upd S (nmL i) (some Ent.zero)) (cnt + 1) := by
  have hlt := h.lt tb h.ft
  have hb1 := below1 w (.cells (nmV i) 54)
  have h1 := h.below hb1
  have q1 : ∀ o, (w.alloc (.cells (nmV i) 54)).cell? ⟨w.heap.size, o, none⟩ = (nmV i)[o]? := fun o => World.cell?_alloc_new _ _ _ _
  have z1 : w.heap.size < (w.alloc (.cells (nmV i) 54)).heap.size := by simp
  obtain ⟨D, ho, hz, hr⟩ := h1.map
  have hlk := fun (x : Cls (w.alloc (.cells (nmV i) 54))) => look_at (owns_cls ho x) hr hk
  rw [hB] at hlk
  have c2 := h1.c2
  have hlt1 := h1.lt tb h1.ft
  have hcl := Cls.cell (w := w.alloc (.cells (nmV i) 54))
  have HB := (show Hid _ from hb1)
  have H1 := (show Hid _ from h1)
  have HK := (show Hid _ from hk)
  have hbd := zero_ent
  clear h h1 ho hz hr hk hb1
  go_enter Try.func24, Try.ntmps24
  go_upto_region 1 with fail
  refine wp_region_calm (by kernel_rfl) (by kernel_rfl) (fun hne => ?_)
  repeat (go_big_quiet_step (fail))
  refine wpQuiet_nil ?_
  rintro _ ⟨x, rfl⟩
  have q2 : ∀ o, x.val.cell? ⟨w.heap.size, o, none⟩ = (nmV i)[o]? := fun o => by rw [x.cell _ _ z1, q1 o]
  have H2 := (show Hid _ from H1.out.below x.bel)
  have HB2 := (show Hid _ from HB.out.trans (x.bel.mono HB.out.size))
  have z2 := Nat.lt_of_lt_of_le z1 x.bel.size
  generalize x.val = w2 at *
  clear hcl hlk q1 c2 z1 H1 HB hne hlt1
  go_upto_region 4 with fail
  have hb3 := below1 w2 (.cells entZ 59)
  have h3 := H2.out.below hb3
  have he3 := ent_new w2 59
  have q3 : ∀ o, (w2.alloc (.cells entZ 59)).cell? ⟨w.heap.size, o, none⟩ = (nmV i)[o]? := fun o => by rw [hb3.cell (by show w.heap.size < _; omega), q2 o]
  have hnF : ¬ F w2.heap.size := fun hF => absurd (H2.out.lt _ hF) (Nat.lt_irrefl _)
  have z3 : w2.heap.size < (w2.alloc (.cells entZ 59)).heap.size := by simp
  have HB3 := (show Hid _ from HB2.out.trans (hb3.mono HB2.out.size))
  have H3 := (show Hid _ from h3)
  have HE3 := (show Hid _ from he3)
  obtain ⟨D, ho, hz, hr⟩ := h3.map
  generalize w2.alloc (.cells entZ 59) = w3 at *
  clear h3 he3 hb3 H2 HB2 q2
  have c2 := H3.out.c2
  have hlt3 := H3.out.lt tb H3.out.ft
  have z4 : w.heap.size < w3.heap.size := by omega
  have hcl := Cls.cell (w := w3)
  refine wp_region_calm_tail 6 (by kernel_rfl) (by kernel_rfl) (fun hne => ?_)
  simp only [List.take_succ_cons, List.take_zero, List.drop_succ_cons, List.drop_zero]
  repeat (go_big_quiet_step (fail))
  refine wpQuiet_nil ?_
  rintro _ ⟨x, rfl⟩
  have ho4 := owns_cls ho x
  have H4 := (show Hid _ from H3.out.below x.bel)
  have HE4 := (show Hid _ from HE3.out.below x.bel)
  have HB4 := (show Hid _ from HB3.out.trans (x.bel.mono HB3.out.size))
  have few := H3.out.few.1
  go_wp2_with (first | (at_mapUpdate; refine wpList_mapUpdate_own _ rfl _ _ _ 50 rfl 54 55 nmLaw Try.underlying50 _ mb cnt D rfl ho4 (by unfold maxLen; omega) _ _ (nmL i) rfl rfl HK.out (.held w2.heap.size) [] (ptrR_some _) ?_; intro w5 ho5 hg5) | go_in)
  go_ret
  have T5 := H4.out.put (nmL i) (nmLaw.key HK.out) hB hc ho4 hz hr w2.heap.size hnF HE4.out ho5 hg5
  refine ⟨w2.heap.size, rfl, by omega, ?_, T5⟩
  exact World.grownBy.trans ⟨HB4.out.os, HB4.out.tape, HB4.out.output, HB4.out.size, fun k hk _ => HB4.out.block k hk⟩ hg5
end Go.Proofs.Ytkfgapljphhmcaa
