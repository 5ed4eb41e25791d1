/- Layer 7: contracts of Flush and Tick. -/
import Derived.Test.YtkfgapljphhmcaaDft9
namespace Go.Proofs.Ytkfgapljphhmcaa
open Go.RowKit Go.Maps
set_option linter.unusedVariables false
set_option maxRecDepth 20000
theorem clear_map {w : World} {mb n : Nat} {D : DataW Nat} (h : w.ownsMap Try.prog 54 ptrR mb n D) : ∃ W, (∀ ty, (Builtin.clear_ #[50] ty #[.map (some mb)]).run Try.prog w = .ok (.tuple #[]) W) ∧ W.ownsMap Try.prog 54 ptrR mb 0 (.map []) ∧ w.mapTurned W mb := by
  obtain ⟨es, clock, hb, _⟩ := h
  refine ⟨_, fun ty => by simp [Builtin.clear_, run_underlying Try.underlying50, MapKept.run_getObj_map hb, MapKept.run_setObj_map _ hb, Result.andThen]; rfl, ?_, es, clock, #[], clock, hb, rfl⟩
  exact ⟨#[], clock, (MapKept.heap_set hb).1, ⟨by simp, MapKept.stamped_empty clock, by simp⟩, Nat.le_refl _, rfl⟩
theorem Tab.flush {w w' : World} {F : Nat → Prop} {tb mb : Nat} {most ticks : Int} {blk : Lit → Option Nat} {T : Tbl} (h : TabT w F tb mb most ticks blk T) (ho : w'.ownsMap Try.prog 54 ptrR mb 0 (.map [])) (hg : w.grownBy w' (some mb)) : TabT w' F tb mb most ticks (fun _ => none) Tbl.none := by
  have c : ∀ o, w'.cell? ⟨tb, o, none⟩ = w.cell? ⟨tb, o, none⟩ := fun o => World.cell?_of_block (a := ⟨tb, o, none⟩) (hg.block tb (h.lt tb h.ft) (by simp [h.tm]))
  exact ⟨by rw [c, h.c0], by rw [c, h.c1], by rw [c, h.c2], ⟨.map [], ho, rfl, fun kl => rfl, fun kl z => rfl⟩, (fun kl B h => by cases h), fun _ _ => rfl, (fun k1 k2 B h => by cases h), h.ft, h.fm, h.tm, fun b hF => Nat.lt_of_lt_of_le (h.lt b hF) hg.size, ⟨Nat.zero_le _, h.few.2⟩, fun kl h => absurd rfl h⟩
set_option maxHeartbeats 1000000 in
theorem flush_any {w : World} {F : Nat → Prop} {tb mb : Nat} {most ticks : Int} {blk : Lit → Option Nat} {T : Tbl} (h : TabT w F tb mb most ticks blk T) :
    Calls Try.prog 14 #[.pointer (some ⟨tb, 0, none⟩)] w fun r w' => r = .returned (.tuple #[]) ∧ TabK F w tb mb most ticks Tbl.none w' := by
  have c2 := h.c2
  have hlt := h.lt tb h.ft
  obtain ⟨D, ho, _, _⟩ := h.map
  obtain ⟨W, hcl, ho', ht⟩ := clear_map ho
  have H : Hid (TabK F w tb mb most ticks Tbl.none W) := ⟨F, _, Kept.of_grown ht.grown h.fm, h.flush ho' ht.grown⟩
  clear h ho ho' ht
  go_enter Try.func14, Try.ntmps14
  go_wp2
  exact bodyPost_end (results_none Try.results14 _ _ _) rfl ⟨rfl, H.out⟩
end Go.Proofs.Ytkfgapljphhmcaa
