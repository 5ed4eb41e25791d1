/- Layer 7: a new entry's cells. -/
import Derived.Test.YtkfgapljphhmcaaDft2
namespace Go.Proofs.Ytkfgapljphhmcaa
open Go.RowKit Go.Maps
set_option linter.unusedVariables false
set_option maxRecDepth 100000
def entZ : Array Value := ⟨List.replicate 2000 (.int .u8 0) ++ (List.replicate 2000 (.bool false) ++ [.int .i64 0, .int .i64 0])⟩
theorem entZ_l (o : Nat) : entZ[o]? = (List.replicate 2000 (Value.int .u8 0) ++ (List.replicate 2000 (.bool false) ++ [.int .i64 0, .int .i64 0]))[o]? := by
  unfold entZ
  exact List.getElem?_toArray
theorem entZ_b (o : Nat) (h : o < 2000) : entZ[o]? = some (.int .u8 0) := by
  rw [entZ_l]
  rw [List.getElem?_append_left (by rw [List.length_replicate]; exact h), List.getElem?_replicate, if_pos h]
theorem entZ_t (o : Nat) (h : o < 2000) : entZ[2000 + o]? = some (.bool false) := by
  rw [entZ_l]
  rw [List.getElem?_append_right (by rw [List.length_replicate]; omega), List.length_replicate, show 2000 + o - 2000 = o from by omega, List.getElem?_append_left (by rw [List.length_replicate]; exact h), List.getElem?_replicate, if_pos h]
theorem entZ_n (o : Nat) (h : o < 2) : entZ[4000 + o]? = some (.int .i64 0) := by
  rw [entZ_l]
  rw [List.getElem?_append_right (by rw [List.length_replicate]; omega), List.length_replicate, List.getElem?_append_right (by rw [List.length_replicate]; omega), List.length_replicate, show 4000 + o - 2000 - 2000 = o from by omega]
  match o, h with
  | 0, _ => rfl
  | 1, _ => rfl
theorem ent_new (w : World) (t : TypeId) : EntAt (w.alloc (.cells entZ t)) w.heap.size Ent.zero := by
  refine ⟨fun o ho => ?_, fun o ho => ?_, ?_, ?_, fun o => by simp, by simp⟩
  · rw [World.cell?_alloc_new, entZ_b o ho]; rfl
  · rw [World.cell?_alloc_new, entZ_t o ho]; rfl
  · rw [World.cell?_alloc_new, entZ_n 0 (by omega)]; rfl
  · rw [World.cell?_alloc_new, entZ_n 1 (by omega)]; rfl
theorem built_ent : Try.prog.built 59 [] = some entZ := by kernel_rfl
end Go.Proofs.Ytkfgapljphhmcaa
