/- A region that draws its order, whose operations read old memory alone and whose callees leave old memory as it was: one walk in the order of the text. The class of worlds: all those that are as 'w' below 'w''s own size. -/
import Derived.Test.YtepmncfgkmpccaaDoorRows
import Derived.WalkKit
import Derived.WalkSpells
import Derived.WalkLawsBesides
import Derived.Deep.QuietTactic
import Derived.BigQuiet
namespace Go.Proofs.YtepmncfgkmpccaaDoor
open Go.RowKit
set_option linter.unusedVariables false

/-- a world that is as w was, below w's own size -/
structure Cls (w : World) where
  val : World
  bel : Below w.heap.size w val
theorem Cls.ne (w : World) : Nonempty (Cls w) := ⟨⟨w, Below.refl _ _⟩⟩
theorem Cls.cell {w : World} (x : Cls w) (b o : Nat) (h : b < w.heap.size) : x.val.cell? ⟨b, o, none⟩ = w.cell? ⟨b, o, none⟩ := x.bel.cell (p := ⟨b, o, none⟩) h
theorem Cls.frozen {w : World} (x : Cls w) (b o : Nat) (h : b < w.heap.size) : x.val.frozen? ⟨b, o, none⟩ = w.frozen? ⟨b, o, none⟩ := x.bel.frozen (p := ⟨b, o, none⟩) h

/-- a block that was made, in such a world -/
theorem cls_new {w W : World} {A : Array Value} {t : TypeId} (h : Below (w.heap.size + 1) (w.alloc (.cells A t)) W) (x : Cls W) (o : Nat) : x.val.cell? ⟨w.heap.size, o, none⟩ = A[o]? := by
  have hz : w.heap.size + 1 ≤ W.heap.size := by have := h.size; simpa using this
  rw [x.cell _ _ (by omega), h.cell (by show w.heap.size < _; omega), World.cell?_alloc_new]
theorem new_in {w W : World} {A : Array Value} {t : TypeId} (h : Below (w.heap.size + 1) (w.alloc (.cells A t)) W) : (∀ o, W.cell? ⟨w.heap.size, o, none⟩ = A[o]?) ∧ (∀ o, W.frozen? ⟨w.heap.size, o, none⟩ = false) ∧ w.heap.size < W.heap.size := by
  have hz : w.heap.size + 1 ≤ W.heap.size := by have := h.size; simpa using this
  refine ⟨fun o => ?_, fun o => ?_, by omega⟩
  · rw [h.cell (by show w.heap.size < _; omega), World.cell?_alloc_new]
  · rw [h.frozen (by show w.heap.size < _; omega)]
    simp
theorem new_alloc (w : World) (o : Obj) : Below (w.heap.size + 1) (w.alloc o) (w.alloc o) := Below.refl _ _
/-- one more block, one more call -/
theorem below_call {B : Nat} {a w w' : World} (h : Below B a w) (hB : B ≤ a.heap.size) (h2 : Below w.heap.size w w') : Below B a w' := h.trans (h2.mono (Nat.le_trans hB h.size))
theorem below_more {B : Nat} {a w : World} (h : Below B a w) (hB : B ≤ a.heap.size) (o : Obj) : Below B a (w.alloc o) := h.alloc (Nat.le_trans hB h.size) o
theorem size_alloc1 (w : World) (o : Obj) : w.heap.size + 1 ≤ (w.alloc o).heap.size := by simp
theorem wp_region_calm {P : Program} {id : Nat} {Q : Exit → Act → World → Prop} {a : Act} {w : World} {l : List Oper} (hm : P.follows .mixedOrders = true) (hB : Region.lexB .any l.toArray = true)
    (h : Nonempty (Cls w) → wpQuiet P l.toArray (fun w' => ∃ x : Cls w, w' = x.val) (fun a' => ∀ w', (∃ x : Cls w, w' = x.val) → Q .normal a' w') l a) : (Code.region id l.toArray true).wp P Q a w :=
  wp_region_quiet (C := fun w' => ∃ x : Cls w, w' = x.val) hm hB ⟨⟨_, ((Below.refl _ _).drew : Below w.heap.size w w.drew)⟩, rfl⟩ (by simpa using h (Cls.ne w))

/-- a callee's contract in such a world -/
theorem calm_of {P : Program} {f : FuncId} {args : Array Value} {w : World} {x : Cls w} {v : Value}
    (h : Calls P f args x.val fun e w' => e = .returned v ∧ Below x.val.heap.size x.val w') : Calls P f args x.val fun e w'' => e = .returned v ∧ ∃ y : Cls w, w'' = y.val :=
  h.mono fun _ w' ⟨he, hb⟩ => ⟨he, ⟨w', x.bel.trans (hb.mono x.bel.size)⟩, rfl⟩
theorem calm_of_same {P : Program} {f : FuncId} {args : Array Value} {w : World} {x : Cls w} {v : Value}
    (h : Calls P f args x.val fun e w' => e = .returned v ∧ x.val = w') : Calls P f args x.val fun e w'' => e = .returned v ∧ ∃ y : Cls w, w'' = y.val :=
  h.mono fun _ w' ⟨he, hb⟩ => ⟨he, x, hb.symm⟩
end Go.Proofs.YtepmncfgkmpccaaDoor
