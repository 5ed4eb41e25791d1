/- Blocks of a call's own: three boxes one behind another; a new one. -/
import Derived.Test.YthfncbcnokkmiaaNets
namespace Go.Proofs.Ythfncbcnokkmiaa
open Go.RowKit
set_option linter.unusedVariables false
theorem Own.new {w W : World} (hb : Below w.heap.size w W) (A : Array Value) (t : TypeId) : Own w (W.alloc (.cells A t)) W.heap.size A :=
  ⟨fun o => World.cell?_alloc_new _ _ _ _, fun o => by simp, by simp, hb.size, hb.alloc hb.size _⟩
theorem Own.other {w W : World} {b : Nat} {A : Array Value} (h : Own w W b A) (c k : Nat) (v : Value) (hne : b ≠ c) (hc : w.heap.size ≤ c) : Own w (W.setCell ⟨c, k, none⟩ v) b A := by
  refine ⟨fun o => ?_, fun o => by simpa using h.f o, by simpa using h.z, h.lo, h.hb.setCell (p := ⟨c, k, none⟩) hc _⟩
  rw [World.cell?_setCell_other _ _ _ _ (by simp <;> omega)]
  exact h.q o
/-- three boxes -/
structure Own3 (w W : World) (A B C : Array Value) : Prop where
  a : Own w W w.heap.size A
  b : Own w W (w.heap.size + 1) B
  c : Own w W (w.heap.size + 1 + 1) C
theorem Own3.below {w W W' : World} {A B C : Array Value} (h : Own3 w W A B C) (hb : Below W.heap.size W W') : Own3 w W' A B C := ⟨h.a.below hb, h.b.below hb, h.c.below hb⟩
theorem Own3.alloc {w W : World} {A B C : Array Value} (h : Own3 w W A B C) (o : Obj) : Own3 w (W.alloc o) A B C := ⟨h.a.alloc o, h.b.alloc o, h.c.alloc o⟩
theorem Own3.hb {w W : World} {A B C : Array Value} (h : Own3 w W A B C) : Below w.heap.size w W := h.a.hb
theorem Own3.facts {w W : World} {A B C : Array Value} (h : Own3 w W A B C) : ((∀ o, W.cell? ⟨w.heap.size, o, none⟩ = A[o]?) ∧ w.heap.size < W.heap.size) ∧ ((∀ o, W.cell? ⟨w.heap.size + 1, o, none⟩ = B[o]?) ∧ w.heap.size + 1 < W.heap.size) ∧ (∀ o, W.cell? ⟨w.heap.size + 1 + 1, o, none⟩ = C[o]?) ∧ w.heap.size + 1 + 1 < W.heap.size := ⟨⟨h.a.q, h.a.z⟩, ⟨h.b.q, h.b.z⟩, h.c.q, h.c.z⟩
theorem Own3.setA {w W : World} {A B C : Array Value} (h : Own3 w W A B C) (k : Nat) (v : Value) (hk : k < A.size) : Own3 w (W.setCell ⟨w.heap.size, k, none⟩ v) (A.set k v hk) B C :=
  ⟨h.a.set k v hk, h.b.other _ k v (by omega) (Nat.le_refl _), h.c.other _ k v (by omega) (Nat.le_refl _)⟩
theorem own_three (w : World) (A B C : Array Value) (s t u : TypeId) : Own3 w (((w.alloc (.cells A s)).alloc (.cells B t)).alloc (.cells C u)) A B C := by
  have a := ((Own.new (Below.refl _ w) A s).alloc (.cells B t)).alloc (.cells C u)
  have b := (Own.new ((Below.refl _ w).alloc (Nat.le_refl _) (.cells A s)) B t).alloc (.cells C u)
  have c := Own.new (w := w) (W := (w.alloc (.cells A s)).alloc (.cells B t)) (((Below.refl _ w).alloc (Nat.le_refl _) (.cells A s)).alloc (by simp) (.cells B t)) C u
  simp only [World.size_alloc] at b c
  exact ⟨a, b, c⟩
end Go.Proofs.Ythfncbcnokkmiaa
