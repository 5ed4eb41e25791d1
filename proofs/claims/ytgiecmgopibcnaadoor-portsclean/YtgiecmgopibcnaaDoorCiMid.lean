/- Layer 9: a set that is made, net by net: what stands meanwhile. -/
import Derived.Test.YtgiecmgopibcnaaDoorCiApp
import Derived.Test.YtgiecmgopibcnaaDoorRefCi2
namespace Go.Proofs.YtgiecmgopibcnaaDoor
open Go.RowKit
set_option linter.unusedVariables false
set_option maxRecDepth 20000
structure Mid (w x : World) (B1 B2 B3 base : Nat) (no : Bool) (sl v : Value) : Prop where
  bel : Below w.heap.size w x
  l1 : w.heap.size ≤ B1
  l12 : B1 < B2
  l23 : B2 < B3
  l3 : B3 < base
  lb : base ≤ x.heap.size
  c10 : x.cell? ⟨B1, 0, none⟩ = some (.bool no)
  c11 : x.cell? ⟨B1, 1, none⟩ = some sl
  c20 : x.cell? ⟨B2, 0, none⟩ = some (.bool false)
  c21 : x.cell? ⟨B2, 1, none⟩ = some (.slice none 0 0)
  c30 : x.cell? ⟨B3, 0, none⟩ = some (.bool no)
  c31 : x.cell? ⟨B3, 1, none⟩ = some v
  f2 : ∀ o, x.frozen? ⟨B2, o, none⟩ = false
  f3 : ∀ o, x.frozen? ⟨B3, o, none⟩ = false
theorem grown_of {x y : World} (hb : Below x.heap.size x y) : x.grownBy y none := ⟨hb.os, hb.tape, hb.output, hb.size, fun k hk _ => hb.block k hk⟩
theorem Mid.grown {w x y : World} {B1 B2 B3 base : Nat} {no : Bool} {sl v : Value} {row : Option Nat} (h : Mid w x B1 B2 B3 base no sl v) (hg : x.grownBy y row) (hr : ∀ k, row = some k → base ≤ k) : Mid w y B1 B2 B3 base no sl v := by
  have := h.l12
  have := h.l23
  have := h.l3
  have := h.lb
  have k : ∀ b o, b < base → y.cell? ⟨b, o, none⟩ = x.cell? ⟨b, o, none⟩ := fun b o hb => World.cell?_of_block (a := ⟨b, o, none⟩) (hg.block b (by omega) (fun e => by have := hr b e.symm; omega))
  have f : ∀ b o, b < base → y.frozen? ⟨b, o, none⟩ = x.frozen? ⟨b, o, none⟩ := fun b o hb => World.frozen?_of_block (a := ⟨b, o, none⟩) (hg.block b (by omega) (fun e => by have := hr b e.symm; omega))
  exact ⟨h.bel.grown hg h.bel.size (fun q hq => by have := hr q hq; have := h.l1; omega), h.l1, h.l12, h.l23, h.l3, Nat.le_trans h.lb hg.size,
    (k _ _ (by omega)).trans h.c10, (k _ _ (by omega)).trans h.c11, (k _ _ (by omega)).trans h.c20, (k _ _ (by omega)).trans h.c21, (k _ _ (by omega)).trans h.c30, (k _ _ (by omega)).trans h.c31,
    fun o => (f _ _ (by omega)).trans (h.f2 o), fun o => (f _ _ (by omega)).trans (h.f3 o)⟩
theorem Mid.below {w x y : World} {B1 B2 B3 base : Nat} {no : Bool} {sl v : Value} (h : Mid w x B1 B2 B3 base no sl v) (hb : Below x.heap.size x y) : Mid w y B1 B2 B3 base no sl v := h.grown (grown_of hb) (fun _ e => by cases e)
theorem Mid.set {w x : World} {B1 B2 B3 base : Nat} {no : Bool} {sl v : Value} (h : Mid w x B1 B2 B3 base no sl v) (v' : Value) : Mid w (x.setCell ⟨B3, 1, none⟩ v') B1 B2 B3 base no sl v' := by
  have := h.l12
  have := h.l23
  have := h.l3
  have := h.l1
  have k : ∀ b o, b ≠ B3 → (x.setCell ⟨B3, 1, none⟩ v').cell? ⟨b, o, none⟩ = x.cell? ⟨b, o, none⟩ := fun b o hb => World.cell?_of_block (a := ⟨b, o, none⟩) (Below.heap_setCell x ⟨B3, 1, none⟩ v' b hb)
  have f : ∀ b o, b ≠ B3 → (x.setCell ⟨B3, 1, none⟩ v').frozen? ⟨b, o, none⟩ = x.frozen? ⟨b, o, none⟩ := fun b o hb => World.frozen?_of_block (a := ⟨b, o, none⟩) (Below.heap_setCell x ⟨B3, 1, none⟩ v' b hb)
  refine ⟨h.bel.setCell (p := ⟨B3, 1, none⟩) (by show w.heap.size ≤ B3; omega) v', h.l1, h.l12, h.l23, h.l3, by rw [World.size_setCell]; exact h.lb, (k _ _ (by omega)).trans h.c10, (k _ _ (by omega)).trans h.c11, (k _ _ (by omega)).trans h.c20, (k _ _ (by omega)).trans h.c21, ?_, ?_, fun o => (f _ _ (by omega)).trans (h.f2 o), ?_⟩
  · refine (World.cell?_setCell_other (w := x) (a := ⟨B3, 1, none⟩) (b := ⟨B3, 0, none⟩) (v := v') (by simp)).trans ?_
    exact h.c30
  · exact World.cell?_setCell_same' x ⟨B3, 1, none⟩ v' (by rw [h.c31]; rfl)
  · exact fun o => (World.frozen?_setCell _ _ _ _).trans (h.f3 o)
theorem ntC_one (L : List Nt) : ∀ u ∈ L.flatMap ntC, u.oneCell' = true := by
  intro u hu
  obtain ⟨x, hx, hu⟩ := List.mem_flatMap.1 hu
  simp only [ntC, List.mem_cons, List.not_mem_nil, or_false] at hu
  rcases hu with rfl | rfl <;> rfl
theorem ntC_at (L : List Nt) (j : Nat) (n : Nt) (h : L[j]? = some n) : (L.flatMap ntC)[j * 2]? = some (.int .u32 (n.1.toNat : Int)) ∧ (L.flatMap ntC)[j * 2 + 1]? = some (.int .i64 n.2) := by
  induction L generalizing j with
  | nil => cases h
  | cons x L ih =>
    cases j with
    | zero =>
      simp at h
      subst h
      exact ⟨rfl, rfl⟩
    | succ j =>
      have h' : L[j]? = some n := by simpa using h
      obtain ⟨h1, h2⟩ := ih j h'
      rw [List.flatMap_cons, show (j + 1) * 2 = j * 2 + 1 + 1 by omega]
      exact ⟨h1, h2⟩
theorem row_nets {x : World} {base : Nat} {e : TypeId} {v : Value} {R : List Nt} (h : x.ownsRow base e 2 v R.length (R.flatMap ntC)) : ∃ p c, v = .slice p R.length c ∧ Nets x p c R := by
  rcases h.2 with ⟨h1, h2⟩ | ⟨g, cap, cur, h1, h2, h3, h4, h5⟩
  · exact ⟨none, 0, by rw [h1, h2], by omega, .inl (List.eq_nil_of_length_eq_zero h2)⟩
  · refine ⟨_, _, h1, h4, .inr ⟨g, 0, rfl, (Array.getElem?_eq_some_iff.1 h3).1, fun j n hj => ?_⟩⟩
    obtain ⟨k1, k2⟩ := ntC_at R j n hj
    have hc := h.cells (show v.ownBlock = some g by rw [h1]; rfl)
    have e1 : ∀ q, (⟨g, 0, none⟩ : Addr).add q = ⟨g, q, none⟩ := fun q => by
      rcases Nat.eq_zero_or_pos q with e | e
      · subst e; simp [Addr.add]
      · simp [Addr.add, Nat.ne_of_gt e]
    have g1 := hc _ _ k1
    have g2 := hc _ _ k2
    rw [e1] at g1 g2
    rw [Nat.zero_add]
    exact ⟨g1, g2⟩
/-- the world in which a net is put behind -/
structure Rd9 (w x : World) (B1 B2 B3 base : Nat) (no : Bool) (sl v : Value) (B5 : Nat) (a b : Int) : Prop where
  mid : Mid w x B1 B2 B3 base no sl v
  e0 : x.cell? ⟨B5, 0, none⟩ = some (.int .u32 a)
  e1 : x.cell? ⟨B5, 1, none⟩ = some (.int .i64 b)
theorem Rd9.grown {w x y : World} {B1 B2 B3 base : Nat} {no : Bool} {sl v : Value} {B5 : Nat} {a b : Int} {row : Option Nat} (h : Rd9 w x B1 B2 B3 base no sl v B5 a b) (hg : x.grownBy y row) (hr : ∀ k, row = some k → base ≤ k ∧ k ≠ B5) : Rd9 w y B1 B2 B3 base no sl v B5 a b :=
  ⟨h.mid.grown hg (fun k hk => (hr k hk).1), hg.cell h.e0 (fun e => (hr B5 e.symm).2 rfl), hg.cell h.e1 (fun e => (hr B5 e.symm).2 rfl)⟩
theorem ciRow_block {w w' : World} {b e c : Nat} {v : Value} {n : Nat} {xs : List Value} (h : w.ownsRow b e c v n xs) (hb : ∀ g, v.ownBlock = some g → w'.heap[g]? = w.heap[g]?) : w'.ownsRow b e c v n xs := by
  refine ⟨h.1, ?_⟩
  rcases h.2 with h2 | ⟨g, cap, cur, h1, h2, h3, h4⟩
  · exact .inl h2
  · exact .inr ⟨g, cap, cur, h1, h2, (hb g (by rw [h1]; rfl)).trans h3, h4⟩
theorem ciRow_below {x y : World} {base : Nat} {e : TypeId} {s n : Nat} {v : Value} {xs : List Value} (h : x.ownsRow base e s v n xs) (hb : Below x.heap.size x y) : y.ownsRow base e s v n xs   := ciRow_block h (fun g hg => hb.block g (h.lt g hg).2)
theorem ciRow_set {x : World} {base B : Nat} {e : TypeId} {s n : Nat} {v : Value} {xs : List Value} (h : x.ownsRow base e s v n xs) (hB : B < base) (o : Nat) (u : Value) : (x.setCell ⟨B, o, none⟩ u).ownsRow base e s v n xs :=
  ciRow_block h (fun g hg => Below.heap_setCell x ⟨B, o, none⟩ u g (by have := (h.lt g hg).1; show g ≠ B; omega))
end Go.Proofs.YtgiecmgopibcnaaDoor
