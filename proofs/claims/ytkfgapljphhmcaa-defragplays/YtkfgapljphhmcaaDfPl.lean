/- Layer 7, no program: what came of a datagram (bytes by their places), and what a part does to it. -/
import Derived.Test.YtkfgapljphhmcaaIpPl
import Derived.Maps.RangeWalk
import Derived.Maps.OwnSet
import Derived.Maps.Ext
namespace Go.Proofs.Ytkfgapljphhmcaa
open Go.RowKit
set_option linter.unusedVariables false
/-- what came of a datagram so far -/
structure Ent where
  bs : Nat → UInt8
  th : Nat → Bool
  tot : Nat
  age : Int
def Ent.zero : Ent := ⟨fun _ => 0, fun _ => false, 0, 0⟩
/-- there are t bytes in all -/
def Ent.endAt (e : Ent) (t : Nat) : Ent := { e with tot := t, th := fun p => e.th p && decide (p < t) }
def Ent.bars (e : Ent) (p : Nat) : Bool := e.th p || (decide (0 < e.tot) && decide (e.tot ≤ p))
def Ent.put (e : Ent) (p : Nat) (x : UInt8) : Ent := { e with bs := fun q => if q = p then x else e.bs q, th := fun q => if q = p then true else e.th q }
def Ent.lay (e : Ent) (p : Nat) (x : UInt8) : Ent := if e.bars p then e else e.put p x
/-- k bytes of s are laid down from off on -/
def Ent.layN (e : Ent) (off : Nat) (s : ByteArray) : Nat → Ent
  | 0 => e
  | k + 1 => (e.layN off s k).lay (off + k) (s.data.toList.getD k 0)
def Ent.start (e : Ent) (off : Nat) (more : Bool) (n : Nat) : Ent := if more = false ∧ e.tot = 0 then e.endAt (off + n) else e
def Ent.take (e : Ent) (off : Nat) (more : Bool) (s : ByteArray) : Ent := (e.start off more s.size).layN off s s.size
def Ent.whole (e : Ent) : Bool := decide (0 < e.tot) && (List.range e.tot).all e.th
def Ent.text (e : Ent) : ByteArray := ⟨((List.range e.tot).map e.bs).toArray⟩
def Ent.count (e : Ent) : Nat := ((List.range 2000).filter e.th).length
theorem Ent.lay_tot (e : Ent) (p : Nat) (x : UInt8) : (e.lay p x).tot = e.tot := by unfold Ent.lay; split <;> rfl
theorem Ent.lay_age (e : Ent) (p : Nat) (x : UInt8) : (e.lay p x).age = e.age := by unfold Ent.lay; split <;> rfl
theorem Ent.layN_tot (e : Ent) (off : Nat) (s : ByteArray) (k : Nat) : (e.layN off s k).tot = e.tot := by
  induction k with
  | zero => rfl
  | succ k ih => rw [Ent.layN, Ent.lay_tot, ih]
theorem Ent.layN_age (e : Ent) (off : Nat) (s : ByteArray) (k : Nat) : (e.layN off s k).age = e.age := by
  induction k with
  | zero => rfl
  | succ k ih => rw [Ent.layN, Ent.lay_age, ih]
theorem Ent.take_age (e : Ent) (off : Nat) (more : Bool) (s : ByteArray) : (e.take off more s).age = e.age := by
  unfold Ent.take Ent.start
  rw [Ent.layN_age]
  split <;> rfl
theorem Ent.take_tot (e : Ent) (off : Nat) (more : Bool) (s : ByteArray) : (e.take off more s).tot = if more = false ∧ e.tot = 0 then off + s.size else e.tot := by
  unfold Ent.take Ent.start
  rw [Ent.layN_tot]
  split <;> rfl

/-- the entry lies in block B -/
structure EntAt (w : World) (B : Nat) (e : Ent) : Prop where
  b : ∀ o, o < 2000 → w.cell? ⟨B, o, none⟩ = some (bv (e.bs o))
  t : ∀ o, o < 2000 → w.cell? ⟨B, 2000 + o, none⟩ = some (.bool (e.th o))
  n : w.cell? ⟨B, 4000, none⟩ = some (.int .i64 (e.tot : Int))
  a : w.cell? ⟨B, 4001, none⟩ = some (.int .i64 e.age)
  f : ∀ o, w.frozen? ⟨B, o, none⟩ = false
  lt : B < w.heap.size
theorem EntAt.block {w w' : World} {B : Nat} {e : Ent} (h : EntAt w B e) (hb : w'.heap[B]? = w.heap[B]?) : EntAt w' B e := by
  have c : ∀ o, w'.cell? ⟨B, o, none⟩ = w.cell? ⟨B, o, none⟩ := fun o => World.cell?_of_block (a := ⟨B, o, none⟩) hb
  have f : ∀ o, w'.frozen? ⟨B, o, none⟩ = w.frozen? ⟨B, o, none⟩ := fun o => World.frozen?_of_block (a := ⟨B, o, none⟩) hb
  refine ⟨fun o ho => by rw [c, h.b o ho], fun o ho => by rw [c, h.t o ho], by rw [c, h.n], by rw [c, h.a], fun o => by rw [f, h.f], ?_⟩
  have := h.lt
  rcases Nat.lt_or_ge B w'.heap.size with g | g
  · exact g
  · rw [Array.getElem?_eq_none g, Array.getElem?_eq_getElem this] at hb
    cases hb
theorem EntAt.below {w w' : World} {B : Nat} {e : Ent} (h : EntAt w B e) (hb : Below w.heap.size w w') : EntAt w' B e := h.block (hb.block B h.lt)
theorem neA {B o p : Nat} (h : o ≠ p) : (⟨B, o, none⟩ : Addr) ≠ ⟨B, p, none⟩ := fun e => h (by injection e)
theorem EntAt.setB {w : World} {B : Nat} {e : Ent} (h : EntAt w B e) (p : Nat) (hp : p < 2000) (x : UInt8) : EntAt (w.setCell ⟨B, p, none⟩ (bv x)) B { e with bs := fun q => if q = p then x else e.bs q } := by
  have hc := h.b p hp
  refine ⟨fun o ho => ?_, fun o ho => ?_, ?_, ?_, fun o => by rw [World.frozen?_setCell]; exact h.f o, by simpa using h.lt⟩
  · by_cases e1 : o = p
    · subst e1
      rw [World.cell?_setCell_same _ _ _ hc]
      simp
    · rw [World.cell?_setCell_other _ _ _ _ (neA (fun h => e1 h.symm)), h.b o ho]
      simp [e1]
  · rw [World.cell?_setCell_other _ _ _ _ (neA (by omega)), h.t o ho]
  · rw [World.cell?_setCell_other _ _ _ _ (neA (by omega)), h.n]
  · rw [World.cell?_setCell_other _ _ _ _ (neA (by omega)), h.a]
theorem EntAt.setT {w : World} {B : Nat} {e : Ent} (h : EntAt w B e) (p : Nat) (hp : p < 2000) (x : Bool) : EntAt (w.setCell ⟨B, 2000 + p, none⟩ (.bool x)) B { e with th := fun q => if q = p then x else e.th q } := by
  have hc := h.t p hp
  refine ⟨fun o ho => ?_, fun o ho => ?_, ?_, ?_, fun o => by rw [World.frozen?_setCell]; exact h.f o, by simpa using h.lt⟩
  · rw [World.cell?_setCell_other _ _ _ _ (neA (by omega)), h.b o ho]
  · by_cases e1 : o = p
    · subst e1
      rw [World.cell?_setCell_same _ _ _ hc]
      simp
    · rw [World.cell?_setCell_other _ _ _ _ (neA (by omega)), h.t o ho]
      simp [e1]
  · rw [World.cell?_setCell_other _ _ _ _ (neA (by omega)), h.n]
  · rw [World.cell?_setCell_other _ _ _ _ (neA (by omega)), h.a]
theorem EntAt.setN {w : World} {B : Nat} {e : Ent} (h : EntAt w B e) (t : Nat) : EntAt (w.setCell ⟨B, 4000, none⟩ (.int .i64 (t : Int))) B { e with tot := t } := by
  refine ⟨fun o ho => ?_, fun o ho => ?_, ?_, ?_, fun o => by rw [World.frozen?_setCell]; exact h.f o, by simpa using h.lt⟩
  · rw [World.cell?_setCell_other _ _ _ _ (neA (by omega)), h.b o ho]
  · rw [World.cell?_setCell_other _ _ _ _ (neA (by omega)), h.t o ho]
  · rw [World.cell?_setCell_same _ _ _ h.n]
  · rw [World.cell?_setCell_other _ _ _ _ (neA (by omega)), h.a]
theorem EntAt.setA {w : World} {B : Nat} {e : Ent} (h : EntAt w B e) (t : Int) : EntAt (w.setCell ⟨B, 4001, none⟩ (.int .i64 t)) B { e with age := t } := by
  refine ⟨fun o ho => ?_, fun o ho => ?_, ?_, ?_, fun o => by rw [World.frozen?_setCell]; exact h.f o, by simpa using h.lt⟩
  · rw [World.cell?_setCell_other _ _ _ _ (neA (by omega)), h.b o ho]
  · rw [World.cell?_setCell_other _ _ _ _ (neA (by omega)), h.t o ho]
  · rw [World.cell?_setCell_other _ _ _ _ (neA (by omega)), h.n]
  · rw [World.cell?_setCell_same _ _ _ h.a]
end Go.Proofs.Ytkfgapljphhmcaa
