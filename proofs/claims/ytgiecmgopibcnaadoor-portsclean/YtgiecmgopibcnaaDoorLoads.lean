/- A struct loaded whole from wherever it lies; an element of an argument's slice of structs. -/
import Derived.Test.YtgiecmgopibcnaaDoorLift
import Derived.Deep.MidRow
namespace Go.Proofs.YtgiecmgopibcnaaDoor
open Go.ChangeShapes Go.WideShapes Go.ChangeAt Go.RowKit
set_option linter.unusedVariables false
/-- the cells of a struct lie at an address -/
def CellsAt (w : World) (a : Addr) (cs : List Value) : Prop := ∀ j v, cs[j]? = some v → w.cell? (a.add j) = some v
theorem CellsAt.below {w w' : World} {a : Addr} {cs : List Value} (h : CellsAt w a cs) (hb : Below w.heap.size w w') : CellsAt w' a cs := fun j v hj => by
  have h1 := h j v hj
  rw [hb.cell (World.block_lt_of_cell? w _ h1)]
  exact h1
theorem CellsAt.below_of {w w' : World} {a : Addr} {cs : List Value} (h : CellsAt w a cs) (hb : Below w.heap.size w w') : CellsAt w' a cs := h.below hb
theorem run_loadAt_list {P : Program} (w : World) (a : Addr) (ty : TypeId) (cs : List Value) (d : TypeDesc) (hc : CellsAt w a cs) (hu : P.underlying ty = some d) (hd : d.isRow = true) (hi : (P.info? ty).map (·.size) = some cs.length) :
    (Instr.loadAt ty (.pointer (some a))).run P w = .ok (.agg cs.toArray) w := by
  have hl : (loadCells a cs.length).run P w = .ok cs.toArray w := run_loadCells_list (P := P) w a cs hc
  cases hq : P.info? ty with
  | none => simp [hq] at hi
  | some i =>
    have hs : i.size = cs.length := by simpa [hq] using hi
    have hagg : (isAgg ty).run P w = .ok true w := by
      unfold isAgg
      rw [Sem.run_bind, run_underlying hu w]
      cases d <;> simp_all
    have hv : (loadVar ty a).run P w = .ok (.agg cs.toArray) w := by simp [loadVar, Sem.run_bind, hagg, sizeOf, typeInfo, hq, hs, hl]
    simp only [Instr.loadAt, Instr.sureAddr, Sem.run_bind, Sem.run_pure, Result.andThen_ok, hv]
theorem wpList_lda {P : Program} {ops : Array Oper} {rest : List Oper} {op : Oper} {a : Act} {w : World} {Q : Exit → Act → World → Prop} {ty : TypeId} {b : Addr} {v : Value} (hl : (Instr.loadAt ty (.pointer (some b))).run P w = .ok v w) (hgd : op.guard = none) (x : Operand) (ho : op.op = .load ty x) (hx : a.eval x = .pointer (some b))
    (h : wpList P ops Q rest (a.put op.dst v) w) : wpList P ops Q (op :: rest) a w :=
  wpList_plain hgd fun _ hK => by
    unfold Oper.wp execOp
    simp only [ho, hx, hl, Sem.run_bind, Result.andThen_ok, Sem.run_pure]
    exact hK _ _ h
/-- an element of a slice of structs, where F tells of an element's cells what it is -/
theorem open_elems {P : Program} {H : Type} {enc : TypeId × Value → H} {w : World} {base : Nat} {spare : Nat → Bool} {held : Bool} {t e : TypeId} {fuel size : Nat} {a : Option Addr} {len cap : Nat} {x : DataW H × List MemPlace} {α : Type} (F : α → List Value → Prop) (ht : P.underlying t = some (.slice e)) (hs : P.cellsOf e = size)
    (hF : ∀ n cs y, cs.length = size → DataW.trod enc P w base spare held n e cs = some y → ∃ o, F o cs) (h : DataW.trod enc P w base spare held fuel t [.slice a len cap] = some x) :
    (∀ k, k < len → ∃ ad o cs, a = some ad ∧ F o cs ∧ cs.length = size ∧ CellsAt w (ad.add (k * size)) cs) ∧ len ≤ maxLen := by
  rcases DataW.trod_slice ht h with ⟨h0, _⟩ | ⟨ad, l, c, elems, rest, n, _, h0, _, hb, hl, hm, hlen, hel, _, _⟩
  · simp at h0
    obtain ⟨rfl, rfl, rfl⟩ := h0
    exact ⟨fun k hk => absurd hk (Nat.not_lt_zero _), Nat.zero_le _⟩
  · simp at h0
    obtain ⟨rfl, rfl, rfl⟩ := h0
    refine ⟨fun k hk => ?_, Nat.le_trans hl hm⟩
    have h1 := hel k hk
    rw [hs, List.getElem?_eq_getElem (by omega), Option.bind_eq_some_iff] at h1
    obtain ⟨cs, h2, h3⟩ := h1
    obtain ⟨_, h4, h5⟩ := World.cells?_some h2
    obtain ⟨o, ho⟩ := hF n cs _ h4 h3
    refine ⟨ad, o, cs, rfl, ho, h4, fun j v hj => ?_⟩
    have hjl := (List.getElem?_eq_some_iff.1 hj).1
    rw [h5 j (by omega), hj]
end Go.Proofs.YtgiecmgopibcnaaDoor
