/- From a walk to the row: a head of layer 4 among the arguments. -/
import Derived.Test.YthfncbcnokkmiaaLift
import Derived.Test.YthfncbcnokkmiaaTcPl
namespace Go.Proofs.Ythfncbcnokkmiaa
open Go.ChangeShapes Go.WideShapes Go.ChangeAt Go.RowKit
set_option linter.unusedVariables false
set_option maxRecDepth 20000
/-- what its fields may be at all -/
def Sg.Wf (h : Sg) : Prop := (-9223372036854775808 ≤ h.src ∧ h.src ≤ 9223372036854775807) ∧ (-9223372036854775808 ≤ h.dst ∧ h.dst ≤ 9223372036854775807) ∧ (-9223372036854775808 ≤ h.flags ∧ h.flags ≤ 9223372036854775807) ∧ (-9223372036854775808 ≤ h.win ∧ h.win ≤ 9223372036854775807) ∧ h.opts.size ≤ maxLen
theorem array7_open_sg {α : Type} {cs : Array α} (h : cs.size = 7) : ∃ c0 c1 c2 c3 c4 c5 c6, cs = #[c0, c1, c2, c3, c4, c5, c6] := by
  obtain ⟨l⟩ := cs
  match l, h with
  | [c0, c1, c2, c3, c4, c5, c6], _ => exact ⟨c0, c1, c2, c3, c4, c5, c6, rfl⟩
theorem open_sg {H : Type} {enc : TypeId × Value → H} {w : World} {base b0 : Nat} {r : Reach} {spare : Nat → Bool} {held : Bool} {v : Value} {d : DataW H} {p : List MemPlace} (hv : Value.okWide Try.prog w r b0 29 v) (h : DataW.Trod enc Try.prog w base spare held 29 v d p) :
    ∃ h : Sg, h.Wf ∧ v = .agg (sgV h) := by
  obtain ⟨cs, rfl, hsz⟩ := okWide_struct Try.underlying29 hv
  obtain ⟨c0, c1, c2, c3, c4, c5, c6, rfl⟩ := array7_open_sg (hsz.trans (by kernel_rfl))
  obtain ⟨fuel, hf⟩ := h
  obtain ⟨xs, n, _, _, hl, hlen, hfd⟩ := DataW.trod_struct Try.underlying29 hf
  obtain ⟨y0, h0⟩ := some_at (i := 0) hlen (by decide)
  obtain ⟨y1, h1⟩ := some_at (i := 1) hlen (by decide)
  obtain ⟨y2, h2⟩ := some_at (i := 2) hlen (by decide)
  obtain ⟨y3, h3⟩ := some_at (i := 3) hlen (by decide)
  obtain ⟨y4, h4⟩ := some_at (i := 4) hlen (by decide)
  obtain ⟨y5, h5⟩ := some_at (i := 5) hlen (by decide)
  obtain ⟨y6, h6⟩ := some_at (i := 6) hlen (by decide)
  have kint : Try.prog.cellsOf 3 = 1 := by kernel_rfl
  have kstring : Try.prog.cellsOf 9 = 1 := by kernel_rfl
  have kuint32 : Try.prog.cellsOf 25 = 1 := by kernel_rfl
  have g0 : DataW.trod enc Try.prog w base spare held n 3 (List.take (Try.prog.cellsOf 3) [c0, c1, c2, c3, c4, c5, c6]) = some y0 := (hfd 0 _ rfl).trans h0
  rw [kint] at g0
  have g1 : DataW.trod enc Try.prog w base spare held n 3 (List.take (Try.prog.cellsOf 3) [c1, c2, c3, c4, c5, c6]) = some y1 := (hfd 1 _ rfl).trans h1
  rw [kint] at g1
  have g2 : DataW.trod enc Try.prog w base spare held n 25 (List.take (Try.prog.cellsOf 25) [c2, c3, c4, c5, c6]) = some y2 := (hfd 2 _ rfl).trans h2
  rw [kuint32] at g2
  have g3 : DataW.trod enc Try.prog w base spare held n 25 (List.take (Try.prog.cellsOf 25) [c3, c4, c5, c6]) = some y3 := (hfd 3 _ rfl).trans h3
  rw [kuint32] at g3
  have g4 : DataW.trod enc Try.prog w base spare held n 3 (List.take (Try.prog.cellsOf 3) [c4, c5, c6]) = some y4 := (hfd 4 _ rfl).trans h4
  rw [kint] at g4
  have g5 : DataW.trod enc Try.prog w base spare held n 3 (List.take (Try.prog.cellsOf 3) [c5, c6]) = some y5 := (hfd 5 _ rfl).trans h5
  rw [kint] at g5
  have g6 : DataW.trod enc Try.prog w base spare held n 9 (List.take (Try.prog.cellsOf 9) [c6]) = some y6 := (hfd 6 _ rfl).trans h6
  rw [kstring] at g6
  obtain ⟨fsrc, e0, _, w0⟩ := DataW.trod_int Try.underlying3 g0
  simp at e0
  subst e0
  obtain ⟨fdst, e1, _, w1⟩ := DataW.trod_int Try.underlying3 g1
  simp at e1
  subst e1
  obtain ⟨fseq, e2, _, w2⟩ := DataW.trod_int Try.underlying25 g2
  simp at e2
  subst e2
  obtain ⟨fack, e3, _, w3⟩ := DataW.trod_int Try.underlying25 g3
  simp at e3
  subst e3
  obtain ⟨fflags, e4, _, w4⟩ := DataW.trod_int Try.underlying3 g4
  simp at e4
  subst e4
  obtain ⟨fwin, e5, _, w5⟩ := DataW.trod_int Try.underlying3 g5
  simp at e5
  subst e5
  obtain ⟨fopts, e6, _, w6⟩ := DataW.trod_string Try.underlying9 g6
  simp at e6
  subst e6
  obtain ⟨fseq, rfl⟩ := u32_lit w2
  obtain ⟨fack, rfl⟩ := u32_lit w3
  exact ⟨⟨fsrc, fdst, fseq, fack, fflags, fwin, fopts⟩, ⟨bounds_i64 w0, bounds_i64 w1, bounds_i64 w4, bounds_i64 w5, w6⟩, rfl⟩
end Go.Proofs.Ythfncbcnokkmiaa
