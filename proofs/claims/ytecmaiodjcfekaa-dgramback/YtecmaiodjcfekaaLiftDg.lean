/- From a walk to the row: a head of layer 5 among the arguments. -/
import Derived.Test.YtecmaiodjcfekaaLift
import Derived.Test.YtecmaiodjcfekaaDgPl
namespace Go.Proofs.Ytecmaiodjcfekaa
open Go.ChangeShapes Go.WideShapes Go.ChangeAt Go.RowKit
set_option linter.unusedVariables false
theorem u32_lit {a : Int} (h : (Lit.int .u32 a).wf = true) : ∃ x : UInt32, a = (x.toNat : Int) := by
  have hb := bounds_u32 h
  refine ⟨UInt32.ofNat a.toNat, ?_⟩
  rw [UInt32.toNat_ofNat', Nat.mod_eq_of_lt (by omega)]
  omega
/-- what its fields may be at all -/
def Dg.Wf (h : Dg) : Prop := (-9223372036854775808 ≤ h.src ∧ h.src ≤ 9223372036854775807) ∧ (-9223372036854775808 ≤ h.dst ∧ h.dst ≤ 9223372036854775807) ∧ (-9223372036854775808 ≤ h.kind ∧ h.kind ≤ 9223372036854775807) ∧ (-9223372036854775808 ≤ h.code ∧ h.code ≤ 9223372036854775807)
theorem array5_open_dg {α : Type} {cs : Array α} (h : cs.size = 5) : ∃ c0 c1 c2 c3 c4, cs = #[c0, c1, c2, c3, c4] := by
  obtain ⟨l⟩ := cs
  match l, h with
  | [c0, c1, c2, c3, c4], _ => exact ⟨c0, c1, c2, c3, c4, rfl⟩
theorem open_dg {H : Type} {enc : TypeId × Value → H} {w : World} {base b0 : Nat} {r : Reach} {spare : Nat → Bool} {held : Bool} {v : Value} {d : DataW H} {p : List MemPlace} (hv : Value.okWide Try.prog w r b0 24 v) (h : DataW.Trod enc Try.prog w base spare held 24 v d p) :
    ∃ h : Dg, h.Wf ∧ v = .agg (dgV h) := by
  obtain ⟨cs, rfl, hsz⟩ := okWide_struct Try.underlying24 hv
  obtain ⟨c0, c1, c2, c3, c4, rfl⟩ := array5_open_dg (hsz.trans (by kernel_rfl))
  obtain ⟨fuel, hf⟩ := h
  obtain ⟨xs, n, _, _, hl, hlen, hfd⟩ := DataW.trod_struct Try.underlying24 hf
  obtain ⟨y0, h0⟩ := some_at (i := 0) hlen (by decide)
  obtain ⟨y1, h1⟩ := some_at (i := 1) hlen (by decide)
  obtain ⟨y2, h2⟩ := some_at (i := 2) hlen (by decide)
  obtain ⟨y3, h3⟩ := some_at (i := 3) hlen (by decide)
  obtain ⟨y4, h4⟩ := some_at (i := 4) hlen (by decide)
  have kint : Try.prog.cellsOf 3 = 1 := by kernel_rfl
  have kuint32 : Try.prog.cellsOf 22 = 1 := by kernel_rfl
  have g0 : DataW.trod enc Try.prog w base spare held n 3 (List.take (Try.prog.cellsOf 3) [c0, c1, c2, c3, c4]) = some y0 := (hfd 0 _ rfl).trans h0
  rw [kint] at g0
  have g1 : DataW.trod enc Try.prog w base spare held n 3 (List.take (Try.prog.cellsOf 3) [c1, c2, c3, c4]) = some y1 := (hfd 1 _ rfl).trans h1
  rw [kint] at g1
  have g2 : DataW.trod enc Try.prog w base spare held n 3 (List.take (Try.prog.cellsOf 3) [c2, c3, c4]) = some y2 := (hfd 2 _ rfl).trans h2
  rw [kint] at g2
  have g3 : DataW.trod enc Try.prog w base spare held n 3 (List.take (Try.prog.cellsOf 3) [c3, c4]) = some y3 := (hfd 3 _ rfl).trans h3
  rw [kint] at g3
  have g4 : DataW.trod enc Try.prog w base spare held n 22 (List.take (Try.prog.cellsOf 22) [c4]) = some y4 := (hfd 4 _ rfl).trans h4
  rw [kuint32] at g4
  obtain ⟨fsrc, e0, _, w0⟩ := DataW.trod_int Try.underlying3 g0
  simp at e0
  subst e0
  obtain ⟨fdst, e1, _, w1⟩ := DataW.trod_int Try.underlying3 g1
  simp at e1
  subst e1
  obtain ⟨fkind, e2, _, w2⟩ := DataW.trod_int Try.underlying3 g2
  simp at e2
  subst e2
  obtain ⟨fcode, e3, _, w3⟩ := DataW.trod_int Try.underlying3 g3
  simp at e3
  subst e3
  obtain ⟨frest, e4, _, w4⟩ := DataW.trod_int Try.underlying22 g4
  simp at e4
  subst e4
  obtain ⟨frest, rfl⟩ := u32_lit w4
  exact ⟨⟨fsrc, fdst, fkind, fcode, frest⟩, ⟨bounds_i64 w0, bounds_i64 w1, bounds_i64 w2, bounds_i64 w3⟩, rfl⟩
end Go.Proofs.Ytecmaiodjcfekaa
