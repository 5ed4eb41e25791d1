/- From a walk to the row: a head of layer 3 among the arguments. -/
import Derived.Test.YtkfgapljphhmcaaLift
import Derived.Test.YtkfgapljphhmcaaIpPl
namespace Go.Proofs.Ytkfgapljphhmcaa
open Go.ChangeShapes Go.WideShapes Go.ChangeAt Go.RowKit
set_option linter.unusedVariables false
set_option maxRecDepth 20000
/-- what a head's fields may be at all -/
def Ip.Wf (h : Ip) : Prop := (-9223372036854775808 ≤ h.tos ∧ h.tos ≤ 9223372036854775807) ∧ (-9223372036854775808 ≤ h.id ∧ h.id ≤ 9223372036854775807) ∧ (-9223372036854775808 ≤ h.off ∧ h.off ≤ 9223372036854775807) ∧ (-9223372036854775808 ≤ h.ttl ∧ h.ttl ≤ 9223372036854775807) ∧ (-9223372036854775808 ≤ h.proto ∧ h.proto ≤ 9223372036854775807) ∧ h.opts.size ≤ maxLen
theorem array10 {α : Type} {cs : Array α} (h : cs.size = 10) : ∃ c0 c1 c2 c3 c4 c5 c6 c7 c8 c9, cs = #[c0, c1, c2, c3, c4, c5, c6, c7, c8, c9] := by
  obtain ⟨l⟩ := cs
  match l, h with
  | [c0, c1, c2, c3, c4, c5, c6, c7, c8, c9], _ => exact ⟨c0, c1, c2, c3, c4, c5, c6, c7, c8, c9, rfl⟩
theorem open_ip {H : Type} {enc : TypeId × Value → H} {w : World} {base b0 : Nat} {r : Reach} {spare : Nat → Bool} {held : Bool} {v : Value} {d : DataW H} {p : List MemPlace} (hv : Value.okWide Try.prog w r b0 29 v) (h : DataW.Trod enc Try.prog w base spare held 29 v d p) :
    ∃ h : Ip, h.Wf ∧ v = .agg (ipV h) := by
  obtain ⟨cs, rfl, hsz⟩ := okWide_struct Try.underlying29 hv
  obtain ⟨c0, c1, c2, c3, c4, c5, c6, c7, c8, c9, rfl⟩ := array10 (hsz.trans (by kernel_rfl))
  obtain ⟨fuel, hf⟩ := h
  obtain ⟨xs, n, _, _, hl, hlen, hfd⟩ := DataW.trod_struct Try.underlying29 hf
  obtain ⟨y0, h0⟩ := some_at (i := 0) hlen (by decide)
  obtain ⟨y1, h1⟩ := some_at (i := 1) hlen (by decide)
  obtain ⟨y2, h2⟩ := some_at (i := 2) hlen (by decide)
  obtain ⟨y3, h3⟩ := some_at (i := 3) hlen (by decide)
  obtain ⟨y4, h4⟩ := some_at (i := 4) hlen (by decide)
  obtain ⟨y5, h5⟩ := some_at (i := 5) hlen (by decide)
  obtain ⟨y6, h6⟩ := some_at (i := 6) hlen (by decide)
  obtain ⟨y7, h7⟩ := some_at (i := 7) hlen (by decide)
  obtain ⟨y8, h8⟩ := some_at (i := 8) hlen (by decide)
  obtain ⟨y9, h9⟩ := some_at (i := 9) hlen (by decide)
  have kint : Try.prog.cellsOf 3 = 1 := by kernel_rfl
  have kbool : Try.prog.cellsOf 4 = 1 := by kernel_rfl
  have kuint32 : Try.prog.cellsOf 27 = 1 := by kernel_rfl
  have kstring : Try.prog.cellsOf 9 = 1 := by kernel_rfl
  have g0 : DataW.trod enc Try.prog w base spare held n 3 (List.take (Try.prog.cellsOf 3) [c0, c1, c2, c3, c4, c5, c6, c7, c8, c9]) = some y0 := (hfd 0 _ rfl).trans h0
  rw [kint] at g0
  have g1 : DataW.trod enc Try.prog w base spare held n 3 (List.take (Try.prog.cellsOf 3) [c1, c2, c3, c4, c5, c6, c7, c8, c9]) = some y1 := (hfd 1 _ rfl).trans h1
  rw [kint] at g1
  have g2 : DataW.trod enc Try.prog w base spare held n 4 (List.take (Try.prog.cellsOf 4) [c2, c3, c4, c5, c6, c7, c8, c9]) = some y2 := (hfd 2 _ rfl).trans h2
  rw [kbool] at g2
  have g3 : DataW.trod enc Try.prog w base spare held n 4 (List.take (Try.prog.cellsOf 4) [c3, c4, c5, c6, c7, c8, c9]) = some y3 := (hfd 3 _ rfl).trans h3
  rw [kbool] at g3
  have g4 : DataW.trod enc Try.prog w base spare held n 3 (List.take (Try.prog.cellsOf 3) [c4, c5, c6, c7, c8, c9]) = some y4 := (hfd 4 _ rfl).trans h4
  rw [kint] at g4
  have g5 : DataW.trod enc Try.prog w base spare held n 3 (List.take (Try.prog.cellsOf 3) [c5, c6, c7, c8, c9]) = some y5 := (hfd 5 _ rfl).trans h5
  rw [kint] at g5
  have g6 : DataW.trod enc Try.prog w base spare held n 3 (List.take (Try.prog.cellsOf 3) [c6, c7, c8, c9]) = some y6 := (hfd 6 _ rfl).trans h6
  rw [kint] at g6
  have g7 : DataW.trod enc Try.prog w base spare held n 27 (List.take (Try.prog.cellsOf 27) [c7, c8, c9]) = some y7 := (hfd 7 _ rfl).trans h7
  rw [kuint32] at g7
  have g8 : DataW.trod enc Try.prog w base spare held n 27 (List.take (Try.prog.cellsOf 27) [c8, c9]) = some y8 := (hfd 8 _ rfl).trans h8
  rw [kuint32] at g8
  have g9 : DataW.trod enc Try.prog w base spare held n 9 (List.take (Try.prog.cellsOf 9) [c9]) = some y9 := (hfd 9 _ rfl).trans h9
  rw [kstring] at g9
  obtain ⟨tos, e0, _, w0⟩ := DataW.trod_int Try.underlying3 g0
  simp at e0
  subst e0
  obtain ⟨id, e1, _, w1⟩ := DataW.trod_int Try.underlying3 g1
  simp at e1
  subst e1
  obtain ⟨more, e2, _⟩ := DataW.trod_bool Try.underlying4 g2
  simp at e2
  subst e2
  obtain ⟨keep, e3, _⟩ := DataW.trod_bool Try.underlying4 g3
  simp at e3
  subst e3
  obtain ⟨off, e4, _, w4⟩ := DataW.trod_int Try.underlying3 g4
  simp at e4
  subst e4
  obtain ⟨ttl, e5, _, w5⟩ := DataW.trod_int Try.underlying3 g5
  simp at e5
  subst e5
  obtain ⟨proto, e6, _, w6⟩ := DataW.trod_int Try.underlying3 g6
  simp at e6
  subst e6
  obtain ⟨src, e7, _, w7⟩ := DataW.trod_int Try.underlying27 g7
  simp at e7
  subst e7
  obtain ⟨dst, e8, _, w8⟩ := DataW.trod_int Try.underlying27 g8
  simp at e8
  subst e8
  obtain ⟨opts, e9, _, w9⟩ := DataW.trod_string Try.underlying9 g9
  simp at e9
  subst e9
  obtain ⟨src, rfl⟩ := u32_lit w7
  obtain ⟨dst, rfl⟩ := u32_lit w8
  exact ⟨⟨tos, id, more, keep, off, ttl, proto, src, dst, opts⟩, ⟨bounds_i64 w0, bounds_i64 w1, bounds_i64 w4, bounds_i64 w5, bounds_i64 w6, w9⟩, rfl⟩
end Go.Proofs.Ytkfgapljphhmcaa
