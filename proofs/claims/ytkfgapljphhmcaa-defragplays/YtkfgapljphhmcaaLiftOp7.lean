/- From a walk to the row: the calls of layer 7's script. -/
import Derived.Test.YtkfgapljphhmcaaLiftIp2
namespace Go.Proofs.Ytkfgapljphhmcaa
open Go.ChangeShapes Go.WideShapes Go.ChangeAt Go.RowKit
set_option linter.unusedVariables false
set_option maxRecDepth 20000
/-- a call of the script -/
structure Op7 where
  kind : Int
  n : Int
  i : Ip
  body : ByteArray
def Op7.Wf (o : Op7) : Prop := (-9223372036854775808 ≤ o.kind ∧ o.kind ≤ 9223372036854775807) ∧ (-9223372036854775808 ≤ o.n ∧ o.n ≤ 9223372036854775807) ∧ o.i.Wf ∧ o.body.size ≤ maxLen
abbrev op7C (o : Op7) : List Value := [.int .i64 o.kind, .int .i64 o.n, .int .i64 o.i.tos, .int .i64 o.i.id, .bool o.i.more, .bool o.i.keep, .int .i64 o.i.off, .int .i64 o.i.ttl, .int .i64 o.i.proto, .int .u32 (o.i.src.toNat : Int), .int .u32 (o.i.dst.toNat : Int), .string o.i.opts, .string o.body]
theorem list13_op7f {α : Type} {cs : List α} (h : cs.length = 13) : ∃ c0 c1 c2 c3 c4 c5 c6 c7 c8 c9 c10 c11 c12, cs = [c0, c1, c2, c3, c4, c5, c6, c7, c8, c9, c10, c11, c12] := by
  match cs, h with
  | [c0, c1, c2, c3, c4, c5, c6, c7, c8, c9, c10, c11, c12], _ => exact ⟨c0, c1, c2, c3, c4, c5, c6, c7, c8, c9, c10, c11, c12, rfl⟩
theorem trod_op7f {H : Type} {enc : TypeId × Value → H} {w : World} {base : Nat} {spare : Nat → Bool} {held : Bool} {n : Nat} {cs : List Value} {y : DataW H × List MemPlace} (h : DataW.trod enc Try.prog w base spare held n 31 cs = some y) :
    ∃ (kind : Int) (nn : Int) (ii : Ip) (body : ByteArray), (-9223372036854775808 ≤ kind ∧ kind ≤ 9223372036854775807) ∧ (-9223372036854775808 ≤ nn ∧ nn ≤ 9223372036854775807) ∧ ii.Wf ∧ body.size ≤ maxLen ∧ cs = [.int .i64 kind, .int .i64 nn, .int .i64 ii.tos, .int .i64 ii.id, .bool ii.more, .bool ii.keep, .int .i64 ii.off, .int .i64 ii.ttl, .int .i64 ii.proto, .int .u32 (ii.src.toNat : Int), .int .u32 (ii.dst.toNat : Int), .string ii.opts, .string body] := by
  obtain ⟨xs, m, _, _, hl, hlen, hfd⟩ := DataW.trod_struct Try.underlying31 h
  obtain ⟨c0, c1, c2, c3, c4, c5, c6, c7, c8, c9, c10, c11, c12, rfl⟩ := list13_op7f (hl.trans (by kernel_rfl))
  obtain ⟨y0, h0⟩ := some_at (i := 0) hlen (by decide)
  obtain ⟨y1, h1⟩ := some_at (i := 1) hlen (by decide)
  obtain ⟨y2, h2⟩ := some_at (i := 2) hlen (by decide)
  obtain ⟨y3, h3⟩ := some_at (i := 3) hlen (by decide)
  have k0 : Try.prog.cellsOf 3 = 1 := by kernel_rfl
  have g0 : DataW.trod enc Try.prog w base spare held m 3 (List.take (Try.prog.cellsOf 3) [c0, c1, c2, c3, c4, c5, c6, c7, c8, c9, c10, c11, c12]) = some y0 := (hfd 0 _ rfl).trans h0
  rw [k0] at g0
  have k1 : Try.prog.cellsOf 3 = 1 := by kernel_rfl
  have g1 : DataW.trod enc Try.prog w base spare held m 3 (List.take (Try.prog.cellsOf 3) [c1, c2, c3, c4, c5, c6, c7, c8, c9, c10, c11, c12]) = some y1 := (hfd 1 _ rfl).trans h1
  rw [k1] at g1
  have k2 : Try.prog.cellsOf 29 = 10 := by kernel_rfl
  have g2 : DataW.trod enc Try.prog w base spare held m 29 (List.take (Try.prog.cellsOf 29) [c2, c3, c4, c5, c6, c7, c8, c9, c10, c11, c12]) = some y2 := (hfd 2 _ rfl).trans h2
  rw [k2] at g2
  have k3 : Try.prog.cellsOf 9 = 1 := by kernel_rfl
  have g3 : DataW.trod enc Try.prog w base spare held m 9 (List.take (Try.prog.cellsOf 9) [c12]) = some y3 := (hfd 3 _ rfl).trans h3
  rw [k3] at g3
  obtain ⟨kind, e0, _, w0⟩ := DataW.trod_int Try.underlying3 g0
  simp at e0
  subst e0
  obtain ⟨nn, e1, _, w1⟩ := DataW.trod_int Try.underlying3 g1
  simp at e1
  subst e1
  obtain ⟨ii, w2, e2⟩ := trod_ip g2
  simp at e2
  obtain ⟨rfl, rfl, rfl, rfl, rfl, rfl, rfl, rfl, rfl, rfl⟩ := e2
  obtain ⟨body, e3, _, w3⟩ := DataW.trod_string Try.underlying9 g3
  simp at e3
  subst e3
  exact ⟨kind, nn, ii, body, bounds_i64 w0, bounds_i64 w1, w2, w3, rfl⟩
/-- a script among the arguments -/
def IsOps (W : World) (a : Option Addr) (len : Nat) : Prop := (∀ k, k < len → ∃ ad o, a = some ad ∧ Op7.Wf o ∧ CellsAt W (ad.add (k * 13)) (op7C o)) ∧ len ≤ maxLen
theorem open_ops {H : Type} {enc : TypeId × Value → H} {w : World} {base : Nat} {spare : Nat → Bool} {held : Bool} {fuel : Nat} {a : Option Addr} {len cap : Nat} {x : DataW H × List MemPlace} (h : DataW.trod enc Try.prog w base spare held fuel 22 [.slice a len cap] = some x) : IsOps w a len := by
  have := open_elems (F := fun (o : Op7) cs => o.Wf ∧ cs = op7C o) (size := 13) Try.underlying22 (by kernel_rfl) (fun n cs y hl hy => by
    obtain ⟨kind, nn, ii, body, h1, h2, h3, h4, rfl⟩ := trod_op7f hy
    exact ⟨⟨kind, nn, ii, body⟩, ⟨h1, h2, h3, h4⟩, rfl⟩) h
  refine ⟨fun k hk => ?_, this.2⟩
  obtain ⟨ad, o, cs, h1, ⟨h2, rfl⟩, _, h3⟩ := this.1 k hk
  exact ⟨ad, o, h1, h2, h3⟩
end Go.Proofs.Ytkfgapljphhmcaa
