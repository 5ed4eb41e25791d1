/- The usual steps of a mixed region: a move, a pick, two that are the same, a load that is known. -/
import Derived.Test.YtgiecmgopibcnaaDoorMix
import Derived.Laws.StructEq
namespace Go.Proofs.YtgiecmgopibcnaaDoor
open Go.RowKit
set_option linter.unusedVariables false
section
variable {P : Program} {ops : Array Oper} {D : World → Prop} {T : Act → World → Prop} {l : List (Bool × Oper)} {a : Act} {w : World} {o : Oper}
theorem mixw_move (x : Operand) (ho : o.op = .move x) (hw : Region.wanted o (yielded ops a.tmps) = true) (v : Value) (hx : a.eval x = v)
    (h : mixF P ops D T l (a.put o.dst v) w) : mixF P ops D T ((true, o) :: l) a w :=
  mixw_pure hw v (fun y _ => by subst hx; unfold execOp; rw [ho]; rfl) h
theorem mixw_pick (c x y : Operand) (ho : o.op = .pick c x y) (hw : Region.wanted o (yielded ops a.tmps) = true) (b : Bool) (v : Value) (hc : a.eval c = .bool b) (hx : (if b then a.eval x else a.eval y) = v)
    (h : mixF P ops D T l (a.put o.dst v) w) : mixF P ops D T ((true, o) :: l) a w :=
  mixw_pure hw v (fun z _ => by subst hx; unfold execOp; rw [ho]; simp [hc, asBool]) h
theorem mixw_eqb (t : TypeId) (x y : Operand) (ty : TypeId) (ho : o.op = .binOp .eql t x y ty) (ht : P.underlying t = some .bool) (hw : Region.wanted o (yielded ops a.tmps) = true) (b c : Bool) (hx : a.eval x = .bool b) (hy : a.eval y = .bool c)
    (h : mixF P ops D T l (a.put o.dst (.bool (b == c))) w) : mixF P ops D T ((true, o) :: l) a w :=
  mixw_pure hw _ (fun z _ => by
    unfold execOp
    rw [ho]
    simp only [hx, hy]
    have h := run_eql_bool (P := P) z t b c ht
    simp [eqGuard, h]) h
theorem mixw_eqs (t : TypeId) (x y : Operand) (ty : TypeId) (ho : o.op = .binOp .eql t x y ty) (hw : Region.wanted o (yielded ops a.tmps) = true) (s u : ByteArray) (hx : a.eval x = .string s) (hy : a.eval y = .string u)
    (h : mixF P ops D T l (a.put o.dst (.bool (s == u))) w) : mixF P ops D T ((true, o) :: l) a w :=
  mixw_pure hw _ (fun z _ => by
    unfold execOp
    rw [ho]
    simp only [hx, hy]
    simp [eqGuard, Go.binOp, Op.stringOp, beq_toListBytes]) h
theorem mixw_eqb1 (t : TypeId) (x y : Operand) (ty : TypeId) (ho : o.op = .binOp .eql t x y ty) (ht : P.underlying t = some .bool) (hw : Region.wanted o (yielded ops a.tmps) = true) (b : Bool) (hx : a.eval x = .bool b) (hy : a.eval y = .bool b)
    (h : mixF P ops D T l (a.put o.dst (.bool true)) w) : mixF P ops D T ((true, o) :: l) a w := mixw_eqb t x y ty ho ht hw b b hx hy (by rw [beq_self_eq_true]; exact h)
theorem mixw_eqs1 (t : TypeId) (x y : Operand) (ty : TypeId) (ho : o.op = .binOp .eql t x y ty) (hw : Region.wanted o (yielded ops a.tmps) = true) (s : ByteArray) (hx : a.eval x = .string s) (hy : a.eval y = .string s)
    (h : mixF P ops D T l (a.put o.dst (.bool true)) w) : mixF P ops D T ((true, o) :: l) a w := mixw_eqs t x y ty ho hw s s hx hy (by rw [beq_toListBytes, beq_self_eq_true]; exact h)
theorem mixw_not (t : TypeId) (x : Operand) (ho : o.op = .unOp .not t x) (hw : Region.wanted o (yielded ops a.tmps) = true) (b : Bool) (hx : a.eval x = .bool b)
    (h : mixF P ops D T l (a.put o.dst (.bool !b)) w) : mixF P ops D T ((true, o) :: l) a w :=
  mixw_pure hw _ (fun z _ => by
    unfold execOp
    rw [ho]
    simp only [hx]
    simp [Op.unary]) h
theorem mixw_load (t : TypeId) (x : Operand) (ho : o.op = .load t x) (hw : Region.wanted o (yielded ops a.tmps) = true) (p v : Value) (hx : a.eval x = p) (hl : ∀ y, D y → (Instr.loadAt t p).run P y = .ok v y)
    (h : mixF P ops D T l (a.put o.dst v) w) : mixF P ops D T ((true, o) :: l) a w :=
  mixw_pure hw v (fun y hy => by
    unfold execOp
    rw [ho]
    simp [hx, hl y hy]) h
end
end Go.Proofs.YtgiecmgopibcnaaDoor
