/- The library's functions that layer 9 calls: contains, decimal, join. -/
import Derived.Test.YthhgkiihegmedaaDoorShelf
import Derived.Shelf.SlicesQ.IndexFunc
import Derived.Test.YthhgkiihegmedaaDoorRefCi3
import Derived.Deep.LoopGhost
namespace Go.Proofs.YthhgkiihegmedaaDoor
open Go.RowKit Go.Shelf
set_option linter.unusedVariables false
set_option maxRecDepth 20000
def ciRen : Go.Shelf.Ren := ⟨fun | 6 => 29 | 8 => 17 | n => n, fun | 0 => 0 | 3 => 3 | 4 => 4 | 22 => 22 | 23 => 34 | 25 => 36 | n => n, fun | n => n⟩
theorem ciLays : Go.Proofs.SlLaysH0.n8 Tryd.prog ciRen := {
  mixed := by kernel_rfl
  f6 := ⟨Tryd.f29.name, by kernel_rfl, Tryd.func29.trans (congrArg some (by kernel_rfl))⟩
  f8 := ⟨Tryd.f17.name, by kernel_rfl, Tryd.func17.trans (congrArg some (by kernel_rfl))⟩
  t0 := Tryd.underlying0
  a0 := Tryd.isAgg0
  z0 := Tryd.sizeOf0
  v0 := Tryd.zeroValue0
  t3 := Tryd.underlying3
  a3 := Tryd.isAgg3
  z3 := Tryd.sizeOf3
  v3 := Tryd.zeroValue3
  t4 := Tryd.underlying4
  a4 := Tryd.isAgg4
  z4 := Tryd.sizeOf4
  v4 := Tryd.zeroValue4
  t22 := Tryd.underlying22
  a22 := Tryd.isAgg22
  z22 := Tryd.sizeOf22
  v22 := Tryd.zeroValue22
  t25 := Tryd.underlying36
  a25 := Tryd.isAgg36
  z25 := Tryd.sizeOf36
  v25 := Tryd.zeroValue36 }
theorem ciIndex0 (g : Nat) (lb : Array Value) (p : Option Addr) (c : Nat) (w : World) :
    Calls Tryd.prog 29 #[.slice p 0 c, .func (.func g) #[] lb] w fun e w' => e = .returned (.int .i64 (-1)) ∧ w' = w := by
  go_enter Tryd.func29, Tryd.ntmps29
  go_wp2
  go_loopg [5, 8] 0 (fun gg _ s8 wr => s8 = .int .i64 0 ∧ wr = w)
  case atStart => exact ⟨rfl, rfl⟩
  case round =>
    obtain ⟨rfl, rfl⟩ := hrel
    go_wp2
    go_ret
    exact ⟨rfl, rfl⟩
/-- whether a function fits one of these nets -/
theorem ciContains {α : Type} [Inhabited α] (enc : α → Nt) (f : α → Bool) (g : Nat) (lb : Array Value) (eg : ∀ args w, (callFunc g args).run Tryd.prog w = .ok (.enter g args) w) (p : Option Addr) (c : Nat) (M : List α) (w : World)
    (hp : PredBelow Tryd.prog g lb (fun x => .agg (ntC (enc x)).toArray) f w) (hN : Nets w p c (M.map enc)) (h20 : M.length ≤ 20) :
    Calls Tryd.prog 17 #[.slice p M.length c, .func (.func g) #[] lb] w fun e w' => e = .returned (.bool (M.any f)) ∧ Below w.heap.size w w' := by
  rcases hN.2 with hN | ⟨b, o, rfl, hb, hc⟩
  · have hM : M = [] := List.map_eq_nil_iff.1 hN
    subst hM
    clear hp hN
    go_enter Tryd.func17, Tryd.ntmps17
    go_wp2_with (go_at_call 29; refine (ciIndex0 g lb p c _).mono ?_; rintro e w' ⟨rfl, rfl⟩)
    go_ret
    exact ⟨rfl, Below.refl _ _⟩
  · have h := AnyQ.slices_ContainsFunc (α := α) ciLays 2 Tryd.isAgg34 Tryd.sizeOf34 (fun x => ntC (enc x)) (fun _ => rfl) f g lb eg b o M.length c M w hp (Nat.le_refl _) (by omega) hb (fun j hj i v hi => by
      have hx : M[j]? = some M[j]! := by rw [List.getElem!_eq_getElem?_getD, List.getElem?_eq_getElem hj]; rfl
      have h2 := hc j (enc M[j]!) (by rw [List.getElem?_map, hx]; rfl)
      generalize enc M[j]! = y at hi h2
      match i, hi with
      | 0, hi => simp [ntC] at hi; rw [← hi]; exact h2.1
      | 1, hi => simp [ntC] at hi; rw [← hi]; exact h2.2
      | i + 2, hi => simp [ntC] at hi)
    rw [List.take_length] at h
    exact h
end Go.Proofs.YthhgkiihegmedaaDoor
