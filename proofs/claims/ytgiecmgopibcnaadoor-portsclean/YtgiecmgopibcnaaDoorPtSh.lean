/- The library's functions that layer 10 calls: contains. -/
import Derived.Test.YtgiecmgopibcnaaDoorShelf
import Derived.Shelf.SlicesQ.IndexFunc
import Derived.Test.YtgiecmgopibcnaaDoorPt1
import Derived.Deep.LoopGhost
import Derived.Laws.StructEq
namespace Go.Proofs.YtgiecmgopibcnaaDoor
open Go.RowKit Go.Shelf
set_option linter.unusedVariables false
set_option maxRecDepth 20000
def ptRen : Go.Shelf.Ren := ⟨fun | 6 => 28 | 8 => 20 | n => n, fun | 0 => 0 | 3 => 3 | 4 => 4 | 22 => 22 | 23 => 34 | 25 => 40 | n => n, fun | n => n⟩
theorem ptLays : Go.Proofs.SlLaysH0.n8 Tryd.prog ptRen := {
  mixed := by kernel_rfl
  f6 := ⟨Tryd.f28.name, by kernel_rfl, Tryd.func28.trans (congrArg some (by kernel_rfl))⟩
  f8 := ⟨Tryd.f20.name, by kernel_rfl, Tryd.func20.trans (congrArg some (by kernel_rfl))⟩
  t0 := Tryd.underlying0
  a0 := Tryd.isAgg0
  z0 := Tryd.sizeOf0
  v0 := Tryd.zeroValue0
  t3 := Tryd.underlying3
  a3 := Tryd.isAgg3
  z3 := Tryd.sizeOf3
  v3 := Tryd.zeroValue3
  t4 := Tryd.underlying4
  a4 := Tryd.isAgg4
  z4 := Tryd.sizeOf4
  v4 := Tryd.zeroValue4
  t22 := Tryd.underlying22
  a22 := Tryd.isAgg22
  z22 := Tryd.sizeOf22
  v22 := Tryd.zeroValue22
  t25 := Tryd.underlying40
  a25 := Tryd.isAgg40
  z25 := Tryd.sizeOf40
  v25 := Tryd.zeroValue40 }
theorem ptIndex0 (g : Nat) (lb : Array Value) (p : Option Addr) (c : Nat) (w : World) :
    Calls Tryd.prog 28 #[.slice p 0 c, .func (.func g) #[] lb] w fun e w' => e = .returned (.int .i64 (-1)) ∧ w' = w := by
  go_enter Tryd.func28, Tryd.ntmps28
  go_wp2
  go_loopg [5, 8] 0 (fun gg _ s8 wr => s8 = .int .i64 0 ∧ wr = w)
  case atStart => exact ⟨rfl, rfl⟩
  case round =>
    obtain ⟨rfl, rfl⟩ := hrel
    go_wp2
    go_ret
    exact ⟨rfl, rfl⟩
/-- whether a function fits one of these nets -/
theorem ptContains {α : Type} [Inhabited α] (enc : α → Sp) (f : α → Bool) (g : Nat) (lb : Array Value) (eg : ∀ args w, (callFunc g args).run Tryd.prog w = .ok (.enter g args) w) (p : Option Addr) (c : Nat) (M : List α) (w : World)
    (hp : PredBelow Tryd.prog g lb (fun x => .agg (spC (enc x)).toArray) f w) (hN : Spans w p c (M.map enc)) (h20 : M.length ≤ 20) :
    Calls Tryd.prog 20 #[.slice p M.length c, .func (.func g) #[] lb] w fun e w' => e = .returned (.bool (M.any f)) ∧ Below w.heap.size w w' := by
  rcases hN.2 with hN | ⟨b, o, rfl, hb, hc⟩
  · have hM : M = [] := List.map_eq_nil_iff.1 hN
    subst hM
    clear hp hN
    go_enter Tryd.func20, Tryd.ntmps20
    go_wp2_with (go_at_call 28; refine (ptIndex0 g lb p c _).mono ?_; rintro e w' ⟨rfl, rfl⟩)
    go_ret
    exact ⟨rfl, Below.refl _ _⟩
  · have h := AnyQ.slices_ContainsFunc (α := α) ptLays 2 Tryd.isAgg34 Tryd.sizeOf34 (fun x => spC (enc x)) (fun _ => rfl) f g lb eg b o M.length c M w hp (Nat.le_refl _) (by omega) hb (fun j hj i v hi => by
      have hx : M[j]? = some M[j]! := by rw [List.getElem!_eq_getElem?_getD, List.getElem?_eq_getElem hj]; rfl
      have h2 := hc j (enc M[j]!) (by rw [List.getElem?_map, hx]; rfl)
      generalize enc M[j]! = y at hi h2
      match i, hi with
      | 0, hi => simp [spC] at hi; rw [← hi]; exact h2.1
      | 1, hi => simp [spC] at hi; rw [← hi]; exact h2.2
      | i + 2, hi => simp [spC] at hi)
    rw [List.take_length] at h
    exact h

theorem eq_sp (x1 x2 y1 y2 : Int) (w : World) : Sem.run Tryd.prog (Op.equalIn 10000 34 (.agg #[.int .i64 x1, .int .i64 x2]) (.agg #[.int .i64 y1, .int .i64 y2])) w = .ok ((y1, y2) == (x1, x2)) w := by
  have u3 := Tryd.underlying3
  have g3 := Tryd.isAgg3
  have z3 := Tryd.sizeOf3
  have hp : (Tryd.prog).stoodInHeld 34 = false := by kernel_rfl
  have ht : (Tryd.prog).underlying 34 = some (.struct ((Tryd.prog).fieldsOf 34)) := by kernel_rfl
  have hf : (Tryd.prog).fieldsOf 34 = #[{ name := "From", type := 3, offset := 0, embedded := false, tag := "", pkgPath := "", byteOffset := 0 }, { name := "To", type := 3, offset := 1, embedded := false, tag := "", pkgPath := "", byteOffset := 8 }] := by kernel_rfl
  rw [show (10000 : Nat) = 9999 + 1 from rfl, run_equalIn_struct w _ _ _ _ ht hp, hf]
  clear hf ht hp
  rw [show ((y1, y2) == (x1, x2)) = ((x1 == y1) && (x2 == y2)) by
    rw [Bool.eq_iff_iff, beq_iff_eq, Bool.and_eq_true, beq_iff_eq, beq_iff_eq, Prod.mk.injEq]
    exact ⟨fun h => ⟨h.1.symm, h.2.symm⟩, fun h => ⟨h.1.symm, h.2.symm⟩⟩]
  generalize he1 : (x1 == y1) = r1
  generalize he2 : (x2 == y2) = r2
  cases r1 <;> cases r2 <;> go_simp
theorem ptIndex (x : Sp) (p : Option Addr) (c : Nat) (L : List Sp) (w : World) (h : Spans w p c L) (h20 : L.length ≤ 20) :
    Calls Tryd.prog 32 #[.slice p L.length c, .agg (spC x).toArray] w fun e w' => (∃ k : Int, e = .returned (.int .i64 k) ∧ decide (0 ≤ k) = L.any (fun s => s == x)) ∧ Below w.heap.size w w' := by
  have hb := (Below.refl w.heap.size w).alloc (Nat.le_refl _) (.cells (spC x).toArray 34)
  have HH := hidB (h.below hb)
  have HB := hidB hb
  clear hb h
  obtain ⟨n, hn⟩ : ∃ n : Nat, n = L.length := ⟨_, rfl⟩
  rw [← hn] at h20 ⊢
  have HLn := hidB hn
  obtain ⟨x1, x2⟩ := x
  show Calls Tryd.prog _ #[_, .agg #[.int .i64 x1, .int .i64 x2]] w _
  change Hid (Spans (w.alloc (.cells #[.int .i64 x1, .int .i64 x2] 34)) p c L) at HH
  change Hid (Below w.heap.size w (w.alloc (.cells #[.int .i64 x1, .int .i64 x2] 34))) at HB
  clear hn
  go_enter Tryd.func32, Tryd.ntmps32
  go_wp2
  generalize hw0 : w.alloc (.cells #[.int .i64 x1, .int .i64 x2] 34) = w0 at HH HB ⊢
  have z0 : w.heap.size < w0.heap.size := by rw [← hw0]; simp
  have e0 : w0.cell? ⟨w.heap.size, 0, none⟩ = some (.int .i64 x1) := by rw [← hw0]; simp
  have e1 : w0.cell? ⟨w.heap.size, 1, none⟩ = some (.int .i64 x2) := by rw [← hw0]; simp
  clear hw0
  go_loopg [5, 8] n (fun g s5 s8 wr => ∃ (k : Nat) (k5 : Int), k ≤ n ∧ n - k ≤ g ∧ s8 = .int .i64 (k : Int) ∧ s5 = s5 ∧ Hid ((L.take k).any (fun s => s == (x1, x2)) = false) ∧ Hid (Below w0.heap.size w0 wr))
  case atStart => exact ⟨0, 0, Nat.zero_le _, by omega, rfl, rfl, by simp [Hid], Below.refl _ _⟩
  case round =>
    obtain ⟨k, k5, hkn, hg, rfl, _, HF, HR⟩ := hrel
    have a0 := (HR.out.cell (p := ⟨w.heap.size, 0, none⟩) z0).trans e0
    have a1 := (HR.out.cell (p := ⟨w.heap.size, 1, none⟩) z0).trans e1
    by_cases hlt : k < n
    · have hlz : (k : Int) < (n : Int) := by omega
      obtain ⟨y, hy⟩ : ∃ y, L[k]? = some y := ⟨_, List.getElem?_eq_getElem (by rw [← HLn.out]; exact hlt)⟩
      have hN := HH.out.below HR.out
      have hcp : n ≤ c := by have := hN.1; rw [← HLn.out] at this; exact this
      rcases hN.2 with h3 | ⟨b, o, rfl, hbl, hcs⟩
      · rw [h3] at hy; cases hy
      · obtain ⟨c0, c1⟩ := hcs k y hy
        have HS := hidB (any_take_step (fun s => s == (x1, x2)) L k y hy)
        have HY := hidB hy
        obtain ⟨y1, y2⟩ := y
        simp only at c0 c1
        clear hN hcs hy
        have hG : (Tryd.prog).eqGuardType (Tryd.prog).depth 34 = false := by kernel_rfl
        have hE := fun w => eq_sp x1 x2 y1 y2 w
        generalize hr1 : ((y1, y2) == (x1, x2)) = r at hE HS
        have HR1 := hidB hr1
        clear hr1
        cases r with
        | true =>
          go_wp2
          go_quiet (fail)
          go_wp2
          go_ret
          exact ⟨⟨_, rfl, by rw [any_of_at (fun s => s == (x1, x2)) L k (y1, y2) HY.out HR1.out]; simp⟩, HB.out.trans ((cDrewN HR.out _).mono HB.out.size)⟩
        | false =>
          go_wp2
          go_quiet (fail)
          go_wp2
          go_roundg (n - (k + 1))
          case measure => omega
          case rel => exact ⟨k + 1, k5, by omega, by omega, by go_num, trivial, hidB (by rw [HS.out, HF.out]; rfl), hidB (cDrewN HR.out _)⟩
    · have hlz : ¬ (k : Int) < (n : Int) := by omega
      have hkn' : k = n := by omega
      subst hkn'
      have hF := HF.out
      rw [List.take_of_length_le (by rw [← HLn.out]; exact Nat.le_refl _)] at hF
      have HF2 := hidB hF
      clear hF HF
      go_wp2
      go_ret
      exact ⟨⟨-1, rfl, by rw [HF2.out]; rfl⟩, HB.out.trans (HR.out.mono HB.out.size)⟩
/-- whether a span is one of these -/
theorem ptHolds (x : Sp) (p : Option Addr) (c : Nat) (L : List Sp) (w : World) (h : Spans w p c L) (h20 : L.length ≤ 20) :
    Calls Tryd.prog 23 #[.slice p L.length c, .agg (spC x).toArray] w fun e w' => e = .returned (.bool (L.any (fun s => s == x))) ∧ Below w.heap.size w w' := by
  have hb := (Below.refl w.heap.size w).alloc (Nat.le_refl _) (.cells (spC x).toArray 34)
  have hi := ptIndex x p c L _ (h.below hb) h20
  have HB := hidB hb
  generalize L.any (fun s => s == x) = r at hi ⊢
  generalize L.length = n at hi ⊢
  obtain ⟨x1, x2⟩ := x
  simp only [spC] at hi HB ⊢
  change Hid (Below w.heap.size w (w.alloc (.cells #[.int .i64 x1, .int .i64 x2] 34))) at HB
  clear h hb
  go_enter Tryd.func23, Tryd.ntmps23
  go_wp2_with (fail)
  refine hi.mono ?_
  rintro e w2 ⟨⟨k, rfl, hk⟩, hb2⟩
  have HB2 := hidB (HB.out.trans (hb2.mono HB.out.size))
  clear hi hb2
  go_wp2
  go_ret
  exact ⟨by rw [← hk]; rfl, HB2.out⟩
end Go.Proofs.YtgiecmgopibcnaaDoor
