/- From a walk to the row: a set of ports among the arguments. -/
import Derived.Test.YtgiecmgopibcnaaDoorLoads
import Derived.Test.YtgiecmgopibcnaaDoorPtPl
import Derived.Test.YtgiecmgopibcnaaDoorLift
import Derived.Test.YtgiecmgopibcnaaDoorTie
import Derived.LaidSub
import Derived.MakeChecks
namespace Go.Proofs.YtgiecmgopibcnaaDoor
open Go.ChangeShapes Go.WideShapes Go.ChangeAt Go.RowKit
set_option linter.unusedVariables false
set_option maxRecDepth 20000
theorem list_of {α : Type} {p : Nat → α → Prop} : ∀ n : Nat, (∀ k, k < n → ∃ x, p k x) → ∃ L : List α, L.length = n ∧ ∀ k x, L[k]? = some x → p k x
  | 0, _ => ⟨[], rfl, fun k x h => by cases h⟩
  | n + 1, h => by
    obtain ⟨L, hl, hL⟩ := list_of n (fun k hk => h k (by omega))
    obtain ⟨x, hx⟩ := h n (by omega)
    refine ⟨L ++ [x], by simp [hl], fun k y hk => ?_⟩
    by_cases e : k < n
    · rw [List.getElem?_append_left (by omega)] at hk
      exact hL k y hk
    · rw [List.getElem?_append_right (by omega)] at hk
      have hk0 : k - L.length = 0 := by
        have := (List.getElem?_eq_some_iff.1 hk).1
        simp at this; omega
      rw [hk0] at hk
      cases hk
      have : k = n := by omega
      rw [this]; exact hx
theorem trod_span {H : Type} {enc : TypeId × Value → H} {w : World} {base : Nat} {spare : Nat → Bool} {held : Bool} {n : Nat} {cs : List Value} {y : DataW H × List MemPlace} (h : DataW.trod enc Tryd.prog w base spare held n 34 cs = some y) :
    ∃ x : Sp, cs = spC x := by
  obtain ⟨xs, m, _, _, hl, hlen, hfd⟩ := DataW.trod_struct Tryd.underlying34 h
  have hl2 : cs.length = 2 := hl.trans (by kernel_rfl)
  obtain ⟨c0, c1, rfl⟩ : ∃ c0 c1, cs = [c0, c1] := by
    match cs, hl2 with
    | [c0, c1], _ => exact ⟨c0, c1, rfl⟩
  obtain ⟨y0, h0⟩ := some_at (i := 0) hlen (by decide)
  obtain ⟨y1, h1⟩ := some_at (i := 1) hlen (by decide)
  have k0 : Tryd.prog.cellsOf 3 = 1 := by kernel_rfl
  have g0 : DataW.trod enc Tryd.prog w base spare held m 3 (List.take (Tryd.prog.cellsOf 3) [c0, c1]) = some y0 := (hfd 0 _ rfl).trans h0
  rw [k0] at g0
  have k1 : Tryd.prog.cellsOf 3 = 1 := by kernel_rfl
  have g1 : DataW.trod enc Tryd.prog w base spare held m 3 (List.take (Tryd.prog.cellsOf 3) [c1]) = some y1 := (hfd 1 _ rfl).trans h1
  rw [k1] at g1
  obtain ⟨a, e0, _, w0⟩ := DataW.trod_int Tryd.underlying3 g0
  simp at e0
  subst e0
  obtain ⟨b, e1, _, w1⟩ := DataW.trod_int Tryd.underlying3 g1
  simp at e1
  subst e1
  exact ⟨(a, b), rfl⟩
theorem open_ports {H : Type} {enc : TypeId × Value → H} {w : World} {base b0 : Nat} {r : Reach} {spare : Nat → Bool} {held : Bool} {v : Value} {d : DataW H} {p : List MemPlace} (hv : Value.okWide Tryd.prog w r b0 24 v) (h : DataW.Trod enc Tryd.prog w base spare held 24 v d p) :
    ∃ (no : Bool) (p : Option Addr) (c : Nat) (L : List Sp), v = .agg (ptC no p L.length c) ∧ Spans w p c L ∧ L.length ≤ maxLen := by
  obtain ⟨cs, rfl, hsz⟩ := okWide_struct Tryd.underlying24 hv
  have hsz2 : cs.size = 2 := hsz.trans (by kernel_rfl)
  obtain ⟨c0, c1, rfl⟩ : ∃ c0 c1, cs = #[c0, c1] := by
    obtain ⟨l⟩ := cs
    match l, hsz2 with
    | [c0, c1], _ => exact ⟨c0, c1, rfl⟩
  obtain ⟨fuel, hf⟩ := h
  obtain ⟨xs, n, _, _, hl, hlen, hfd⟩ := DataW.trod_struct Tryd.underlying24 hf
  obtain ⟨y0, h0⟩ := some_at (i := 0) hlen (by decide)
  obtain ⟨y1, h1⟩ := some_at (i := 1) hlen (by decide)
  have k0 : Tryd.prog.cellsOf 4 = 1 := by kernel_rfl
  have k1 : Tryd.prog.cellsOf 22 = 1 := by kernel_rfl
  have g0 : DataW.trod enc Tryd.prog w base spare held n 4 (List.take (Tryd.prog.cellsOf 4) [c0, c1]) = some y0 := (hfd 0 _ rfl).trans h0
  rw [k0] at g0
  have g1 : DataW.trod enc Tryd.prog w base spare held n 22 (List.take (Tryd.prog.cellsOf 22) [c1]) = some y1 := (hfd 1 _ rfl).trans h1
  rw [k1] at g1
  obtain ⟨no, e0, _⟩ := DataW.trod_bool Tryd.underlying4 g0
  simp at e0
  subst e0
  have g1' : DataW.trod enc Tryd.prog w base spare held n 22 [c1] = some y1 := g1
  rcases DataW.trod_slice Tryd.underlying22 g1' with ⟨hn, _⟩ | ⟨ad, l, c, elems, rest, m, _, hs, _, _, hlc, hcm, _, _⟩
  · simp at hn
    subst hn
    exact ⟨no, none, 0, [], rfl, ⟨Nat.le_refl _, .inl rfl⟩, Nat.zero_le _⟩
  · simp at hs
    subst hs
    obtain ⟨hel, hm⟩ := open_elems (F := fun (o : Sp) cs => cs = spC o) (size := 2) Tryd.underlying22 (by kernel_rfl) (fun n cs y hl hy => trod_span hy) g1'
    obtain ⟨L, hL, hLn⟩ := list_of (p := fun k (x : Sp) => CellsAt w (ad.add (k * 2)) (spC x)) l (fun k hk => by
      obtain ⟨ad2, o, cs, e1, rfl, _, e3⟩ := hel k hk
      cases e1
      exact ⟨o, e3⟩)
    subst hL
    refine ⟨no, some ad, c, L, rfl, ⟨hlc, ?_⟩, hm⟩
    cases hLc : L with
    | nil => exact .inl rfl
    | cons x R =>
      have h00 := hLn 0 x (by rw [hLc]; rfl) 0 _ rfl
      have hsp : ad.spot = none := by
        cases hsp : ad.spot with
        | none => rfl
        | some q =>
          exfalso
          have : (ad.add (0 * 2)).add 0 = ad := by simp [Addr.add]
          rw [this] at h00
          unfold World.cell? at h00
          rw [hsp] at h00
          split at h00 <;> simp at h00
      obtain ⟨bk, of, sp⟩ := ad
      cases hsp
      have ea : ∀ k q, ((⟨bk, of, none⟩ : Addr).add k).add q = ⟨bk, of + k + q, none⟩ := fun k q => by
        simp only [Addr.add]
        split <;> split <;> simp_all <;> omega
      refine .inr ⟨bk, of, rfl, ?_, fun j y hj => ?_⟩
      · exact World.block_lt_of_cell? w _ h00
      · rw [← hLc] at hj
        have a0 := hLn j y hj 0 _ rfl
        have a1 := hLn j y hj 1 _ rfl
        rw [ea] at a0 a1
        exact ⟨a0, a1⟩
end Go.Proofs.YtgiecmgopibcnaaDoor
