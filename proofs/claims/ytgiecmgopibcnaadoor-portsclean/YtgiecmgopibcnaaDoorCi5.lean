/- Layer 9 as landed: dotted. -/
import Derived.Test.YtgiecmgopibcnaaDoorCiSh
import Derived.Test.YtgiecmgopibcnaaDoorRefCi4
import Derived.Sort.Grow
import Derived.Deep.LoopGhost
namespace Go.Proofs.YtgiecmgopibcnaaDoor
open Go.RowKit
set_option linter.unusedVariables false
set_option maxRecDepth 20000
/-- the library's table of powers of ten lies in its variable -/
def Tb (w : World) : Prop := Lib.TabIs Tryd.prog w "internal/strconv.uint64pow10" .u64 Lib.pow10Tab
theorem Tb.below {w w' : World} (h : Tb w) (hb : Below w.heap.size w w') : Tb w' := by
  unfold Tb Lib.TabIs World.var? at *
  cases hg : (Tryd.prog).globalNamed "internal/strconv.uint64pow10" with
  | none => rw [hg] at h; simp at h
  | some g =>
    rw [hg] at h
    simp only [Option.bind_some] at h ⊢
    have hlt : g < w.heap.size := by
      rcases Nat.lt_or_ge g w.heap.size with h' | h'
      · exact h'
      · rw [Array.getElem?_eq_none h'] at h
        simp at h
    rw [hb.block g hlt]
    exact h
theorem ciGrow (w : World) (k : Nat) (os : Array Obj) : Below w.heap.size w (Sort.grow (w.drewN k) os) :=
  ⟨rfl, rfl, rfl, by rw [Sort.size_grow]; show w.heap.size ≤ w.heap.size + os.size; omega, fun i hi => Sort.heap_grow_old (w.drewN k) os hi⟩
theorem ciItoa (n : Nat) (hn : n ≤ 9223372036854775807) (w : World) (hT : Tb w) :
    Calls Tryd.prog 38 #[.int .i64 (n : Int)] w fun e w' => e = .returned (.string (sL (Lib.decDigits n))) ∧ Below w.heap.size w w' := by
  refine (Tryd.strconv_Itoa (n : Int) (by omega) (by omega) w hT).mono ?_
  rintro e w' ⟨rfl, k, os, rfl⟩
  refine ⟨?_, ciGrow w k os⟩
  have : Lib.itoa (n : Int) = Lib.decDigits n := by
    unfold Lib.itoa
    rw [if_neg (by omega)]
    rfl
  rw [this]
  rfl
/-- the byte's numbers of an address, in their order -/
def dotN (a : UInt32) (j : Nat) : List UInt8 := Lib.decDigits (a.toNat / 2 ^ (24 - 8 * j) % 256)
/-- the array, so far -/
structure Arr4 (w x : World) (a : UInt32) (k : Nat) : Prop where
  bel : Below w.heap.size w x
  lt : w.heap.size < x.heap.size
  c : ∀ j, j < 4 → ∃ s, x.cell? ⟨w.heap.size, j, none⟩ = some (.string s) ∧ (j < k → s = sL (dotN a j))
  f : ∀ o, x.frozen? ⟨w.heap.size, o, none⟩ = false
theorem Arr4.put {w x y : World} {a : UInt32} {k : Nat} (h : Arr4 w x a k) (hb : Below x.heap.size x y) (hk : k < 4) : Arr4 w (y.setCell ⟨w.heap.size, k, none⟩ (.string (sL (dotN a k)))) a (k + 1) := by
  have hc : ∀ o, y.cell? ⟨w.heap.size, o, none⟩ = x.cell? ⟨w.heap.size, o, none⟩ := fun o => hb.cell (p := ⟨w.heap.size, o, none⟩) h.lt
  refine ⟨(h.bel.trans (hb.mono h.bel.size)).setCell (p := ⟨w.heap.size, k, none⟩) (Nat.le_refl _) _, by rw [World.size_setCell]; exact Nat.lt_of_lt_of_le h.lt hb.size, fun j hj => ?_, fun o => ?_⟩
  · by_cases e : j = k
    · subst e
      obtain ⟨s, h1, _⟩ := h.c j hj
      exact ⟨_, World.cell?_setCell_same' y ⟨w.heap.size, j, none⟩ _ (by rw [hc, h1]; rfl), fun _ => rfl⟩
    · obtain ⟨s, h1, h2⟩ := h.c j hj
      refine ⟨s, ?_, fun hj2 => h2 (by omega)⟩
      rw [World.cell?_setCell_other (w := y) (a := ⟨w.heap.size, k, none⟩) (b := ⟨w.heap.size, j, none⟩) (v := .string (sL (dotN a k))) (fun h => e (Addr.mk.inj h).2.1.symm), hc, h1]
  · rw [World.frozen?_setCell, hb.frozen (p := ⟨w.heap.size, o, none⟩) h.lt]
    exact h.f o
theorem sL_data (l : List UInt8) : (sL l).data.toList = l := rfl
theorem dot_join (a : UInt32) : Lib.join ([sL (dotN a 0), sL (dotN a 1), sL (dotN a 2), sL (dotN a 3)].map (·.data.toList)) ((⟨#[46]⟩ : ByteArray).data.toList) = dotA a := by
  have ha := a.toNat_lt
  simp only [List.map_cons, List.map_nil, sL_data]
  rw [Lib.join_cons]
  unfold Lib.joinTail dotA dotL dotN
  rw [show a.toNat / 2 ^ (24 - 8 * 0) % 256 = a.toNat / 16777216 by simp; omega, show a.toNat / 2 ^ (24 - 8 * 1) % 256 = a.toNat / 65536 % 256 by simp, show a.toNat / 2 ^ (24 - 8 * 2) % 256 = a.toNat / 256 % 256 by simp, show a.toNat / 2 ^ (24 - 8 * 3) % 256 = a.toNat % 256 by simp]
  simp
theorem dotA_len (a : UInt32) : (dotA a).length ≤ 15 := by
  have ha := a.toNat_lt
  have h1 := dec_le3 (a.toNat / 16777216) (by omega)
  have h2 := dec_le3 (a.toNat / 65536 % 256) (by omega)
  have h3 := dec_le3 (a.toNat / 256 % 256) (by omega)
  have h4 := dec_le3 (a.toNat % 256) (by omega)
  unfold dotA dotL
  simp only [List.length_append, List.length_cons, List.length_nil]
  omega
end Go.Proofs.YtgiecmgopibcnaaDoor
