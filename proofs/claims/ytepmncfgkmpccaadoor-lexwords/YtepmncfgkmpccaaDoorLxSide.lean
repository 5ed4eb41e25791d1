/- Layer 8: texts as lists, elements of two lists side by side. -/
import Derived.Test.YtepmncfgkmpccaaDoorLxCat
import Derived.Test.YtepmncfgkmpccaaDoorLxAw
namespace Go.Proofs.YtepmncfgkmpccaaDoor
open Go.RowKit
set_option linter.unusedVariables false
set_option linter.unusedSimpArgs false

def ofL (l : List UInt8) : ByteArray := ⟨l.toArray⟩
theorem ofL_app (a : List UInt8) (b : ByteArray) : ofL a ++ b = ofL (a ++ b.data.toList) := by
  apply ByteArray.ext
  simp [ofL]
theorem ofL_of (s : ByteArray) : s = ofL s.data.toList := by
  cases s; simp [ofL]
theorem ofL_data (l : List UInt8) : (ofL l).data.toList = l := by simp [ofL]
theorem ofL_size (l : List UInt8) : (ofL l).size = l.length := by show l.toArray.size = _; simp
theorem one_elem (i N : Nat) (ts : List Lx.Tok) (h : i < ts.length) (o : Nat) (ho : o < 4) : (ts.flatMap tokL)[i * 4 + o]? = (tokL ts[i])[o]? := by
  induction ts generalizing i with
  | nil => simp at h
  | cons t ts ih =>
    cases i with
    | zero =>
      rw [List.flatMap_cons, Nat.zero_mul, Nat.zero_add, List.getElem?_append_left (by simp [tokL]; omega)]
      rfl
    | succ i =>
      have h' : i < ts.length := by simpa using h
      rw [List.flatMap_cons, List.getElem?_append_right (by simp [tokL]; omega)]
      have e : (i + 1) * 4 + o - (tokL t).length = i * 4 + o := by simp [tokL]; omega
      rw [e, ih i h']
      rfl
theorem bel_drewN {B : Nat} {a w : World} (h : Below B a w) (q : Nat) : Below B a (w.drewN q) := ⟨h.os, h.tape, h.output, h.size, h.block⟩
theorem own_max {e : TypeId} {w : World} {base : Nat} {v : Value} {ts : List Lx.Tok} (h : OwnT e w base v ts) : ts.length ≤ maxLen := by
  unfold OwnT at h
  rcases h.2 with ⟨rfl, hn⟩ | ⟨g, cap, cur, rfl, _, _, h1, h2, _⟩
  · rw [hn]; exact Nat.zero_le _
  · omega
/-- what is asked of the loop that holds the two lists side by side -/
theorem elem_cells {e : TypeId} {w w' : World} {base : Nat} {v : Value} {ts : List Lx.Tok} (h : OwnT e w base v ts) (hb : Below w.heap.size w w') (hne : ts ≠ []) : ∃ g c, v = .slice (some ⟨g, 0, none⟩) ts.length c ∧ Hid (∀ i, (hi : i < ts.length) → w'.cell? ⟨g, i * 4, none⟩ = some (.int .i64 ts[i].kind) ∧ w'.cell? ⟨g, i * 4 + 1, none⟩ = some (.string ⟨ts[i].s.toArray⟩) ∧ w'.cell? ⟨g, i * 4 + 2, none⟩ = some (.int .i64 ts[i].n) ∧ w'.cell? ⟨g, i * 4 + 3, none⟩ = some (.int .i64 ts[i].line)) := by
  obtain ⟨g, c, rfl, hg, hc⟩ := h.at hne
  refine ⟨g, c, rfl, fun i hi => ?_⟩
  have hlt : g < w.heap.size := ((World.ownsRow.lt h) g rfl).2
  have key : ∀ o, o < 4 → w'.cell? ⟨g, i * 4 + o, none⟩ = (tokL ts[i])[o]? := fun o ho => by
    rw [hb.cell (p := ⟨g, i * 4 + o, none⟩) hlt, hc (i * 4 + o) (by omega), one_elem i 0 ts hi o ho]
  exact ⟨key 0 (by omega), key 1 (by omega), key 2 (by omega), key 3 (by omega)⟩
end Go.Proofs.YtepmncfgkmpccaaDoor
