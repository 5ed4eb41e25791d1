/- Rows of bytes in memory of the call's own: made, stored into, read as a text. -/
import Derived.Test.YtkfgapljphhmcaaBytes
import Derived.Laws.OwnMore
namespace Go.Proofs.Ytkfgapljphhmcaa
open Go.RowKit
set_option linter.unusedVariables false

/-- block b holds the bytes bs, from its head on, and they may be written -/
def BRow (w : World) (b : Nat) (bs : List UInt8) : Prop := ∀ j (h : j < bs.length), w.cell? ⟨b, j, none⟩ = some (bv bs[j]) ∧ w.frozen? ⟨b, j, none⟩ = false
theorem BRow.at {w : World} {b : Nat} {bs : List UInt8} (h : BRow w b bs) {j : Nat} (hj : j < bs.length) : w.cell? ⟨b, j, none⟩ = some (bv (bs.getD j 0)) ∧ w.frozen? ⟨b, j, none⟩ = false := by
  have := h j hj
  simpa [List.getD, hj] using this
theorem BRow.made (w : World) (n : Nat) : BRow (w.alloc (.cells (madeCells #[.int .u8 0] n) 5)) w.heap.size (List.replicate n 0) := by
  intro j hj
  have hj' : j < n := by simpa using hj
  refine ⟨?_, by simp⟩
  rw [World.cell?_alloc_new]
  have : (madeCells #[Value.int .u8 0] n)[j]? = (madeCells #[Value.int .u8 0] n).toList[j]? := by simp
  rw [this, toList_madeCells_one]
  simp [hj', bv]
theorem size_bytesRow (s : ByteArray) (c : Nat) : (bytesRow s c).size = s.data.size + (c - s.size) := by
  unfold bytesRow
  rw [Array.size_append, Array.size_map, Array.size_replicate]
theorem BRow.conv (w : World) (s : ByteArray) (c : Nat) (e : TypeId) : BRow (w.alloc (.cells (bytesRow s c) e ((bytesRow s c).size, (bytesRow s c).size + 1))) w.heap.size s.data.toList := by
  intro j hj
  have hj' : j < s.data.size := by simpa using hj
  have hlt : j < (bytesRow s c).size := by rw [size_bytesRow]; omega
  constructor
  · rw [World.cell?_alloc_mark]
    unfold bytesRow
    rw [Array.getElem?_append_left (by rw [Array.size_map]; exact hj'), Array.getElem?_map, Array.getElem?_eq_getElem hj']
    rfl
  · have h : (w.alloc (.cells (bytesRow s c) e ((bytesRow s c).size, (bytesRow s c).size + 1))).heap[w.heap.size]? = some (.cells (bytesRow s c) e ((bytesRow s c).size, (bytesRow s c).size + 1)) := by
      show (w.heap.push _)[w.heap.size]? = _
      simp
    unfold World.frozen?
    rw [h]
    simp
    omega
theorem BRow.set {w : World} {b : Nat} {bs : List UInt8} (h : BRow w b bs) (k : Nat) (x : UInt8) : BRow (w.setCell ⟨b, k, none⟩ (bv x)) b (bs.set k x) := by
  intro j hj
  have hj' : j < bs.length := by simpa using hj
  obtain ⟨h1, h2⟩ := h j hj'
  refine ⟨?_, by rw [World.frozen?_setCell]; exact h2⟩
  by_cases e : j = k
  · subst e
    rw [World.cell?_setCell_same _ _ _ h1]
    simp
  · rw [World.cell?_setCell_other _ _ _ _ (by simp <;> omega), h1]
    rw [List.getElem_set_ne (by omega)]
theorem BRow.other {w : World} {b c : Nat} {bs : List UInt8} (h : BRow w b bs) (hc : b ≠ c) (k : Nat) (v : Value) : BRow (w.setCell ⟨c, k, none⟩ v) b bs := by
  intro j hj
  obtain ⟨h1, h2⟩ := h j hj
  exact ⟨by rw [World.cell?_setCell_other _ _ _ _ (by intro h; exact hc (congrArg Addr.block h).symm)]; exact h1, by rw [World.frozen?_setCell]; exact h2⟩
theorem BRow.below {w w' : World} {b B : Nat} {bs : List UInt8} (h : BRow w b bs) (hb : Below B w w') (hB : b < B) : BRow w' b bs := by
  intro j hj
  obtain ⟨h1, h2⟩ := h j hj
  exact ⟨by rw [hb.cell (by exact hB)]; exact h1, by rw [hb.frozen (by exact hB)]; exact h2⟩
theorem BRow.string {w : World} {b n c : Nat} {bs : List UInt8} (h : BRow w b bs) (hn : n = bs.length) : (convert 45 9 (.slice (some ⟨b, 0, none⟩) n c)).run Try.prog w = .ok (.string ⟨bs.toArray⟩) w := by
  subst hn
  exact run_convert_bytes_back (P := Try.prog) w 45 9 5 ⟨b, 0, none⟩ c bs Try.underlying45 Try.underlying5 Try.underlying9 (fun j hj => by
    rw [Addr.add_lit, Nat.zero_add]
    exact (h j hj).1)
theorem conv_row (w : World) (s : ByteArray) : ∃ (W : World) (c : Nat), (convert 9 45 (.string s)).run Try.prog w = .ok (.slice (some ⟨w.heap.size, 0, none⟩) s.size c) W ∧ BRow W w.heap.size s.data.toList ∧ Below w.heap.size w W ∧ w.heap.size < W.heap.size := by
  refine ⟨_, _, run_bytes_of_string (P := Try.prog) w 9 45 5 s Try.underlying9 Try.underlying45 Try.underlying5, ?_, ?_, ?_⟩
  · exact BRow.conv w.drew s _ 5
  · exact (Below.refl w.heap.size w).drew.alloc (Nat.le_refl _) _
  · show w.heap.size < (w.heap.push _).size
    simp
theorem make_bytes (n : Nat) (hn : n ≤ 1000000) (u : World) : (Instr.makeSlice 45 (.int .i64 (n : Int)) (.int .i64 (n : Int))).run Try.prog u =
    .ok (.slice (some ⟨u.heap.size, 0, none⟩) n n) (u.alloc (.cells (madeCells #[.int .u8 0] n) 5)) := by
  obtain ⟨i0, hi, hz0, hz1, hz2⟩ := info_parts info5
  have h := run_make (P := Try.prog) u 45 5 i0 (.int .u8 0) Try.underlying45 hi hz0 .i64 .i64 (n : Int) (n : Int) (by omega) (Int.le_refl _) (by rw [hz2]; omega) (by omega)
  simpa [hz1, Value.cells] using h
theorem head_ext (L body : ByteArray) (i j : Nat) (hj : j ≤ L.size) : (L ++ body).extract i j = L.extract i j := by
  apply ByteArray.ext
  rw [ByteArray.data_extract, ByteArray.data_extract, ByteArray.data_append, Array.extract_append]
  have : j - L.data.size = 0 := by show j - L.size = 0; omega
  rw [this]
  simp
theorem tail_ext (L body : ByteArray) : (L ++ body).extract L.size (L ++ body).size = body := ByteArray.extract_append_eq_right rfl (by simp)
end Go.Proofs.Ytkfgapljphhmcaa
