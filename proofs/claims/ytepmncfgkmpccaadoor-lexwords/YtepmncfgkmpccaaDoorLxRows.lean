/- Layer 8: appending bytes to a row of one's own, beside iterators. -/
import Derived.Test.YtepmncfgkmpccaaDoorLxs2
import Derived.Lib.OthersKept
namespace Go.Proofs.YtepmncfgkmpccaaDoor
open Go.RowKit
set_option linter.unusedVariables false
set_option linter.unusedSimpArgs false

theorem OwnB.form {w : World} {base : Nat} {v : Value} {bs : List UInt8} (h : OwnB w base v bs) : ∃ p c, v = .slice p bs.length c := by
  unfold OwnB at h
  rcases h.2 with ⟨rfl, hn⟩ | ⟨g, cap, cur, rfl, _⟩
  · have : bs.length = 0 := by omega
    exact ⟨none, 0, by rw [this]⟩
  · exact ⟨_, _, rfl⟩
/-- what stands beside rows of bytes stands as it stood -/
abbrev Beside (w w' : World) : Prop := Lib.OthersKept 5 none w w'
theorem Beside.iter {w w' : World} (h : Beside w w') {k : Nat} {s : ByteArray} {pos : Nat} (hk : w.heap[k]? = some (.stringIter s pos)) : w'.heap[k]? = some (.stringIter s pos) :=
  h k _ hk (fun e => by cases e) (fun _ _ e => by cases e)
theorem OwnB.kind {w : World} {base : Nat} {v : Value} {bs : List UInt8} (h : OwnB w base v bs) : ∀ g, v.ownBlock = some g → ∃ c fz, w.heap[g]? = some (.cells c 5 fz) := by
  intro g hg
  unfold OwnB at h
  rcases h.2 with ⟨rfl, _⟩ | ⟨g', cap, cur, rfl, _, hgg, _⟩
  · simp [Value.ownBlock] at hg
  · simp [Value.ownBlock] at hg
    subst hg
    exact ⟨cur, _, hgg⟩
theorem OwnB.iterAt {w : World} {base : Nat} {v : Value} {bs : List UInt8} (h : OwnB w base v bs) {k : Nat} {s : ByteArray} {pos : Nat} (hk : w.heap[k]? = some (.stringIter s pos)) (pos' : Nat) : OwnB (w.iterAt k s pos') base v bs := by
  have h0 := h
  unfold OwnB at h ⊢
  rcases h.2 with ⟨rfl, hn⟩ | ⟨g, cap, cur, rfl, hb, hg, r1, r2, r3, r4⟩
  · exact ⟨h.1, Or.inl ⟨rfl, hn⟩⟩
  · refine ⟨h.1, Or.inr ⟨g, cap, cur, rfl, hb, ?_, r1, r2, r3, r4⟩⟩
    rw [Lib.iterAt_other]
    · exact hg
    · intro e
      rw [e, hk] at hg
      cases hg
/-- a row of one's own stands where nothing is written below some place, or where it lies below -/
theorem OwnB.below {w w' : World} {base B : Nat} {v : Value} {bs : List UInt8} (h : OwnB w base v bs) (hb : Below B w w') (hB : w.heap.size ≤ B) : OwnB w' base v bs := by
  unfold OwnB at h ⊢
  rcases h.2 with ⟨rfl, hn⟩ | ⟨g, cap, cur, rfl, hbg, hg, r1, r2, r3, r4⟩
  · exact ⟨h.1, Or.inl ⟨rfl, hn⟩⟩
  · refine ⟨h.1, Or.inr ⟨g, cap, cur, rfl, hbg, ?_, r1, r2, r3, r4⟩⟩
    have hlt : g < w.heap.size := (Array.getElem?_eq_some_iff.1 hg).1
    rw [hb.block g (by omega)]
    exact hg
/-- one byte more, made in a block of its own -/
theorem app_byte {ops : Array Oper} {rest : List Oper} {o : Oper} {a : Act} {w : World} {Q : Exit → Act → World → Prop} (hgd : o.guard = none) (s x : Operand)
    (ho : o.op = .call { callee := .builtin .append, args := #[s, x], argTypes := #[44, 44] })
    (base : Nat) (v : Value) (bs : List UInt8) (hs : a.eval s = v) (HO : Hid (OwnB w base v bs)) (hbase : base ≤ w.heap.size) (hn : bs.length ≤ 1000000) (y : UInt8)
    (hx : a.eval x = .slice (some ⟨w.heap.size, 0, none⟩) 1 1)
    (h : ∀ v' w', Hid (OwnB w' base v' (bs ++ [y])) → Hid (∀ B W, B ≤ base → B ≤ W.heap.size → Below B W w → Below B W w') → Hid (Beside w w') → w.heap.size ≤ w'.heap.size → wpList Tryd.prog ops Q rest (a.put o.dst v') w') :
    wpList Tryd.prog ops Q (o :: rest) a (w.alloc (.cells #[bv y] 5)) := by
  obtain ⟨i0, hib, hz0, hz1, hz2⟩ := info_parts info5
  have hO : OwnB w base v bs := HO
  have hO2 := World.ownsRow.alloc hO (.cells #[bv y] 5)
  refine wpList_append_own _ hgd s x 44 ho base 5 i0 (.int .u8 0) 1 1 Tryd.underlying44 hib hz0 hz1 hz2 rfl (by decide) v bs.length (bs.map bv) hs hO2 ⟨w.heap.size, 0, none⟩ 1 1 [bv y] hx rfl ?_ ?_ (by unfold maxLen; omega) (by omega) (by simp; omega) ?_
  · intro j u hj
    match j, hj with
    | 0, hj => simp at hj; subst hj; simp [Addr.add]
  · intro u hu
    simp at hu
    subst hu
    rfl
  · intro v' w' hown hgrow _
    have hrow : ∀ g, v.ownBlock = some g → ∃ c fz, (w.alloc (.cells #[bv y] 5)).heap[g]? = some (.cells c 5 fz) := OwnB.kind (w := w.alloc (.cells #[bv y] 5)) (base := base) (bs := bs) hO2
    refine h v' w' (OwnB.snoc hown rfl rfl) ?_ ?_ ?_
    · intro B W hB hBW hb
      exact (hb.alloc (Nat.le_trans hBW hb.size) _).grown hgrow (by have := hb.size; simp; omega) (fun g hg => Nat.le_trans hB (World.ownsRow.lt hO2 g hg).1)
    · exact Lib.OthersKept.grown ((Lib.OthersKept.refl _ _ w).alloc _) hgrow hrow
    · have := hgrow.size
      simp at this
      omega
/-- the bytes of another row of one's own, behind -/
theorem app_bytes {ops : Array Oper} {rest : List Oper} {o : Oper} {a : Act} {w : World} {Q : Exit → Act → World → Prop} (hgd : o.guard = none) (s x : Operand)
    (ho : o.op = .call { callee := .builtin .append, args := #[s, x], argTypes := #[44, 44] })
    (base : Nat) (v : Value) (bs : List UInt8) (hs : a.eval s = v) (HO : Hid (OwnB w base v bs)) (hbase : base ≤ w.heap.size) (hn : bs.length ≤ 1000000)
    (base2 : Nat) (v2 : Value) (cs : List UInt8) (hx : a.eval x = v2) (HO2 : Hid (OwnB w base2 v2 cs)) (hn2 : cs.length ≤ 1000000) (hne : cs ≠ [])
    (h : ∀ v' w', Hid (OwnB w' base v' (bs ++ cs)) → Hid (∀ B W, B ≤ base → B ≤ W.heap.size → Below B W w → Below B W w') → Hid (Beside w w') → w.heap.size ≤ w'.heap.size → wpList Tryd.prog ops Q rest (a.put o.dst v') w') :
    wpList Tryd.prog ops Q (o :: rest) a w := by
  obtain ⟨i0, hib, hz0, hz1, hz2⟩ := info_parts info5
  have hO : OwnB w base v bs := HO
  have hO2 : OwnB w base2 v2 cs := HO2
  have hcell : ∃ g cap, v2 = .slice (some ⟨g, 0, none⟩) cs.length cap := by
    have h2 := hO2
    unfold OwnB at h2
    rcases h2.2 with ⟨rfl, hn⟩ | ⟨g, cap, cur, rfl, _⟩
    · have : cs = [] := List.eq_nil_of_length_eq_zero (by omega)
      exact absurd this hne
    · exact ⟨g, cap, rfl⟩
  obtain ⟨g, cap, rfl⟩ := hcell
  refine wpList_append_own _ hgd s x 44 ho base 5 i0 (.int .u8 0) 1 1 Tryd.underlying44 hib hz0 hz1 hz2 rfl (by decide) v bs.length (bs.map bv) hs hO ⟨g, 0, none⟩ cs.length cap (cs.map bv) hx (by simp) ?_ ?_ (by unfold maxLen; omega) (by omega) hbase ?_
  · intro j u hj
    exact World.ownsRow.cells hO2 rfl j u hj
  · intro u hu
    obtain ⟨y, _, rfl⟩ := List.mem_map.1 hu
    rfl
  · intro v' w' hown hgrow _
    refine h v' w' ?_ ?_ ?_ ?_
    · show OwnB _ _ _ _
      unfold OwnB
      rw [List.length_append, List.map_append]
      exact hown
    · intro B W hB hBW hb
      exact hb.grown hgrow (Nat.le_trans hBW hb.size) (fun g hg => Nat.le_trans hB (World.ownsRow.lt hO g hg).1)
    · exact Lib.OthersKept.grown (Lib.OthersKept.refl _ _ w) hgrow (OwnB.kind hO)
    · exact hgrow.size
end Go.Proofs.YtepmncfgkmpccaaDoor
