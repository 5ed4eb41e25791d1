/- Rows of bytes that a call makes itself: what they read as. -/
import Derived.Test.YtepmncfgkmpccaaDoorCalm
import Derived.Test.YtepmncfgkmpccaaDoorBigs
import Derived.Deep.RegionWith
import Derived.Deep.CutRange
import Derived.Deep.DeepCutAuto
import Derived.Lib.LazyBuf
namespace Go.Proofs.YtepmncfgkmpccaaDoor
open Go.RowKit
set_option linter.unusedVariables false

/-- a byte as a value -/
abbrev bv (x : UInt8) : Value := .int .u8 (x.toNat : Int)
theorem size5 : ∀ w, (Go.sizeOf 5).run Tryd.prog w = .ok 1 w := by
  obtain ⟨i0, hi, hz0, hz1, hz2⟩ := info_parts info5
  intro w
  simp [Go.sizeOf, typeInfo, hi, hz1]
/-- v owns the bytes bs, among blocks from base on -/
def OwnB (w : World) (base : Nat) (v : Value) (bs : List UInt8) : Prop := w.ownsRow base 5 1 v bs.length (bs.map bv)
theorem OwnB.string {w : World} {base : Nat} {v : Value} {bs : List UInt8} (h : OwnB w base v bs) : (convert 44 9 v).run Tryd.prog w = .ok (.string ⟨bs.toArray⟩) w := by
  unfold OwnB at h
  have h' := h
  rcases h.2 with ⟨rfl, hn⟩ | ⟨g, cap, cur, rfl, hb, hg, hle, hm, hcur, htake⟩
  · have : bs = [] := by simpa using hn
    subst this
    rw [run_convert_bytes_string w 44 9 5 none 0 0 Tryd.underlying44 Tryd.underlying5 Tryd.underlying9]
    rfl
  · exact run_convert_bytes_back (P := Tryd.prog) w 44 9 5 ⟨g, 0, none⟩ cap bs Tryd.underlying44 Tryd.underlying5 Tryd.underlying9 (fun j hj => by
      have := h'.cells rfl j (bv bs[j]) (by simp [hj])
      exact this)
theorem OwnB.nil (w : World) (base : Nat) : OwnB w base (.slice none 0 0) [] := World.ownsRow_nil _ _ _ _
theorem OwnB.snoc {w : World} {base n : Nat} {v : Value} {bs : List UInt8} {xs : List Value} {x : UInt8} (h : w.ownsRow base 5 1 v n xs) (hn : n = bs.length + 1) (hx : xs = bs.map bv ++ [bv x]) : OwnB w base v (bs ++ [x]) := by
  unfold OwnB
  rw [List.length_append, List.map_append]
  subst hn hx
  exact h
/-- 'copy(dst, src)' between two slices of one-cell elements, as one step of a region that draws. -/
theorem step_copy_cells {P : Program} {ops : Array Oper} {o : Oper} {a : Act} {w : World} {K : Act → World → Prop} {Q : Exit → Act → World → Prop} {E : Prop}
    (hg : o.guard = none) (d x : Operand) (dT sT : TypeId) (hop : o.op = Op.call { callee := Callee.builtin Builtin.copy, args := #[d, x], argTypes := #[dT, sT] })
    (elem : TypeId) (hu : P.underlying dT = some (.slice elem)) (hz : (P.info? elem).map (·.size) = some 1)
    (b off dLen dCap : Nat) (hd : a.eval d = .slice (some ⟨b, off, none⟩) dLen dCap) (sa : Addr) (sLen sCap : Nat) (hx : a.eval x = .slice (some sa) sLen sCap) (cs : List Value) (hn : cs.length = Nat.min sLen dLen)
    (hsrc : ∀ j v, cs[j]? = some v → w.cell? (sa.add j) = some v) (hc : ∀ j, j < cs.length → (w.cell? ⟨b, off + j, none⟩).isSome = true) (hf : ∀ j, j < cs.length → w.frozen? ⟨b, off + j, none⟩ = false) (h1 : ∀ v ∈ cs, v.oneCell' = true)
    (hK : K (a.put o.dst (goInt cs.length)) (w.setCells b off cs)) :
    if Region.wanted o (yielded ops a.tmps) = true then Oper.wp P o a w K Q else E := by
  have hw : Region.wanted o (yielded ops a.tmps) = true := by simp [Region.wanted, hg]
  rw [if_pos hw]
  have hrun := run_copy_cells (P := P) w dT sT o.type elem b off dLen dCap sa sLen sCap cs hu hz hn hsrc hc hf h1
  unfold Oper.wp
  simp [execOp, hop, resolve, invoke, builtin, hd, hx, hrun, Result.andThen]
  exact hK
theorem info5s : (Tryd.prog.info? 5).map (·.size) = some 1 := by kernel_rfl
theorem list6 {q : Nat → Value → Prop} {v0 v1 v2 v3 v4 v5 : Value} (h0 : q 0 v0) (h1 : q 1 v1) (h2 : q 2 v2) (h3 : q 3 v3) (h4 : q 4 v4) (h5 : q 5 v5) : ∀ j v, [v0, v1, v2, v3, v4, v5][j]? = some v → q j v := by
  intro j v hj
  match j, hj with
  | 0, hj => simp at hj; subst hj; exact h0
  | 1, hj => simp at hj; subst hj; exact h1
  | 2, hj => simp at hj; subst hj; exact h2
  | 3, hj => simp at hj; subst hj; exact h3
  | 4, hj => simp at hj; subst hj; exact h4
  | 5, hj => simp at hj; subst hj; exact h5
theorem mem6 {v0 v1 v2 v3 v4 v5 : Value} (h0 : v0.oneCell' = true) (h1 : v1.oneCell' = true) (h2 : v2.oneCell' = true) (h3 : v3.oneCell' = true) (h4 : v4.oneCell' = true) (h5 : v5.oneCell' = true) : ∀ v ∈ [v0, v1, v2, v3, v4, v5], v.oneCell' = true := by
  intro v hv
  simp at hv
  rcases hv with h | h | h | h | h | h <;> subst h <;> assumption
theorem below2 (w : World) (A B : Obj) : Below w.heap.size w ((w.alloc A).alloc B) := ((Below.refl _ _).alloc (Nat.le_refl _) _).alloc (by simp) _
theorem below1 (w : World) (A : Obj) : Below w.heap.size w (w.alloc A) := (Below.refl _ _).alloc (Nat.le_refl _) _
/-- one block made ahead, then what a callee leaves -/
theorem below_after {w wx w' : World} (h : Below w.heap.size w wx) (h2 : Below wx.heap.size wx w') : Below w.heap.size w w' := h.trans (h2.mono h.size)
theorem six_cases {p : Nat → Prop} (h0 : p 0) (h1 : p 1) (h2 : p 2) (h3 : p 3) (h4 : p 4) (h5 : p 5) : ∀ j, j < 6 → p j := by
  intro j hj
  match j, hj with
  | 0, _ => exact h0
  | 1, _ => exact h1
  | 2, _ => exact h2
  | 3, _ => exact h3
  | 4, _ => exact h4
  | 5, _ => exact h5
theorem bytes2 (s : ByteArray) (i : Nat) (h : i + 2 ≤ s.size) : ∃ a0 a1 : UInt8, s.extract i (i + 2) = ⟨#[a0, a1]⟩ ∧ s[i] = a0 ∧ s[i + 1] = a1 := by
  refine ⟨s[i], s[i + 1], ?_, rfl, rfl⟩
  apply ByteArray.ext
  apply Array.ext
  · simp
    omega
  · intro k h1 h2
    have hk : k < 2 := by simpa using h2
    match k, hk with
    | 0, _ => simp [ByteArray.getElem_eq_getElem_data]
    | 1, _ => simp [ByteArray.getElem_eq_getElem_data]
theorem bytes6 (s : ByteArray) (i : Nat) (h : i + 6 ≤ s.size) : ∃ a0 a1 a2 a3 a4 a5 : UInt8, s.extract i (i + 6) = ⟨#[a0, a1, a2, a3, a4, a5]⟩ ∧ s[i] = a0 ∧ s[i + 1] = a1 ∧ s[i + 2] = a2 ∧ s[i + 3] = a3 ∧ s[i + 4] = a4 ∧ s[i + 5] = a5 := by
  refine ⟨s[i], s[i + 1], s[i + 2], s[i + 3], s[i + 4], s[i + 5], ?_, rfl, rfl, rfl, rfl, rfl, rfl⟩
  apply ByteArray.ext
  apply Array.ext
  · simp
    omega
  · intro k h1 h2
    have hk : k < 6 := by simpa using h2
    match k, hk with
    | 0, _ => simp [ByteArray.getElem_eq_getElem_data]
    | 1, _ => simp [ByteArray.getElem_eq_getElem_data]
    | 2, _ => simp [ByteArray.getElem_eq_getElem_data]
    | 3, _ => simp [ByteArray.getElem_eq_getElem_data]
    | 4, _ => simp [ByteArray.getElem_eq_getElem_data]
    | 5, _ => simp [ByteArray.getElem_eq_getElem_data]
end Go.Proofs.YtepmncfgkmpccaaDoor
