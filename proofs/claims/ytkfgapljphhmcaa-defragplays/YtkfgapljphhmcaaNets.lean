/- What the layers of heads share: the sum as one number, bytes by their places, blocks of a call's own, rows of bytes of 0. -/
import Derived.Test.YtkfgapljphhmcaaTwos
import Derived.Test.YtkfgapljphhmcaaTail
import Derived.Test.YtkfgapljphhmcaaRows2
namespace Go.Proofs.Ytkfgapljphhmcaa
open Go.RowKit
set_option linter.unusedVariables false

/-- layer 1's sum -/
def sumL (l : List UInt8) : Int := 65535 - Pl.fld (Pl.wt true l)
theorem ofL (l : List UInt8) : (⟨l.toArray⟩ : ByteArray).data.toList = l := by simp
theorem toList_append (a b : ByteArray) : (a ++ b).data.toList = a.data.toList ++ b.data.toList := by simp
theorem toList_length (a : ByteArray) : a.data.toList.length = a.size := Array.length_toList

def byteAt (l : List UInt8) (i : Nat) : Nat := (l.getD i 0).toNat
theorem wt_even (l m : List UInt8) (h : l.length % 2 = 0) : Pl.wt true (l ++ m) = Pl.wt true l + Pl.wt true m := by
  rw [Pl.wt_append, Pl.par_length, if_pos h]
theorem wt_nonneg (b : Bool) (l : List UInt8) : 0 ≤ Pl.wt b l := (Pl.wt_bd b l).1
theorem wt_two (t : Int) (h0 : 0 ≤ t) (h1 : t < 65536) : Pl.wt true (Pl.bigL t 2) = t := by
  rw [big2v]
  have := hilo t
  simp only [Pl.wt]
  omega
theorem sum_zero (l : List UInt8) : sumL l = 0 ↔ 0 < Pl.wt true l ∧ Pl.wt true l % 65535 = 0 := by
  have h0 := wt_nonneg true l
  unfold sumL Pl.fld
  split <;> omega
theorem sum_bd (l : List UInt8) : 0 ≤ sumL l ∧ sumL l ≤ 65535 := by
  have h := Pl.fld_bd _ (wt_nonneg true l)
  unfold sumL
  omega
/-- bytes with their sum among them add up to nothing -/
theorem sum_put (a b : List UInt8) (h : a.length % 2 = 0) : sumL (a ++ (Pl.bigL (sumL (a ++ b)) 2 ++ b)) = 0 := by
  have hs := sum_bd (a ++ b)
  have h0 := wt_nonneg true (a ++ b)
  have e : Pl.wt true (a ++ (Pl.bigL (sumL (a ++ b)) 2 ++ b)) = Pl.wt true (a ++ b) + sumL (a ++ b) := by
    rw [wt_even a _ h, wt_even _ b (by rw [Pl.bigL_length]), wt_two _ hs.1 (by omega), wt_even a b h]
    omega
  show 65535 - Pl.fld (Pl.wt true (a ++ (Pl.bigL (sumL (a ++ b)) 2 ++ b))) = 0
  rw [e]
  have hb := Pl.fld_bd _ h0
  have := Pl.fld_add (Pl.wt true (a ++ b)) (sumL (a ++ b)) h0 hs.1
  rw [← this]
  unfold sumL
  rw [Pl.fld_all _ hb.1 hb.2]
  rfl
/-- two bytes of 0 in the sum's place add nothing -/
theorem sum_zeros (a b : List UInt8) (h : a.length % 2 = 0) : sumL (a ++ ([0, 0] ++ b)) = sumL (a ++ b) := by
  unfold sumL
  rw [wt_even a _ h, wt_even [0, 0] b rfl, wt_even a b h]
  have : Pl.wt true [0, 0] = 0 := rfl
  rw [this, Int.zero_add]
/-- how much a byte weighs -/
theorem wt_set (l : List UInt8) : ∀ (b : Bool) (j : Nat) (x : UInt8), j < l.length → ∃ c : Int, (c = 1 ∨ c = 256) ∧ Pl.wt b (l.set j x) = Pl.wt b l + c * ((x.toNat : Int) - ((l.getD j 0).toNat : Int)) := by
  induction l with
  | nil => intro b j x h; simp at h
  | cons y t ih =>
    intro b j x h
    cases j with
    | zero =>
      cases b with
      | true => exact ⟨256, .inr rfl, by simp only [List.set, Pl.wt, List.getD_cons_zero]; omega⟩
      | false => exact ⟨1, .inl rfl, by simp only [List.set, Pl.wt, List.getD_cons_zero]; omega⟩
    | succ j =>
      simp only [List.length_cons, Nat.add_lt_add_iff_right] at h
      cases b with
      | true =>
        obtain ⟨c, hc, e⟩ := ih false j x h
        exact ⟨c, hc, by simp only [List.set, Pl.wt, List.getD_cons_succ]; rw [e]; omega⟩
      | false =>
        obtain ⟨c, hc, e⟩ := ih true j x h
        exact ⟨c, hc, by simp only [List.set, Pl.wt, List.getD_cons_succ]; rw [e]; omega⟩
/-- a turned bit -/
theorem turned (a : UInt8) (m : Nat) (hm : m < 8) : ∃ d : Int, (d = 2 ^ m ∨ d = - 2 ^ m) ∧ ((a ^^^ UInt8.ofNat (2 ^ m)).toNat : Int) = (a.toNat : Int) + d := by
  have h : ∀ (a : Fin 256) (m : Fin 8), (a.val ^^^ 2 ^ m.val = a.val + 2 ^ m.val) ∨ (a.val ^^^ 2 ^ m.val) + 2 ^ m.val = a.val := by decide +kernel
  have hp : 2 ^ m < 256 := Nat.pow_lt_pow_right (by decide) hm
  have e : (UInt8.ofNat (2 ^ m)).toNat = 2 ^ m := by rw [UInt8.toNat_ofNat', Nat.mod_eq_of_lt hp]
  have ep : ((2 ^ m : Nat) : Int) = 2 ^ m := by simp
  rw [UInt8.toNat_xor, e]
  rcases h ⟨a.toNat, a.toNat_lt⟩ ⟨m, hm⟩ with h | h
  · refine ⟨2 ^ m, .inl rfl, ?_⟩
    simp only at h
    rw [h, ← ep]
    omega
  · refine ⟨- 2 ^ m, .inr rfl, ?_⟩
    simp only at h
    rw [← ep]
    omega
/-- with one bit turned the sum is not 0 -/
theorem sum_turned (l : List UInt8) (j m : Nat) (hj : j < l.length) (hm : m < 8) (h : sumL l = 0) : sumL (l.set j (l.getD j 0 ^^^ UInt8.ofNat (2 ^ m))) ≠ 0 := by
  intro h2
  rw [sum_zero] at h h2
  obtain ⟨c, hc, e⟩ := wt_set l true j (l.getD j 0 ^^^ UInt8.ofNat (2 ^ m)) hj
  obtain ⟨d, hd, e2⟩ := turned (l.getD j 0) m hm
  rw [e2] at e
  have e3 : Pl.wt true (l.set j (l.getD j 0 ^^^ UInt8.ofNat (2 ^ m))) = Pl.wt true l + c * d := by rw [e]; congr 2; omega
  rw [e3] at h2
  have hmm : m = 0 ∨ m = 1 ∨ m = 2 ∨ m = 3 ∨ m = 4 ∨ m = 5 ∨ m = 6 ∨ m = 7 := by omega
  rcases hmm with rfl | rfl | rfl | rfl | rfl | rfl | rfl | rfl <;> rcases hc with rfl | rfl <;> rcases hd with rfl | rfl <;> omega

theorem src_bd (x : UInt32) : wrap64 (x.toNat : Int) = (x.toNat : Int) := by
  have := x.toNat_lt
  unfold wrap64
  omega
theorem at_eq (s : ByteArray) (i : Nat) (h : i < s.size) : byteAt s.data.toList i = s[i].toNat := by
  unfold byteAt
  have : i < s.data.toList.length := by rw [toList_length]; exact h
  rw [List.getD_eq_getElem?_getD, List.getElem?_eq_getElem this]
  rfl
theorem getD_eq (s : ByteArray) (i : Nat) (h : i < s.size) : s.data.toList.getD i 0 = s[i] := by
  have : i < s.data.toList.length := by rw [toList_length]; exact h
  rw [List.getD_eq_getElem?_getD, List.getElem?_eq_getElem this]
  rfl
theorem ext_list (s : ByteArray) (i j : Nat) : (s.extract i j).data.toList = (s.data.toList.take j).drop i := by
  rw [ByteArray.data_extract, Array.toList_extract]
  simp [List.extract_eq_take_drop, List.drop_take]
theorem u32_of (v : Int) (h0 : 0 ≤ v) (h1 : v < 4294967296) : IntKind.u32.wrap v = ((UInt32.ofNat v.toNat).toNat : Int) := by
  rw [UInt32.toNat_ofNat', Nat.mod_eq_of_lt (by omega)]
  show v % 4294967296 = _
  omega
theorem made_in (w : World) (A : Array Value) (t : TypeId) : ∀ o, (w.alloc (.cells A t)).cell? ⟨w.heap.size, o, none⟩ = A[o]? := fun o => World.cell?_alloc_new _ _ _ _
theorem frz (b : Nat) : ∀ (vs : List Value) (o : Nat) (w : World) (x : Addr), (w.setCells b o vs).frozen? x = w.frozen? x
  | [], _, _, _ => rfl
  | v :: r, o, w, x => by
    rw [World.setCells, frz b r (o + 1) _ x]
    simp
/-- a row stored whole into a second block of the call's own -/
theorem stored {w w' : World} {b : Nat} {A Z : Array Value} (vs : List Value) (q1 : ∀ o, w'.cell? ⟨b, o, none⟩ = A[o]?) (hn : A.size = vs.length) (q0 : ∀ o, w'.cell? ⟨w.heap.size, o, none⟩ = Z[o]?) (f0 : ∀ o, w'.frozen? ⟨w.heap.size, o, none⟩ = false) (z : w.heap.size < b) (hb : Below w.heap.size w w') :
    (∀ o, (w'.setCells b 0 vs).cell? ⟨b, o, none⟩ = vs.toArray[o]?) ∧ (∀ o, (w'.setCells b 0 vs).cell? ⟨w.heap.size, o, none⟩ = Z[o]?) ∧ (∀ o, (w'.setCells b 0 vs).frozen? ⟨w.heap.size, o, none⟩ = false) ∧ Below w.heap.size w (w'.setCells b 0 vs) := by
  refine ⟨row_set q1 hn, fun o => ?_, fun o => by rw [frz]; exact f0 o, below_setCells (Nat.le_of_lt z) vs 0 w' hb⟩
  rw [World.cell?_setCells_out b vs 0 w' _ (fun e _ => absurd e (by show ¬ w.heap.size = b; omega))]
  exact q0 o
/-- a block of the call's own: what it holds, and that older memory is as it was -/
structure Own (w W : World) (b : Nat) (A : Array Value) : Prop where
  q : ∀ o, W.cell? ⟨b, o, none⟩ = A[o]?
  f : ∀ o, W.frozen? ⟨b, o, none⟩ = false
  z : b < W.heap.size
  lo : w.heap.size ≤ b
  hb : Below w.heap.size w W
theorem Own.below {w W W' : World} {b : Nat} {A : Array Value} (h : Own w W b A) (hb : Below W.heap.size W W') : Own w W' b A := by
  have hz := h.z
  have hs := hb.size
  refine ⟨fun o => ?_, fun o => ?_, by omega, h.lo, h.hb.trans (hb.mono h.hb.size)⟩
  · rw [hb.cell (by show b < _; omega)]; exact h.q o
  · rw [hb.frozen (by show b < _; omega)]; exact h.f o
theorem Own.drew {w W : World} {b : Nat} {A : Array Value} (h : Own w W b A) : Own w W.drew b A := ⟨h.q, h.f, h.z, h.lo, h.hb.drew⟩
theorem Own.alloc {w W : World} {b : Nat} {A : Array Value} (h : Own w W b A) (o : Obj) : Own w (W.alloc o) b A := h.below (below1 _ _)
theorem Own.set {w W : World} {b : Nat} {A : Array Value} (h : Own w W b A) (k : Nat) (v : Value) (hk : k < A.size) : Own w (W.setCell ⟨b, k, none⟩ v) b (A.set k v hk) := by
  refine ⟨fun o => ?_, fun o => ?_, by simpa using h.z, h.lo, h.hb.setCell h.lo _⟩
  · by_cases e : k = o
    · subst e
      have hh : W.cell? ⟨b, k, none⟩ = some A[k] := by rw [h.q, Array.getElem?_eq_getElem hk]
      rw [World.cell?_setCell_same _ _ _ hh]
      simp
    · rw [World.cell?_setCell_other _ _ _ _ (by simp <;> omega), h.q, Array.getElem?_set_ne _ e]
  · simpa using h.f o
theorem Own.made (w : World) (o : Obj) (A : Array Value) (t : TypeId) : Own w ((w.alloc o).alloc (.cells A t)) (w.heap.size + 1) A := by
  refine ⟨fun x => ?_, fun x => ?_, by simp, Nat.le_succ _, below2 _ _ _⟩
  · have := World.cell?_alloc_new (w.alloc o) A t x
    rw [show (w.alloc o).heap.size = w.heap.size + 1 from by simp] at this
    exact this
  · simp
/-- n bytes of 0 -/
def zs (n : Nat) : ByteArray := ⟨(List.replicate n (0 : UInt8)).toArray⟩
theorem zs_size (n : Nat) : (zs n).size = n := by
  show (List.replicate n (0 : UInt8)).toArray.size = n
  simp
/-- made and read as a text -/
theorem conv_zs (w : World) (n : Nat) : (convert 45 9 (.slice (some ⟨w.heap.size, 0, none⟩) n n)).run Try.prog (w.alloc (.cells (madeCells #[.int .u8 0] n) 5)) = .ok (.string (zs n)) (w.alloc (.cells (madeCells #[.int .u8 0] n) 5)) :=
  (BRow.made w n).string (by simp)
theorem conv_zs' (w : World) (n : Nat) : (convert 45 9 (.slice (some ⟨w.heap.size, 0, none⟩) n n)).run Try.prog (w.alloc (.cells (madeCells #[.int .u8 0] n) 5)).drew = .ok (.string (zs n)) (w.alloc (.cells (madeCells #[.int .u8 0] n) 5)).drew :=
  BRow.string (w := (w.alloc (.cells (madeCells #[.int .u8 0] n) 5)).drew) (BRow.made w n) (by simp)
theorem make_z (n : Nat) (z : Int) (hz : z = (n : Int)) (hn : n ≤ 1000000) (u : World) : (Instr.makeSlice 45 (.int .i64 z) (.int .i64 z)).run Try.prog u = .ok (.slice (some ⟨u.heap.size, 0, none⟩) n n) (u.alloc (.cells (madeCells #[.int .u8 0] n) 5)) := by
  subst hz
  exact make_bytes n hn u
end Go.Proofs.Ytkfgapljphhmcaa
