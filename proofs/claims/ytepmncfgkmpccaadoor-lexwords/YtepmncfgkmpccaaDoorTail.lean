/- A region that draws its order, whose head only reads and calls what makes memory of its own, and whose tail goes in one order behind it all: one walk serves. -/
import Derived.Test.YtepmncfgkmpccaaDoorBytes
import Derived.StillTail
import Derived.Deep.Quiet
namespace Go.Proofs.YtepmncfgkmpccaaDoor
open Go.RowKit
set_option linter.unusedVariables false
section
variable {P : Program} {ops : Array Oper} {C : World → Prop}

/-- f operations of the head (numbers below n) are still to come, in whatever order; then T, with the tail's g operations due one by one -/
def Heads (P : Program) (ops : Array Oper) (C : World → Prop) (n g : Nat) (T : Act → Prop) : Nat → Array Bool → Act → Prop
  | 0, listed, a => Region.seqB .any ops g n listed = true ∧ T a
  | f + 1, listed, a => Region.ready .any ops listed ≠ [] ∧ ∀ i, i ∈ Region.ready .any ops listed → i < n ∧ qOp P ops C i (Heads P ops C n g T f (listed.setIfInBounds i true)) a

theorem Heads.any {n g : Nat} {T : Act → Prop} {Q : Exit → Act → World → Prop} (hT : ∀ listed a w, C w → Region.seqB .any ops g n listed = true → T a → wpAny P .any ops Q g listed a w) (f : Nat) :
    ∀ (listed : Array Bool) (a : Act) (w : World), C w → Heads P ops C n g T f listed a → wpAny P .any ops Q (f + g) listed a w := by
  induction f with
  | zero =>
    intro listed a w hw h
    rw [Nat.zero_add]
    exact hT listed a w hw h.1 h.2
  | succ f ih =>
    intro listed a w hw h
    rw [Nat.add_right_comm]
    exact ⟨fun h0 => absurd h0 h.1, fun i hi => wpOp_of_qOp hw (fun a' w' hw' hh => ih _ a' w' hw' hh) (h.2 i hi).2⟩

/-- what is due next among the head is below n, while one of the head is due -/
theorem below_n {n i j : Nat} {listed : Array Bool} (hs : Region.sinkB .any ops n = true) (hc : Region.chainB .any ops n = true) (hn : n < ops.size) (inv : HeadInv .any ops n listed) (hin : i < n)
    (hi : i ∈ Region.ready .any ops listed) (hj : j ∈ Region.ready .any ops listed) : j < n := by
  by_cases h : j < n
  · exact h
  · exact absurd hj (tail_waits hs hc hn inv _ i rfl hin (mem_ready.1 hi).1 j (by omega))

/-- one that is due, and apart from all that do not wait for it, may be taken first -/
theorem Heads.first {n g i : Nat} {T : Act → Prop} {o : Oper} {v : Value} (ho : ops[i]? = some o) (hsel : ∀ (j : Nat) (o : Oper) cs b, ops[j]? = some o → o.op ≠ .select cs b)
    (hs : Region.sinkB .any ops n = true) (hc : Region.chainB .any ops n = true) (hn : n < ops.size) (hin : i < n) (f : Nat) :
    ∀ (listed : Array Bool) (a : Act), HeadInv .any ops n listed →
      (∀ j oj, ops[j]? = some oj → j ≠ i → listed.getD j true = false → (∀ e ∈ oj.after, Region.binds .any e = true → e.on ≠ i) → o.apart ops oj = true) →
      i ∈ Region.ready .any ops listed → YieldsIn P ops C o v a → Heads P ops C n g T f (listed.setIfInBounds i true) (a.put o.dst v) → Heads P ops C n g T (f + 1) listed a := by
  induction f with
  | zero =>
    intro listed a inv hap hi hy H
    refine ⟨List.ne_nil_of_mem hi, fun j hj => ⟨below_n hs hc hn inv hin hi hj, ?_⟩⟩
    by_cases e : j = i
    · rw [e]; exact hy.qOp ho H
    · have h1 := seqB_ready H.1 j (ready_mono hj e)
      have h2 := below_n hs hc hn inv hin hi hj
      omega
  | succ f ih =>
    intro listed a inv hap hi hy H
    refine ⟨List.ne_nil_of_mem hi, fun j hj => ?_⟩
    have hjn := below_n hs hc hn inv hin hi hj
    refine ⟨hjn, ?_⟩
    by_cases e : j = i
    · rw [e]; exact hy.qOp ho H
    · obtain ⟨hju, oj, hoj, hw⟩ := mem_ready.1 hj
      have hno : ∀ x ∈ oj.after, Region.binds .any x = true → x.on ≠ i := by
        intro x hx hb hxi
        have h1 := hw x hx hb
        rw [hxi, getD_both (mem_ready.1 hi).1] at h1
        exact Bool.noConfusion h1
      have step := qOp_put hoj (hap j oj hoj e hju hno) (fun cs b => hsel i o cs b ho) (fun cs b => hsel j oj cs b hoj) hy (H.2 j (ready_mono hj e)).2
      refine qOp_mono (fun a' hh => ih _ a' (inv.set hj hjn) ?_ (ready_mono hi (fun x => e x.symm)) hh.1 ?_) step
      · intro k ok hk hki hu
        refine hap k ok hk hki ?_
        by_cases hjk : j = k
        · rw [← hjk]; exact hju
        · rw [getD_set_ne true hjk] at hu; exact hu
      · rw [Array.setIfInBounds_comm _ _ e]
        exact hh.2

/-- the walk in the order of the text -/
theorem Heads.text {n g : Nat} {T : Act → Prop} (hsel : Region.noSelect ops = true) (hs : Region.sinkB .any ops n = true) (hc : Region.chainB .any ops n = true) (hn : n < ops.size) (l : List Oper) :
    ∀ (k : Nat) (listed : Array Bool) (a : Act), (∀ j, j < l.length → l[j]? = ops[k + j]?) → k + l.length = n → HeadInv .any ops n listed →
      Region.lexHead .any ops g l.length k listed = true → wpQuiet P ops C T l a → Heads P ops C n g T l.length listed a := by
  induction l with
  | nil =>
    intro k listed a _ hk _ hB h
    obtain rfl : k = n := hk
    exact ⟨hB, h⟩
  | cons o l ih =>
    intro k listed a hl hk inv hB h
    have ho : ops[k]? = some o := (hl 0 (Nat.succ_pos _)).symm
    have hlen : k + (l.length + 1) = n := hk
    have hB' : (Region.ready .any ops listed).contains k = true ∧ Region.free .any ops listed k = true ∧ Region.lexHead .any ops g l.length (k + 1) (listed.setIfInBounds k true) = true := by
      have := hB
      simp only [List.length_cons, Region.lexHead, Bool.and_eq_true] at this
      exact ⟨this.1.1, this.1.2, this.2⟩
    obtain ⟨b1, b2, b3⟩ := hB'
    have hr : k ∈ Region.ready .any ops listed := List.contains_iff_mem.1 b1
    have hq : qOp P ops C k (wpQuiet P ops C T l) a := by
      unfold qOp
      rw [ho]
      exact h
    obtain ⟨v, hy, hv⟩ := yieldsIn_of_qOp ho hq
    refine Heads.first ho (Region.noSelect_spec hsel) hs hc hn (by omega) l.length listed a inv (Region.free_spec ho b2) hr hy ?_
    refine ih (k + 1) _ _ (fun j hj => ?_) (by omega) (inv.set hr (by omega)) b3 hv
    have := hl (j + 1) (by simp only [List.length_cons]; omega)
    rw [show k + 1 + j = k + (j + 1) from by omega]
    exact this
end
/-- **a calm head of n operations, then a tail in its order** -/
theorem wp_region_calm_tail {P : Program} {id : Nat} {Q : Exit → Act → World → Prop} {a : Act} {w : World} {l : List Oper} (n : Nat) (hm : P.follows .mixedOrders = true) (hB : Region.lexTailB .any l.toArray n = true)
    (h : Nonempty (Cls w) → wpQuiet P l.toArray (fun w' => ∃ x : Cls w, w' = x.val) (fun a' => ∀ w', (∃ x : Cls w, w' = x.val) → wpList P l.toArray Q (l.drop n) a' w') (l.take n) a) : (Code.region id l.toArray true).wp P Q a w := by
  simp only [Region.lexTailB, Bool.and_eq_true, decide_eq_true_eq] at hB
  obtain ⟨⟨⟨⟨hsel, hn⟩, hs⟩, hc⟩, hlex⟩ := hB
  have hn' : n < l.length := by simpa using hn
  have hlt : (l.take n).length = n := by rw [List.length_take]; omega
  have hld : (l.drop n).length = l.toArray.size - n := by simp
  have inv : HeadInv .any l.toArray n (Array.replicate l.toArray.size false) :=
    { size := by simp
      closed := fun j oj _ hj => by rw [getD_replicate_false] at hj; exact Bool.noConfusion hj
      tail := fun t _ ht => getD_in (by simpa using ht) (getD_replicate_false _ _) }
  have H := Heads.text (C := fun w' => ∃ x : Cls w, w' = x.val) (g := l.toArray.size - n) hsel hs hc hn (l.take n) 0 _ a (fun j hj => by
    rw [hlt] at hj
    simp [hj]) (by omega) inv (by rw [hlt]; exact hlex) (h (Cls.ne w))
  have K := Heads.any (Q := Q) (g := l.toArray.size - n) (fun listed a' w' hw hq hT => by
    have := wpAny_of_seq (md := .any) (Q' := Q) (l.drop n) n listed a' w' (fun j => by simp [List.getElem?_drop]) (by rw [hld]; exact hq) (hT w' hw)
    rw [hld] at this
    exact this) _ _ _ { w with drawn := w.drawn + 1 } ⟨⟨_, ((Below.refl _ _).drew : Below w.heap.size w w.drew)⟩, rfl⟩ H
  rw [hlt, show n + (l.toArray.size - n) = l.toArray.size from by omega] at K
  exact wp_region_any hm K
/-- behind a region: a block that was made just ahead of it -/
theorem cls_in {w : World} {A : Array Value} {t : TypeId} (x : Cls (w.alloc (.cells A t))) : (∀ o, x.val.cell? ⟨w.heap.size, o, none⟩ = A[o]?) ∧ (∀ o, x.val.frozen? ⟨w.heap.size, o, none⟩ = false) ∧ w.heap.size < x.val.heap.size ∧ Hid (Below w.heap.size w x.val) := by
  have h := below_call (new_alloc w (.cells A t)) (size_alloc1 _ _) x.bel
  obtain ⟨h1, h2, h3⟩ := new_in h
  exact ⟨h1, h2, h3, ((Below.refl _ _).alloc (Nat.le_refl _) _).trans (h.mono (Nat.le_succ _))⟩
/-- what a row of cells reads as once it was stored whole -/
theorem row_set {w2 : World} {b : Nat} {A : Array Value} {vs : List Value} (h : ∀ o, w2.cell? ⟨b, o, none⟩ = A[o]?) (hn : A.size = vs.length) : ∀ o, (w2.setCells b 0 vs).cell? ⟨b, o, none⟩ = vs.toArray[o]? := by
  intro o
  by_cases ho : o < vs.length
  · have := World.cell?_setCells_in b vs 0 w2 (fun j hj => by rw [Nat.zero_add, h, Array.getElem?_eq_getElem (by omega)]; rfl) o ho
    rw [Nat.zero_add] at this
    rw [this]
    simp [ho]
  · rw [World.cell?_setCells_out b vs 0 w2 _ (fun _ _ => .inr (by show 0 + vs.length ≤ o; omega)), h]
    rw [Array.getElem?_eq_none (by omega), Array.getElem?_eq_none (by simp; omega)]
/-- a row stored whole into a block of the call's own -/
theorem set_row {w w2 : World} {A : Array Value} (vs : List Value) (h : ∀ o, w2.cell? ⟨w.heap.size, o, none⟩ = A[o]?) (hb : Hid (Below w.heap.size w w2)) (hn : A.size = vs.length) :
    ∃ wx, w2.setCells w.heap.size 0 vs = wx ∧ (∀ o, wx.cell? ⟨w.heap.size, o, none⟩ = vs.toArray[o]?) ∧ Hid (Below w.heap.size w wx) :=
  ⟨_, rfl, row_set h hn, below_setCells (Nat.le_refl _) vs 0 w2 hb.out⟩
theorem bcell {W w1 : World} (hb : Below W.heap.size W w1) : (∀ b o, b < W.heap.size → w1.cell? ⟨b, o, none⟩ = W.cell? ⟨b, o, none⟩) ∧ (∀ b o, b < W.heap.size → w1.frozen? ⟨b, o, none⟩ = W.frozen? ⟨b, o, none⟩) ∧ Hid (Below W.heap.size W w1) ∧ W.heap.size ≤ w1.heap.size :=
  ⟨fun b o h => hb.cell (p := ⟨b, o, none⟩) h, fun b o h => hb.frozen (p := ⟨b, o, none⟩) h, hb, hb.size⟩
theorem kept_new {w W w1 w2 : World} {A : Array Value} {t : TypeId} (hW : Below (w.heap.size + 1) (w.alloc (.cells A t)) W) (h1 : Below W.heap.size W w1) (h2 : Below w1.heap.size w1 w2) :
    (∀ o, w2.cell? ⟨w.heap.size, o, none⟩ = A[o]?) ∧ (∀ o, w2.frozen? ⟨w.heap.size, o, none⟩ = false) ∧ Hid (Below w.heap.size w w2) := by
  have hz : w.heap.size + 1 ≤ W.heap.size := by have := hW.size; simpa using this
  have hz1 := h1.size
  have hB : Below (w.heap.size + 1) (w.alloc (.cells A t)) w2 := hW.trans ((h1.mono hz).trans (h2.mono (by omega)))
  refine ⟨fun o => ?_, fun o => ?_, (below1 w _).trans (hB.mono (by omega))⟩
  · rw [hB.cell (by show w.heap.size < _; omega), World.cell?_alloc_new]
  · rw [hB.frozen (by show w.heap.size < _; omega)]
    simp
theorem u8_wrap (a : UInt8) : wrap64 (a.toNat : Int) = (a.toNat : Int) := by
  have := a.toNat_lt
  unfold wrap64
  omega
end Go.Proofs.YtepmncfgkmpccaaDoor
