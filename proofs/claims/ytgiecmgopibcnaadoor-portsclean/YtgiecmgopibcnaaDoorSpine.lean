/- A region that draws its order: a head that only reads, operations that write in their order (each of which may come ahead of some of the head), then a tail behind all: one walk serves. -/
import Derived.Test.YtgiecmgopibcnaaDoorFresh
namespace Go.Proofs.YtgiecmgopibcnaaDoor
open Go.RowKit
set_option linter.unusedVariables false
section
variable {P : Program} {ops : Array Oper} {D : World → Prop}

/-- operation o, in this very world, leaves u and that world -/
def Does (P : Program) (ops : Array Oper) (o : Oper) (a : Act) (w : World) (u : Value) (w' : World) : Prop :=
  (YieldsIn P ops (fun x => x = w) o u a ∧ w' = w) ∨ (Region.wanted o (yielded ops a.tmps) = true ∧ (execOp a.eval o).run P w = .ok (.value u) w')
theorem Does.of_same {o : Oper} {a a' : Act} {w w' : World} {u : Value} (he : execOp a'.eval o = execOp a.eval o) (hw : Region.wanted o (yielded ops a'.tmps) = Region.wanted o (yielded ops a.tmps)) (h : Does P ops o a w u w') : Does P ops o a' w u w' := by
  rcases h with ⟨h1, h2⟩ | ⟨h1, h2⟩
  · exact .inl ⟨h1.of_same he hw, h2⟩
  · exact .inr ⟨hw.trans h1, by rw [he]; exact h2⟩
theorem Does.wpOp {o : Oper} {i : Nat} {a : Act} {w w' : World} {u : Value} (hi : ops[i]? = some o) (h : Does P ops o a w u w') {K : Act → World → Prop} {Q : Exit → Act → World → Prop} (hk : K (a.put o.dst u) w') : wpOp P ops Q i K a w := by
  rcases h with ⟨h1, rfl⟩ | ⟨h1, h2⟩
  · exact wpOp_of_qOp (C := fun x => x = w') rfl (fun a' x hx (hh : a' = a.put o.dst u) => by rw [hx, hh]; exact hk) (h1.qOp hi rfl)
  · unfold Go.wpOp
    rw [hi]
    simp only [h1, if_true]
    refine .inl ?_
    unfold Oper.wp
    rw [h2]
    exact hk
/-- f of the head are still to come; then T, with the tail's g operations due one by one -/
def Gm (P : Program) (ops : Array Oper) (D : World → Prop) (n g : Nat) (T : Act → World → Prop) : Nat → Array Bool → Act → World → Prop
  | 0, listed, a, w => Region.seqB .any ops g n listed = true ∧ T a w
  | f + 1, listed, a, w => Region.ready .any ops listed ≠ [] ∧ ∀ i, i ∈ Region.ready .any ops listed → i < n ∧ ∃ o u w', ops[i]? = some o ∧ Does P ops o a w u w' ∧ D w' ∧ Gm P ops D n g T f (listed.setIfInBounds i true) (a.put o.dst u) w'
theorem Gm.any {n g : Nat} {T : Act → World → Prop} {Q : Exit → Act → World → Prop} (hT : ∀ listed a w, Region.seqB .any ops g n listed = true → T a w → wpAny P .any ops Q g listed a w) (f : Nat) :
    ∀ (listed : Array Bool) (a : Act) (w : World), Gm P ops D n g T f listed a w → wpAny P .any ops Q (f + g) listed a w := by
  induction f with
  | zero =>
    intro listed a w h
    rw [Nat.zero_add]
    exact hT listed a w h.1 h.2
  | succ f ih =>
    intro listed a w h
    rw [Nat.add_right_comm]
    refine ⟨fun h0 => absurd h0 h.1, fun i hi => ?_⟩
    obtain ⟨_, o, u, w', ho, hd, _, hk⟩ := h.2 i hi
    exact hd.wpOp ho (ih _ _ _ hk)
theorem Gm.first {n g i : Nat} {T : Act → World → Prop} {o : Oper} {v : Value} (ho : ops[i]? = some o) (hsel : ∀ (j : Nat) (o : Oper) cs b, ops[j]? = some o → o.op ≠ .select cs b)
    (hs : Region.sinkB .any ops n = true) (hc : Region.chainB .any ops n = true) (hn : n < ops.size) (hin : i < n) (f : Nat) :
    ∀ (listed : Array Bool) (a : Act) (w : World), HeadInv .any ops n listed →
      (∀ j oj, ops[j]? = some oj → j ≠ i → listed.getD j true = false → (∀ e ∈ oj.after, Region.binds .any e = true → e.on ≠ i) → o.apart ops oj = true) →
      i ∈ Region.ready .any ops listed → D w → (∀ x, D x → YieldsIn P ops (fun y => y = x) o v a) → Gm P ops D n g T f (listed.setIfInBounds i true) (a.put o.dst v) w → Gm P ops D n g T (f + 1) listed a w := by
  induction f with
  | zero =>
    intro listed a w inv hap hi hw hy H
    refine ⟨List.ne_nil_of_mem hi, fun j hj => ⟨below_n hs hc hn inv hin hi hj, ?_⟩⟩
    by_cases e : j = i
    · rw [e]; exact ⟨o, v, w, ho, .inl ⟨hy w hw, rfl⟩, hw, H⟩
    · have h1 := seqB_ready H.1 j (ready_mono hj e)
      have h2 := below_n hs hc hn inv hin hi hj
      omega
  | succ f ih =>
    intro listed a w inv hap hi hw hy H
    refine ⟨List.ne_nil_of_mem hi, fun j hj => ?_⟩
    have hjn := below_n hs hc hn inv hin hi hj
    refine ⟨hjn, ?_⟩
    by_cases e : j = i
    · rw [e]; exact ⟨o, v, w, ho, .inl ⟨hy w hw, rfl⟩, hw, H⟩
    · obtain ⟨hju, oj, hoj, hwj⟩ := mem_ready.1 hj
      have hno : ∀ x ∈ oj.after, Region.binds .any x = true → x.on ≠ i := by
        intro x hx hb hxi
        have h1 := hwj x hx hb
        rw [hxi, getD_both (mem_ready.1 hi).1] at h1
        exact Bool.noConfusion h1
      obtain ⟨h1, h2, h3⟩ := Oper.apart_spec (hap j oj hoj e hju hno)
      obtain ⟨_, oj', u, w', hoj', hd, hD', hG⟩ := H.2 j (ready_mono hj e)
      obtain rfl : oj = oj' := Option.some.inj (hoj.symm.trans hoj')
      refine ⟨oj, u, w', hoj, hd.of_same (execOp_put oj (fun cs b => hsel j oj cs b hoj) a o.dst v h1).symm (wanted_put oj a o.dst v h1).symm, hD', ?_⟩
      refine ih _ _ _ (inv.set hj hjn) ?_ (ready_mono hi (fun x => e x.symm)) hD' (fun x hx => (hy x hx).of_same (execOp_put o (fun cs b => hsel i o cs b ho) a oj.dst u h3) (wanted_put o a oj.dst u h3)) ?_
      · intro k ok hk hki hu
        refine hap k ok hk hki ?_
        by_cases hjk : j = k
        · rw [← hjk]; exact hju
        · rw [getD_set_ne true hjk] at hu; exact hu
      · rw [Array.setIfInBounds_comm _ _ e, ← Act.put_comm a v u h2]
        exact hG
/-- the ones that write, in their order -/
def goD (P : Program) (ops : Array Oper) (D : World → Prop) (T : Act → World → Prop) : List Oper → Act → World → Prop
  | [], a, w => T a w
  | o :: l, a, w => ∃ u w', Does P ops o a w u w' ∧ D w' ∧ goD P ops D T l (a.put o.dst u) w'
/-- those numbers, one by one, each alone due -/
def permSeq (ops : Array Oper) (g n : Nat) : List Nat → Array Bool → Bool
  | [], listed => Region.seqB .any ops g n listed
  | k :: s, listed => decide (Region.ready .any ops listed = [k]) && decide (k < n) && permSeq ops g n s (listed.setIfInBounds k true)
/-- those numbers, each due and free; then K -/
def permHead (ops : Array Oper) (n : Nat) (K : Array Bool → Bool) : List Nat → Array Bool → Bool
  | [], listed => K listed
  | k :: s, listed => (Region.ready .any ops listed).contains k && Region.free .any ops listed k && decide (k < n) && permHead ops n K s (listed.setIfInBounds k true)
def picks (ops : Array Oper) (s : List Nat) : List Oper := s.filterMap fun i => ops[i]?
theorem picks_cons {k : Nat} {o : Oper} (h : ops[k]? = some o) (s : List Nat) : picks ops (k :: s) = o :: picks ops s := by
  unfold picks
  rw [List.filterMap_cons]
  simp [h]
theorem ready_some {k : Nat} {listed : Array Bool} (h : k ∈ Region.ready .any ops listed) : ∃ o, ops[k]? = some o := by
  obtain ⟨_, o, ho, _⟩ := mem_ready.1 h
  exact ⟨o, ho⟩
theorem Gm.spine {n g : Nat} {T : Act → World → Prop} (s : List Nat) : ∀ (listed : Array Bool) (a : Act) (w : World), permSeq ops g n s listed = true →
    goD P ops D T (picks ops s) a w → Gm P ops D n g T s.length listed a w := by
  induction s with
  | nil => intro listed a w hB h; exact ⟨hB, h⟩
  | cons k s ih =>
    intro listed a w hB h
    simp only [permSeq, Bool.and_eq_true, decide_eq_true_eq] at hB
    obtain ⟨⟨hr, hk⟩, hB⟩ := hB
    obtain ⟨o, ho⟩ := ready_some (show k ∈ Region.ready .any ops listed by rw [hr]; simp)
    have hp := picks_cons ho s
    rw [hp] at h
    obtain ⟨u, w', h1, h2, h3⟩ := h
    refine ⟨by rw [hr]; simp, fun i hi => ?_⟩
    rw [hr] at hi
    obtain rfl : i = k := by simpa using hi
    exact ⟨hk, o, u, w', ho, h1, h2, ih _ _ _ hB h3⟩
theorem Gm.text {n g : Nat} {T : Act → World → Prop} {A : Act} {w : World} (hsel : Region.noSelect ops = true) (hs : Region.sinkB .any ops n = true) (hc : Region.chainB .any ops n = true) (hn : n < ops.size) (hw : D w) (s : List Nat)
    (hS : goD P ops D T (picks ops s) A w) (q : List Nat) :
    ∀ (listed : Array Bool) (a : Act), HeadInv .any ops n listed → permHead ops n (permSeq ops g n s) q listed = true →
      dstB (picks ops q) a.tmps.size = true → (∀ x, D x → wpQuiet P ops (fun y => y = x) (fun a' => a' = A) (picks ops q) a) → Gm P ops D n g T (q.length + s.length) listed a w := by
  induction q with
  | nil =>
    intro listed a inv hB _ h
    have ea : a = A := h w hw
    rw [List.length_nil, Nat.zero_add, ea]
    exact Gm.spine s listed A w hB hS
  | cons k q ih =>
    intro listed a inv hB hd h
    simp only [permHead, Bool.and_eq_true, decide_eq_true_eq] at hB
    obtain ⟨⟨⟨b1, b2⟩, hkn⟩, b3⟩ := hB
    have hr : k ∈ Region.ready .any ops listed := List.contains_iff_mem.1 b1
    obtain ⟨o, ho⟩ := ready_some hr
    have hp := picks_cons ho q
    rw [hp] at hd
    simp only [hp] at h
    obtain ⟨d, hod, hdN, hdl, hdr⟩ : ∃ d, o.dst = some d ∧ d < a.tmps.size ∧ (∀ x ∈ picks ops q, x.dst ≠ some d) ∧ dstB (picks ops q) a.tmps.size = true := by
      unfold dstB at hd
      rw [Bool.and_eq_true] at hd
      cases hod : o.dst with
      | none => rw [hod] at hd; exact absurd hd.1 (by simp)
      | some d =>
        rw [hod] at hd
        obtain ⟨hd1, hd2⟩ := hd
        simp only [Bool.and_eq_true, decide_eq_true_eq, List.all_eq_true, bne_iff_ne] at hd1
        exact ⟨d, rfl, hd1.1, hd1.2, hd2⟩
    have each : ∀ x, D x → YieldsIn P ops (fun y => y = x) o (A.tmps.getD d undef) a ∧ wpQuiet P ops (fun y => y = x) (fun a' => a' = A) (picks ops q) (a.put o.dst (A.tmps.getD d undef)) := by
      intro x hx
      have hq : qOp P ops (fun y => y = x) k (wpQuiet P ops (fun y => y = x) (fun a' => a' = A) (picks ops q)) a := by
        unfold qOp
        rw [ho]
        exact h x hx
      obtain ⟨v, hy, hv⟩ := yieldsIn_of_qOp ho hq
      have e := slot_kept (picks ops q) _ hdl hv
      have e2 : (a.put o.dst v).tmps.getD d undef = v := by
        rw [hod]
        simp [Act.put, hdN]
      rw [e2] at e
      rw [e]
      exact ⟨hy, hv⟩
    rw [show (k :: q).length + s.length = (q.length + s.length) + 1 from by simp only [List.length_cons]; omega]
    refine Gm.first ho (Region.noSelect_spec hsel) hs hc hn hkn (q.length + s.length) listed a w inv (Region.free_spec ho b2) hr hw (fun x hx => (each x hx).1) ?_
    exact ih _ _ (inv.set hr hkn) b3 (by rw [put_size']; exact hdr) (fun x hx => (each x hx).2)
end
def spineB (ops : Array Oper) (q s : List Nat) (n : Nat) : Bool := Region.noSelect ops && decide (q.length + s.length = n) && decide (n < ops.size) && Region.sinkB .any ops n && Region.chainB .any ops n && permHead ops n (permSeq ops (ops.size - n) n s) q (Array.replicate ops.size false)
/-- **a head that only reads in worlds of D (the numbers q), those that write, in their order (s), a tail from n on** -/
theorem wp_region_spine {P : Program} {id : Nat} {Q : Exit → Act → World → Prop} {a : Act} {w : World} {l : List Oper} (q s : List Nat) (n : Nat) {A : Act} (D : World → Prop) (hm : P.follows .mixedOrders = true) (hB : spineB l.toArray q s n = true)
    (hd : dstB (picks l.toArray q) a.tmps.size = true) (hw : D w.drew)
    (h : ∀ x, D x → wpQuiet P l.toArray (fun y => y = x) (fun a' => a' = A) (picks l.toArray q) a)
    (ht : goD P l.toArray D (fun a' w' => wpList P l.toArray Q (l.drop n) a' w') (picks l.toArray s) A w.drew) : (Code.region id l.toArray true).wp P Q a w := by
  simp only [spineB, Bool.and_eq_true, decide_eq_true_eq] at hB
  obtain ⟨⟨⟨⟨⟨hsel, hqs⟩, hn⟩, hs⟩, hc⟩, hlex⟩ := hB
  have hld : (l.drop n).length = l.toArray.size - n := by simp
  have inv : HeadInv .any l.toArray n (Array.replicate l.toArray.size false) :=
    { size := by simp
      closed := fun j oj _ hj => by rw [getD_replicate_false] at hj; exact Bool.noConfusion hj
      tail := fun t _ ht => getD_in (by simpa using ht) (getD_replicate_false _ _) }
  have H := Gm.text (P := P) (g := l.toArray.size - n) hsel hs hc hn hw s ht q _ a inv hlex hd h
  have K := Gm.any (Q := Q) (g := l.toArray.size - n) (fun listed a' w' hq hT => by
    have := wpAny_of_seq (md := .any) (Q' := Q) (l.drop n) n listed a' w' (fun j => by simp [List.getElem?_drop]) (by rw [hld]; exact hq) hT
    rw [hld] at this
    exact this) _ _ _ _ H
  rw [hqs, show n + (l.toArray.size - n) = l.toArray.size from by omega] at K
  exact wp_region_any hm K
/-- which of a list, by yes and no -/
def idxM : List Bool → Nat → List Nat
  | [], _ => []
  | true :: m, k => k :: idxM m (k + 1)
  | false :: m, k => idxM m (k + 1)
def pickM : List Bool → List Oper → List Oper
  | true :: m, o :: l => o :: pickM m l
  | false :: m, _ :: l => pickM m l
  | [], _ => []
  | _ :: _, [] => []
theorem idx_out {ops : Array Oper} : ∀ (m : List Bool) (k : Nat), ops.size ≤ k → picks ops (idxM m k) = []
  | [], _, _ => rfl
  | true :: m, k, h => by
    have h1 := idx_out m (k + 1) (Nat.le_succ_of_le h)
    unfold picks at h1 ⊢
    rw [idxM, List.filterMap_cons, Array.getElem?_eq_none h]
    exact h1
  | false :: m, k, h => idx_out m (k + 1) (Nat.le_succ_of_le h)
theorem picks_idx {ops : Array Oper} : ∀ (m : List Bool) (l : List Oper) (k : Nat), (∀ j, l[j]? = ops[k + j]?) → picks ops (idxM m k) = pickM m l
  | [], _, _, _ => by unfold pickM; rfl
  | true :: m, o :: l, k, h => by
    have h0 : ops[k]? = some o := (h 0).symm
    rw [idxM, picks_cons h0, picks_idx m l (k + 1) (fun j => by
      have := h (j + 1)
      rw [show k + 1 + j = k + (j + 1) from by omega]
      exact this)]
    rfl
  | false :: m, o :: l, k, h => by
    rw [idxM, picks_idx m l (k + 1) (fun j => by
      have := h (j + 1)
      rw [show k + 1 + j = k + (j + 1) from by omega]
      exact this)]
    rfl
  | b :: m, [], k, h => by
    have h0 : ops.size ≤ k := by
      have := (h 0).symm
      rw [Nat.add_zero, List.getElem?_nil] at this
      exact Array.getElem?_eq_none_iff.1 this
    rw [idx_out _ _ h0]
    cases b <;> rfl
/-- the same by yes and no -/
theorem wp_region_spineM {P : Program} {id : Nat} {Q : Exit → Act → World → Prop} {a : Act} {w : World} {l : List Oper} (q s : List Bool) (n : Nat) {A : Act} (D : World → Prop) (hm : P.follows .mixedOrders = true) (hB : spineB l.toArray (idxM q 0) (idxM s 0) n = true)
    (hd : dstB (pickM q l) a.tmps.size = true) (hw : D w.drew)
    (h : ∀ x, D x → wpQuiet P l.toArray (fun y => y = x) (fun a' => a' = A) (pickM q l) a)
    (ht : goD P l.toArray D (fun a' w' => wpList P l.toArray Q (l.drop n) a' w') (pickM s l) A w.drew) : (Code.region id l.toArray true).wp P Q a w := by
  have e : ∀ m, picks l.toArray (idxM m 0) = pickM m l := fun m => picks_idx m l 0 (fun j => by simp)
  exact wp_region_spine (idxM q 0) (idxM s 0) n D hm hB (by rw [e]; exact hd) hw (by rw [e]; exact h) (by rw [e]; exact ht)
end Go.Proofs.YtgiecmgopibcnaaDoor
