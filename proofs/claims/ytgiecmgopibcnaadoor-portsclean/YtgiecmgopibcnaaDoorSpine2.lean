/- The same as Spine where those that write may be calls: what they leave is told by a relation. -/
import Derived.Test.YtgiecmgopibcnaaDoorSpine
namespace Go.Proofs.YtgiecmgopibcnaaDoor
open Go.RowKit
set_option linter.unusedVariables false
section
variable {P : Program} {ops : Array Oper} {D : World → Prop}
/-- operation o, in this very world, leaves what R says -/
def DoesR (P : Program) (ops : Array Oper) (o : Oper) (a : Act) (w : World) (R : Value → World → Prop) : Prop :=
  (∃ u w', Does P ops o a w u w' ∧ R u w') ∨ (Region.wanted o (yielded ops a.tmps) = true ∧ ∃ f args w1, (execOp a.eval o).run P w = .ok (.enter f args) w1 ∧ Calls P f args w1 (fun e w'' => ∃ u, e = .returned u ∧ R u w''))
theorem DoesR.of_same {o : Oper} {a a' : Act} {w : World} {R : Value → World → Prop} (he : execOp a'.eval o = execOp a.eval o) (hw : Region.wanted o (yielded ops a'.tmps) = Region.wanted o (yielded ops a.tmps)) (h : DoesR P ops o a w R) : DoesR P ops o a' w R := by
  rcases h with ⟨u, w', h1, h2⟩ | ⟨h1, f, args, w1, h2, h3⟩
  · exact .inl ⟨u, w', h1.of_same he hw, h2⟩
  · exact .inr ⟨hw.trans h1, f, args, w1, by rw [he]; exact h2, h3⟩
theorem DoesR.wpOp {o : Oper} {i : Nat} {a : Act} {w : World} {R : Value → World → Prop} (hi : ops[i]? = some o) (h : DoesR P ops o a w R) {K : Act → World → Prop} {Q : Exit → Act → World → Prop} (hk : ∀ u w', R u w' → K (a.put o.dst u) w') : wpOp P ops Q i K a w := by
  rcases h with ⟨u, w', h1, h2⟩ | ⟨h1, f, args, w1, h2, h3⟩
  · exact h1.wpOp hi (hk u w' h2)
  · unfold Go.wpOp
    rw [hi]
    simp only [h1, if_true]
    refine .inl ?_
    unfold Oper.wp
    rw [h2]
    refine h3.mono (fun e w'' he => ?_)
    obtain ⟨u, rfl, hR⟩ := he
    exact hk u w'' hR
/-- f of the head are still to come; then T, with the tail's g operations due one by one -/
def Gn (P : Program) (ops : Array Oper) (D : World → Prop) (n g : Nat) (T : Act → World → Prop) : Nat → Array Bool → Act → World → Prop
  | 0, listed, a, w => Region.seqB .any ops g n listed = true ∧ T a w
  | f + 1, listed, a, w => Region.ready .any ops listed ≠ [] ∧ ∀ i, i ∈ Region.ready .any ops listed → i < n ∧ ∃ o R, ops[i]? = some o ∧ DoesR P ops o a w R ∧ ∀ u w', R u w' → D w' ∧ Gn P ops D n g T f (listed.setIfInBounds i true) (a.put o.dst u) w'
theorem Gn.any {n g : Nat} {T : Act → World → Prop} {Q : Exit → Act → World → Prop} (hT : ∀ listed a w, Region.seqB .any ops g n listed = true → T a w → wpAny P .any ops Q g listed a w) (f : Nat) :
    ∀ (listed : Array Bool) (a : Act) (w : World), Gn P ops D n g T f listed a w → wpAny P .any ops Q (f + g) listed a w := by
  induction f with
  | zero =>
    intro listed a w h
    rw [Nat.zero_add]
    exact hT listed a w h.1 h.2
  | succ f ih =>
    intro listed a w h
    rw [Nat.add_right_comm]
    refine ⟨fun h0 => absurd h0 h.1, fun i hi => ?_⟩
    obtain ⟨_, o, R, ho, hd, hk⟩ := h.2 i hi
    exact hd.wpOp ho (fun u w' hR => ih _ _ _ (hk u w' hR).2)
theorem Gn.first {n g i : Nat} {T : Act → World → Prop} {o : Oper} {v : Value} (ho : ops[i]? = some o) (hsel : ∀ (j : Nat) (o : Oper) cs b, ops[j]? = some o → o.op ≠ .select cs b)
    (hs : Region.sinkB .any ops n = true) (hc : Region.chainB .any ops n = true) (hn : n < ops.size) (hin : i < n) (f : Nat) :
    ∀ (listed : Array Bool) (a : Act) (w : World), HeadInv .any ops n listed →
      (∀ j oj, ops[j]? = some oj → j ≠ i → listed.getD j true = false → (∀ e ∈ oj.after, Region.binds .any e = true → e.on ≠ i) → o.apart ops oj = true) →
      i ∈ Region.ready .any ops listed → D w → (∀ x, D x → YieldsIn P ops (fun y => y = x) o v a) → Gn P ops D n g T f (listed.setIfInBounds i true) (a.put o.dst v) w → Gn P ops D n g T (f + 1) listed a w := by
  induction f with
  | zero =>
    intro listed a w inv hap hi hw hy H
    refine ⟨List.ne_nil_of_mem hi, fun j hj => ⟨below_n hs hc hn inv hin hi hj, ?_⟩⟩
    by_cases e : j = i
    · rw [e]; exact ⟨o, fun u w' => u = v ∧ w' = w, ho, .inl ⟨v, w, .inl ⟨hy w hw, rfl⟩, rfl, rfl⟩, fun u w' ⟨e1, e2⟩ => by rw [e1, e2]; exact ⟨hw, H⟩⟩
    · have h1 := seqB_ready H.1 j (ready_mono hj e)
      have h2 := below_n hs hc hn inv hin hi hj
      omega
  | succ f ih =>
    intro listed a w inv hap hi hw hy H
    refine ⟨List.ne_nil_of_mem hi, fun j hj => ?_⟩
    have hjn := below_n hs hc hn inv hin hi hj
    refine ⟨hjn, ?_⟩
    by_cases e : j = i
    · rw [e]; exact ⟨o, fun u w' => u = v ∧ w' = w, ho, .inl ⟨v, w, .inl ⟨hy w hw, rfl⟩, rfl, rfl⟩, fun u w' ⟨e1, e2⟩ => by rw [e1, e2]; exact ⟨hw, H⟩⟩
    · obtain ⟨hju, oj, hoj, hwj⟩ := mem_ready.1 hj
      have hno : ∀ x ∈ oj.after, Region.binds .any x = true → x.on ≠ i := by
        intro x hx hb hxi
        have h1 := hwj x hx hb
        rw [hxi, getD_both (mem_ready.1 hi).1] at h1
        exact Bool.noConfusion h1
      obtain ⟨h1, h2, h3⟩ := Oper.apart_spec (hap j oj hoj e hju hno)
      obtain ⟨_, oj', R, hoj', hd, hkk⟩ := H.2 j (ready_mono hj e)
      obtain rfl : oj = oj' := Option.some.inj (hoj.symm.trans hoj')
      refine ⟨oj, R, hoj, hd.of_same (execOp_put oj (fun cs b => hsel j oj cs b hoj) a o.dst v h1).symm (wanted_put oj a o.dst v h1).symm, fun u w' hR => ?_⟩
      obtain ⟨hD', hG⟩ := hkk u w' hR
      refine ⟨hD', ?_⟩
      refine ih _ _ _ (inv.set hj hjn) ?_ (ready_mono hi (fun x => e x.symm)) hD' (fun x hx => (hy x hx).of_same (execOp_put o (fun cs b => hsel i o cs b ho) a oj.dst u h3) (wanted_put o a oj.dst u h3)) ?_
      · intro k ok hk hki hu
        refine hap k ok hk hki ?_
        by_cases hjk : j = k
        · rw [← hjk]; exact hju
        · rw [getD_set_ne true hjk] at hu; exact hu
      · rw [Array.setIfInBounds_comm _ _ e, ← Act.put_comm a v u h2]
        exact hG
/-- the ones that write, in their order -/
def goE (P : Program) (ops : Array Oper) (D : World → Prop) (T : Act → World → Prop) : List Oper → Act → World → Prop
  | [], a, w => T a w
  | o :: l, a, w => ∃ R, DoesR P ops o a w R ∧ ∀ u w', R u w' → D w' ∧ goE P ops D T l (a.put o.dst u) w'
theorem Gn.spine {n g : Nat} {T : Act → World → Prop} (s : List Nat) : ∀ (listed : Array Bool) (a : Act) (w : World), permSeq ops g n s listed = true →
    goE P ops D T (picks ops s) a w → Gn P ops D n g T s.length listed a w := by
  induction s with
  | nil => intro listed a w hB h; exact ⟨hB, h⟩
  | cons k s ih =>
    intro listed a w hB h
    simp only [permSeq, Bool.and_eq_true, decide_eq_true_eq] at hB
    obtain ⟨⟨hr, hk⟩, hB⟩ := hB
    obtain ⟨o, ho⟩ := ready_some (show k ∈ Region.ready .any ops listed by rw [hr]; simp)
    have hp := picks_cons ho s
    rw [hp] at h
    obtain ⟨R, h1, h2⟩ := h
    refine ⟨by rw [hr]; simp, fun i hi => ?_⟩
    rw [hr] at hi
    obtain rfl : i = k := by simpa using hi
    exact ⟨hk, o, R, ho, h1, fun u w' hR => ⟨(h2 u w' hR).1, ih _ _ _ hB (h2 u w' hR).2⟩⟩
theorem Gn.text {n g : Nat} {T : Act → World → Prop} {A : Act} {w : World} (hsel : Region.noSelect ops = true) (hs : Region.sinkB .any ops n = true) (hc : Region.chainB .any ops n = true) (hn : n < ops.size) (hw : D w) (s : List Nat)
    (hS : goE P ops D T (picks ops s) A w) (q : List Nat) :
    ∀ (listed : Array Bool) (a : Act), HeadInv .any ops n listed → permHead ops n (permSeq ops g n s) q listed = true →
      dstB (picks ops q) a.tmps.size = true → (∀ x, D x → wpQuiet P ops (fun y => y = x) (fun a' => a' = A) (picks ops q) a) → Gn P ops D n g T (q.length + s.length) listed a w := by
  induction q with
  | nil =>
    intro listed a inv hB _ h
    have ea : a = A := h w hw
    rw [List.length_nil, Nat.zero_add, ea]
    exact Gn.spine s listed A w hB hS
  | cons k q ih =>
    intro listed a inv hB hd h
    simp only [permHead, Bool.and_eq_true, decide_eq_true_eq] at hB
    obtain ⟨⟨⟨b1, b2⟩, hkn⟩, b3⟩ := hB
    have hr : k ∈ Region.ready .any ops listed := List.contains_iff_mem.1 b1
    obtain ⟨o, ho⟩ := ready_some hr
    have hp := picks_cons ho q
    rw [hp] at hd
    simp only [hp] at h
    obtain ⟨d, hod, hdN, hdl, hdr⟩ : ∃ d, o.dst = some d ∧ d < a.tmps.size ∧ (∀ x ∈ picks ops q, x.dst ≠ some d) ∧ dstB (picks ops q) a.tmps.size = true := by
      unfold dstB at hd
      rw [Bool.and_eq_true] at hd
      cases hod : o.dst with
      | none => rw [hod] at hd; exact absurd hd.1 (by simp)
      | some d =>
        rw [hod] at hd
        obtain ⟨hd1, hd2⟩ := hd
        simp only [Bool.and_eq_true, decide_eq_true_eq, List.all_eq_true, bne_iff_ne] at hd1
        exact ⟨d, rfl, hd1.1, hd1.2, hd2⟩
    have each : ∀ x, D x → YieldsIn P ops (fun y => y = x) o (A.tmps.getD d undef) a ∧ wpQuiet P ops (fun y => y = x) (fun a' => a' = A) (picks ops q) (a.put o.dst (A.tmps.getD d undef)) := by
      intro x hx
      have hq : qOp P ops (fun y => y = x) k (wpQuiet P ops (fun y => y = x) (fun a' => a' = A) (picks ops q)) a := by
        unfold qOp
        rw [ho]
        exact h x hx
      obtain ⟨v, hy, hv⟩ := yieldsIn_of_qOp ho hq
      have e := slot_kept (picks ops q) _ hdl hv
      have e2 : (a.put o.dst v).tmps.getD d undef = v := by
        rw [hod]
        simp [Act.put, hdN]
      rw [e2] at e
      rw [e]
      exact ⟨hy, hv⟩
    rw [show (k :: q).length + s.length = (q.length + s.length) + 1 from by simp only [List.length_cons]; omega]
    refine Gn.first ho (Region.noSelect_spec hsel) hs hc hn hkn (q.length + s.length) listed a w inv (Region.free_spec ho b2) hr hw (fun x hx => (each x hx).1) ?_
    exact ih _ _ (inv.set hr hkn) b3 (by rw [put_size']; exact hdr) (fun x hx => (each x hx).2)
end
/-- **a head that only reads in worlds of D (the numbers q), those that write, in their order (s), a tail from n on** -/
theorem wp_region_spineE {P : Program} {id : Nat} {Q : Exit → Act → World → Prop} {a : Act} {w : World} {l : List Oper} (q s : List Nat) (n : Nat) {A : Act} (D : World → Prop) (hm : P.follows .mixedOrders = true) (hB : spineB l.toArray q s n = true)
    (hd : dstB (picks l.toArray q) a.tmps.size = true) (hw : D w.drew)
    (h : ∀ x, D x → wpQuiet P l.toArray (fun y => y = x) (fun a' => a' = A) (picks l.toArray q) a)
    (ht : goE P l.toArray D (fun a' w' => wpList P l.toArray Q (l.drop n) a' w') (picks l.toArray s) A w.drew) : (Code.region id l.toArray true).wp P Q a w := by
  simp only [spineB, Bool.and_eq_true, decide_eq_true_eq] at hB
  obtain ⟨⟨⟨⟨⟨hsel, hqs⟩, hn⟩, hs⟩, hc⟩, hlex⟩ := hB
  have hld : (l.drop n).length = l.toArray.size - n := by simp
  have inv : HeadInv .any l.toArray n (Array.replicate l.toArray.size false) :=
    { size := by simp
      closed := fun j oj _ hj => by rw [getD_replicate_false] at hj; exact Bool.noConfusion hj
      tail := fun t _ ht => getD_in (by simpa using ht) (getD_replicate_false _ _) }
  have H := Gn.text (P := P) (g := l.toArray.size - n) hsel hs hc hn hw s ht q _ a inv hlex hd h
  have K := Gn.any (Q := Q) (g := l.toArray.size - n) (fun listed a' w' hq hT => by
    have := wpAny_of_seq (md := .any) (Q' := Q) (l.drop n) n listed a' w' (fun j => by simp [List.getElem?_drop]) (by rw [hld]; exact hq) hT
    rw [hld] at this
    exact this) _ _ _ _ H
  rw [hqs, show n + (l.toArray.size - n) = l.toArray.size from by omega] at K
  exact wp_region_any hm K
/-- the same by yes and no -/
theorem wp_region_spineN {P : Program} {id : Nat} {Q : Exit → Act → World → Prop} {a : Act} {w : World} {l : List Oper} (q s : List Bool) (n : Nat) {A : Act} (D : World → Prop) (hm : P.follows .mixedOrders = true) (hB : spineB l.toArray (idxM q 0) (idxM s 0) n = true)
    (hd : dstB (pickM q l) a.tmps.size = true) (hw : D w.drew)
    (h : ∀ x, D x → wpQuiet P l.toArray (fun y => y = x) (fun a' => a' = A) (pickM q l) a)
    (ht : goE P l.toArray D (fun a' w' => wpList P l.toArray Q (l.drop n) a' w') (pickM s l) A w.drew) : (Code.region id l.toArray true).wp P Q a w := by
  have e : ∀ m, picks l.toArray (idxM m 0) = pickM m l := fun m => picks_idx m l 0 (fun j => by simp)
  exact wp_region_spineE (idxM q 0) (idxM s 0) n D hm hB (by rw [e]; exact hd) hw (by rw [e]; exact h) (by rw [e]; exact ht)
/-- a call among those that write -/
theorem goE_call {P : Program} {ops : Array Oper} {D : World → Prop} {T : Act → World → Prop} {l : List Oper} {o : Oper} {a : Act} {w : World} (hgd : o.guard = none) (f : FuncId) (args : Array Value) (R : Value → World → Prop) (hr : (execOp a.eval o).run P w = .ok (.enter f args) w)
    (hc : Calls P f args w (fun e w'' => ∃ u, e = .returned u ∧ R u w'')) (h : ∀ u w', R u w' → D w' ∧ goE P ops D T l (a.put o.dst u) w') : goE P ops D T (o :: l) a w :=
  ⟨R, .inr ⟨by simp [Region.wanted, hgd], f, args, w, hr, hc⟩, h⟩
end Go.Proofs.YtgiecmgopibcnaaDoor
