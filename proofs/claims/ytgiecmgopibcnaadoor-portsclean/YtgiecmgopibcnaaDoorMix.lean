/- The same as Spine2 where pure operations stand between those that write. -/
import Derived.Test.YtgiecmgopibcnaaDoorSpine2
namespace Go.Proofs.YtgiecmgopibcnaaDoor
open Go.RowKit
set_option linter.unusedVariables false
section
variable {P : Program} {ops : Array Oper} {D : World → Prop}
/-- those numbers: a pure one that is due and free, or one that is alone due -/
def mixB (ops : Array Oper) (g n : Nat) : List (Bool × Nat) → Array Bool → Bool
  | [], listed => Region.seqB .any ops g n listed
  | (true, k) :: s, listed => (Region.ready .any ops listed).contains k && Region.free .any ops listed k && decide (k < n) && mixB ops g n s (listed.setIfInBounds k true)
  | (false, k) :: s, listed => decide (Region.ready .any ops listed = [k]) && decide (k < n) && mixB ops g n s (listed.setIfInBounds k true)
def mixE (P : Program) (ops : Array Oper) (D : World → Prop) (T : Act → World → Prop) : List (Bool × Nat) → Act → World → Prop
  | [], a, w => T a w
  | (true, k) :: l, a, w => ∃ o, ops[k]? = some o ∧ ∃ v, (∀ x, D x → YieldsIn P ops (fun y => y = x) o v a) ∧ mixE P ops D T l (a.put o.dst v) w
  | (false, k) :: l, a, w => ∃ o, ops[k]? = some o ∧ ∃ R, DoesR P ops o a w R ∧ ∀ u w', R u w' → D w' ∧ mixE P ops D T l (a.put o.dst u) w'
theorem Gn.mix {n g : Nat} {T : Act → World → Prop} (hsel : Region.noSelect ops = true) (hs : Region.sinkB .any ops n = true) (hc : Region.chainB .any ops n = true) (hn : n < ops.size) (s : List (Bool × Nat)) :
    ∀ (listed : Array Bool) (a : Act) (w : World), HeadInv .any ops n listed → D w → mixB ops g n s listed = true → mixE P ops D T s a w → Gn P ops D n g T s.length listed a w := by
  induction s with
  | nil => intro listed a w _ _ hB h; exact ⟨hB, h⟩
  | cons p s ih =>
    obtain ⟨b, k⟩ := p
    intro listed a w inv hw hB h
    cases b with
    | false =>
      simp only [mixB, Bool.and_eq_true, decide_eq_true_eq] at hB
      obtain ⟨⟨hr, hk⟩, hB⟩ := hB
      obtain ⟨o, ho, R, h1, h2⟩ := h
      refine ⟨by rw [hr]; simp, fun i hi => ?_⟩
      rw [hr] at hi
      obtain rfl : i = k := by simpa using hi
      exact ⟨hk, o, R, ho, h1, fun u w' hR => ⟨(h2 u w' hR).1, ih _ _ _ (inv.set (by rw [hr]; simp) hk) (h2 u w' hR).1 hB (h2 u w' hR).2⟩⟩
    | true =>
      simp only [mixB, Bool.and_eq_true, decide_eq_true_eq] at hB
      obtain ⟨⟨⟨b1, b2⟩, hk⟩, hB⟩ := hB
      have hr : k ∈ Region.ready .any ops listed := List.contains_iff_mem.1 b1
      obtain ⟨o, ho, v, h1, h2⟩ := h
      exact Gn.first ho (Region.noSelect_spec hsel) hs hc hn hk s.length listed a w inv (Region.free_spec ho b2) hr hw h1 (ih _ _ _ (inv.set hr hk) hw hB h2)
theorem Gn.textM {n g : Nat} {T : Act → World → Prop} {A : Act} {w : World} (hsel : Region.noSelect ops = true) (hs : Region.sinkB .any ops n = true) (hc : Region.chainB .any ops n = true) (hn : n < ops.size) (hw : D w) (s : List (Bool × Nat))
    (hS : mixE P ops D T s A w) (q : List Nat) :
    ∀ (listed : Array Bool) (a : Act), HeadInv .any ops n listed → permHead ops n (mixB ops g n s) q listed = true →
      dstB (picks ops q) a.tmps.size = true → (∀ x, D x → wpQuiet P ops (fun y => y = x) (fun a' => a' = A) (picks ops q) a) → Gn P ops D n g T (q.length + s.length) listed a w := by
  induction q with
  | nil =>
    intro listed a inv hB _ h
    have ea : a = A := h w hw
    rw [List.length_nil, Nat.zero_add, ea]
    exact Gn.mix hsel hs hc hn s listed A w inv hw hB hS
  | cons k q ih =>
    intro listed a inv hB hd h
    simp only [permHead, Bool.and_eq_true, decide_eq_true_eq] at hB
    obtain ⟨⟨⟨b1, b2⟩, hkn⟩, b3⟩ := hB
    have hr : k ∈ Region.ready .any ops listed := List.contains_iff_mem.1 b1
    obtain ⟨o, ho⟩ := ready_some hr
    have hp := picks_cons ho q
    rw [hp] at hd
    simp only [hp] at h
    obtain ⟨d, hod, hdN, hdl, hdr⟩ : ∃ d, o.dst = some d ∧ d < a.tmps.size ∧ (∀ x ∈ picks ops q, x.dst ≠ some d) ∧ dstB (picks ops q) a.tmps.size = true := by
      unfold dstB at hd
      rw [Bool.and_eq_true] at hd
      cases hod : o.dst with
      | none => rw [hod] at hd; exact absurd hd.1 (by simp)
      | some d =>
        rw [hod] at hd
        obtain ⟨hd1, hd2⟩ := hd
        simp only [Bool.and_eq_true, decide_eq_true_eq, List.all_eq_true, bne_iff_ne] at hd1
        exact ⟨d, rfl, hd1.1, hd1.2, hd2⟩
    have each : ∀ x, D x → YieldsIn P ops (fun y => y = x) o (A.tmps.getD d undef) a ∧ wpQuiet P ops (fun y => y = x) (fun a' => a' = A) (picks ops q) (a.put o.dst (A.tmps.getD d undef)) := by
      intro x hx
      have hq : qOp P ops (fun y => y = x) k (wpQuiet P ops (fun y => y = x) (fun a' => a' = A) (picks ops q)) a := by
        unfold qOp
        rw [ho]
        exact h x hx
      obtain ⟨v, hy, hv⟩ := yieldsIn_of_qOp ho hq
      have e := slot_kept (picks ops q) _ hdl hv
      have e2 : (a.put o.dst v).tmps.getD d undef = v := by
        rw [hod]
        simp [Act.put, hdN]
      rw [e2] at e
      rw [e]
      exact ⟨hy, hv⟩
    rw [show (k :: q).length + s.length = (q.length + s.length) + 1 from by simp only [List.length_cons]; omega]
    refine Gn.first ho (Region.noSelect_spec hsel) hs hc hn hkn (q.length + s.length) listed a w inv (Region.free_spec ho b2) hr hw (fun x hx => (each x hx).1) ?_
    exact ih _ _ (inv.set hr hkn) b3 (by rw [put_size']; exact hdr) (fun x hx => (each x hx).2)
end
def mixRB (ops : Array Oper) (q : List Nat) (s : List (Bool × Nat)) (n : Nat) : Bool := Region.noSelect ops && decide (q.length + s.length = n) && decide (n < ops.size) && Region.sinkB .any ops n && Region.chainB .any ops n && permHead ops n (mixB ops (ops.size - n) n s) q (Array.replicate ops.size false)
/-- **a head that only reads in worlds of D (q, by yes and no), then those that write, in their order, pure ones between them (s), a tail from n on** -/
theorem wp_region_mix {P : Program} {id : Nat} {Q : Exit → Act → World → Prop} {a : Act} {w : World} {l : List Oper} (q : List Bool) (s : List (Bool × Nat)) (n : Nat) {A : Act} (D : World → Prop) (hm : P.follows .mixedOrders = true) (hB : mixRB l.toArray (idxM q 0) s n = true)
    (hd : dstB (pickM q l) a.tmps.size = true) (hw : D w.drew)
    (h : ∀ x, D x → wpQuiet P l.toArray (fun y => y = x) (fun a' => a' = A) (pickM q l) a)
    (ht : mixE P l.toArray D (fun a' w' => wpList P l.toArray Q (l.drop n) a' w') s A w.drew) : (Code.region id l.toArray true).wp P Q a w := by
  have e : ∀ m, picks l.toArray (idxM m 0) = pickM m l := fun m => picks_idx m l 0 (fun j => by simp)
  rw [← e] at hd
  simp only [← e] at h
  simp only [mixRB, Bool.and_eq_true, decide_eq_true_eq] at hB
  obtain ⟨⟨⟨⟨⟨hsel, hqs⟩, hn⟩, hs⟩, hc⟩, hlex⟩ := hB
  have hld : (l.drop n).length = l.toArray.size - n := by simp
  have inv : HeadInv .any l.toArray n (Array.replicate l.toArray.size false) :=
    { size := by simp
      closed := fun j oj _ hj => by rw [getD_replicate_false] at hj; exact Bool.noConfusion hj
      tail := fun t _ ht => getD_in (by simpa using ht) (getD_replicate_false _ _) }
  have H := Gn.textM (P := P) (g := l.toArray.size - n) hsel hs hc hn hw s ht (idxM q 0) _ a inv hlex hd h
  have K := Gn.any (Q := Q) (g := l.toArray.size - n) (fun listed a' w' hq hT => by
    have := wpAny_of_seq (md := .any) (Q' := Q) (l.drop n) n listed a' w' (fun j => by simp [List.getElem?_drop]) (by rw [hld]; exact hq) hT
    rw [hld] at this
    exact this) _ _ _ _ H
  rw [hqs, show n + (l.toArray.size - n) = l.toArray.size from by omega] at K
  exact wp_region_any hm K
/-- the same, the operations themselves -/
def mixF (P : Program) (ops : Array Oper) (D : World → Prop) (T : Act → World → Prop) : List (Bool × Oper) → Act → World → Prop
  | [], a, w => T a w
  | (true, o) :: l, a, w => ∃ v, (∀ x, D x → YieldsIn P ops (fun y => y = x) o v a) ∧ mixF P ops D T l (a.put o.dst v) w
  | (false, o) :: l, a, w => ∃ R, DoesR P ops o a w R ∧ ∀ u w', R u w' → D w' ∧ mixF P ops D T l (a.put o.dst u) w'
def pickX : List (Bool × Nat) → List Oper → List (Bool × Oper)
  | [], _ => []
  | (b, k) :: s, l => (match l[k]? with | some o => [(b, o)] | none => []) ++ pickX s l
theorem mixE_of {P : Program} {l : List Oper} {D : World → Prop} {T : Act → World → Prop} : ∀ (s : List (Bool × Nat)), (∀ p ∈ s, p.2 < l.length) → ∀ (a : Act) (w : World), mixF P l.toArray D T (pickX s l) a w → mixE P l.toArray D T s a w
  | [], _, _, _, h => h
  | (b, k) :: s, hk, a, w, h => by
    have hkl : k < l.length := hk (b, k) (List.mem_cons_self ..)
    have ho : l[k]? = some l[k] := List.getElem?_eq_getElem hkl
    have ho' : l.toArray[k]? = some l[k] := by simp [hkl]
    have hs : ∀ p ∈ s, p.2 < l.length := fun p hp => hk p (List.mem_cons_of_mem _ hp)
    rw [pickX, ho] at h
    cases b with
    | true =>
      obtain ⟨v, h1, h2⟩ := h
      exact ⟨l[k], ho', v, h1, mixE_of s hs _ _ h2⟩
    | false =>
      obtain ⟨R, h1, h2⟩ := h
      exact ⟨l[k], ho', R, h1, fun u w' hR => ⟨(h2 u w' hR).1, mixE_of s hs _ _ (h2 u w' hR).2⟩⟩
theorem mix_pure {P : Program} {ops : Array Oper} {D : World → Prop} {T : Act → World → Prop} {l : List (Bool × Oper)} {a : Act} {w : World} {o : Oper} (hgd : o.guard = none) (v : Value) (hr : ∀ x, (execOp a.eval o).run P x = .ok (.value v) x)
    (h : mixF P ops D T l (a.put o.dst v) w) : mixF P ops D T ((true, o) :: l) a w :=
  ⟨v, fun x _ => .inl ⟨by simp [Region.wanted, hgd], fun y hy => by subst hy; unfold Oper.quietAt; rw [hr]; exact ⟨rfl, rfl⟩⟩, h⟩
theorem mix_call {P : Program} {ops : Array Oper} {D : World → Prop} {T : Act → World → Prop} {l : List (Bool × Oper)} {a : Act} {w : World} {o : Oper} (hgd : o.guard = none) (f : FuncId) (args : Array Value) (R : Value → World → Prop) (hr : (execOp a.eval o).run P w = .ok (.enter f args) w)
    (hc : Calls P f args w (fun e w'' => ∃ u, e = .returned u ∧ R u w'')) (h : ∀ u w', R u w' → D w' ∧ mixF P ops D T l (a.put o.dst u) w') : mixF P ops D T ((false, o) :: l) a w :=
  ⟨R, .inr ⟨by simp [Region.wanted, hgd], f, args, w, hr, hc⟩, h⟩
theorem mix_does {P : Program} {ops : Array Oper} {D : World → Prop} {T : Act → World → Prop} {l : List (Bool × Oper)} {a : Act} {w : World} {o : Oper} (hgd : o.guard = none) (v : Value) (w' : World)
    (hr : (execOp a.eval o).run P w = .ok (.value v) w') (h : D w' ∧ mixF P ops D T l (a.put o.dst v) w') : mixF P ops D T ((false, o) :: l) a w :=
  ⟨fun u x => u = v ∧ x = w', .inl ⟨v, w', .inr ⟨by simp [Region.wanted, hgd], hr⟩, rfl, rfl⟩, fun u x ⟨e1, e2⟩ => by rw [e1, e2]; exact h⟩
/-- the same for operations whose guard is met, and in worlds of D -/
theorem mixw_pure {P : Program} {ops : Array Oper} {D : World → Prop} {T : Act → World → Prop} {l : List (Bool × Oper)} {a : Act} {w : World} {o : Oper} (hw : Region.wanted o (yielded ops a.tmps) = true) (v : Value) (hr : ∀ x, D x → (execOp a.eval o).run P x = .ok (.value v) x)
    (h : mixF P ops D T l (a.put o.dst v) w) : mixF P ops D T ((true, o) :: l) a w :=
  ⟨v, fun x hx => .inl ⟨hw, fun y hy => by subst hy; unfold Oper.quietAt; rw [hr y hx]; exact ⟨rfl, rfl⟩⟩, h⟩
theorem mixw_call {P : Program} {ops : Array Oper} {D : World → Prop} {T : Act → World → Prop} {l : List (Bool × Oper)} {a : Act} {w : World} {o : Oper} (hw : Region.wanted o (yielded ops a.tmps) = true) (f : FuncId) (args : Array Value) (R : Value → World → Prop) (hr : (execOp a.eval o).run P w = .ok (.enter f args) w)
    (hc : Calls P f args w (fun e w'' => ∃ u, e = .returned u ∧ R u w'')) (h : ∀ u w', R u w' → D w' ∧ mixF P ops D T l (a.put o.dst u) w') : mixF P ops D T ((false, o) :: l) a w :=
  ⟨R, .inr ⟨hw, f, args, w, hr, hc⟩, h⟩
end Go.Proofs.YtgiecmgopibcnaaDoor
