/- A region that draws its order: a head that only reads and calls what makes memory of its own, one new block that may be made at any time among it, then a tail in its order: one walk serves. -/
import Derived.Test.YtgiecmgopibcnaaDoorTail
namespace Go.Proofs.YtgiecmgopibcnaaDoor
open Go.RowKit
set_option linter.unusedVariables false
section
variable {P : Program} {ops : Array Oper} {ι : Type} {C : ι → World → Prop}

/-- number i comes up, and yields one value in every world of every class -/
def Each (P : Program) (ops : Array Oper) (C : ι → World → Prop) (i : Nat) (K : Act → Prop) (a : Act) : Prop := ∃ o v, ops[i]? = some o ∧ (∀ k, YieldsIn P ops (C k) o v a) ∧ K (a.put o.dst v)
theorem Each.mono {i : Nat} {K K' : Act → Prop} {a : Act} (h : ∀ a, K a → K' a) : Each P ops C i K a → Each P ops C i K' a := fun ⟨o, v, ho, hy, hk⟩ => ⟨o, v, ho, hy, h _ hk⟩
theorem Each.put {j : Nat} {oi : Oper} {v : Value} {K : Act → Prop} {a : Act} (hap : ∀ oj, ops[j]? = some oj → oi.apart ops oj = true) (hsi : ∀ cs b, oi.op ≠ .select cs b) (hsj : ∀ oj, ops[j]? = some oj → ∀ cs b, oj.op ≠ .select cs b)
    (hy : ∀ k, YieldsIn P ops (C k) oi v a) : Each P ops C j K (a.put oi.dst v) → Each P ops C j (fun a' => (∀ k, YieldsIn P ops (C k) oi v a') ∧ K (a'.put oi.dst v)) a := by
  rintro ⟨oj, u, ho, hu, hk⟩
  obtain ⟨h1, h2, h3⟩ := Oper.apart_spec (hap oj ho)
  refine ⟨oj, u, ho, fun k => (hu k).of_same (execOp_put oj (hsj oj ho) a oi.dst v h1).symm (wanted_put oj a oi.dst v h1).symm, fun k => (hy k).of_same (execOp_put oi hsi a oj.dst u h3) (wanted_put oi a oj.dst u h3), ?_⟩
  rw [← Act.put_comm a v u h2]
  exact hk

/-- the block is made; f of the head are still to come -/
def After (P : Program) (ops : Array Oper) (C : ι → World → Prop) (n g : Nat) (T : Act → Prop) : Nat → Array Bool → Act → Prop
  | 0, listed, a => Region.seqB .any ops g n listed = true ∧ T a
  | f + 1, listed, a => Region.ready .any ops listed ≠ [] ∧ ∀ i, i ∈ Region.ready .any ops listed → i < n ∧ Each P ops C i (After P ops C n g T f (listed.setIfInBounds i true)) a
/-- the block (number m) is not made yet -/
def Ahead (P : Program) (ops : Array Oper) (C : ι → World → Prop) (n g m : Nat) (S : World → Prop) (dm : Option Tmp) (val : World → Value) (T : World → Act → Prop) : Nat → Array Bool → Act → Prop
  | 0, _, _ => False
  | f + 1, listed, a => Region.ready .any ops listed ≠ [] ∧ ∀ i, i ∈ Region.ready .any ops listed → i < n ∧
      (i = m → ∀ u, S u → After P ops C n g (T u) f (listed.setIfInBounds m true) (a.put dm (val u))) ∧ (i ≠ m → Each P ops C i (Ahead P ops C n g m S dm val T f (listed.setIfInBounds i true)) a)

theorem After.any {n g : Nat} {T : Act → Prop} {Q : Exit → Act → World → Prop} {k : ι} (hT : ∀ listed a w, C k w → Region.seqB .any ops g n listed = true → T a → wpAny P .any ops Q g listed a w) (f : Nat) :
    ∀ (listed : Array Bool) (a : Act) (w : World), C k w → After P ops C n g T f listed a → wpAny P .any ops Q (f + g) listed a w := by
  induction f with
  | zero =>
    intro listed a w hw h
    rw [Nat.zero_add]
    exact hT listed a w hw h.1 h.2
  | succ f ih =>
    intro listed a w hw h
    rw [Nat.add_right_comm]
    refine ⟨fun h0 => absurd h0 h.1, fun i hi => ?_⟩
    obtain ⟨o, v, ho, hy, hk⟩ := (h.2 i hi).2
    exact wpOp_of_qOp hw (fun a' w' hw' hh => ih _ a' w' hw' hh) ((hy k).qOp ho hk)
theorem Ahead.any {n g m : Nat} {T : World → Act → Prop} {Q : Exit → Act → World → Prop} {k0 : ι} {ka : World → ι} {om : Oper} {val : World → Value} {nxt : World → World} (hom : ops[m]? = some om) (hg : om.guard = none)
    (hal : ∀ (a : Act) u, C k0 u → (execOp a.eval om).run P u = .ok (.value (val u)) (nxt u) ∧ C (ka u) (nxt u))
    (hT : ∀ u listed a w, C k0 u → C (ka u) w → Region.seqB .any ops g n listed = true → T u a → wpAny P .any ops Q g listed a w) (f : Nat) :
    ∀ (listed : Array Bool) (a : Act) (w : World), C k0 w → Ahead P ops C n g m (C k0) om.dst val T f listed a → wpAny P .any ops Q (f + g) listed a w := by
  induction f with
  | zero => intro listed a w hw h; exact h.elim
  | succ f ih =>
    intro listed a w hw h
    rw [Nat.add_right_comm]
    refine ⟨fun h0 => absurd h0 h.1, fun i hi => ?_⟩
    obtain ⟨_, h1, h2⟩ := h.2 i hi
    by_cases e : i = m
    · have hh := h1 e w hw
      subst e
      unfold wpOp
      rw [hom]
      have hwn : Region.wanted om (yielded ops a.tmps) = true := by simp [Region.wanted, hg]
      simp only [hwn, if_true]
      refine .inl ?_
      unfold Oper.wp
      rw [(hal a w hw).1]
      exact After.any (k := ka w) (fun listed a' w' hw' hs ht => hT w listed a' w' hw hw' hs ht) f _ _ _ (hal a w hw).2 hh
    · obtain ⟨o, v, ho, hy, hk⟩ := h2 e
      exact wpOp_of_qOp hw (fun a' w' hw' hh => ih _ a' w' hw' hh) ((hy k0).qOp ho hk)

theorem After.first {n g i : Nat} {T : Act → Prop} {o : Oper} {v : Value} (ho : ops[i]? = some o) (hsel : ∀ (j : Nat) (o : Oper) cs b, ops[j]? = some o → o.op ≠ .select cs b)
    (hs : Region.sinkB .any ops n = true) (hc : Region.chainB .any ops n = true) (hn : n < ops.size) (hin : i < n) (f : Nat) :
    ∀ (listed : Array Bool) (a : Act), HeadInv .any ops n listed →
      (∀ j oj, ops[j]? = some oj → j ≠ i → listed.getD j true = false → (∀ e ∈ oj.after, Region.binds .any e = true → e.on ≠ i) → o.apart ops oj = true) →
      i ∈ Region.ready .any ops listed → (∀ k, YieldsIn P ops (C k) o v a) → After P ops C n g T f (listed.setIfInBounds i true) (a.put o.dst v) → After P ops C n g T (f + 1) listed a := by
  induction f with
  | zero =>
    intro listed a inv hap hi hy H
    refine ⟨List.ne_nil_of_mem hi, fun j hj => ⟨below_n hs hc hn inv hin hi hj, ?_⟩⟩
    by_cases e : j = i
    · rw [e]; exact ⟨o, v, ho, hy, H⟩
    · have h1 := seqB_ready H.1 j (ready_mono hj e)
      have h2 := below_n hs hc hn inv hin hi hj
      omega
  | succ f ih =>
    intro listed a inv hap hi hy H
    refine ⟨List.ne_nil_of_mem hi, fun j hj => ?_⟩
    have hjn := below_n hs hc hn inv hin hi hj
    refine ⟨hjn, ?_⟩
    by_cases e : j = i
    · rw [e]; exact ⟨o, v, ho, hy, H⟩
    · obtain ⟨hju, oj, hoj, hw⟩ := mem_ready.1 hj
      have hno : ∀ x ∈ oj.after, Region.binds .any x = true → x.on ≠ i := by
        intro x hx hb hxi
        have h1 := hw x hx hb
        rw [hxi, getD_both (mem_ready.1 hi).1] at h1
        exact Bool.noConfusion h1
      have step := Each.put (fun oj' h' => by rw [hoj] at h'; cases h'; exact hap j oj hoj e hju hno) (fun cs b => hsel i o cs b ho) (fun oj' h' cs b => hsel j oj' cs b h') hy (H.2 j (ready_mono hj e)).2
      refine Each.mono (fun a' hh => ih _ a' (inv.set hj hjn) ?_ (ready_mono hi (fun x => e x.symm)) hh.1 ?_) step
      · intro k ok hk hki hu
        refine hap k ok hk hki ?_
        by_cases hjk : j = k
        · rw [← hjk]; exact hju
        · rw [getD_set_ne true hjk] at hu; exact hu
      · rw [Array.setIfInBounds_comm _ _ e]
        exact hh.2
theorem Ahead.first {n g m i : Nat} {S : World → Prop} {val : World → Value} {T : World → Act → Prop} {o om : Oper} {v : Value} (ho : ops[i]? = some o) (hom : ops[m]? = some om) (him : i ≠ m) (hsel : ∀ (j : Nat) (o : Oper) cs b, ops[j]? = some o → o.op ≠ .select cs b)
    (hs : Region.sinkB .any ops n = true) (hc : Region.chainB .any ops n = true) (hn : n < ops.size) (hin : i < n) (f : Nat) :
    ∀ (listed : Array Bool) (a : Act), HeadInv .any ops n listed →
      (∀ j oj, ops[j]? = some oj → j ≠ i → listed.getD j true = false → (∀ e ∈ oj.after, Region.binds .any e = true → e.on ≠ i) → o.apart ops oj = true) →
      i ∈ Region.ready .any ops listed → (∀ k, YieldsIn P ops (C k) o v a) → Ahead P ops C n g m S om.dst val T f (listed.setIfInBounds i true) (a.put o.dst v) → Ahead P ops C n g m S om.dst val T (f + 1) listed a := by
  induction f with
  | zero => intro listed a inv hap hi hy H; exact H.elim
  | succ f ih =>
    intro listed a inv hap hi hy H
    refine ⟨List.ne_nil_of_mem hi, fun j hj => ?_⟩
    have hjn := below_n hs hc hn inv hin hi hj
    obtain ⟨hju, oj, hoj, hw⟩ := mem_ready.1 hj
    have hno : j ≠ i → ∀ x ∈ oj.after, Region.binds .any x = true → x.on ≠ i := by
      intro _ x hx hb hxi
      have h1 := hw x hx hb
      rw [hxi, getD_both (mem_ready.1 hi).1] at h1
      exact Bool.noConfusion h1
    have hfree : ∀ k ok, ops[k]? = some ok → k ≠ i → (listed.setIfInBounds j true).getD k true = false → (∀ e ∈ ok.after, Region.binds .any e = true → e.on ≠ i) → o.apart ops ok = true := by
      intro k ok hk hki hu
      refine hap k ok hk hki ?_
      by_cases hjk : j = k
      · rw [← hjk]; exact hju
      · rw [getD_set_ne true hjk] at hu; exact hu
    refine ⟨hjn, fun hjm u hu => ?_, fun hjm => ?_⟩
    · have hji : j ≠ i := fun x => him (x.symm.trans hjm)
      have hA := (H.2 j (ready_mono hj hji)).2.1 hjm u hu
      subst hjm
      have eo : oj = om := Option.some.inj (hoj.symm.trans hom)
      subst eo
      obtain ⟨h1, h2, h3⟩ := Oper.apart_spec (hap j oj hoj hji hju (hno hji))
      refine After.first ho hsel hs hc hn hin f _ _ (inv.set hj hjn) hfree (ready_mono hi (fun x => hji x.symm)) (fun k => (hy k).of_same (execOp_put o (fun cs b => hsel i o cs b ho) a oj.dst (val u) h3) (wanted_put o a oj.dst (val u) h3)) ?_
      rw [← Act.put_comm a v (val u) h2, Array.setIfInBounds_comm _ _ hji]
      exact hA
    · by_cases e : j = i
      · rw [e]; exact ⟨o, v, ho, hy, H⟩
      · have step := Each.put (fun oj' h' => by rw [hoj] at h'; cases h'; exact hap j oj hoj e hju (hno e)) (fun cs b => hsel i o cs b ho) (fun oj' h' cs b => hsel j oj' cs b h') hy ((H.2 j (ready_mono hj e)).2.2 hjm)
        refine Each.mono (fun a' hh => ih _ a' (inv.set hj hjn) hfree (ready_mono hi (fun x => e x.symm)) hh.1 ?_) step
        rw [Array.setIfInBounds_comm _ _ e]
        exact hh.2
/-- each operation leaves its value in a slot of its own -/
def dstB : List Oper → Nat → Bool
  | [], _ => true
  | o :: l, N => (match o.dst with | some d => decide (d < N) && l.all (fun x => x.dst != some d) | none => false) && dstB l N
theorem put_size' (a : Act) (d : Option Tmp) (v : Value) : (a.put d v).tmps.size = a.tmps.size := by
  cases d <;> simp [Act.put]
theorem slot_kept {D : World → Prop} {A : Act} {d : Nat} (l : List Oper) : ∀ a : Act, (∀ o ∈ l, o.dst ≠ some d) → wpQuiet P ops D (fun a' => a' = A) l a → A.tmps.getD d undef = a.tmps.getD d undef := by
  have put_ne : ∀ (a : Act) (o : Oper) (v : Value), o.dst ≠ some d → (a.put o.dst v).tmps.getD d undef = a.tmps.getD d undef := by
    intro a o v h
    cases hd : o.dst with
    | none => rfl
    | some e =>
      have : e ≠ d := fun x => h (by rw [hd, x])
      simp [Act.put, Array.getElem?_setIfInBounds_ne this]
  induction l with
  | nil => intro a _ h; have e : a = A := h; rw [e]
  | cons o l ih =>
    intro a hd h
    have h0 := hd o (List.mem_cons_self ..)
    have h1 : ∀ x ∈ l, x.dst ≠ some d := fun x hx => hd x (List.mem_cons_of_mem _ hx)
    unfold wpQuiet at h
    split at h
    · obtain ⟨v, _, hv⟩ := h
      rw [ih _ h1 hv, put_ne a o v h0]
    · rw [ih _ h1 h, put_ne a o undef h0]
theorem Ahead.text {n g m : Nat} {S : World → Prop} {val : World → Value} {T : World → Act → Prop} {om : Oper} {A : Act} (hom : ops[m]? = some om) (hnm : n = m + 1) (hsel : Region.noSelect ops = true) (hs : Region.sinkB .any ops n = true) (hc : Region.chainB .any ops n = true) (hn : n < ops.size)
    (k0 : ι) (hT : ∀ u, S u → T u (A.put om.dst (val u))) (l : List Oper) :
    ∀ (k : Nat) (listed : Array Bool) (a : Act), (∀ j, j < l.length → l[j]? = ops[k + j]?) → k + l.length = m → HeadInv .any ops n listed → Region.lexHead .any ops (g + 1) l.length k listed = true →
      dstB l a.tmps.size = true → (∀ κ, wpQuiet P ops (C κ) (fun a' => a' = A) l a) → Ahead P ops C n g m S om.dst val T (l.length + 1) listed a := by
  induction l with
  | nil =>
    intro k listed a _ hk inv hB _ h
    obtain rfl : k = m := hk
    have hB' : Region.seqB .any ops (g + 1) k listed = true := hB
    simp only [Region.seqB, Bool.and_eq_true, decide_eq_true_eq] at hB'
    have ea : a = A := h k0
    refine ⟨by rw [hB'.1]; simp, fun i hi => ?_⟩
    rw [hB'.1] at hi
    have hik : i = k := by simpa using hi
    refine ⟨by omega, fun _ u hu => ⟨by rw [hnm]; exact hB'.2, by rw [ea]; exact hT u hu⟩, fun h' => absurd hik h'⟩
  | cons o l ih =>
    intro k listed a hl hk inv hB hd h
    have ho : ops[k]? = some o := (hl 0 (Nat.succ_pos _)).symm
    have hlen : k + (l.length + 1) = m := hk
    have hB' : (Region.ready .any ops listed).contains k = true ∧ Region.free .any ops listed k = true ∧ Region.lexHead .any ops (g + 1) l.length (k + 1) (listed.setIfInBounds k true) = true := by
      have := hB
      simp only [List.length_cons, Region.lexHead, Bool.and_eq_true] at this
      exact ⟨this.1.1, this.1.2, this.2⟩
    obtain ⟨b1, b2, b3⟩ := hB'
    have hr : k ∈ Region.ready .any ops listed := List.contains_iff_mem.1 b1
    obtain ⟨d, hod, hdN, hdl, hdr⟩ : ∃ d, o.dst = some d ∧ d < a.tmps.size ∧ (∀ x ∈ l, x.dst ≠ some d) ∧ dstB l a.tmps.size = true := by
      unfold dstB at hd
      rw [Bool.and_eq_true] at hd
      cases hod : o.dst with
      | none => rw [hod] at hd; exact absurd hd.1 (by simp)
      | some d =>
        rw [hod] at hd
        obtain ⟨hd1, hd2⟩ := hd
        simp only [Bool.and_eq_true, decide_eq_true_eq, List.all_eq_true, bne_iff_ne] at hd1
        exact ⟨d, rfl, hd1.1, hd1.2, hd2⟩
    have each : ∀ κ, YieldsIn P ops (C κ) o (A.tmps.getD d undef) a ∧ wpQuiet P ops (C κ) (fun a' => a' = A) l (a.put o.dst (A.tmps.getD d undef)) := by
      intro κ
      have hq : qOp P ops (C κ) k (wpQuiet P ops (C κ) (fun a' => a' = A) l) a := by
        unfold qOp
        rw [ho]
        exact h κ
      obtain ⟨v, hy, hv⟩ := yieldsIn_of_qOp ho hq
      have e := slot_kept l _ hdl hv
      have e2 : (a.put o.dst v).tmps.getD d undef = v := by
        rw [hod]
        simp [Act.put, hdN]
      rw [e2] at e
      rw [e]
      exact ⟨hy, hv⟩
    refine Ahead.first ho hom (by omega) (Region.noSelect_spec hsel) hs hc hn (by omega) (l.length + 1) listed a inv (Region.free_spec ho b2) hr (fun κ => (each κ).1) ?_
    refine ih (k + 1) _ _ (fun j hj => ?_) (by omega) (inv.set hr (by omega)) b3 (by rw [put_size']; exact hdr) (fun κ => (each κ).2)
    have := hl (j + 1) (by simp only [List.length_cons]; omega)
    rw [show k + 1 + j = k + (j + 1) from by omega]
    exact this
end
/-- worlds of a class that calls do not leave -/
structure ClsD (w : World) (D : World → Prop) where
  val : World
  bel : Below w.heap.size w val
  mem : D val
def Closed (D : World → Prop) : Prop := ∀ u u', D u → Below u.heap.size u u' → D u'
theorem calmD_of {P : Program} {f : FuncId} {args : Array Value} {w : World} {D : World → Prop} (hD : Closed D) {x : ClsD w D} {v : Value}
    (h : Calls P f args x.val fun e w' => e = .returned v ∧ Below x.val.heap.size x.val w') : Calls P f args x.val fun e w'' => e = .returned v ∧ ∃ y : ClsD w D, w'' = y.val :=
  h.mono fun _ w' ⟨he, hb⟩ => ⟨he, ⟨w', x.bel.trans (hb.mono x.bel.size), hD _ _ x.mem hb⟩, rfl⟩
theorem calmD_same {P : Program} {f : FuncId} {args : Array Value} {w : World} {D : World → Prop} {x : ClsD w D} {v : Value}
    (h : Calls P f args x.val fun e w' => e = .returned v ∧ x.val = w') : Calls P f args x.val fun e w'' => e = .returned v ∧ ∃ y : ClsD w D, w'' = y.val :=
  h.mono fun _ w' ⟨he, hb⟩ => ⟨he, x, hb.symm⟩
/-- which blocks the region is asked of -/
def freshB (ops : Array Oper) (m : Nat) : Bool := Region.noSelect ops && decide (m + 1 < ops.size) && Region.sinkB .any ops (m + 1) && Region.chainB .any ops (m + 1) && Region.lexHead .any ops (ops.size - (m + 1) + 1) m 0 (Array.replicate ops.size false)
/-- the classes: ahead of the block; behind it, as it was made in the world u -/
def freshD (B : Obj) : Option World → World → Prop
  | none, _ => True
  | some u, w' => Below (u.heap.size + 1) (u.alloc B) w'
theorem freshD_closed (B : Obj) : ∀ k, Closed (freshD B k)
  | none => fun _ _ _ _ => trivial
  | some u => fun x y hx hb => by
    have hx' : Below (u.heap.size + 1) (u.alloc B) x := hx
    exact hx'.trans (hb.mono (by have := hx'.size; simpa using this))
def FreshI (w : World) (B : Obj) : Type := {k : Option World // Nonempty (ClsD w (freshD B k))}
def freshC (w : World) (B : Obj) (k : FreshI w B) : World → Prop := fun w' => ∃ x : ClsD w (freshD B k.1), w' = x.val
/-- **a calm head, a new block made at any time among it, a tail in its order** -/
theorem wp_region_fresh {P : Program} {id : Nat} {Q : Exit → Act → World → Prop} {a : Act} {w : World} {l : List Oper} (m : Nat) {A : Act} {om : Oper} {B : Obj} (hm : P.follows .mixedOrders = true) (hB : freshB l.toArray m = true)
    (hd : dstB (l.take m) a.tmps.size = true) (hom : l[m]? = some om) (hg : om.guard = none) (hal : ∀ (a : Act) (u : World), (execOp a.eval om).run P u = .ok (.value (.pointer (some ⟨u.heap.size, 0, none⟩))) (u.alloc B))
    (h : ∀ D : World → Prop, Closed D → Nonempty (ClsD w D) → wpQuiet P l.toArray (fun w' => ∃ x : ClsD w D, w' = x.val) (fun a' => a' = A) (l.take m) a)
    (ht : ∀ u w', Below w.heap.size w u → Below (u.heap.size + 1) (u.alloc B) w' → wpList P l.toArray Q (l.drop (m + 1)) (A.put om.dst (.pointer (some ⟨u.heap.size, 0, none⟩))) w') : (Code.region id l.toArray true).wp P Q a w := by
  simp only [freshB, Bool.and_eq_true, decide_eq_true_eq] at hB
  obtain ⟨⟨⟨⟨hsel, hn⟩, hs⟩, hc⟩, hlex⟩ := hB
  have hn' : m + 1 < l.length := by simpa using hn
  have hlt : (l.take m).length = m := by rw [List.length_take]; omega
  have hld : (l.drop (m + 1)).length = l.toArray.size - (m + 1) := by simp
  have hom' : l.toArray[m]? = some om := by simpa using hom
  have inv : HeadInv .any l.toArray (m + 1) (Array.replicate l.toArray.size false) :=
    { size := by simp
      closed := fun j oj _ hj => by rw [getD_replicate_false] at hj; exact Bool.noConfusion hj
      tail := fun t _ ht => getD_in (by simpa using ht) (getD_replicate_false _ _) }
  have wd : Below w.heap.size w w.drew := (Below.refl _ _).drew
  have n0 : Nonempty (ClsD w (freshD B none)) := ⟨⟨w.drew, wd, trivial⟩⟩
  have na : ∀ u, Below w.heap.size w u → Nonempty (ClsD w (freshD B (some u))) := fun u hu => ⟨⟨u.alloc B, hu.alloc hu.size B, Below.refl _ _⟩⟩
  have hex : ∀ u : World, ∃ k : FreshI w B, ∀ hu : Below w.heap.size w u, k = ⟨some u, na u hu⟩ := fun u => by
    by_cases hu : Below w.heap.size w u
    · exact ⟨⟨some u, na u hu⟩, fun _ => rfl⟩
    · exact ⟨⟨none, n0⟩, fun hu' => absurd hu' hu⟩
  obtain ⟨ka, hka⟩ := Classical.axiomOfChoice hex
  have H := Ahead.text (P := P) (C := freshC w B) (g := l.toArray.size - (m + 1)) (S := freshC w B ⟨none, n0⟩) (val := fun u => .pointer (some ⟨u.heap.size, 0, none⟩))
    (T := fun u a' => ∀ w', freshC w B (ka u) w' → wpList P l.toArray Q (l.drop (m + 1)) a' w') (A := A) hom' rfl hsel hs hc hn ⟨none, n0⟩ (fun u hu w' hw' => by
      obtain ⟨x, rfl⟩ := hu
      rw [hka x.val x.bel] at hw'
      obtain ⟨y, rfl⟩ := hw'
      exact ht x.val y.val x.bel y.mem) (l.take m) 0 _ a (fun j hj => by
      rw [hlt] at hj
      simp [hj]) (by omega) inv (by rw [hlt]; exact hlex) hd (fun κ => h _ (freshD_closed B κ.1) κ.2)
  have K := Ahead.any (Q := Q) (k0 := (⟨none, n0⟩ : FreshI w B)) (ka := ka) (nxt := fun u => u.alloc B) hom' hg (fun a' u hu => ⟨hal a' u, by
      obtain ⟨x, rfl⟩ := hu
      rw [hka x.val x.bel]
      exact ⟨⟨x.val.alloc B, x.bel.alloc x.bel.size B, Below.refl _ _⟩, rfl⟩⟩) (fun u listed a' w' _ hw hq hT => by
      have := wpAny_of_seq (md := .any) (Q' := Q) (l.drop (m + 1)) (m + 1) listed a' w' (fun j => by simp [List.getElem?_drop]) (by rw [hld]; exact hq) (hT w' hw)
      rw [hld] at this
      exact this) _ _ _ { w with drawn := w.drawn + 1 } ⟨⟨w.drew, wd, trivial⟩, rfl⟩ H
  rw [hlt, show m + 1 + (l.toArray.size - (m + 1)) = l.toArray.size from by omega] at K
  exact wp_region_any hm K
end Go.Proofs.YtgiecmgopibcnaaDoor
