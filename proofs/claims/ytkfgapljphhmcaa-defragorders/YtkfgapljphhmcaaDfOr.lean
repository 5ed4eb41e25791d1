/- Layer 7, no program: a text cut in parts; parts that come in any order. -/
import Derived.Test.YtkfgapljphhmcaaDfPl2
namespace Go.Proofs.Ytkfgapljphhmcaa
open Go.RowKit Go.Maps
set_option linter.unusedVariables false
set_option maxRecDepth 20000
/-- where part j begins, of a text of L bytes; v j: how long it may be -/
def cutA (L : Nat) (v : Nat → Nat) : Nat → Nat
  | 0 => 0
  | j + 1 => cutA L v j + min (v j) (L - cutA L v j)
def cutN (L : Nat) (v : Nat → Nat) (j : Nat) : Nat := min (v j) (L - cutA L v j)
theorem cutA_succ (L : Nat) (v : Nat → Nat) (j : Nat) : cutA L v (j + 1) = cutA L v j + cutN L v j := rfl
theorem cutA_le (L : Nat) (v : Nat → Nat) (j : Nat) : cutA L v j ≤ L := by
  induction j with
  | zero => exact Nat.zero_le _
  | succ j ih => rw [cutA_succ]; unfold cutN; omega
theorem cutA_mono (L : Nat) (v : Nat → Nat) {i j : Nat} (h : i ≤ j) : cutA L v i ≤ cutA L v j := by
  induction j with
  | zero => obtain rfl : i = 0 := by omega
            exact Nat.le_refl _
  | succ j ih =>
    by_cases e : i = j + 1
    · rw [e]; exact Nat.le_refl _
    · rw [cutA_succ]; have := ih (by omega); omega
theorem cutA_ge (L : Nat) (v : Nat → Nat) (hv : ∀ j, 1 ≤ v j) (j : Nat) (h : ∀ i, i < j → cutA L v i < L) : j ≤ cutA L v j := by
  induction j with
  | zero => exact Nat.zero_le _
  | succ j ih =>
    have h1 := ih (fun i hi => h i (by omega))
    have h2 := h j (by omega)
    have h3 := hv j
    rw [cutA_succ]
    unfold cutN
    omega
/-- each place is one part's -/
theorem cut_part (L : Nat) (v : Nat → Nat) (j p : Nat) (h : p < cutA L v j) : ∃ i, i < j ∧ cutA L v i ≤ p ∧ p < cutA L v (i + 1) := by
  induction j with
  | zero => exact absurd h (Nat.not_lt_zero _)
  | succ j ih =>
    by_cases h1 : p < cutA L v j
    · obtain ⟨i, a, b⟩ := ih h1
      exact ⟨i, by omega, b⟩
    · exact ⟨j, by omega, by omega, h⟩
/-- how many have not come -/
def lefts (P : Nat) (wt : Nat → Bool) : Nat := ((List.range P).filter (fun j => !wt j)).length
def setW (wt : Nat → Bool) (k : Nat) : Nat → Bool := fun j => if j = k then true else wt j
theorem lefts_zero {P : Nat} {wt : Nat → Bool} : lefts P wt = 0 ↔ ∀ j, j < P → wt j = true := by
  unfold lefts
  rw [List.length_eq_zero_iff, List.filter_eq_nil_iff]
  simp
theorem lefts_le (P : Nat) (wt : Nat → Bool) : lefts P wt ≤ P := by
  unfold lefts
  exact Nat.le_trans (List.length_filter_le _ _) (by simp)
theorem lefts_same {P : Nat} {wt : Nat → Bool} {k : Nat} (h : wt k = true) : setW wt k = wt := by
  funext j
  unfold setW
  split
  · rename_i e; rw [e, h]
  · rfl
theorem lefts_set {P : Nat} {wt : Nat → Bool} {k : Nat} (hk : k < P) (h : wt k = false) : lefts P (setW wt k) + 1 = lefts P wt := by
  unfold lefts
  have hp : ((List.range P).filter (fun j => !wt j)).Perm (k :: (List.range P).filter (fun j => !setW wt k j)) := by
    refine (List.perm_ext_iff_of_nodup (List.nodup_range.filter _) (List.nodup_cons.2 ⟨?_, List.nodup_range.filter _⟩)).2 (fun j => ?_)
    · rw [List.mem_filter]
      rintro ⟨_, h2⟩
      simp [setW] at h2
    · rw [List.mem_cons, List.mem_filter, List.mem_filter, List.mem_range]
      unfold setW
      by_cases e : j = k
      · subst e; simp [hk, h]
      · simp [e]
  rw [hp.length_eq]
  rfl
/-- what of the text lies there when those parts have come -/
structure Came (L P : Nat) (v : Nat → Nat) (s : ByteArray) (wt : Nat → Bool) (e : Ent) : Prop where
  th : ∀ p, e.th p = true ↔ ∃ j, j < P ∧ wt j = true ∧ cutA L v j ≤ p ∧ p < cutA L v (j + 1)
  bs : ∀ p, e.th p = true → e.bs p = s.data.toList.getD p 0
  tot : e.tot = if wt (P - 1) = true then L else 0
theorem Came.zero (L P : Nat) (v : Nat → Nat) (s : ByteArray) (hP : 0 < P) : Came L P v s (fun _ => false) Ent.zero :=
  ⟨fun p => ⟨fun h => (by cases h), fun ⟨_, _, h, _⟩ => by cases h⟩, fun p h => (by cases h), rfl⟩
/-- a part more, or once more with whatever bytes -/
theorem Came.step {L P : Nat} {v : Nat → Nat} {s body : ByteArray} {wt : Nat → Bool} {e : Ent} (h : Came L P v s wt e) (hL : 0 < L) (hP : cutA L v P = L) (k : Nat) (hk : k < P) (hlast : ∀ j, j < P → cutA L v j < L)
    (hb : body.size = cutN L v k) (hbs : wt k = false → ∀ j, j < cutN L v k → body.data.toList.getD j 0 = s.data.toList.getD (cutA L v k + j) 0) :
    Came L P v s (setW wt k) (e.take (cutA L v k) (decide (k + 1 < P)) body) := by
  have hA1 : cutA L v (k + 1) = cutA L v k + cutN L v k := rfl
  have hle : ∀ j, j < P → cutA L v (j + 1) ≤ L := fun j hj => cutA_le L v (j + 1)
  have hthL : ∀ p, e.th p = true → p < L := fun p hp => by
    obtain ⟨j, a, _, _, b⟩ := (h.th p).1 hp
    have := hle j a
    omega
  -- the entry behind its start
  obtain ⟨e1, he1, ht1, hb1, hth1⟩ : ∃ e1 : Ent, e.take (cutA L v k) (decide (k + 1 < P)) body = e1.layN (cutA L v k) body body.size ∧ (e1.tot = if setW wt k (P - 1) = true then L else 0) ∧ (∀ p, e1.bs p = e.bs p) ∧ (∀ p, e1.th p = e.th p) := by
    by_cases hc : decide (k + 1 < P) = false ∧ e.tot = 0
    · obtain ⟨c1, c2⟩ := hc
      have hk1 : k = P - 1 := by have := of_decide_eq_false c1; omega
      refine ⟨e.endAt (cutA L v k + body.size), by rw [c1, Ent.take_end _ _ _ c2], ?_, fun p => rfl, fun p => ?_⟩
      · show cutA L v k + body.size = _
        rw [hb, ← hA1, hk1, show P - 1 + 1 = P from by omega, hP]
        simp [setW]
      · show (e.th p && decide (p < cutA L v k + body.size)) = e.th p
        rw [hb, ← hA1, hk1, show P - 1 + 1 = P from by omega, hP]
        cases hp : e.th p
        · rfl
        · simp [hthL p hp]
    · refine ⟨e, Ent.take_mid _ _ _ _ hc, ?_, fun p => rfl, fun p => rfl⟩
      rw [h.tot]
      unfold setW
      by_cases hk1 : P - 1 = k
      · rw [if_pos hk1]
        have hd : decide (k + 1 < P) = false := decide_eq_false (by omega)
        have hne : e.tot ≠ 0 := fun x => hc ⟨hd, x⟩
        rw [h.tot] at hne
        split
        · rfl
        · rename_i hw; rw [if_neg hw] at hne; exact absurd rfl hne
      · rw [if_neg hk1]
  have hpast : ∀ p, p < L → e1.past p = false := fun p hp => by
    unfold Ent.past
    rw [ht1]
    split
    · have : decide (L ≤ p) = false := decide_eq_false (by omega)
      rw [this, Bool.and_false]
    · rfl
  have hth : ∀ p, (e.take (cutA L v k) (decide (k + 1 < P)) body).th p = true ↔ e.th p = true ∨ (cutA L v k ≤ p ∧ p < cutA L v (k + 1)) := fun p => by
    rw [he1, Ent.layN_th, hth1 p, Bool.or_eq_true, Bool.and_eq_true, decide_eq_true_iff, hb, ← hA1]
    constructor
    · rintro (a | ⟨a, _⟩)
      · exact .inl a
      · exact .inr a
    · rintro (a | a)
      · exact .inl a
      · exact .inr ⟨a, by rw [hpast p (by have := hle k hk; omega)]; rfl⟩
  refine ⟨fun p => ?_, fun p hp => ?_, ?_⟩
  · rw [hth p, h.th p]
    constructor
    · rintro (⟨j, a, b, c⟩ | c)
      · exact ⟨j, a, by unfold setW; split <;> simp_all, c⟩
      · exact ⟨k, hk, by simp [setW], c⟩
    · rintro ⟨j, a, b, c⟩
      by_cases e : j = k
      · subst e; exact .inr c
      · exact .inl ⟨j, a, by simpa [setW, e] using b, c⟩
  · rw [he1, Ent.layN_bs, hb, hb1 p]
    by_cases ho : e.th p = true
    · rw [if_neg (by rintro ⟨h1, _⟩; unfold Ent.bars at h1; rw [hth1 p, ho] at h1; cases h1), h.bs p ho]
    · rcases (hth p).1 hp with a | a
      · exact absurd a ho
      · have hw : wt k = false := by
          cases hx : wt k
          · rfl
          · exact absurd ((h.th p).2 ⟨k, hk, hx, a⟩) ho
        have hbar : e1.bars p = false := by
          have h1 : e.th p = false := by simpa using ho
          have h2 := hpast p (by have := hle k hk; omega)
          unfold Ent.bars
          rw [hth1 p, h1]
          unfold Ent.past at h2
          rw [h2]
          rfl
        rw [if_pos ⟨hbar, a.1, by omega⟩, hbs hw _ (by omega)]
        congr 1
        omega
  · rw [he1, Ent.layN_tot]
    exact ht1
/-- it is the whole just when all have come -/
theorem Came.whole {L P : Nat} {v : Nat → Nat} {s : ByteArray} {wt : Nat → Bool} {e : Ent} (h : Came L P v s wt e) (hL : 0 < L) (hv : ∀ j, 1 ≤ v j) (hP : cutA L v P = L) (hlast : ∀ j, j < P → cutA L v j < L) : e.whole = decide (lefts P wt = 0) := by
  rw [Bool.eq_iff_iff, decide_eq_true_iff, lefts_zero, Ent.whole_iff, h.tot]
  have hP0 : 0 < P := by
    rcases Nat.eq_zero_or_pos P with e | e
    · subst e
      have : cutA L v 0 = 0 := rfl
      omega
    · exact e
  constructor
  · rintro ⟨h1, h2⟩ j hj
    have hw : wt (P - 1) = true := by
      by_cases hh : wt (P - 1) = true
      · exact hh
      · rw [if_neg hh] at h1; omega
    rw [if_pos hw] at h2
    obtain ⟨i, a, b, c, d⟩ := (h.th (cutA L v j)).1 (h2 _ (hlast j hj))
    have h3 : i = j := by
      rcases Nat.lt_trichotomy i j with g | g | g
      · have := cutA_mono L v (show i + 1 ≤ j from g); omega
      · exact g
      · have h4 := cutA_mono L v (show j + 1 ≤ i from g)
        have h5 := hlast j hj
        have h6 := hv j
        have h7 : cutA L v (j + 1) = cutA L v j + min (v j) (L - cutA L v j) := rfl
        omega
    rw [← h3]
    exact b
  · intro hall
    rw [if_pos (hall (P - 1) (by omega))]
    refine ⟨hL, fun p hp => ?_⟩
    obtain ⟨i, a, b⟩ := cut_part L v P p (by rw [hP]; exact hp)
    exact (h.th p).2 ⟨i, a, hall i a, b⟩
theorem Came.text {L P : Nat} {v : Nat → Nat} {s : ByteArray} {wt : Nat → Bool} {e : Ent} (h : Came L P v s wt e) (hs : s.size = L) (hP : cutA L v P = L) (hw : lefts P wt = 0) (hP0 : 0 < P) : e.text = s := by
  rw [lefts_zero] at hw
  refine text_eq e s (by rw [h.tot, if_pos (hw _ (by omega)), hs]) (fun p hp => ?_)
  obtain ⟨i, a, b⟩ := cut_part L v P p (by rw [hP, ← hs]; exact hp)
  exact h.bs p ((h.th p).2 ⟨i, a, hw i a, b⟩)
/-- round and round, all come -/
theorem around {P I0 i : Nat} {wt : Nat → Bool} (hP : 0 < P) (h : ∀ j, I0 ≤ j → j < i → wt (j % P) = true) (hi : I0 + P ≤ i) : lefts P wt = 0 := by
  rw [lefts_zero]
  intro r hr
  have := h (I0 + (r + P - I0 % P) % P) (by omega) (by have := Nat.mod_lt (r + P - I0 % P) hP; omega)
  have h2 : (I0 + (r + P - I0 % P) % P) % P = r := by
    have h3 := Nat.mod_lt I0 hP
    rw [Nat.add_mod, Nat.mod_mod, ← Nat.add_mod]
    have h4 : I0 + (r + P - I0 % P) = r + P + (I0 - I0 % P) := by have := Nat.mod_le I0 P; omega
    rw [h4]
    have h5 : I0 - I0 % P = P * (I0 / P) := by have := Nat.div_add_mod I0 P; omega
    rw [h5, Nat.add_assoc, Nat.add_mod, Nat.add_mul_mod_self_left, Nat.mod_self, Nat.add_zero, Nat.mod_mod, Nat.mod_eq_of_lt hr]
  rw [h2] at this
  exact this
end Go.Proofs.Ytkfgapljphhmcaa
