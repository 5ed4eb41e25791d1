/- Layer 7, no program: the table of the code and the reference's list say the same. -/
import Derived.Test.YtkfgapljphhmcaaRfs7
namespace Go.Proofs.Ytkfgapljphhmcaa
open Go.RowKit Go.Maps
set_option linter.unusedVariables false
set_option maxRecDepth 20000
theorem sub_len : ∀ (l1 l2 : List Nat), l1.Nodup → (∀ x ∈ l1, x ∈ l2) → l1.length ≤ l2.length
  | [], _, _, _ => Nat.zero_le _
  | a :: l, l2, hn, h => by
    rw [List.nodup_cons] at hn
    have ha := h a (by simp)
    have := sub_len l (l2.erase a) hn.2 (fun x hx => by
      have hxa : x ≠ a := fun e => hn.1 (e ▸ hx)
      exact (List.mem_erase_of_ne hxa).2 (h x (List.mem_cons_of_mem _ hx)))
    rw [List.length_erase, if_pos ha] at this
    have h2 := List.length_pos_of_mem ha
    rw [List.length_cons]
    omega
/-- may a place be taken, as far as the end goes? -/
def okP (all : Int) (p : Nat) : Bool := decide (all < 0) || decide ((p : Int) < all)
theorem hasAt_append (a b : List (Nat × UInt8)) (v : Int) : hasAt (a ++ b) v = (hasAt a v || hasAt b v) := by unfold hasAt; rw [List.any_append]
theorem hasAt_layP (all : Int) (off : Nat) (s : ByteArray) (ps : List (Nat × UInt8)) (k p : Nat) : hasAt (layP all off s ps k) (p : Int) = (hasAt ps (p : Int) || (decide (off ≤ p ∧ p < off + k) && okP all p)) := by
  induction k with
  | zero =>
    have : decide (off ≤ p ∧ p < off + 0) = false := by simp
    rw [this, Bool.false_and, Bool.or_false]; rfl
  | succ k ih =>
    rw [layP]
    by_cases hp : p = off + k
    · subst hp
      have h1 : decide (off ≤ off + k ∧ off + k < off + k) = false := by simp
      have h2 : decide (off ≤ off + k ∧ off + k < off + (k + 1)) = true := by simp
      rw [h1, Bool.false_and, Bool.or_false] at ih
      rw [h2, Bool.true_and]
      have hr : roomP all (layP all off s ps k) (off + k) = (!hasAt ps ((off + k : Nat) : Int) && okP all (off + k)) := by unfold roomP; rw [ih]; rfl
      rw [hr]
      cases ha : hasAt ps ((off + k : Nat) : Int) <;> cases ho : okP all (off + k)
      · rw [if_neg (by decide), ih, ha]; rfl
      · simp only [Bool.not_false, Bool.true_and, if_true]
        rw [hasAt_append, ih, ha]
        simp [hasAt]
      · rw [if_neg (by decide), ih, ha]; rfl
      · rw [if_neg (by decide), ih, ha]; rfl
    · have h3 : decide (off ≤ p ∧ p < off + (k + 1)) = decide (off ≤ p ∧ p < off + k) := by rw [decide_eq_decide]; omega
      rw [h3]
      split
      · rw [hasAt_append, ih]
        have : hasAt [(off + k, s.data.toList.getD k 0)] (p : Int) = false := by
          unfold hasAt
          simp
          omega
        rw [this, Bool.or_false]
      · exact ih
theorem hasAt_filter (all : Int) (ps : List (Nat × UInt8)) (p : Nat) : hasAt (ps.filter (keepP all)) (p : Int) = (hasAt ps (p : Int) && okP all p) := by
  rw [Bool.eq_iff_iff, Bool.and_eq_true, hasAt_iff, hasAt_iff, List.mem_map, List.mem_map]
  constructor
  · rintro ⟨x, hx, rfl⟩
    rw [List.mem_filter] at hx
    exact ⟨⟨x, hx.1, rfl⟩, hx.2⟩
  · rintro ⟨⟨x, hx, rfl⟩, ho⟩
    exact ⟨x, List.mem_filter.2 ⟨hx, ho⟩, rfl⟩
theorem mem_layP {all : Int} {off : Nat} {s : ByteArray} {ps : List (Nat × UInt8)} (k : Nat) : ∀ q ∈ layP all off s ps k, q ∈ ps ∨ (off ≤ q.1 ∧ q.1 < off + k ∧ q.2 = s.data.toList.getD (q.1 - off) 0 ∧ hasAt ps (q.1 : Int) = false ∧ okP all q.1 = true) := by
  induction k with
  | zero => exact fun q hq => .inl hq
  | succ k ih =>
    intro q hq
    rw [layP] at hq
    split at hq
    · rename_i hr
      rcases List.mem_append.1 hq with hq | hq
      · rcases ih q hq with h | ⟨h1, h2, h3⟩
        · exact .inl h
        · exact .inr ⟨h1, by omega, h3⟩
      · rw [List.mem_singleton] at hq
        subst hq
        unfold roomP at hr
        rw [Bool.and_eq_true, Bool.not_eq_true', hasAt_layP, Bool.or_eq_false_iff] at hr
        refine .inr ⟨by show off ≤ off + k; omega, by show off + k < off + (k + 1); omega, ?_, hr.1.1, hr.2⟩
        show s.data.toList.getD k 0 = s.data.toList.getD (off + k - off) 0
        rw [Nat.add_sub_cancel_left]
    · rcases ih q hq with h | ⟨h1, h2, h3⟩
      · exact .inl h
      · exact .inr ⟨h1, by omega, h3⟩
/-- an entry of the code and one of the reference say the same -/
structure SameE (e : Ent) (r : RE) (now : Int) : Prop where
  tot0 : r.all < 0 → e.tot = 0
  tot1 : 0 ≤ r.all → (e.tot : Int) = r.all
  th : ∀ p, e.th p = hasAt r.ps (p : Int)
  bs : ∀ q ∈ r.ps, e.bs q.1 = q.2
  age : e.age = now - r.at_
theorem SameE.fresh (i : Ip) (now : Int) : SameE Ent.zero (RE.fresh i now) now :=
  ⟨fun _ => rfl, fun h => absurd h (by show ¬ (0 : Int) ≤ -1; omega), fun p => rfl, fun q hq => absurd hq List.not_mem_nil, by show (0 : Int) = now - now; omega⟩
theorem SameE.past {e : Ent} {r : RE} {now : Int} (h : SameE e r now) (hg : r.all < 0 ∨ 1 ≤ r.all) (p : Nat) : e.past p = !okP r.all p := by
  unfold Ent.past okP
  rcases hg with hg | hg
  · rw [h.tot0 hg]; simp [hg]
  · have := h.tot1 (by omega)
    have h0 : decide (r.all < 0) = false := by simp; omega
    have h1 : decide (0 < e.tot) = true := by simp; omega
    rw [h0, h1, Bool.true_and, Bool.false_or, Bool.eq_iff_iff, decide_eq_true_iff, Bool.not_eq_true', decide_eq_false_iff_not]
    omega
/-- the end told -/
theorem SameE.start {e : Ent} {r : RE} {now : Int} (h : SameE e r now) (hg : GoodE r) (i : Ip) (n : Nat) (ho : 0 ≤ i.off) (hn : 1 ≤ n) :
    (((r.endR i n).all < 0 → (e.start i.off.toNat i.more n).tot = 0) ∧ (0 ≤ (r.endR i n).all → ((e.start i.off.toNat i.more n).tot : Int) = (r.endR i n).all)) ∧ (e.start i.off.toNat i.more n).bs = e.bs ∧ (e.start i.off.toNat i.more n).age = e.age ∧
    (∀ p, (e.start i.off.toNat i.more n).th p = (hasAt r.ps (p : Int) && okP (r.endR i n).all p)) ∧ ((r.endR i n).all < 0 ∨ 1 ≤ (r.endR i n).all) := by
  unfold RE.endR Ent.start
  by_cases hc : i.more = false ∧ r.all < 0
  · have ht := h.tot0 hc.2
    rw [if_pos hc, if_pos ⟨hc.1, ht⟩]
    refine ⟨⟨fun hh => ?_, fun _ => ?_⟩, rfl, rfl, fun p => ?_, .inr ?_⟩
    · exact absurd hh (by show ¬ i.off + (n : Int) < 0; omega)
    · show ((i.off.toNat + n : Nat) : Int) = i.off + n; omega
    · show (e.th p && decide (p < i.off.toNat + n)) = _
      rw [h.th p]
      congr 1
      unfold okP
      show decide (p < i.off.toNat + n) = (decide (i.off + (n : Int) < 0) || decide ((p : Int) < i.off + (n : Int)))
      have h0 : decide (i.off + (n : Int) < 0) = false := by simp; omega
      rw [h0, Bool.false_or, decide_eq_decide]
      omega
    · show 1 ≤ i.off + (n : Int); omega
  · have hc2 : ¬ (i.more = false ∧ e.tot = 0) := by
      rintro ⟨h1, h2⟩
      refine hc ⟨h1, ?_⟩
      rcases hg.all with g | g
      · exact g
      · have := h.tot1 (by omega); omega
    rw [if_neg hc, if_neg hc2]
    refine ⟨⟨h.tot0, h.tot1⟩, rfl, rfl, fun p => ?_, hg.all.imp id (fun g => g.1)⟩
    rw [h.th p]
    cases hh : hasAt r.ps (p : Int)
    · rfl
    · obtain ⟨q, hq, rfl⟩ := List.mem_map.1 ((hasAt_iff _ _).1 hh)
      have := (hg.lt q hq).2
      unfold okP
      by_cases ha : r.all < 0
      · simp [ha]
      · have := this (by omega)
        simp [this]
theorem SameE.take {e : Ent} {r : RE} {now : Int} (h : SameE e r now) (hg : GoodE r) (i : Ip) (s : ByteArray) (ho : 0 ≤ i.off) (hn : 1 ≤ s.size) : SameE (e.take i.off.toNat i.more s) (r.taken i s) now := by
  obtain ⟨⟨a1, a2⟩, a3, a4, a5, a6⟩ := h.start hg i s.size ho hn
  have hps : (r.endR i s.size).ps = r.ps := endR_ps _ _ _
  have hat : (r.endR i s.size).at_ = r.at_ := by unfold RE.endR; split <;> rfl
  unfold Ent.take RE.taken
  obtain ⟨e1, he1⟩ : ∃ e1, e1 = e.start i.off.toNat i.more s.size := ⟨_, rfl⟩
  obtain ⟨r1, hr1⟩ : ∃ r1, r1 = r.endR i s.size := ⟨_, rfl⟩
  rw [← he1] at a1 a2 a3 a4 a5 ⊢
  rw [← hr1] at a1 a2 a5 a6 hps hat ⊢
  have hpast : ∀ p, e1.past p = !okP r1.all p := by
    intro p
    unfold Ent.past okP
    rcases a6 with g | g
    · rw [a1 g]; simp [g]
    · have := a2 (by omega)
      have h0 : decide (r1.all < 0) = false := by simp; omega
      have h1 : decide (0 < e1.tot) = true := by simp; omega
      rw [h0, h1, Bool.true_and, Bool.false_or, Bool.eq_iff_iff, decide_eq_true_iff, Bool.not_eq_true', decide_eq_false_iff_not]
      omega
  refine ⟨fun hh => ?_, fun hh => ?_, fun p => ?_, fun q hq => ?_, ?_⟩
  · rw [Ent.layN_tot]; exact a1 hh
  · rw [Ent.layN_tot]; exact a2 hh
  · rw [Ent.layN_th, a5, hpast, Bool.not_not]
    show _ = hasAt (List.filter (keepP r1.all) _) (p : Int)
    rw [hasAt_filter, hasAt_layP, hps]
    cases hasAt r.ps (p : Int) <;> cases okP r1.all p <;> simp
  · have hq' : q ∈ (layP r1.all i.off.toNat s r1.ps s.size).filter (keepP r1.all) := hq
    rw [List.mem_filter] at hq'
    have hok : okP r1.all q.1 = true := hq'.2
    rw [Ent.layN_bs]
    rcases mem_layP s.size q hq'.1 with hm | ⟨b1, b2, b3, b4, b5⟩
    · rw [hps] at hm
      have hb : e1.bars q.1 = true := by
        unfold Ent.bars
        rw [a5, hok, (hasAt_iff _ _).2 (List.mem_map.2 ⟨q, hm, rfl⟩)]
        rfl
      rw [if_neg (fun hh => by rw [hb] at hh; cases hh.1), a3]
      exact h.bs q hm
    · rw [hps] at b4
      have hb : e1.bars q.1 = false := by
        have := hpast q.1
        unfold Ent.past at this
        unfold Ent.bars
        rw [a5, b4, this, b5]
        rfl
      rw [if_pos ⟨hb, b1, b2⟩, b3]
  · show (e1.layN _ _ _).age = now - r1.at_
    rw [Ent.layN_age, a4, hat]
    exact h.age
/-- all there? -/
theorem SameE.whole {e : Ent} {r : RE} {now : Int} (h : SameE e r now) (hg : GoodE r) : e.whole = r.isAll := by
  rw [Bool.eq_iff_iff, Ent.whole_iff]
  unfold RE.isAll
  rw [Bool.and_eq_true, decide_eq_true_iff, decide_eq_true_iff]
  rcases hg.all with g | g
  · rw [h.tot0 g]
    constructor
    · rintro ⟨x, _⟩; omega
    · rintro ⟨x, _⟩; omega
  · have ht := h.tot1 (by omega)
    have hlt : ∀ x ∈ r.ps.map Prod.fst, x < e.tot := by
      intro x hx
      obtain ⟨q, hq, rfl⟩ := List.mem_map.1 hx
      have := (hg.lt q hq).2 (by omega)
      omega
    have hle := few_nat e.tot _ hg.nd hlt
    rw [List.length_map] at hle
    constructor
    · rintro ⟨h1, h2⟩
      refine ⟨by omega, ?_⟩
      have := sub_len (List.range e.tot) (r.ps.map Prod.fst) List.nodup_range (fun x hx => by
        have h3 := h2 x (List.mem_range.1 hx)
        rw [h.th] at h3
        exact (hasAt_iff _ _).1 h3)
      rw [List.length_range, List.length_map] at this
      omega
    · rintro ⟨h1, h2⟩
      refine ⟨by omega, fun p hp => ?_⟩
      rw [h.th]
      cases hh : hasAt r.ps (p : Int)
      · exfalso
        have hnm : p ∉ r.ps.map Prod.fst := fun x => by rw [(hasAt_iff _ _).2 x] at hh; cases hh
        have := few_nat e.tot (p :: r.ps.map Prod.fst) (List.nodup_cons.2 ⟨hnm, hg.nd⟩) (fun x hx => by
          rcases List.mem_cons.1 hx with rfl | hx
          · exact hp
          · exact hlt x hx)
        rw [List.length_cons, List.length_map] at this
        omega
      · rfl
theorem fold_keep (ps : List (Nat × UInt8)) : ∀ (l : List UInt8) (q : Nat), q ∉ ps.map Prod.fst → (ps.foldl (fun l p => l.set p.1 p.2) l)[q]? = l[q]? := by
  induction ps with
  | nil => intro l q _; rfl
  | cons p ps ih =>
    intro l q hq
    rw [List.map_cons, List.mem_cons, not_or] at hq
    rw [List.foldl_cons, ih _ _ hq.2, List.getElem?_set_ne (fun e => hq.1 e.symm)]
theorem fold_at (ps : List (Nat × UInt8)) : ∀ (l : List UInt8) (q : Nat × UInt8), (ps.map Prod.fst).Nodup → q ∈ ps → q.1 < l.length → (ps.foldl (fun l p => l.set p.1 p.2) l)[q.1]? = some q.2 := by
  induction ps with
  | nil => intro l q _ hq; exact absurd hq List.not_mem_nil
  | cons p ps ih =>
    intro l q hn hq hl
    rw [List.map_cons, List.nodup_cons] at hn
    rw [List.foldl_cons]
    rcases List.mem_cons.1 hq with rfl | hq
    · rw [fold_keep ps _ _ hn.1, List.getElem?_set_self hl]
    · exact ih _ q hn.2 hq (by rw [List.length_set]; exact hl)
theorem SameE.text {e : Ent} {r : RE} {now : Int} (h : SameE e r now) (hg : GoodE r) (hw : e.whole = true) : e.text = r.text := by
  obtain ⟨h0, hth⟩ := (Ent.whole_iff e).1 hw
  have ht : r.all.toNat = e.tot := by
    rcases hg.all with g | g
    · have := h.tot0 g; omega
    · have := h.tot1 (by omega); omega
  unfold Ent.text RE.text
  rw [ht]
  congr 2
  refine List.ext_getElem? (fun q => ?_)
  by_cases hq : q < e.tot
  · have h1 := hth q hq
    rw [h.th] at h1
    obtain ⟨p, hp, rfl⟩ := List.mem_map.1 ((hasAt_iff _ _).1 h1)
    unfold fillL
    rw [fold_at r.ps _ p hg.nd hp (by rw [List.length_replicate]; exact hq), List.getElem?_map, List.getElem?_range hq]
    show some (e.bs p.1) = some p.2
    rw [h.bs p hp]
  · rw [List.getElem?_eq_none (by simp; omega), List.getElem?_eq_none (by rw [fillL_len]; omega)]
theorem SameE.count {e : Ent} {r : RE} {now : Int} (h : SameE e r now) (hg : GoodE r) : e.count = r.ps.length := by
  unfold Ent.count
  have h1 := sub_len ((List.range 2000).filter e.th) (r.ps.map Prod.fst) (List.nodup_range.filter _) (fun x hx => by
    have := (List.mem_filter.1 hx).2
    rw [h.th] at this
    exact (hasAt_iff _ _).1 this)
  have h2 := sub_len (r.ps.map Prod.fst) ((List.range 2000).filter e.th) hg.nd (fun x hx => by
    rw [List.mem_filter, h.th]
    refine ⟨?_, (hasAt_iff _ _).2 hx⟩
    obtain ⟨q, hq, rfl⟩ := List.mem_map.1 hx
    exact List.mem_range.2 (hg.lt q hq).1)
  rw [List.length_map] at h1 h2
  omega
end Go.Proofs.Ytkfgapljphhmcaa
