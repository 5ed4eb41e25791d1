/- Layer 10, no program: a map of turns as a datum. -/
import Derived.Test.YtgiecmgopibcnaaDoorPtPl
import Derived.Maps.OwnOps
import Derived.Maps.OwnSet
import Derived.Maps.Ext
import Derived.Lib.SlKeysI
namespace Go.Proofs.YtgiecmgopibcnaaDoor
open Go.RowKit Go.Maps
set_option linter.unusedVariables false
abbrev DU := DataW Unit
abbrev ki (k : Int) : Lit := .int .i64 k
abbrev vi (k : Int) : DU := .lit (.int .i64 k)
theorem ki_key (k : Int) : WideAt.IsKeyLit (ki k) := by simp [WideAt.IsKeyLit]
theorem ki_ne {a b : Int} (h : a ≠ b) : ki a ≠ ki b := fun e => h (by cases e; rfl)
/-- what a map of numbers says: of each key, and which keys it has -/
structure Tn (D : DU) (f : Int → Int) (K : Int → Prop) : Prop where
  map : IsMap D
  val : ∀ k, D.atKey (ki k) (vi 0) = vi (f k)
  has : ∀ k, Maps.has D (ki k) = true ↔ K k
  keys : ∀ es, D = .map es → ∀ p ∈ es, ∃ x, p.1 = ki x
theorem Tn.start : Tn (.map []) (fun _ => 0) (fun _ => False) :=
  ⟨isMap_empty, fun _ => rfl, fun k => by simp [Maps.has], fun es h p hp => by cases h; cases hp⟩
theorem Tn.put {D : DU} {f : Int → Int} {K : Int → Prop} (h : Tn D f K) (k v : Int) : Tn (D.put (ki k) (vi v)) (fun x => if x = k then v else f x) (fun x => x = k ∨ K x) := by
  refine ⟨h.map.put _ _, fun x => ?_, fun x => ?_, fun es he p hp => ?_⟩
  · show _ = vi (if x = k then v else f x)
    by_cases e : x = k
    · subst e; rw [if_pos rfl]; exact atKey_put_same h.map (ki_key _) _ _
    · rw [if_neg e, atKey_put_other (ki_ne e)]; exact h.val x
  · by_cases e : x = k
    · subst e; exact ⟨fun _ => .inl rfl, fun _ => has_put_same h.map (ki_key _) _⟩
    · rw [has_put_other (ki_ne e), h.has x]
      exact ⟨.inr, fun o => o.resolve_left e⟩
  · obtain ⟨es0, rfl⟩ := h.map
    have he' : DataW.map (DataW.insert (ki k, vi v) (es0.filter fun p => !p.1.sameKey (ki k))) = DataW.map es := he
    injection he' with he'
    rw [← he'] at hp
    rcases Go.ChangeMaps.mem_insert_iff.1 hp with rfl | hp
    · exact ⟨k, rfl⟩
    · exact h.keys _ rfl p (List.mem_filter.1 hp).1
theorem Tn.congr {D : DU} {f f' : Int → Int} {K K' : Int → Prop} (h : Tn D f K) (hf : ∀ k, f k = f' k) (hK : ∀ k, K k ↔ K' k) : Tn D f' K' :=
  ⟨h.map, fun k => by rw [h.val, hf], fun k => (h.has k).trans (hK k), h.keys⟩
/-- one span more -/
theorem tv_snoc (L : List Sp) (s : Sp) (n : Int) : tv (L ++ [s]) n = tv L n + (if s.1 = n then 1 else 0) - (if s.2 + 1 = n then 1 else 0) := by
  unfold tv
  simp only [List.countP_append, List.countP_cons, List.countP_nil, decide_eq_true_eq]
  split <;> split <;> omega
/-- at these ports something turns -/
def Tk (L : List Sp) (n : Int) : Prop := ∃ s ∈ L, s.1 = n ∨ s.2 + 1 = n
theorem Tk_snoc (L : List Sp) (s : Sp) (n : Int) : Tk (L ++ [s]) n ↔ Tk L n ∨ s.1 = n ∨ s.2 + 1 = n := by
  unfold Tk
  constructor
  · rintro ⟨t, ht, h⟩
    rcases List.mem_append.1 ht with ht | ht
    · exact .inl ⟨t, ht, h⟩
    · rw [List.mem_singleton] at ht; subst ht; exact .inr h
  · rintro (⟨t, ht, h⟩ | h)
    · exact ⟨t, List.mem_append_left _ ht, h⟩
    · exact ⟨s, by simp, h⟩
/-- both turns of a span put -/
theorem Tn.step {D : DU} {L : List Sp} (h : Tn D (tv L) (Tk L)) (s : Sp) (hs : s.1 ≤ s.2) : Tn ((D.put (ki s.1) (vi (tv L s.1 + 1))).put (ki (s.2 + 1)) (vi (tv L (s.2 + 1) - 1))) (tv (L ++ [s])) (Tk (L ++ [s])) := by
  refine ((h.put s.1 (tv L s.1 + 1)).put (s.2 + 1) (tv L (s.2 + 1) - 1)).congr (fun k => ?_) (fun k => ?_)
  · rw [tv_snoc]
    by_cases e2 : k = s.2 + 1
    · subst e2
      rw [if_pos rfl, if_neg (by omega), if_pos rfl]; omega
    · rw [if_neg e2]
      by_cases e1 : k = s.1
      · subst e1
        rw [if_pos rfl, if_pos rfl, if_neg (by omega)]; omega
      · rw [if_neg e1, if_neg (by omega), if_neg (by omega)]; omega
  · rw [Tk_snoc]
    constructor
    · rintro (e | e | e)
      · exact .inr (.inr e.symm)
      · exact .inr (.inl e.symm)
      · exact .inl e
    · rintro (e | e | e)
      · exact .inr (.inr e)
      · exact .inr (.inl e.symm)
      · exact .inl e.symm
/-- its keys, sorted -/
theorem keys_sorted {D : DU} {L : List Sp} (h : Tn D (tv L) (Tk L)) (hc : Canon D) (hok : ∀ s ∈ L, okS s) {ss : List Int} (hp : ss.Perm (intKeys D)) :
    Keys L (-1) (ss.mergeSort (fun x y => decide (x ≤ y))) := by
  have tr : ∀ a b c : Int, leI a b = true → leI b c = true → leI a c = true := fun a b c h1 h2 => by simp only [leI, decide_eq_true_eq] at *; exact Int.le_trans h1 h2
  have tot : ∀ a b : Int, (leI a b || leI b a) = true := fun a b => by simp only [leI, Bool.or_eq_true, decide_eq_true_eq]; exact Int.le_total a b
  have hpm : (ss.mergeSort (fun x y => decide (x ≤ y))).Perm ss := List.mergeSort_perm ss leI
  have hmem : ∀ x, x ∈ ss.mergeSort (fun x y => decide (x ≤ y)) ↔ Tk L x := fun x => by
    rw [hpm.mem_iff, hp.mem_iff, ← h.has x]
    obtain ⟨es, rfl⟩ := h.map
    show x ∈ es.map (fun p => Go.intOf p.1) ↔ _
    rw [List.mem_map, has_eq, List.any_eq_true]
    constructor
    · rintro ⟨p, hp, rfl⟩
      obtain ⟨y, hy⟩ := h.keys es rfl p hp
      exact ⟨p, hp, by rw [hy]; simp [Lit.sameKey, Go.intOf]⟩
    · rintro ⟨p, hp, hs⟩
      obtain ⟨y, hy⟩ := h.keys es rfl p hp
      refine ⟨p, hp, ?_⟩
      rw [hy] at hs ⊢
      simpa [Lit.sameKey, Go.intOf] using hs
  have hnd : ss.Nodup := by
    rw [hp.nodup_iff]
    obtain ⟨es, rfl, h1, h2⟩ := hc
    show (es.map fun p => Go.intOf p.1).Nodup
    refine List.pairwise_map.2 ((apart_of_rising h1).imp_of_mem fun {p q} hp' hq' hne e => hne ?_)
    obtain ⟨a, ha⟩ := h.keys es rfl p hp'
    obtain ⟨b, hb⟩ := h.keys es rfl q hq'
    rw [ha, hb] at e ⊢
    exact congrArg _ e
  refine ⟨?_, fun x hx => ?_, fun s hs => ⟨fun _ => (hmem _).2 ⟨s, hs, .inl rfl⟩, fun _ => (hmem _).2 ⟨s, hs, .inr rfl⟩⟩⟩
  · have h1 := List.pairwise_mergeSort tr tot ss
    have h2 : (ss.mergeSort (fun x y => decide (x ≤ y))).Nodup := hpm.nodup_iff.2 hnd
    have h3 := h1.and h2
    refine h3.imp fun {a b} hab => ?_
    have := hab.1
    simp only [leI, decide_eq_true_eq] at this
    have := hab.2
    omega
  · obtain ⟨s, hs, e⟩ := (hmem x).1 hx
    refine ⟨?_, s, hs, e⟩
    have := hok s hs
    unfold okS at this
    omega
end Go.Proofs.YtgiecmgopibcnaaDoor
