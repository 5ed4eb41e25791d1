/- Layer 9, no program: what clean turns, whole. -/
import Derived.Test.YthhgkiihegmedaaDoorCiThy
namespace Go.Proofs.YthhgkiihegmedaaDoor
set_option linter.unusedVariables false
set_option maxRecDepth 20000
theorem needless_iff (L : List Nt) (i : Nat) (n : Nt) : needless L i n = true ↔ (∃ j e, j < i ∧ L[j]? = some e ∧ within n e = true) ∨ (∃ j l, i < j ∧ L[j]? = some l ∧ within n l = true ∧ within l n = false) := by
  unfold needless
  rw [Bool.or_eq_true, List.any_eq_true, List.any_eq_true]
  constructor
  · rintro (⟨e, he, h⟩ | ⟨l, hl, h⟩)
    · obtain ⟨j, hj⟩ := List.mem_iff_getElem?.1 he
      rw [List.getElem?_take] at hj
      split at hj
      · exact .inl ⟨j, e, by assumption, hj, h⟩
      · cases hj
    · obtain ⟨j, hj⟩ := List.mem_iff_getElem?.1 hl
      rw [List.getElem?_drop] at hj
      rw [Bool.and_eq_true, Bool.not_eq_true'] at h
      exact .inr ⟨i + 1 + j, l, by omega, hj, h.1, h.2⟩
  · rintro (⟨j, e, hj, he, h⟩ | ⟨j, l, hj, hl, h1, h2⟩)
    · exact .inl ⟨e, List.mem_iff_getElem?.2 ⟨j, by rw [List.getElem?_take, if_pos hj]; exact he⟩, h⟩
    · exact .inr ⟨l, List.mem_iff_getElem?.2 ⟨j - (i + 1), by rw [List.getElem?_drop, show i + 1 + (j - (i + 1)) = j by omega]; exact hl⟩, by rw [h1, h2]; rfl⟩
theorem clean_mem (L : List Nt) : ∀ k, k ≤ L.length → ∀ x ∈ cleanUpto L k, ∃ i m, i < k ∧ L[i]? = some m ∧ needless L i m = false ∧ x = cutN m
  | 0, _, x, hx => by cases hx
  | k + 1, hk, x, hx => by
    unfold cleanUpto at hx
    have hg : L[k]? = some (L.getD k default) := by
      rw [List.getD_eq_getElem?_getD, List.getElem?_eq_getElem (by omega)]; rfl
    rcases List.mem_append.1 hx with hx | hx
    · obtain ⟨i, m, h1, h2⟩ := clean_mem L k (by omega) x hx
      exact ⟨i, m, by omega, h2⟩
    · by_cases hn : needless L k (L.getD k default) = true
      · rw [if_pos hn] at hx; cases hx
      · rw [if_neg hn] at hx
        exact ⟨k, _, by omega, hg, by simpa using hn, List.mem_singleton.1 hx⟩
theorem clean_has (L : List Nt) : ∀ k i m, i < k → k ≤ L.length → L[i]? = some m → needless L i m = false → cutN m ∈ cleanUpto L k
  | 0, i, m, h, _, _, _ => absurd h (by omega)
  | k + 1, i, m, h, hk, hm, hn => by
    unfold cleanUpto
    rw [List.mem_append]
    by_cases e : i = k
    · subst e
      have hg : L.getD i default = m := by rw [List.getD_eq_getElem?_getD, hm]; rfl
      rw [hg, if_neg (by rw [hn]; simp)]
      exact .inr (List.mem_singleton.2 rfl)
    · exact .inl (clean_has L k i m (by omega) (by omega) hm hn)
/-- of two of which neither is needless neither has the other one in it -/
theorem apart {L : List Nt} {i j : Nat} {m n : Nt} (hij : i < j) (hm : L[i]? = some m) (hn : L[j]? = some n) (h1 : needless L i m = false) (h2 : needless L j n = false) : within m n = false ∧ within n m = false := by
  have a : within n m = false := by
    cases h : within n m with
    | false => rfl
    | true => rw [(needless_iff L j n).2 (.inl ⟨i, m, hij, hm, h⟩)] at h2; cases h2
  refine ⟨?_, a⟩
  cases h : within m n with
  | false => rfl
  | true => rw [(needless_iff L i m).2 (.inr ⟨j, n, hij, hn, h, a⟩)] at h1; cases h1
theorem clean_pairs (L : List Nt) (hok : ∀ n ∈ L, Ok n) : ∀ k, k ≤ L.length → (cleanUpto L k).Pairwise fun x y => within x y = false ∧ within y x = false
  | 0, _ => List.Pairwise.nil
  | k + 1, hk => by
    unfold cleanUpto
    have hg : L[k]? = some (L.getD k default) := by
      rw [List.getD_eq_getElem?_getD, List.getElem?_eq_getElem (by omega)]; rfl
    by_cases hn : needless L k (L.getD k default) = true
    · rw [if_pos hn, List.append_nil]; exact clean_pairs L hok k (by omega)
    · rw [if_neg hn, List.pairwise_append]
      refine ⟨clean_pairs L hok k (by omega), List.pairwise_singleton _ _, fun x hx y hy => ?_⟩
      obtain ⟨i, m, h1, h2, h3, rfl⟩ := clean_mem L k (by omega) x hx
      rw [List.mem_singleton.1 hy]
      have o1 := hok m (List.mem_of_getElem? h2)
      have o2 := hok _ (List.mem_of_getElem? hg)
      rw [within_cut _ _ o1 o2, within_cut _ _ o2 o1]
      exact apart h1 h2 hg h3 (by simpa using hn)
theorem pair_at {c : List Nt} (h : c.Pairwise fun x y => within x y = false ∧ within y x = false) {i j : Nat} {x y : Nt} (hi : c[i]? = some x) (hj : c[j]? = some y) (hne : i ≠ j) : within x y = false := by
  have hp := List.pairwise_iff_getElem.1 h
  obtain ⟨li, ei⟩ := List.getElem?_eq_some_iff.1 hi
  obtain ⟨lj, ej⟩ := List.getElem?_eq_some_iff.1 hj
  rcases Nat.lt_or_ge i j with g | g
  · have := (hp i j li lj g).1
    rw [ei, ej] at this; exact this
  · have := (hp j i lj li (by omega)).2
    rw [ei, ej] at this; exact this
theorem clean_same {c : List Nt} (h : c.Pairwise fun x y => within x y = false ∧ within y x = false) (hcut : ∀ x ∈ c, cutN x = x) : ∀ k, k ≤ c.length → cleanUpto c k = c.take k
  | 0, _ => by simp [cleanUpto]
  | k + 1, hk => by
    unfold cleanUpto
    have hg : c[k]? = some (c.getD k default) := by
      rw [List.getD_eq_getElem?_getD, List.getElem?_eq_getElem (by omega)]; rfl
    have hn : needless c k (c.getD k default) = false := by
      cases hh : needless c k (c.getD k default) with
      | false => rfl
      | true =>
        rcases (needless_iff _ _ _).1 hh with ⟨j, e, h1, h2, h3⟩ | ⟨j, l, h1, h2, h3, _⟩
        · rw [pair_at h hg h2 (by omega)] at h3; cases h3
        · rw [pair_at h hg h2 (by omega)] at h3; cases h3
    rw [hn, clean_same h hcut k (by omega), hcut _ (List.mem_of_getElem? hg)]
    rw [List.take_add_one, hg]
    rfl
theorem ok_cut {n : Nt} (h : Ok n) : Ok (cutN n) := h
theorem check_ok {L : List Nt} (h : checkL L = true) : ∀ n ∈ L, Ok n := checkL_ok h
theorem clean_oks {L : List Nt} (h : checkL L = true) : ∀ n ∈ cleanL L, Ok n ∧ cutN n = n := by
  intro n hn
  unfold cleanL at hn
  rw [if_pos h] at hn
  obtain ⟨i, m, _, h2, _, rfl⟩ := clean_mem L _ (Nat.le_refl _) n hn
  have o := check_ok h m (List.mem_of_getElem? h2)
  exact ⟨o, cut_cut m o⟩
theorem clean_lens (L : List Nt) : ∀ k, (cleanUpto L k).length ≤ k
  | 0 => Nat.le_refl _
  | k + 1 => by
    have := clean_lens L k
    unfold cleanUpto
    rw [List.length_append]
    split <;> simp <;> omega
theorem clean_len {L : List Nt} (h : checkL L = true) : (cleanL L).length ≤ L.length := by
  unfold cleanL; rw [if_pos h]; exact clean_lens L _
theorem clean_check {L : List Nt} (h : checkL L = true) : checkL (cleanL L) = true := by
  have h4 := checkL_len h
  have hl := clean_len h
  have ho := clean_oks h
  unfold checkL
  rw [Bool.and_eq_true, decide_eq_true_eq, Bool.not_eq_true', List.any_eq_false]
  refine ⟨by omega, fun n hn => ?_⟩
  obtain ⟨⟨a, b⟩, _⟩ := ho n hn
  simp only [badN, Bool.or_eq_true, decide_eq_true_eq, not_or]
  omega
theorem clean_pair {L : List Nt} (h : checkL L = true) : (cleanL L).Pairwise fun x y => within x y = false ∧ within y x = false := by
  unfold cleanL; rw [if_pos h]; exact clean_pairs L (check_ok h) _ (Nat.le_refl _)
/-- **clean again it is the same** -/
theorem clean_clean {L : List Nt} (h : checkL L = true) : cleanL (cleanL L) = cleanL L := by
  have hc := clean_check h
  have hs := clean_same (clean_pair h) (fun x hx => (clean_oks h x hx).2) _ (Nat.le_refl _)
  rw [List.take_length] at hs
  show (if checkL (cleanL L) then cleanUpto (cleanL L) (cleanL L).length else []) = cleanL L
  rw [if_pos hc, hs]
/-- each net is wholly in one that stays -/
theorem stays {L : List Nt} (hok : ∀ n ∈ L, Ok n) (h4 : L.length ≤ 4) : ∀ (s i : Nat) (m : Nt), L[i]? = some m → m.2.toNat * 100 + i < s → ∃ j n, L[j]? = some n ∧ needless L j n = false ∧ within m n = true
  | 0, i, m, hm, hs => absurd hs (by omega)
  | s + 1, i, m, hm, hs => by
    have om := hok m (List.mem_of_getElem? hm)
    have hi := (List.getElem?_eq_some_iff.1 hm).1
    cases hn : needless L i m with
    | false => exact ⟨i, m, hm, hn, within_self m⟩
    | true =>
      rcases (needless_iff _ _ _).1 hn with ⟨j, e, h1, h2, h3⟩ | ⟨j, l, h1, h2, h3, h5⟩
      · have oe := hok e (List.mem_of_getElem? h2)
        have hb := ((within_iff m e).1 h3).1
        obtain ⟨j2, n, g1, g2, g3⟩ := stays hok h4 s j e h2 (by have := oe.1; have := om.1; omega)
        exact ⟨j2, n, g1, g2, within_trans oe (hok n (List.mem_of_getElem? g1)) h3 g3⟩
      · have ol := hok l (List.mem_of_getElem? h2)
        have hb := (within_iff m l).1 h3
        have hlt : l.2 < m.2 := by
          rcases Int.lt_or_eq_of_le hb.1 with g | g
          · exact g
          · exfalso
            have : within l m = true := by
              rw [within_iff]
              refine ⟨by omega, ?_⟩
              rw [← g]
              exact hb.2.symm
            rw [this] at h5; cases h5
        have hj := (List.getElem?_eq_some_iff.1 h2).1
        obtain ⟨j2, n, g1, g2, g3⟩ := stays hok h4 s j l h2 (by have := ol.1; have := om.1; omega)
        exact ⟨j2, n, g1, g2, within_trans ol (hok n (List.mem_of_getElem? g1)) h3 g3⟩
/-- **clean turns nothing of what a set has** -/
theorem clean_any {L : List Nt} (h : checkL L = true) (x : UInt32) : (cleanL L).any (fun n => inN n x) = L.any (fun n => inN n x) := by
  have hok := check_ok h
  rw [Bool.eq_iff_iff, List.any_eq_true, List.any_eq_true]
  constructor
  · rintro ⟨n, hn, hx⟩
    unfold cleanL at hn
    rw [if_pos h] at hn
    obtain ⟨i, m, _, h2, _, rfl⟩ := clean_mem L _ (Nat.le_refl _) n hn
    have o := hok m (List.mem_of_getElem? h2)
    rw [in_cut m o] at hx
    exact ⟨m, List.mem_of_getElem? h2, hx⟩
  · rintro ⟨m, hm, hx⟩
    obtain ⟨i, hi⟩ := List.mem_iff_getElem?.1 hm
    obtain ⟨j, n, h1, h2, h3⟩ := stays hok (checkL_len h) _ i m hi (Nat.lt_succ_self _)
    have on := hok n (List.mem_of_getElem? h1)
    refine ⟨cutN n, ?_, ?_⟩
    · unfold cleanL
      rw [if_pos h]
      exact clean_has L _ j n (List.getElem?_eq_some_iff.1 h1).1 (Nat.le_refl _) h1 h2
    · rw [in_cut n on]
      exact within_in (hok m hm) on h3 hx
theorem clean_none {L : List Nt} (h : checkL L = true) : (cleanL L).isEmpty = L.isEmpty := by
  cases L with
  | nil => rfl
  | cons a R =>
    have := clean_any h a.1
    rw [List.any_cons, in_self, Bool.true_or] at this
    cases hc : cleanL (a :: R) with
    | nil => rw [hc] at this; cases this
    | cons _ _ => rfl
theorem clean_hasL {L : List Nt} (h : checkL L = true) (no : Bool) (x : UInt32) : hasL no (cleanL L) x = hasL no L x := by
  unfold hasL
  rw [h, clean_check h, clean_any h, clean_none h]
theorem turned_hasL {L : List Nt} (h : checkL L = true) (no : Bool) (x : UInt32) : (hasL (!no) L x == hasL no L x) = false := by
  unfold hasL
  rw [h]
  generalize (L.any (fun n => inN n x) || L.isEmpty) = q
  cases q <;> cases no <;> rfl
theorem own_hasL {L : List Nt} (h : checkL L = true) (no : Bool) {m : Nt} (hm : m ∈ L) : hasL no (cleanL L) m.1 = !no := by
  rw [clean_hasL h]
  unfold hasL
  have : L.any (fun n => inN n m.1) = true := List.any_eq_true.2 ⟨m, hm, in_self m⟩
  rw [h, this]
  cases no <;> rfl
/-- no net of it has another one in it -/
theorem none_in {L : List Nt} (h : checkL L = true) {i k : Nat} {x y : Nt} (hi : (cleanL L)[i]? = some x) (hk : (cleanL L)[k]? = some y) (hne : k ≠ i) (hb : y.2 ≤ x.2) : hasL false [y] x.1 = false := by
  have hw := pair_at (clean_pair h) hi hk (fun e => hne e.symm)
  unfold within at hw
  rw [decide_eq_true hb, Bool.true_and] at hw
  unfold hasL
  simp [hw]
end Go.Proofs.YthhgkiihegmedaaDoor
