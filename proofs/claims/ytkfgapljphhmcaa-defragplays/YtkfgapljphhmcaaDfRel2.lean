/- Layer 7, no program: Add, Tick, Bytes of the code's table and of the reference's list. -/
import Derived.Test.YtkfgapljphhmcaaDfRel
namespace Go.Proofs.Ytkfgapljphhmcaa
open Go.RowKit Go.Maps
set_option linter.unusedVariables false
set_option maxRecDepth 20000
/-- an entry's name as a head -/
def RE.ip (r : RE) : Ip := { tos := 0, id := r.id, more := false, keep := false, off := 0, ttl := 0, proto := r.proto, src := r.src, dst := r.dst, opts := ⟨#[]⟩ }
def RE.key (r : RE) : Lit := nmL r.ip
theorem named_iff {r : RE} {i : Ip} (hr : r.ip.ok) (hi : i.ok) : r.named i = true ↔ r.key = nmL i := by
  unfold RE.named
  simp only [Bool.and_eq_true, decide_eq_true_eq]
  constructor
  · rintro ⟨⟨⟨h1, h2⟩, h3⟩, h4⟩
    exact nm_same h1 h2 h3 h4
  · intro h
    by_cases h1 : r.src = i.src
    · by_cases h2 : r.dst = i.dst
      · by_cases h3 : r.proto = i.proto
        · by_cases h4 : r.id = i.id
          · exact ⟨⟨⟨h1, h2⟩, h3⟩, h4⟩
          · exact absurd h (nm_ne hr hi (.inr (.inr (.inr h4))))
        · exact absurd h (nm_ne hr hi (.inr (.inr (.inl h3))))
      · exact absurd h (nm_ne hr hi (.inr (.inl h2)))
    · exact absurd h (nm_ne hr hi (.inl h1))
/-- the two tables say the same -/
structure RelT (T : Tbl) (R : List RE) (now : Int) : Prop where
  nd : (R.map RE.key).Nodup
  ok : ∀ r ∈ R, r.ip.ok
  get : ∀ r ∈ R, ∃ e, T.S r.key = some e ∧ SameE e r now
  only : ∀ kl, (T.S kl).isSome = true → ∃ r ∈ R, r.key = kl
  n : T.n = R.length
  good : ∀ r ∈ R, GoodE r
theorem RelT.none (now : Int) : RelT Tbl.none [] now := ⟨List.nodup_nil, fun r hr => absurd hr List.not_mem_nil, fun r hr => absurd hr List.not_mem_nil, fun kl h => (by cases h), rfl, fun r hr => absurd hr List.not_mem_nil⟩
theorem fresh_key (i : Ip) (now : Int) : (RE.fresh i now).key = nmL i := nm_same rfl rfl rfl rfl
theorem taken_key (r : RE) (i : Ip) (s : ByteArray) : (r.taken i s).key = r.key := by
  unfold RE.taken RE.endR
  split <;> exact nm_same rfl rfl rfl rfl
theorem taken_ok {r : RE} (h : r.ip.ok) (i : Ip) (s : ByteArray) : (r.taken i s).ip.ok := by
  unfold RE.taken RE.endR
  split <;> exact h
theorem RelT.known {T : Tbl} {R : List RE} {now : Int} (h : RelT T R now) {i : Ip} (hi : i.ok) {k : Nat} (hk : idxR R i = some k) : ∃ r, R[k]? = some r ∧ r.key = nmL i ∧ (T.S (nmL i)).isSome = true := by
  unfold idxR at hk
  rw [List.findIdx?_eq_some_iff_getElem] at hk
  obtain ⟨hl, hn, _⟩ := hk
  have hm : R[k] ∈ R := List.getElem_mem hl
  have he := (named_iff (h.ok _ hm) hi).1 hn
  obtain ⟨e, h1, _⟩ := h.get _ hm
  exact ⟨R[k], List.getElem?_eq_getElem hl, he, by rw [← he, h1]; rfl⟩
theorem RelT.unknown {T : Tbl} {R : List RE} {now : Int} (h : RelT T R now) {i : Ip} (hi : i.ok) (hk : idxR R i = Option.none) : T.S (nmL i) = Option.none ∧ ∀ r ∈ R, r.key ≠ nmL i := by
  unfold idxR at hk
  rw [List.findIdx?_eq_none_iff] at hk
  have hne : ∀ r ∈ R, r.key ≠ nmL i := fun r hr e => by
    have := hk r hr
    rw [(named_iff (h.ok r hr) hi).2 e] at this
    cases this
  refine ⟨?_, hne⟩
  cases hs : T.S (nmL i) with
  | none => rfl
  | some e =>
    obtain ⟨r, hr, he⟩ := h.only (nmL i) (by rw [hs]; rfl)
    exact absurd he (hne r hr)
/-- an entry goes -/
theorem RelT.del {T : Tbl} {R : List RE} {now : Int} (h : RelT T R now) {k : Nat} {r : RE} (hr : R[k]? = some r) : RelT (T.del r.key) (R.eraseIdx k) now := by
  have hk := (List.getElem?_eq_some_iff.1 hr).1
  have hrm := List.mem_of_getElem? hr
  have hsub : (R.eraseIdx k).Sublist R := List.eraseIdx_sublist _ _
  have hne : ∀ x ∈ R.eraseIdx k, x.key ≠ r.key := by
    intro x hx e
    obtain ⟨j, hj, hjk⟩ : ∃ j, R[j]? = some x ∧ j ≠ k := by
      rw [List.mem_eraseIdx_iff_getElem?] at hx
      obtain ⟨j, h1, h2⟩ := hx
      exact ⟨j, h2, h1⟩
    have hjl := (List.getElem?_eq_some_iff.1 hj).1
    have h1 : (R.map RE.key)[j]? = (R.map RE.key)[k]? := by rw [List.getElem?_map, List.getElem?_map, hj, hr]; show some x.key = some r.key; rw [e]
    exact hjk ((List.getElem?_inj (by rw [List.length_map]; exact hjl) h.nd).1 h1)
  obtain ⟨e0, g1, _⟩ := h.get r hrm
  refine ⟨(hsub.map _).nodup h.nd, fun x hx => h.ok x (hsub.subset hx), fun x hx => ?_, fun kl hkl => ?_, ?_, fun x hx => h.good x (hsub.subset hx)⟩
  · rw [Tbl.del_other _ _ _ (hne x hx)]
    exact h.get x (hsub.subset hx)
  · by_cases e : kl = r.key
    · subst e; rw [Tbl.del_S] at hkl; cases hkl
    · rw [Tbl.del_other _ _ _ e] at hkl
      obtain ⟨x, hx, he⟩ := h.only kl hkl
      refine ⟨x, ?_, he⟩
      rw [List.mem_eraseIdx_iff_getElem?]
      obtain ⟨j, hj⟩ := List.mem_iff_getElem?.1 hx
      refine ⟨j, fun e2 => ?_, hj⟩
      subst e2
      rw [hr] at hj
      cases hj
      exact e he.symm
  · show T.n - (if (T.S r.key).isSome then 1 else 0) = _
    rw [g1, h.n, List.length_eraseIdx, if_pos hk]
    rfl
theorem Tbl.del_none (T : Tbl) (kl : Lit) (h : T.S kl = Option.none) : T.del kl = T := by
  unfold Tbl.del
  rw [upd_id _ _ _ h, h]
  rfl
/-- an entry turns -/
theorem RelT.set {T : Tbl} {R : List RE} {now : Int} (h : RelT T R now) {k : Nat} {r r' : RE} (hr : R[k]? = some r) (hkey : r'.key = r.key) (hok : r'.ip.ok) (hg : GoodE r') {e : Ent} (he : SameE e r' now) : RelT (T.put r.key e) (R.set k r') now := by
  have hk := (List.getElem?_eq_some_iff.1 hr).1
  have hrm := List.mem_of_getElem? hr
  have hmap : (R.set k r').map RE.key = R.map RE.key := by
    rw [List.map_set, hkey]
    refine List.ext_getElem? (fun j => ?_)
    by_cases e : k = j
    · subst e
      rw [List.getElem?_set_self (by rw [List.length_map]; exact hk), List.getElem?_map, hr]; rfl
    · rw [List.getElem?_set_ne e]
  have hmem : ∀ x ∈ R.set k r', x = r' ∨ (x ∈ R ∧ x.key ≠ r.key) := by
    intro x hx
    obtain ⟨j, hj⟩ := List.mem_iff_getElem?.1 hx
    by_cases e : k = j
    · subst e
      rw [List.getElem?_set_self hk] at hj
      cases hj
      exact .inl rfl
    · rw [List.getElem?_set_ne e] at hj
      refine .inr ⟨List.mem_of_getElem? hj, fun e2 => ?_⟩
      have hjl := (List.getElem?_eq_some_iff.1 hj).1
      have h1 : (R.map RE.key)[j]? = (R.map RE.key)[k]? := by rw [List.getElem?_map, List.getElem?_map, hj, hr]; show some x.key = some r.key; rw [e2]
      exact e ((List.getElem?_inj (by rw [List.length_map]; exact hjl) h.nd).1 h1).symm
  obtain ⟨e0, g1, _⟩ := h.get r hrm
  refine ⟨by rw [hmap]; exact h.nd, fun x hx => ?_, fun x hx => ?_, fun kl hkl => ?_, ?_, fun x hx => ?_⟩
  · rcases hmem x hx with rfl | hx
    · exact hok
    · exact h.ok x hx.1
  · rcases hmem x hx with rfl | hx
    · exact ⟨e, by rw [hkey]; exact Tbl.put_S _ _ _, he⟩
    · rw [Tbl.put_other _ _ _ _ hx.2]
      exact h.get x hx.1
  · by_cases e1 : kl = r.key
    · exact ⟨r', List.mem_set hk r', by rw [e1, hkey]⟩
    · rw [Tbl.put_other _ _ _ _ e1] at hkl
      obtain ⟨x, hx, hxk⟩ := h.only kl hkl
      obtain ⟨j, hj⟩ := List.mem_iff_getElem?.1 hx
      refine ⟨x, ?_, hxk⟩
      rw [List.mem_iff_getElem?]
      refine ⟨j, ?_⟩
      rw [List.getElem?_set_ne, hj]
      intro e2
      subst e2
      rw [hr] at hj
      cases hj
      exact e1 hxk.symm
  · show T.n + (if (T.S r.key).isSome then 0 else 1) = _
    rw [g1, h.n, List.length_set]
    rfl
  · rcases hmem x hx with rfl | hx
    · exact hg
    · exact h.good x hx.1
/-- an entry more -/
theorem RelT.push {T : Tbl} {R : List RE} {now : Int} (h : RelT T R now) {r : RE} (hn : T.S r.key = Option.none) (hok : r.ip.ok) (hg : GoodE r) {e : Ent} (he : SameE e r now) : RelT (T.put r.key e) (R ++ [r]) now := by
  have hne : ∀ x ∈ R, x.key ≠ r.key := fun x hx e => by
    obtain ⟨e1, h1, _⟩ := h.get x hx
    rw [e, hn] at h1
    cases h1
  refine ⟨?_, fun x hx => ?_, fun x hx => ?_, fun kl hkl => ?_, ?_, fun x hx => ?_⟩
  · rw [List.map_append, List.nodup_append]
    refine ⟨h.nd, by simp, fun a ha b hb => ?_⟩
    obtain ⟨x, hx, rfl⟩ := List.mem_map.1 ha
    simp at hb
    subst hb
    exact hne x hx
  · rcases List.mem_append.1 hx with hx | hx
    · exact h.ok x hx
    · rw [List.mem_singleton.1 hx]; exact hok
  · rcases List.mem_append.1 hx with hx | hx
    · rw [Tbl.put_other _ _ _ _ (hne x hx)]
      exact h.get x hx
    · rw [List.mem_singleton.1 hx]
      exact ⟨e, Tbl.put_S _ _ _, he⟩
  · by_cases e1 : kl = r.key
    · exact ⟨r, by simp, e1.symm⟩
    · rw [Tbl.put_other _ _ _ _ e1] at hkl
      obtain ⟨x, hx, hxk⟩ := h.only kl hkl
      exact ⟨x, List.mem_append_left _ hx, hxk⟩
  · show T.n + (if (T.S r.key).isSome then 0 else 1) = _
    rw [hn, h.n, List.length_append]
    rfl
  · rcases List.mem_append.1 hx with hx | hx
    · exact h.good x hx
    · rw [List.mem_singleton.1 hx]; exact hg
/-- Add answers the same -/
theorem RelT.add {T : Tbl} {R : List RE} {now : Int} (h : RelT T R now) (most : Int) {i : Ip} (hi : i.ok) (s : ByteArray) :
    (T.add most i s).text = (addR most now R i s).text ∧ (T.add most i s).done = (addR most now R i s).done ∧ (T.add most i s).err = (addR most now R i s).err ∧ RelT (T.add most i s).T (addR most now R i s).R now := by
  unfold addR
  by_cases hp : partB i = false
  · rw [if_pos hp, Tbl.add_none _ _ _ _ hp]
    exact ⟨rfl, rfl, rfl, h⟩
  · have hp' : partB i = true := by simpa using hp
    rw [if_neg hp]
    by_cases hb : brokenB i s.size = true
    · rw [if_pos hb]
      have hf : faultC most (T.S (nmL i)).isSome T.n i s.size = 3 := by unfold faultC; rw [if_pos hb]
      rw [Tbl.add_fault _ _ _ _ 3 hp' hf (by decide) (by decide)]
      exact ⟨rfl, rfl, rfl, h⟩
    · rw [if_neg hb]
      have hb0 : s.size ≠ 0 ∧ 0 ≤ i.off := by
        have : brokenB i s.size = false := by simpa using hb
        unfold brokenB at this
        rw [Bool.or_eq_false_iff, Bool.or_eq_false_iff] at this
        exact ⟨of_decide_eq_false this.1.1, by have := of_decide_eq_false this.1.2; omega⟩
      by_cases hg : 2000 - i.off < (s.size : Int)
      · rw [if_pos hg]
        have hf : faultC most (T.S (nmL i)).isSome T.n i s.size = 5 := by unfold faultC; rw [if_neg hb, if_pos hg]
        rw [Tbl.add_big _ _ _ _ hp' hf]
        refine ⟨rfl, rfl, rfl, ?_⟩
        show RelT (T.del (nmL i)) (match idxR R i with | some k => R.eraseIdx k | Option.none => R) now
        cases hk : idxR R i with
        | none =>
          rw [Tbl.del_none _ _ (h.unknown hi hk).1]
          exact h
        | some k =>
          obtain ⟨r, hr, hrk, _⟩ := h.known hi hk
          rw [← hrk]
          exact h.del hr
      · rw [if_neg hg]
        cases hk : idxR R i with
        | none =>
          obtain ⟨hn, hne⟩ := h.unknown hi hk
          simp only
          by_cases hm : most ≤ (R.length : Int)
          · rw [if_pos hm]
            have hf : faultC most (T.S (nmL i)).isSome T.n i s.size = 10 := by
              unfold faultC
              rw [if_neg hb, if_neg hg, hn, h.n, if_pos ⟨rfl, hm⟩]
            rw [Tbl.add_fault _ _ _ _ 10 hp' hf (by decide) (by decide)]
            exact ⟨rfl, rfl, rfl, h⟩
          · rw [if_neg hm]
            have hf : faultC most (T.S (nmL i)).isSome T.n i s.size = 0 := by
              unfold faultC
              rw [if_neg hb, if_neg hg, hn, h.n, if_neg (fun x => hm x.2)]
            have hg0 := GoodE.fresh i now
            have hsame := (SameE.fresh i now).take hg0 i s hb0.2 (by omega)
            have hgood := hg0.taken (i := i) (s := s) hb0.2 (by omega) (by omega)
            have hwith : T.with (nmL i) i s = Ent.zero.take i.off.toNat i.more s := by unfold Tbl.with; rw [hn]; rfl
            have hw := hsame.whole hgood
            have hkey : ((RE.fresh i now).taken i s).key = nmL i := by rw [taken_key, fresh_key]
            unfold putR
            cases hwh : (Ent.zero.take i.off.toNat i.more s).whole
            · rw [if_neg (by rw [← hw, hwh]; decide), Tbl.add_open _ _ _ _ hp' hf (by rw [hwith]; exact hwh), hwith]
              refine ⟨rfl, rfl, rfl, ?_⟩
              have := h.push (r := (RE.fresh i now).taken i s) (by rw [hkey]; exact hn) (taken_ok (r := RE.fresh i now) hi i s) hgood hsame
              rw [hkey] at this
              show RelT (T.put (nmL i) _) ((R ++ [RE.fresh i now]).set R.length _) now
              rw [List.set_append_right _ _ (Nat.le_refl _), Nat.sub_self]
              exact this
            · rw [if_pos (by rw [← hw, hwh]), Tbl.add_whole _ _ _ _ hp' hf (by rw [hwith]; exact hwh), hwith]
              refine ⟨hsame.text hgood hwh, rfl, rfl, ?_⟩
              show RelT (T.del (nmL i)) ((R ++ [RE.fresh i now]).eraseIdx R.length) now
              rw [List.eraseIdx_append_of_length_le (Nat.le_refl _), Nat.sub_self, Tbl.del_none _ _ hn]
              simp
              exact h
        | some k =>
          obtain ⟨r, hr, hrk, hsome⟩ := h.known hi hk
          have hrm := List.mem_of_getElem? hr
          simp only [hr, Option.getD_some]
          have hf : faultC most (T.S (nmL i)).isSome T.n i s.size = 0 := by
            unfold faultC
            rw [if_neg hb, if_neg hg, hsome, if_neg (fun x => by cases x.1)]
          obtain ⟨e, g1, g2⟩ := h.get r hrm
          have hg0 := h.good r hrm
          have hsame := g2.take hg0 i s hb0.2 (by omega)
          have hgood := hg0.taken (i := i) (s := s) hb0.2 (by omega) (by omega)
          have hwith : T.with (nmL i) i s = e.take i.off.toNat i.more s := by unfold Tbl.with; rw [← hrk, g1]; rfl
          have hw := hsame.whole hgood
          unfold putR
          cases hwh : (e.take i.off.toNat i.more s).whole
          · rw [if_neg (by rw [← hw, hwh]; decide), Tbl.add_open _ _ _ _ hp' hf (by rw [hwith]; exact hwh), hwith, ← hrk]
            exact ⟨rfl, rfl, rfl, h.set hr (taken_key _ _ _) (taken_ok (h.ok r hrm) i s) hgood hsame⟩
          · rw [if_pos (by rw [← hw, hwh]), Tbl.add_whole _ _ _ _ hp' hf (by rw [hwith]; exact hwh), hwith, ← hrk]
            exact ⟨hsame.text hgood hwh, rfl, rfl, h.del hr⟩
/-- as many -/
theorem RelT.card {T : Tbl} {R : List RE} {now : Int} (h : RelT T R now) : Card T.S R.length := by
  refine ⟨R.map RE.key, h.nd, fun kl => ?_, by rw [List.length_map]⟩
  constructor
  · intro hm
    obtain ⟨r, hr, rfl⟩ := List.mem_map.1 hm
    obtain ⟨e, h1, _⟩ := h.get r hr
    rw [h1]; rfl
  · intro hs
    obtain ⟨r, hr, he⟩ := h.only kl hs
    exact List.mem_map.2 ⟨r, hr, he⟩
/-- time goes by -/
theorem RelT.tick {T T' : Tbl} {R : List RE} {now : Int} (h : RelT T R now) (n ticks : Int) (hS : T'.S = fun kl => (T.S kl).bind (Ent.aged n ticks)) (hc : Card T'.S T'.n) : RelT T' (R.filter fun r => decide (now + n - r.at_ < ticks)) (now + n) := by
  have hsub : (R.filter fun r => decide (now + n - r.at_ < ticks)).Sublist R := List.filter_sublist
  have hrel : ∀ m, m = (R.filter fun r => decide (now + n - r.at_ < ticks)).length → RelT ⟨T'.S, m⟩ (R.filter fun r => decide (now + n - r.at_ < ticks)) (now + n) := by
    intro m hm
    refine ⟨(hsub.map _).nodup h.nd, fun x hx => h.ok x (hsub.subset hx), fun x hx => ?_, fun kl hkl => ?_, hm, fun x hx => h.good x (hsub.subset hx)⟩
    · obtain ⟨e, g1, g2⟩ := h.get x (hsub.subset hx)
      have hal := of_decide_eq_true (List.mem_filter.1 hx).2
      refine ⟨{ e with age := e.age + n }, ?_, g2.tot0, g2.tot1, g2.th, g2.bs, ?_⟩
      · show T'.S x.key = _
        rw [hS]
        show (T.S x.key).bind _ = _
        rw [g1]
        show Ent.aged n ticks e = _
        unfold Ent.aged
        rw [if_neg]
        have := g2.age
        omega
      · show e.age + n = now + n - x.at_
        have := g2.age
        omega
    · have hkl' : (T'.S kl).isSome = true := hkl
      rw [hS] at hkl'
      cases hs : T.S kl with
      | none => simp [hs] at hkl'
      | some e =>
        obtain ⟨r, hr, he⟩ := h.only kl (by rw [hs]; rfl)
        obtain ⟨e2, g1, g2⟩ := h.get r hr
        rw [he, hs] at g1
        cases g1
        refine ⟨r, List.mem_filter.2 ⟨hr, decide_eq_true ?_⟩, he⟩
        simp only [hs, Option.bind_some] at hkl'
        unfold Ent.aged at hkl'
        by_cases g : ticks ≤ e.age + n
        · rw [if_pos g] at hkl'; cases hkl'
        · have := g2.age; omega
  have h1 := (hrel _ rfl).card
  have h2 := hc.one h1
  have := hrel T'.n h2
  exact this
/-- as many bytes -/
theorem RelT.bytes {T : Tbl} {L : List (RE × Value)} {now : Int} (h : RelT T (L.map Prod.fst) now) : Sums T.S (bytesR L) := by
  obtain ⟨ks, k1, k2, _⟩ := h.card
  refine ⟨(L.map Prod.fst).map RE.key, h.nd, fun kl => ?_, ?_⟩
  · constructor
    · intro hm
      obtain ⟨r, hr, rfl⟩ := List.mem_map.1 hm
      obtain ⟨e, h1, _⟩ := h.get r hr
      rw [h1]; rfl
    · intro hs
      obtain ⟨r, hr, he⟩ := h.only kl hs
      exact List.mem_map.2 ⟨r, hr, he⟩
  · unfold bytesOf bytesR
    rw [List.map_map, List.map_map]
    congr 1
    refine List.map_congr_left (fun x hx => ?_)
    have hm : x.1 ∈ L.map Prod.fst := List.mem_map.2 ⟨x, hx, rfl⟩
    obtain ⟨e, g1, g2⟩ := h.get x.1 hm
    show ((T.S x.1.key).map Ent.count).getD 0 = x.1.ps.length
    rw [g1]
    exact g2.count (h.good x.1 hm)
end Go.Proofs.Ytkfgapljphhmcaa
