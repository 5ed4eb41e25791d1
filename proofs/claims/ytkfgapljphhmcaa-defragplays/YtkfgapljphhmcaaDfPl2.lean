/- Layer 7, no program: what lies where behind a part; names that differ; what Add answers. -/
import Derived.Test.YtkfgapljphhmcaaDfu2
namespace Go.Proofs.Ytkfgapljphhmcaa
open Go.RowKit Go.Maps
set_option linter.unusedVariables false
set_option maxRecDepth 20000
/-- the end bars a place -/
def Ent.past (e : Ent) (p : Nat) : Bool := decide (0 < e.tot) && decide (e.tot ≤ p)
theorem Ent.layN_th (e : Ent) (off : Nat) (s : ByteArray) (k p : Nat) : (e.layN off s k).th p = (e.th p || (decide (off ≤ p ∧ p < off + k) && !e.past p)) := by
  induction k with
  | zero =>
    have : decide (off ≤ p ∧ p < off + 0) = false := by simp
    rw [this]
    simp [Ent.layN]
  | succ k ih =>
    rw [Ent.layN]
    unfold Ent.lay
    by_cases hb : (e.layN off s k).bars (off + k) = true
    · rw [if_pos hb, ih]
      by_cases hp : p = off + k
      · subst hp
        unfold Ent.bars at hb
        rw [ih, Ent.layN_tot] at hb
        have h1 : decide (off ≤ off + k ∧ off + k < off + k) = false := by simp
        have h2 : decide (off ≤ off + k ∧ off + k < off + (k + 1)) = true := by simp
        rw [h1] at hb ⊢
        rw [h2]
        cases h3 : e.th (off + k)
        · rw [h3] at hb
          have : e.past (off + k) = true := by unfold Ent.past; simpa using hb
          rw [this]
          rfl
        · rfl
      · have : decide (off ≤ p ∧ p < off + k) = decide (off ≤ p ∧ p < off + (k + 1)) := by
          rw [decide_eq_decide]; omega
        rw [this]
    · rw [if_neg hb]
      show (if p = off + k then true else (e.layN off s k).th p) = _
      by_cases hp : p = off + k
      · subst hp
        rw [if_pos rfl]
        have hb' : (e.layN off s k).bars (off + k) = false := by simpa using hb
        unfold Ent.bars at hb'
        rw [Ent.layN_tot, Bool.or_eq_false_iff] at hb'
        have : e.past (off + k) = false := hb'.2
        rw [this]
        simp
      · rw [if_neg hp, ih]
        have : decide (off ≤ p ∧ p < off + k) = decide (off ≤ p ∧ p < off + (k + 1)) := by
          rw [decide_eq_decide]; omega
        rw [this]
theorem Ent.layN_bs (e : Ent) (off : Nat) (s : ByteArray) (k p : Nat) : (e.layN off s k).bs p = if e.bars p = false ∧ off ≤ p ∧ p < off + k then s.data.toList.getD (p - off) 0 else e.bs p := by
  induction k with
  | zero => rw [if_neg (by omega)]; rfl
  | succ k ih =>
    rw [Ent.layN]
    unfold Ent.lay
    by_cases hb : (e.layN off s k).bars (off + k) = true
    · rw [if_pos hb, ih]
      by_cases hp : p = off + k
      · subst hp
        have : ¬ e.bars (off + k) = false := by
          unfold Ent.bars at hb ⊢
          rw [Ent.layN_th, Ent.layN_tot] at hb
          have h1 : decide (off ≤ off + k ∧ off + k < off + k) = false := by simp
          rw [h1] at hb
          rw [Bool.not_eq_false]
          simpa using hb
        rw [if_neg (fun h => this h.1), if_neg (fun h => this h.1)]
      · by_cases h2 : e.bars p = false ∧ off ≤ p ∧ p < off + k
        · rw [if_pos h2, if_pos ⟨h2.1, h2.2.1, by omega⟩]
        · rw [if_neg h2, if_neg (fun h => h2 ⟨h.1, h.2.1, by omega⟩)]
    · rw [if_neg hb]
      show (if p = off + k then s.data.toList.getD k 0 else (e.layN off s k).bs p) = _
      by_cases hp : p = off + k
      · subst hp
        have : e.bars (off + k) = false := by
          have hb' : (e.layN off s k).bars (off + k) = false := by simpa using hb
          unfold Ent.bars at hb' ⊢
          rw [Ent.layN_th, Ent.layN_tot] at hb'
          have h1 : decide (off ≤ off + k ∧ off + k < off + k) = false := by simp
          rw [h1] at hb'
          simpa using hb'
        rw [if_pos rfl, if_pos ⟨this, by omega, by omega⟩]
        congr 1
        omega
      · rw [if_neg hp, ih]
        by_cases h2 : e.bars p = false ∧ off ≤ p ∧ p < off + k
        · rw [if_pos h2, if_pos ⟨h2.1, h2.2.1, by omega⟩]
        · rw [if_neg h2, if_neg (fun h => h2 ⟨h.1, h.2.1, by omega⟩)]
/-- a part that tells no end, or of a datagram whose end is known -/
theorem Ent.take_mid (e : Ent) (off : Nat) (more : Bool) (s : ByteArray) (h : ¬ (more = false ∧ e.tot = 0)) : e.take off more s = e.layN off s s.size := by
  unfold Ent.take Ent.start
  rw [if_neg h]
theorem Ent.take_end (e : Ent) (off : Nat) (s : ByteArray) (h : e.tot = 0) : e.take off false s = (e.endAt (off + s.size)).layN off s s.size := by
  unfold Ent.take Ent.start
  rw [if_pos ⟨rfl, h⟩]
theorem Ent.whole_iff (e : Ent) : e.whole = true ↔ 0 < e.tot ∧ ∀ p, p < e.tot → e.th p = true := by
  unfold Ent.whole
  rw [Bool.and_eq_true, decide_eq_true_iff, List.all_eq_true]
  simp
/-- the text, byte by byte -/
theorem text_eq (e : Ent) (s : ByteArray) (hs : e.tot = s.size) (h : ∀ p, p < s.size → e.bs p = s.data.toList.getD p 0) : e.text = s := by
  unfold Ent.text
  obtain ⟨⟨l⟩⟩ := s
  have hsz : (ByteArray.mk ⟨l⟩).size = l.length := rfl
  rw [hsz] at hs
  rw [hs]
  congr 2
  refine List.ext_getElem (by simp) (fun i h1 h2 => ?_)
  have := h i (by rw [hsz]; exact h2)
  simp [this, h2]
def Ip.ok (i : Ip) : Prop := (-9223372036854775808 ≤ i.proto ∧ i.proto ≤ 9223372036854775807) ∧ (-9223372036854775808 ≤ i.id ∧ i.id ≤ 9223372036854775807)
theorem nm_ne {i j : Ip} (hi : i.ok) (hj : j.ok) (h : i.src ≠ j.src ∨ i.dst ≠ j.dst ∨ i.proto ≠ j.proto ∨ i.id ≠ j.id) : nmL i ≠ nmL j := by
  intro e
  have h1 := nm_key i hi.1 hi.2
  have h2 := nm_key j hj.1 hj.2
  rw [← e] at h2
  have h3 := nmLaw.inj h1 h2
  injection h3 with h3
  have e0 := congrArg (fun a : Array Value => a[0]?) h3
  have e1 := congrArg (fun a : Array Value => a[1]?) h3
  have e2 := congrArg (fun a : Array Value => a[2]?) h3
  have e3 := congrArg (fun a : Array Value => a[3]?) h3
  simp at e0 e1 e2 e3
  rcases h with h | h | h | h
  · exact h (UInt32.toNat_inj.1 (Int.ofNat.inj e0))
  · exact h (UInt32.toNat_inj.1 (Int.ofNat.inj e1))
  · exact h e2
  · exact h e3
theorem nm_same {i j : Ip} (h1 : i.src = j.src) (h2 : i.dst = j.dst) (h3 : i.proto = j.proto) (h4 : i.id = j.id) : nmL i = nmL j := by unfold nmL; rw [h1, h2, h3, h4]
theorem Tbl.put_S (T : Tbl) (kl : Lit) (e : Ent) : (T.put kl e).S kl = some e := by unfold Tbl.put; exact upd_same _ _ _
theorem Tbl.put_other (T : Tbl) (kl k2 : Lit) (e : Ent) (h : k2 ≠ kl) : (T.put kl e).S k2 = T.S k2 := by unfold Tbl.put; exact upd_other _ _ _ h
theorem Tbl.del_S (T : Tbl) (kl : Lit) : (T.del kl).S kl = Option.none := by unfold Tbl.del; exact upd_same _ _ _
theorem Tbl.del_other (T : Tbl) (kl k2 : Lit) (h : k2 ≠ kl) : (T.del kl).S k2 = T.S k2 := by unfold Tbl.del; exact upd_other _ _ _ h
theorem Tbl.add_none (T : Tbl) (most : Int) (i : Ip) (s : ByteArray) (hp : partB i = false) : T.add most i s = ⟨T, s, true, 0⟩ := by unfold Tbl.add; rw [if_pos hp]
theorem Tbl.add_big (T : Tbl) (most : Int) (i : Ip) (s : ByteArray) (hp : partB i = true) (h : faultC most (T.S (nmL i)).isSome T.n i s.size = 5) : T.add most i s = ⟨T.del (nmL i), ⟨#[]⟩, false, 5⟩ := by
  unfold Tbl.add; rw [if_neg (by simp [hp]), if_pos h]
theorem Tbl.add_fault (T : Tbl) (most : Int) (i : Ip) (s : ByteArray) (c : Int) (hp : partB i = true) (h : faultC most (T.S (nmL i)).isSome T.n i s.size = c) (h5 : c ≠ 5) (h0 : c ≠ 0) : T.add most i s = ⟨T, ⟨#[]⟩, false, c⟩ := by
  unfold Tbl.add; rw [if_neg (by simp [hp]), if_neg (by rw [h]; exact h5), if_neg (by rw [h]; exact h0), h]
theorem Tbl.add_open (T : Tbl) (most : Int) (i : Ip) (s : ByteArray) (hp : partB i = true) (h : faultC most (T.S (nmL i)).isSome T.n i s.size = 0) (hw : (T.with (nmL i) i s).whole = false) : T.add most i s = ⟨T.put (nmL i) (T.with (nmL i) i s), ⟨#[]⟩, false, 0⟩ := by
  unfold Tbl.add; rw [if_neg (by simp [hp]), if_neg (by rw [h]; decide), if_pos h, if_neg (by simp [hw])]
theorem Tbl.add_whole (T : Tbl) (most : Int) (i : Ip) (s : ByteArray) (hp : partB i = true) (h : faultC most (T.S (nmL i)).isSome T.n i s.size = 0) (hw : (T.with (nmL i) i s).whole = true) : T.add most i s = ⟨T.del (nmL i), (T.with (nmL i) i s).text, true, 0⟩ := by
  unfold Tbl.add; rw [if_neg (by simp [hp]), if_neg (by rw [h]; decide), if_pos h, if_pos hw]
theorem fault_ok {most : Int} {k : Bool} {cnt : Nat} {i : Ip} {n : Nat} (h1 : n ≠ 0) (h2 : 0 ≤ i.off) (h3 : i.more = true → n % 8 = 0) (h4 : i.off + (n : Int) ≤ 2000) (h5 : k = true ∨ (cnt : Int) < most) : faultC most k cnt i n = 0 := by
  unfold faultC
  rw [if_neg, if_neg (by omega), if_neg]
  · rintro ⟨rfl, h6⟩
    rcases h5 with h5 | h5
    · cases h5
    · omega
  · unfold brokenB
    simp
    refine ⟨⟨h1, h2⟩, h3⟩
end Go.Proofs.Ytkfgapljphhmcaa
