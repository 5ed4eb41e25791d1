/- Layer 8, no program: which bytes are words, numbers, bytes, signs; a text's tokens. -/
import Derived.RowKit
import Derived.Lib.OthersKept
import Derived.Lib.MapLaws
import Derived.Lib.TrimUEq
namespace Go.Proofs.YtepmncfgkmpccaaDoor.Lx
open Go.RowKit
set_option linter.unusedVariables false
set_option linter.unusedSimpArgs false

def letter (c : Int) : Bool := decide (97 ≤ c ∧ c ≤ 122) || decide (65 ≤ c ∧ c ≤ 90)
def great (c : Int) : Bool := decide (65 ≤ c ∧ c ≤ 90)
def digit (c : Int) : Bool := decide (48 ≤ c ∧ c ≤ 57)
def ofWord (c : Int) : Bool := letter c || digit c
def inLine (c : Int) : Bool := decide (c ≠ 10)
def escaped (c : Int) : Bool := decide (c = 34 ∨ c = 124 ∨ c = 92)
def blank (c : Int) : Bool := decide (c = 32 ∨ c = 9 ∨ c = 13)
def small (c : Int) : Int := if 65 ≤ c ∧ c ≤ 90 then c + 32 else c
def hexv (c : Int) : Int := if 48 ≤ c ∧ c ≤ 57 then c - 48 else if 97 ≤ c ∧ c ≤ 102 then c - 87 else if 65 ≤ c ∧ c ≤ 70 then c - 55 else -1
def oneSign (c : Int) : Bool := decide (c = 40 ∨ c = 41 ∨ c = 59 ∨ c = 58 ∨ c = 44 ∨ c = 47 ∨ c = 91 ∨ c = 93 ∨ c = 33 ∨ c = 45 ∨ c = 46 ∨ c = 61)
def bt (p : Int → Bool) (x : UInt8) : Bool := p (x.toNat : Int)
def front (p : Int → Bool) (l : List UInt8) : List UInt8 := l.takeWhile (bt p)
def begins (p : Int → Bool) : List UInt8 → Bool
  | [] => false
  | c :: _ => bt p c
def smallB (x : UInt8) : UInt8 := UInt8.ofNat (small (x.toNat : Int)).toNat
def wordP (l : List UInt8) : List UInt8 × Nat := if begins letter l = true ∧ (front ofWord l).length ≤ 20 then ((front ofWord l).map smallB, (front ofWord l).length) else ([], 0)
def varP : List UInt8 → List UInt8 × Nat
  | [] => ([], 0)
  | _ :: r => if (wordP r).2 = 0 then ([], 0) else ((wordP r).1, (wordP r).2 + 1)
def val (d : List UInt8) : Nat := d.foldl (fun v x => v * 10 + (x.toNat - 48)) 0
def numP (l : List UInt8) : Nat × Nat := if begins letter (l.drop (front digit l).length) = true ∨ 999999999999 < val (front digit l) then (0, 0) else (val (front digit l), (front digit l).length)
def two (c d : UInt8) : UInt8 := UInt8.ofNat (hexv (c.toNat : Int) * 16 + hexv (d.toNat : Int)).toNat
def prs : List UInt8 → Option (List UInt8 × Nat)
  | [] => none
  | c :: l => if c.toNat = 124 then some ([], 1) else if c.toNat = 32 then (prs l).map (fun p => (p.1, p.2 + 1)) else
    match l with
    | [] => none
    | d :: l' => if 0 ≤ hexv (c.toNat : Int) ∧ 0 ≤ hexv (d.toNat : Int) then (prs l').map (fun p => (two c d :: p.1, p.2 + 2)) else none
def pairsP : List UInt8 → List UInt8 × Nat
  | [] => ([], 0)
  | _ :: l => match prs l with
    | none => ([], 0)
    | some p => if p.1 = [] then ([], 0) else (p.1, p.2 + 1)
def quoted : Nat → List UInt8 → Option (List UInt8 × Nat)
  | 0, _ => none
  | _ + 1, [] => none
  | f + 1, c :: l =>
    if c.toNat = 34 then some ([], 1)
    else if c.toNat = 124 then (if (pairsP (c :: l)).2 = 0 then none else (quoted f ((c :: l).drop (pairsP (c :: l)).2)).map (fun p => ((pairsP (c :: l)).1 ++ p.1, p.2 + (pairsP (c :: l)).2)))
    else if c.toNat = 92 then (if begins escaped l = true then (quoted f (l.drop 1)).map (fun p => (l.getD 0 0 :: p.1, p.2 + 2)) else none)
    else if 32 ≤ c.toNat ∧ c.toNat ≤ 126 then (quoted f l).map (fun p => (c :: p.1, p.2 + 1))
    else none
def bytesP : List UInt8 → List UInt8 × Nat
  | [] => ([], 0)
  | _ :: l => match quoted l.length l with
    | none => ([], 0)
    | some p => (p.1, p.2 + 1)
def signP (l : List UInt8) : List UInt8 := if l.take 2 = [45, 62] ∨ l.take 2 = [60, 62] then l.take 2 else if begins oneSign l = true then l.take 1 else []
/-- a token -/
structure Tok where
  kind : Int
  s : List UInt8
  n : Int
  line : Int
def one : List UInt8 → Tok × Nat
  | [] => (⟨4, [], 0, 0⟩, 0)
  | c :: r =>
    if bt letter c = true then (⟨1, (wordP (c :: r)).1, 0, 0⟩, (wordP (c :: r)).2)
    else if bt digit c = true then (⟨2, [], ((numP (c :: r)).1 : Int), 0⟩, (numP (c :: r)).2)
    else if c.toNat = 36 then (⟨5, (varP (c :: r)).1, 0, 0⟩, (varP (c :: r)).2)
    else if c.toNat = 34 then (⟨3, (bytesP (c :: r)).1, 0, 0⟩, (bytesP (c :: r)).2)
    else (⟨4, signP (c :: r), 0, 0⟩, (signP (c :: r)).length)
def Tok.at (t : Tok) (line : Int) : Tok := { t with line := line }
def more (t : List Tok) : Except Int (List Tok) → Except Int (List Tok)
  | .ok l => .ok (t ++ l)
  | .error k => .error k
def lexF : Nat → List UInt8 → Int → Except Int (List Tok)
  | 0, _, _ => .ok []
  | _ + 1, [], _ => .ok []
  | f + 1, c :: l, line =>
    if c.toNat = 10 then lexF f l (line + 1)
    else if bt blank c = true then lexF f l line
    else if c.toNat = 35 then lexF f (l.drop (front inLine l).length) line
    else if (one (c :: l)).2 = 0 then .error line
    else more [(one (c :: l)).1.at line] (lexF f ((c :: l).drop (one (c :: l)).2) line)
/-- what a text is: its tokens, a line, an error -/
structure Ans where
  l : List Tok
  line : Int
  e : Int
def ansOf : Except Int (List Tok) → Ans
  | .ok l => ⟨l, 0, 0⟩
  | .error k => ⟨[], k, 6⟩
def allP (l : List UInt8) : Ans := if 8192 < l.length then ⟨[], 0, 5⟩ else ansOf (lexF l.length l 1)

/-! ### lists -/
theorem varP_cons (c : UInt8) (r : List UInt8) : varP (c :: r) = if (wordP r).2 = 0 then ([], 0) else ((wordP r).1, (wordP r).2 + 1) := rfl
theorem pairsP_cons (c : UInt8) (l : List UInt8) : pairsP (c :: l) = (match prs l with | none => ([], 0) | some p => if p.1 = [] then ([], 0) else (p.1, p.2 + 1)) := rfl
theorem bytesP_cons (c : UInt8) (l : List UInt8) : bytesP (c :: l) = (match quoted l.length l with | none => ([], 0) | some p => (p.1, p.2 + 1)) := rfl
theorem one_cons (c : UInt8) (r : List UInt8) : one (c :: r) = (if bt letter c = true then (⟨1, (wordP (c :: r)).1, 0, 0⟩, (wordP (c :: r)).2)
    else if bt digit c = true then (⟨2, [], ((numP (c :: r)).1 : Int), 0⟩, (numP (c :: r)).2)
    else if c.toNat = 36 then (⟨5, (varP (c :: r)).1, 0, 0⟩, (varP (c :: r)).2)
    else if c.toNat = 34 then (⟨3, (bytesP (c :: r)).1, 0, 0⟩, (bytesP (c :: r)).2)
    else (⟨4, signP (c :: r), 0, 0⟩, (signP (c :: r)).length)) := rfl
theorem drop_at (l : List UInt8) (i : Nat) (h : i < l.length) : l.drop i = l.getD i 0 :: l.drop (i + 1) := by
  rw [List.drop_eq_getElem_cons h]
  congr 1
  simp [List.getD, h]
theorem more_nil (r : Except Int (List Tok)) : more [] r = r := by cases r <;> rfl
theorem more_more (a b : List Tok) (r : Except Int (List Tok)) : more a (more b r) = more (a ++ b) r := by cases r <;> simp [more]
theorem front_le (p : Int → Bool) : ∀ l : List UInt8, (front p l).length ≤ l.length := by
  intro l
  induction l with
  | nil => simp [front]
  | cons c l ih =>
    unfold front at ih ⊢
    rw [List.takeWhile_cons]
    split
    · simp only [List.length_cons]; omega
    · simp
theorem front_take (p : Int → Bool) : ∀ l : List UInt8, l.take (front p l).length = front p l := by
  intro l
  induction l with
  | nil => simp [front]
  | cons c l ih =>
    unfold front at ih ⊢
    rw [List.takeWhile_cons]
    split
    · simp only [List.length_cons, List.take_succ_cons]; rw [ih]
    · simp
theorem front_all (p : Int → Bool) : ∀ l : List UInt8, ∀ x ∈ front p l, bt p x = true := by
  intro l
  induction l with
  | nil => simp [front]
  | cons c l ih =>
    unfold front at ih ⊢
    rw [List.takeWhile_cons]
    split
    · intro x hx
      rcases List.mem_cons.1 hx with h | h
      · subst h; assumption
      · exact ih x h
    · simp
theorem front_cons (p : Int → Bool) (c : UInt8) (l : List UInt8) : front p (c :: l) = if bt p c = true then c :: front p l else [] := by
  unfold front
  rw [List.takeWhile_cons]
theorem front_nil (p : Int → Bool) : front p [] = [] := rfl
/-- what stops the front -/
theorem front_stop (p : Int → Bool) : ∀ l : List UInt8, ∀ c r, l.drop (front p l).length = c :: r → bt p c = false := by
  intro l
  induction l with
  | nil => simp
  | cons x l ih =>
    intro c r h
    rw [front_cons] at h
    split at h
    · rw [List.length_cons, List.drop_succ_cons] at h
      exact ih c r h
    · rename_i hx
      simp at h
      rw [← h.1]
      simpa using hx
/-! ### bytes below 128 -/
theorem letter_low (x : UInt8) (h : bt letter x = true) : x.toNat < 128 := by
  simp [bt, letter] at h; omega
theorem digit_low (x : UInt8) (h : bt digit x = true) : x.toNat < 128 := by
  simp [bt, digit] at h; omega
theorem ofWord_low (x : UInt8) (h : bt ofWord x = true) : x.toNat < 128 := by
  simp [bt, ofWord, letter, digit] at h; omega
theorem hexv_low (x : UInt8) (h : 0 ≤ hexv (x.toNat : Int)) : x.toNat < 128 := by
  unfold hexv at h
  repeat' split at h
  all_goals omega
theorem hexv_bd (c : Int) : -1 ≤ hexv c ∧ hexv c ≤ 15 := by
  unfold hexv
  repeat' split
  all_goals omega
/-- the first n bytes are there, and below 128 -/
def Low (l : List UInt8) (n : Nat) : Prop := n ≤ l.length ∧ ∀ x ∈ l.take n, x.toNat < 128
theorem Low.zero (l : List UInt8) : Low l 0 := ⟨by omega, by simp⟩
theorem Low.cons {c : UInt8} {l : List UInt8} {n : Nat} (hc : c.toNat < 128) (h : Low l n) : Low (c :: l) (n + 1) := by
  refine ⟨by simp only [List.length_cons]; exact Nat.succ_le_succ h.1, ?_⟩
  rw [List.take_succ_cons]
  intro x hx
  rcases List.mem_cons.1 hx with e | e
  · subst e; exact hc
  · exact h.2 x e
theorem Low.add {l : List UInt8} {m n : Nat} (h : Low l m) (k : Low (l.drop m) n) : Low l (n + m) := by
  have h1 := h.1
  have k1 := k.1
  rw [List.length_drop] at k1
  refine ⟨by omega, ?_⟩
  rw [Nat.add_comm, List.take_add]
  intro x hx
  rcases List.mem_append.1 hx with e | e
  · exact h.2 x e
  · exact k.2 x e
theorem front_low (p : Int → Bool) (hp : ∀ x, bt p x = true → x.toNat < 128) (l : List UInt8) : Low l (front p l).length :=
  ⟨front_le p l, by rw [front_take]; exact fun x hx => hp x (front_all p l x hx)⟩
theorem wordP_low (l : List UInt8) : Low l (wordP l).2 := by
  unfold wordP
  split
  · exact front_low _ ofWord_low l
  · exact Low.zero l
theorem varP_low (c : UInt8) (l : List UInt8) (hc : c.toNat < 128) : Low (c :: l) (varP (c :: l)).2 := by
  rw [varP_cons]
  split
  · exact Low.zero _
  · exact (wordP_low l).cons hc
theorem numP_low (l : List UInt8) : Low l (numP l).2 := by
  unfold numP
  split
  · exact Low.zero l
  · exact front_low _ digit_low l
theorem prs_low : ∀ (l : List UInt8) (p : List UInt8 × Nat), prs l = some p → Low l p.2 := by
  intro l
  induction l using prs.induct with
  | case1 => simp [prs]
  | case2 c l h =>
    intro p hp
    rw [prs.eq_def] at hp
    simp [h] at hp
    subst hp
    exact (Low.zero l).cons (by omega)
  | case3 c l h1 h2 ih =>
    intro p hp
    rw [prs.eq_def] at hp
    simp [h1, h2] at hp
    obtain ⟨a, b, hq, rfl⟩ := hp
    exact (ih _ hq).cons (by omega)
  | case4 c h1 h2 =>
    intro p hp
    rw [prs.eq_def] at hp
    simp [h1, h2] at hp
  | case5 c h1 h2 d l' h3 ih =>
    intro p hp
    rw [prs.eq_def] at hp
    simp [h1, h2, h3] at hp
    obtain ⟨a, b, hq, rfl⟩ := hp
    exact ((ih _ hq).cons (hexv_low _ h3.2)).cons (hexv_low _ h3.1)
  | case6 c h1 h2 d l' h3 =>
    intro p hp
    rw [prs.eq_def] at hp
    simp only [h1, h2, h3, if_false] at hp
    cases hp
theorem pairsP_low (c : UInt8) (l : List UInt8) (hc : c.toNat < 128) : Low (c :: l) (pairsP (c :: l)).2 := by
  rw [pairsP_cons]
  split
  · exact Low.zero _
  · rename_i p hp
    split
    · exact Low.zero _
    · exact (prs_low l p hp).cons hc
theorem begins_low {p : Int → Bool} (hp : ∀ x, bt p x = true → x.toNat < 128) {l : List UInt8} (h : begins p l = true) : Low l 1 := by
  cases l with
  | nil => simp [begins] at h
  | cons c l => exact (Low.zero l).cons (hp c h)
theorem escaped_low (x : UInt8) (h : bt escaped x = true) : x.toNat < 128 := by
  simp [bt, escaped] at h; omega
theorem oneSign_low (x : UInt8) (h : bt oneSign x = true) : x.toNat < 128 := by
  simp [bt, oneSign] at h; omega
theorem quoted_low : ∀ (f : Nat) (l : List UInt8) (p : List UInt8 × Nat), quoted f l = some p → Low l p.2 := by
  intro f
  induction f with
  | zero => intro l p h; simp [quoted] at h
  | succ f ih =>
    intro l p h
    cases l with
    | nil => simp [quoted] at h
    | cons c l =>
      rw [quoted] at h
      split at h
      · rename_i hc
        cases h
        exact (Low.zero l).cons (by omega)
      · split at h
        · rename_i hc
          split at h
          · cases h
          · obtain ⟨q, hq, rfl⟩ := Option.map_eq_some_iff.1 h
            exact (pairsP_low c l (by omega)).add (ih _ _ hq)
        · split at h
          · rename_i hc
            split at h
            · rename_i he
              obtain ⟨q, hq, rfl⟩ := Option.map_eq_some_iff.1 h
              have := (begins_low escaped_low he).add (ih _ _ hq)
              exact this.cons (by omega)
            · cases h
          · split at h
            · rename_i hc
              obtain ⟨q, hq, rfl⟩ := Option.map_eq_some_iff.1 h
              exact (ih _ _ hq).cons (by omega)
            · cases h
theorem bytesP_low (c : UInt8) (l : List UInt8) (hc : c.toNat < 128) : Low (c :: l) (bytesP (c :: l)).2 := by
  rw [bytesP_cons]
  split
  · exact Low.zero _
  · rename_i p hp
    exact (quoted_low _ l p hp).cons hc
theorem take2_low {l : List UInt8} {a b : UInt8} (h : l.take 2 = [a, b]) (ha : a.toNat < 128) (hb : b.toNat < 128) : Low l 2 := by
  have hl := congrArg List.length h
  rw [List.length_take] at hl
  simp at hl
  refine ⟨by omega, ?_⟩
  rw [h]
  simp [ha, hb]
theorem signP_low (l : List UInt8) : Low l (signP l).length := by
  unfold signP
  split
  · rename_i h
    have hl : (l.take 2).length = 2 := by rcases h with h | h <;> rw [h] <;> rfl
    rw [hl]
    rcases h with h | h
    · exact take2_low h (by decide) (by decide)
    · exact take2_low h (by decide) (by decide)
  · split
    · rename_i h
      have := begins_low oneSign_low h
      have hl : (l.take 1).length = 1 := by rw [List.length_take]; exact Nat.min_eq_left this.1
      rw [hl]
      exact this
    · exact Low.zero l
theorem one_low (l : List UInt8) : Low l (one l).2 := by
  cases l with
  | nil => exact Low.zero _
  | cons c l =>
    rw [one_cons]
    split
    · exact wordP_low _
    · split
      · exact numP_low _
      · split
        · exact varP_low c l (by omega)
        · split
          · exact bytesP_low c l (by omega)
          · exact signP_low _
/-! ### runes -/
theorem getb (s : ByteArray) (j : Nat) : s.get! j = s.data.toList.getD j 0 := by
  show s.data[j]! = _
  rw [getElem!_def]
  simp only [List.getD, Array.getElem?_toList]
  cases s.data[j]? <;> rfl
theorem high_all (s : ByteArray) (pos : Nat) (ha : 128 ≤ (s.data.toList.getD pos 0).toNat) : ∀ j, pos ≤ j → j < pos + (Utf8.decode s pos).2 → 128 ≤ (s.data.toList.getD j 0).toNat := by
  have hd : ∀ k, s.get! (pos + k) = s.data.toList.getD (pos + k) 0 := fun k => getb s _
  have h0 : 128 ≤ (s.data.toList.getD (pos + 0) 0).toNat := ha
  intro j hj hj2
  obtain ⟨k, rfl⟩ : ∃ k, j = pos + k := ⟨j - pos, by omega⟩
  have hk : k < (Utf8.decode s pos).2 := by omega
  clear hj hj2
  unfold Utf8.decode at hk
  simp only [hd] at hk
  have hn : ¬ ((s.data.toList.getD (pos + 0) 0).toNat < 128) := by omega
  simp only [hn, if_false] at hk
  repeat' split at hk
  all_goals (try simp only [Bool.and_eq_true, decide_eq_true_eq, beq_iff_eq] at *)
  all_goals (
    have hk4 : k = 0 ∨ k = 1 ∨ k = 2 ∨ k = 3 := by first | omega | (simp at hk; omega)
    rcases hk4 with rfl | rfl | rfl | rfl <;> first | exact h0 | omega | (exfalso; simp at hk; done))
theorem low_one (s : ByteArray) (pos : Nat) (h : pos < s.size) (ha : (s.data.toList.getD pos 0).toNat < 128) : Utf8.decode s pos = ((s.data.toList.getD pos 0).toNat, 1) := by
  have e := get_at s pos h
  rw [Nat.add_zero, getb] at e
  rw [e] at ha ⊢
  exact decode_ascii s pos h ha
theorem high_rune (s : ByteArray) (pos : Nat) (h : pos < s.size) (ha : 128 ≤ (s.data.toList.getD pos 0).toNat) : 128 ≤ (Utf8.decode s pos).1 ∧ 1 ≤ (Utf8.decode s pos).2 := by
  have e := get_at s pos h
  rw [Nat.add_zero, getb] at e
  rw [e] at ha
  exact decode_high s pos h ha
theorem rune_fits (s : ByteArray) (pos : Nat) (h : pos < s.size) : pos + (Utf8.decode s pos).2 ≤ s.size := by
  have hlen : s.data.toList.length = s.size := by simp
  have hne : s.data.toList.drop pos ≠ [] := by
    intro h0
    have := congrArg List.length h0
    rw [List.length_drop, hlen] at this
    simp at this
    omega
  have := Lib.decodeL_le _ hne
  rw [Lib.decodeL_drop, List.length_drop, hlen] at this
  omega
/-- from pos up to next whole runes are left out -/
def Whole (s : ByteArray) (pos next : Nat) : Prop := next ≤ s.size ∧ ∀ q, pos ≤ q → q < next → q + (Utf8.decode s q).2 ≤ next
theorem Whole.done (s : ByteArray) (pos : Nat) (h : pos ≤ s.size) : Whole s pos pos := ⟨h, fun q h1 h2 => by omega⟩
theorem Whole.later {s : ByteArray} {p q n : Nat} (h : Whole s p n) (hq : p ≤ q) : Whole s q n := ⟨h.1, fun x h1 h2 => h.2 x (by omega) h2⟩
theorem Whole.low {s : ByteArray} {at_ n : Nat} (h : Low (s.data.toList.drop at_) n) (hs : at_ ≤ s.size) : Whole s at_ (at_ + n) := by
  have hlen : s.data.toList.length = s.size := by simp
  have h1 := h.1
  rw [List.length_drop, hlen] at h1
  refine ⟨by omega, fun q hq1 hq2 => ?_⟩
  have hx : (s.data.toList.getD q 0) ∈ (s.data.toList.drop at_).take n := by
    have hq : q < s.data.toList.length := by omega
    rw [show s.data.toList.getD q 0 = s.data.toList[q] from by rw [List.getD, List.getElem?_eq_getElem hq]; rfl]
    rw [List.mem_iff_getElem]
    refine ⟨q - at_, ?_, ?_⟩
    · rw [List.length_take, List.length_drop, hlen]; omega
    · rw [List.getElem_take, List.getElem_drop]
      congr 1
      omega
  rw [low_one s q (by omega) (h.2 _ hx)]
  show q + 1 ≤ _
  omega
/-- a front of bytes that ends where no high byte stands: whole runes -/
theorem Whole.front {s : ByteArray} {at_ n : Nat} (hs : at_ + n ≤ s.size) (h : at_ + n < s.size → (s.data.toList.getD (at_ + n) 0).toNat < 128) : Whole s at_ (at_ + n) := by
  refine ⟨hs, fun q hq1 hq2 => ?_⟩
  have hq : q < s.size := by omega
  by_cases ha : (s.data.toList.getD q 0).toNat < 128
  · rw [low_one s q hq ha]
    show q + 1 ≤ _
    omega
  · by_cases hlt : at_ + n < q + (Utf8.decode s q).2
    · exfalso
      have hf := rune_fits s q hq
      have := high_all s q (by omega) (at_ + n) (by omega) hlt
      have := h (by omega)
      omega
    · omega
end Go.Proofs.YtepmncfgkmpccaaDoor.Lx
