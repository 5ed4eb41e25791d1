/- Layer 10, no program: spans, as few as there may be; where spans lie in memory. -/
import Derived.Test.YtgiecmgopibcnaaDoorCiMid
namespace Go.Proofs.YtgiecmgopibcnaaDoor
open Go.RowKit
set_option linter.unusedVariables false
/-- a span: from, to -/
abbrev Sp := Int × Int
def badS (s : Sp) : Bool := decide (s.1 < 0) || decide (s.2 < s.1) || decide (65535 < s.2)
def okS (s : Sp) : Prop := 0 ≤ s.1 ∧ s.1 ≤ s.2 ∧ s.2 ≤ 65535
def checkS (L : List Sp) : Bool := decide (L.length ≤ 4) && !L.any badS
def inS (n : Int) (s : Sp) : Bool := decide (s.1 ≤ n) && decide (n ≤ s.2)
theorem inS_iff (n : Int) (s : Sp) : inS n s = true ↔ s.1 ≤ n ∧ n ≤ s.2 := by simp [inS]
theorem badS_iff (s : Sp) : badS s = false ↔ okS s := by
  simp only [badS, okS, Bool.or_eq_false_iff, decide_eq_false_iff_not]; omega
theorem checkS_len {L : List Sp} (h : checkS L = true) : L.length ≤ 4 := by
  simp only [checkS, Bool.and_eq_true, decide_eq_true_eq] at h; exact h.1
theorem checkS_ok {L : List Sp} (h : checkS L = true) : ∀ s ∈ L, okS s := by
  intro s hs
  simp only [checkS, Bool.and_eq_true, Bool.not_eq_true', List.any_eq_false] at h
  have := h.2 s hs
  exact (badS_iff s).1 (by simpa using this)
theorem checkS_of {L : List Sp} (h4 : L.length ≤ 4) (h : ∀ s ∈ L, okS s) : checkS L = true := by
  simp only [checkS, Bool.and_eq_true, Bool.not_eq_true', List.any_eq_false, decide_eq_true_eq]
  exact ⟨h4, fun s hs => by rw [(badS_iff s).2 (h s hs)]; simp⟩
/-- rising, not touching -/
def Nf : List Sp → Prop
  | [] => True
  | s :: l => s.1 ≤ s.2 ∧ (∀ t ∈ l, s.2 + 1 < t.1) ∧ Nf l
def ahead : List Sp → Sp → List Sp × Sp
  | [], x => ([], x)
  | s :: l, x => if s.2 < x.1 - 1 then (s :: (ahead l x).1, (ahead l x).2) else if s.1 ≤ x.2 + 1 then ahead l (min s.1 x.1, max s.2 x.2) else ahead l x
def putS (l : List Sp) (x : Sp) : List Sp := (ahead l x).1 ++ (ahead l x).2 :: l.filter (fun s => decide ((ahead l x).2.2 + 1 < s.1))
theorem ahead_far : ∀ (l : List Sp) (x : Sp), x.1 ≤ x.2 → (∀ s ∈ l, s.1 ≤ s.2 ∧ x.2 + 1 < s.1) → ahead l x = ([], x)
  | [], _, _, _ => rfl
  | s :: l, x, hx, h => by
    have hs := h s (List.mem_cons_self ..)
    rw [ahead, if_neg (by omega), if_neg (by omega)]
    exact ahead_far l x hx (fun t ht => h t (List.mem_cons_of_mem _ ht))
theorem nf_each : ∀ {l : List Sp}, Nf l → ∀ s ∈ l, s.1 ≤ s.2
  | [], _, s, hs => by cases hs
  | t :: l, h, s, hs => by
    rcases List.mem_cons.1 hs with rfl | hs
    · exact h.1
    · exact nf_each h.2.2 s hs
/-- what is put ahead of the others -/
theorem ahead_spec : ∀ (l : List Sp) (x : Sp), Nf l → x.1 ≤ x.2 →
    x.2 ≤ (ahead l x).2.2 ∧ (ahead l x).2.1 ≤ x.1 ∧ (∀ b : Int, b < x.1 → (∀ e ∈ l, b < e.1) → b < (ahead l x).2.1) ∧ ∀ e ∈ (ahead l x).1, e ∈ l
  | [], x, _, _ => by simp [ahead]
  | s :: l, x, hl, hx => by
    obtain ⟨h1, h2, h3⟩ := hl
    rw [ahead]
    by_cases c1 : s.2 < x.1 - 1
    · rw [if_pos c1]
      obtain ⟨g1, g2, g3, g4⟩ := ahead_spec l x h3 hx
      refine ⟨g1, g2, fun b hb he => g3 b hb (fun e hee => he e (List.mem_cons_of_mem _ hee)), fun e he => ?_⟩
      rcases List.mem_cons.1 he with rfl | he
      · exact List.mem_cons_self ..
      · exact List.mem_cons_of_mem _ (g4 e he)
    · rw [if_neg c1]
      by_cases c2 : s.1 ≤ x.2 + 1
      · rw [if_pos c2]
        obtain ⟨g1, g2, g3, g4⟩ := ahead_spec l (min s.1 x.1, max s.2 x.2) h3 (by show min s.1 x.1 ≤ max s.2 x.2; omega)
        simp only at g1 g2 g3
        refine ⟨by omega, by omega, fun b hb he => g3 b ?_ (fun e hee => he e (List.mem_cons_of_mem _ hee)), fun e he => List.mem_cons_of_mem _ (g4 e he)⟩
        have := he s (List.mem_cons_self ..)
        omega
      · rw [if_neg c2]
        obtain ⟨g1, g2, g3, g4⟩ := ahead_spec l x h3 hx
        exact ⟨g1, g2, fun b hb he => g3 b hb (fun e hee => he e (List.mem_cons_of_mem _ hee)), fun e he => List.mem_cons_of_mem _ (g4 e he)⟩
theorem putS_cons (s : Sp) (l : List Sp) (x : Sp) (hl : Nf (s :: l)) (hx : x.1 ≤ x.2) :
    putS (s :: l) x = if s.2 < x.1 - 1 then s :: putS l x else if s.1 ≤ x.2 + 1 then putS l (min s.1 x.1, max s.2 x.2) else x :: s :: l := by
  obtain ⟨h1, h2, h3⟩ := hl
  by_cases c1 : s.2 < x.1 - 1
  · have g := ahead_spec l x h3 hx
    rw [if_pos c1]
    unfold putS
    rw [ahead, if_pos c1]
    have e : ¬ ((ahead l x).2.2 + 1 < s.1) := by omega
    simp [e]
  · rw [if_neg c1]
    by_cases c2 : s.1 ≤ x.2 + 1
    · have g := ahead_spec l (min s.1 x.1, max s.2 x.2) h3 (by show min s.1 x.1 ≤ max s.2 x.2; omega)
      rw [if_pos c2]
      unfold putS
      rw [ahead, if_neg c1, if_pos c2]
      have e : ¬ ((ahead l (min s.1 x.1, max s.2 x.2)).2.2 + 1 < s.1) := by have := g.1; simp only at this; omega
      simp [e]
    · rw [if_neg c2]
      have hf : ∀ t ∈ l, t.1 ≤ t.2 ∧ x.2 + 1 < t.1 := fun t ht => ⟨nf_each h3 t ht, by have := h2 t ht; omega⟩
      unfold putS
      rw [ahead, if_neg c1, if_neg c2, ahead_far l x hx hf]
      simp only [List.nil_append, List.cons.injEq, true_and]
      rw [List.filter_eq_self]
      intro t ht
      rcases List.mem_cons.1 ht with rfl | ht
      · simp; omega
      · simpa using (hf t ht).2
theorem putS_low : ∀ (l : List Sp) (x : Sp), Nf l → x.1 ≤ x.2 → ∀ b : Int, b < x.1 → (∀ e ∈ l, b < e.1) → ∀ e ∈ putS l x, b < e.1
  | [], x, _, _, b, hb, _, e, he => by
    simp only [putS, ahead, List.filter_nil, List.nil_append, List.mem_singleton] at he
    subst he; exact hb
  | s :: l, x, hl, hx, b, hb, hall, e, he => by
    rw [putS_cons s l x hl hx] at he
    have hs := hall s (List.mem_cons_self ..)
    have hr : ∀ e ∈ l, b < e.1 := fun e he => hall e (List.mem_cons_of_mem _ he)
    split at he
    · rcases List.mem_cons.1 he with rfl | he
      · exact hs
      · exact putS_low l x hl.2.2 hx b hb hr e he
    · rename_i c1
      split at he
      · rename_i c2
        exact putS_low l _ hl.2.2 (by have := hl.1; show min s.1 x.1 ≤ max s.2 x.2; omega) b (by show b < min s.1 x.1; omega) hr e he
      · rcases List.mem_cons.1 he with rfl | he
        · exact hb
        · exact hall e he
theorem putS_nf : ∀ (l : List Sp) (x : Sp), Nf l → x.1 ≤ x.2 → Nf (putS l x)
  | [], x, _, hx => by simp [putS, ahead, Nf, hx]
  | s :: l, x, hl, hx => by
    rw [putS_cons s l x hl hx]
    have h0 := hl.1
    split
    · rename_i c1
      refine ⟨hl.1, fun t ht => ?_, putS_nf l x hl.2.2 hx⟩
      exact putS_low l x hl.2.2 hx (s.2 + 1) (by omega) hl.2.1 t ht
    · split
      · exact putS_nf l _ hl.2.2 (by show min s.1 x.1 ≤ max s.2 x.2; omega)
      · rename_i c1 c2
        refine ⟨hx, fun t ht => ?_, hl⟩
        rcases List.mem_cons.1 ht with rfl | ht
        · omega
        · have := hl.2.1 t ht; omega
theorem putS_any : ∀ (l : List Sp) (x : Sp), Nf l → x.1 ≤ x.2 → ∀ n, (putS l x).any (inS n) = (l.any (inS n) || inS n x)
  | [], x, _, hx, n => by simp [putS, ahead]
  | s :: l, x, hl, hx, n => by
    rw [putS_cons s l x hl hx]
    have h0 := hl.1
    split
    · rw [List.any_cons, List.any_cons, putS_any l x hl.2.2 hx n, Bool.or_assoc]
    · rename_i c1
      split
      · rename_i c2
        rw [putS_any l _ hl.2.2 (by show min s.1 x.1 ≤ max s.2 x.2; omega) n, List.any_cons]
        have e : inS n (min s.1 x.1, max s.2 x.2) = (inS n s || inS n x) := by
          rw [Bool.eq_iff_iff, Bool.or_eq_true, inS_iff, inS_iff, inS_iff]
          simp only
          omega
        rw [e]
        cases inS n s <;> cases inS n x <;> simp
      · rw [List.any_cons, Bool.or_comm]
theorem putS_len : ∀ (l : List Sp) (x : Sp), Nf l → x.1 ≤ x.2 → (putS l x).length ≤ l.length + 1
  | [], x, _, hx => by simp [putS, ahead]
  | s :: l, x, hl, hx => by
    rw [putS_cons s l x hl hx]
    have h0 := hl.1
    split
    · have := putS_len l x hl.2.2 hx
      simp only [List.length_cons]; omega
    · split
      · have := putS_len l (min s.1 x.1, max s.2 x.2) hl.2.2 (by show min s.1 x.1 ≤ max s.2 x.2; omega)
        simp only [List.length_cons]; omega
      · simp
theorem putS_ok : ∀ (l : List Sp) (x : Sp), Nf l → okS x → (∀ s ∈ l, okS s) → ∀ s ∈ putS l x, okS s
  | [], x, _, hx, _, s, hs => by
    simp only [putS, ahead, List.filter_nil, List.nil_append, List.mem_singleton] at hs
    subst hs; exact hx
  | t :: l, x, hl, hx, h, s, hs => by
    rw [putS_cons t l x hl hx.2.1] at hs
    have ht := h t (List.mem_cons_self ..)
    have hr : ∀ s ∈ l, okS s := fun s hs => h s (List.mem_cons_of_mem _ hs)
    unfold okS at hx ht
    split at hs
    · rcases List.mem_cons.1 hs with rfl | hs
      · exact ht
      · exact putS_ok l x hl.2.2 hx hr s hs
    · split at hs
      · exact putS_ok l _ hl.2.2 (by unfold okS; simp only; omega) hr s hs
      · rcases List.mem_cons.1 hs with rfl | hs
        · exact hx
        · exact h s hs
def rawS (L : List Sp) : List Sp := L.foldl putS []
theorem rawS_spec : ∀ (L l : List Sp), Nf l → (∀ s ∈ l, okS s) → (∀ s ∈ L, okS s) →
    Nf (L.foldl putS l) ∧ (∀ s ∈ L.foldl putS l, okS s) ∧ (∀ n, (L.foldl putS l).any (inS n) = (l.any (inS n) || L.any (inS n))) ∧ (L.foldl putS l).length ≤ l.length + L.length
  | [], l, h1, h2, _ => ⟨h1, h2, fun n => by simp, by simp⟩
  | x :: L, l, h1, h2, h3 => by
    have hx := h3 x (List.mem_cons_self ..)
    obtain ⟨g1, g2, g3, g4⟩ := rawS_spec L (putS l x) (putS_nf l x h1 hx.2.1) (putS_ok l x h1 hx h2) (fun s hs => h3 s (List.mem_cons_of_mem _ hs))
    refine ⟨g1, g2, fun n => ?_, ?_⟩
    · rw [List.foldl_cons, g3 n, putS_any l x h1 hx.2.1, List.any_cons, Bool.or_assoc]
    · have := putS_len l x h1 hx.2.1
      simp only [List.foldl_cons, List.length_cons]; omega
theorem nf_high : ∀ {l : List Sp} {s : Sp}, Nf (s :: l) → ∀ n, n ≤ s.2 + 1 → l.any (inS n) = false := by
  intro l s h n hn
  rw [List.any_eq_false]
  intro t ht
  have := h.2.1 t ht
  rw [inS_iff]; omega
theorem nf_low {l : List Sp} {s : Sp} (h : Nf (s :: l)) {n : Int} (hn : (s :: l).any (inS n) = true) : s.1 ≤ n := by
  have h0 := h.1
  rw [List.any_cons, Bool.or_eq_true] at hn
  rcases hn with hn | hn
  · exact ((inS_iff n s).1 hn).1
  · by_cases c : n ≤ s.2 + 1
    · rw [nf_high h n c] at hn; cases hn
    · omega
/-- rising spans that do not touch are told by their ports -/
theorem nf_eq : ∀ {l l' : List Sp}, Nf l → Nf l' → (∀ n, l.any (inS n) = l'.any (inS n)) → l = l'
  | [], [], _, _, _ => rfl
  | [], s :: l, _, h, e => by
    have := e s.1
    rw [List.any_cons, (inS_iff s.1 s).2 ⟨by omega, h.1⟩] at this
    simp at this
  | s :: l, [], h, _, e => by
    have := e s.1
    rw [List.any_cons, (inS_iff s.1 s).2 ⟨by omega, h.1⟩] at this
    simp at this
  | s :: l, t :: m, h, h', e => by
    have a1 : t.1 ≤ s.1 := nf_low h' (by rw [← e, List.any_cons, (inS_iff s.1 s).2 ⟨by omega, h.1⟩]; rfl)
    have a2 : s.1 ≤ t.1 := nf_low h (by rw [e, List.any_cons, (inS_iff t.1 t).2 ⟨by omega, h'.1⟩]; rfl)
    have hs := h.1
    have ht := h'.1
    have b1 : ¬ s.2 < t.2 := fun c => by
      have := e (s.2 + 1)
      rw [List.any_cons, nf_high h (s.2 + 1) (by omega), List.any_cons, (inS_iff (s.2 + 1) t).2 ⟨by omega, by omega⟩] at this
      have hq : inS (s.2 + 1) s = false := by rw [← Bool.not_eq_true, inS_iff]; omega
      rw [hq] at this; simp at this
    have b2 : ¬ t.2 < s.2 := fun c => by
      have := e (t.2 + 1)
      rw [List.any_cons, List.any_cons, nf_high h' (t.2 + 1) (by omega), (inS_iff (t.2 + 1) s).2 ⟨by omega, by omega⟩] at this
      have hq : inS (t.2 + 1) t = false := by rw [← Bool.not_eq_true, inS_iff]; omega
      rw [hq] at this; simp at this
    have hst : s = t := Prod.ext (by omega) (by omega)
    subst hst
    rw [nf_eq h.2.2 h'.2.2 (fun n => ?_)]
    by_cases c : n ≤ s.2 + 1
    · rw [nf_high h n c, nf_high h' n c]
    · have := e n
      have hq : inS n s = false := by rw [← Bool.not_eq_true, inS_iff]; omega
      rw [List.any_cons, List.any_cons, hq, Bool.false_or, Bool.false_or] at this
      exact this
theorem nf_raw {L : List Sp} (h : Nf L) (hok : ∀ s ∈ L, okS s) : rawS L = L := by
  obtain ⟨g1, g2, g3, g4⟩ := rawS_spec L [] trivial (by simp) hok
  exact nf_eq g1 h (fun n => (g3 n).trans (by simp))
theorem nf_all {L : List Sp} (h : Nf L) (hok : ∀ s ∈ L, okS s) (hm : (0, 65535) ∈ L) : L = [(0, 65535)] := by
  refine nf_eq h (by simp [Nf]) (fun n => ?_)
  rw [Bool.eq_iff_iff, List.any_eq_true]
  simp only [List.any_cons, List.any_nil, Bool.or_false]
  constructor
  · rintro ⟨s, hs, hn⟩
    have := hok s hs
    rw [inS_iff] at hn ⊢
    unfold okS at this
    simp only; omega
  · intro hn
    exact ⟨_, hm, hn⟩
def cleanS (L : List Sp) : List Sp := if checkS L then (if rawS L = [(0, 65535)] then [] else rawS L) else []
def hasS (no : Bool) (L : List Sp) (n : Int) : Bool := checkS L && inS n (0, 65535) && ((L.any (inS n) || L.isEmpty) != no)
/-- how many spans have a port -/
def cov (L : List Sp) (n : Int) : Nat := L.countP (inS n)
/-- how many more spans begin at a port than are over there -/
def tv (L : List Sp) (n : Int) : Int := (L.countP (fun s => decide (s.1 = n)) : Int) - (L.countP (fun s => decide (s.2 + 1 = n)) : Int)
theorem cov_step (L : List Sp) (h : ∀ s ∈ L, okS s) (n : Int) : (cov L n : Int) = (cov L (n - 1) : Int) + tv L n := by
  induction L with
  | nil => rfl
  | cons s L ih =>
    have hs := h s (List.mem_cons_self ..)
    have ih := ih (fun t ht => h t (List.mem_cons_of_mem _ ht))
    unfold okS at hs
    unfold cov tv at *
    simp only [List.countP_cons]
    generalize (List.countP (inS n) L) = a at *
    generalize (List.countP (inS (n - 1)) L) = b at *
    generalize List.countP (fun s => decide (s.fst = n)) L = c at *
    generalize List.countP (fun s => decide (s.snd + 1 = n)) L = d at *
    simp only [inS_iff, decide_eq_true_eq]
    split <;> split <;> split <;> split <;> omega
theorem cov_zero {L : List Sp} {n : Int} : cov L n = 0 ↔ L.any (inS n) = false := by
  unfold cov
  rw [List.countP_eq_zero, List.any_eq_false]
theorem tv_len (L : List Sp) (n : Int) : -(L.length : Int) ≤ tv L n ∧ tv L n ≤ L.length := by
  have h1 := List.countP_le_length (p := fun s : Sp => decide (s.1 = n)) (l := L)
  have h2 := List.countP_le_length (p := fun s : Sp => decide (s.2 + 1 = n)) (l := L)
  unfold tv; omega
theorem cov_len (L : List Sp) (n : Int) : cov L n ≤ L.length := List.countP_le_length
theorem tv_none {L : List Sp} {n : Int} (h : ∀ s ∈ L, s.1 ≠ n ∧ s.2 + 1 ≠ n) : tv L n = 0 := by
  have h1 : L.countP (fun s : Sp => decide (s.1 = n)) = 0 := by
    rw [List.countP_eq_zero]; intro s hs; simpa using (h s hs).1
  have h2 : L.countP (fun s : Sp => decide (s.2 + 1 = n)) = 0 := by
    rw [List.countP_eq_zero]; intro s hs; simpa using (h s hs).2
  unfold tv; rw [h1, h2]; rfl
/-- what is gone through, port by port at which something turns -/
def sweep (t : Int → Int) : List Int → Int → Int → List Sp
  | [], _, _ => []
  | n :: ks, f, o => if o + t n = 0 then ((if o = 0 then n else f), n - 1) :: sweep t ks (if o = 0 then n else f) (o + t n) else sweep t ks (if o = 0 then n else f) (o + t n)
/-- between two ports at which something turns nothing does -/
theorem cov_flat {L : List Sp} (h : ∀ s ∈ L, okS s) (b : Int) : ∀ (k : Nat), (∀ j : Nat, j < k → tv L (b + j) = 0) → cov L (b - 1 + k) = cov L (b - 1)
  | 0, _ => by simp
  | k + 1, hz => by
    have ih := cov_flat h b k (fun j hj => hz j (by omega))
    have h1 := cov_step L h (b + k)
    have h2 := hz k (by omega)
    rw [h2, show b + (k : Int) - 1 = b - 1 + k by omega] at h1
    rw [show b - 1 + ((k + 1 : Nat) : Int) = b + k by omega]
    omega
theorem cov_flat' {L : List Sp} (h : ∀ s ∈ L, okS s) {b n : Int} (hbn : b - 1 ≤ n) (hz : ∀ j, b ≤ j → j ≤ n → tv L j = 0) : cov L n = cov L (b - 1) := by
  have := cov_flat h b (n - (b - 1)).toNat (fun j hj => hz _ (by omega) (by omega))
  rw [show b - 1 + ((n - (b - 1)).toNat : Int) = n by omega] at this
  exact this
theorem cov_far {L : List Sp} (h : ∀ s ∈ L, okS s) {n : Int} (hn : 65535 < n) : cov L n = 0 := by
  rw [cov_zero, List.any_eq_false]
  intro s hs
  have := h s hs
  rw [inS_iff]; unfold okS at this; omega
/-- ports at which something turns, from a port on -/
def Keys (L : List Sp) (b : Int) (ks : List Int) : Prop := ks.Pairwise (· < ·) ∧ (∀ k ∈ ks, b ≤ k ∧ ∃ s ∈ L, s.1 = k ∨ s.2 + 1 = k) ∧ ∀ s ∈ L, (b ≤ s.1 → s.1 ∈ ks) ∧ (b ≤ s.2 + 1 → s.2 + 1 ∈ ks)
theorem sweep_spec {L : List Sp} (h : ∀ s ∈ L, okS s) : ∀ (ks : List Int) (b f o : Int), Keys L b ks → o = cov L (b - 1) → (o ≠ 0 → f < b ∧ ∀ n, f ≤ n → n < b → cov L n ≠ 0) →
    Nf (sweep (tv L) ks f o) ∧ ∀ n, (sweep (tv L) ks f o).any (inS n) = true ↔ (if o = 0 then b ≤ n else f ≤ n) ∧ cov L n ≠ 0 := by
  intro ks
  induction ks with
  | nil =>
    intro b f o ⟨k1, k2, k3⟩ ho hf
    have hz : ∀ j, b ≤ j → tv L j = 0 := fun j hj => tv_none (fun s hs => by
      have := k3 s hs
      exact ⟨fun e => absurd (this.1 (by omega)) List.not_mem_nil, fun e => absurd (this.2 (by omega)) List.not_mem_nil⟩)
    have h0 : cov L (b - 1) = 0 := by
      by_cases c : 65536 < b
      · exact cov_far h (by omega)
      · rw [← cov_flat' h (b := b) (n := 65536) (by omega) (fun j hj _ => hz j hj)]
        exact cov_far h (by omega)
    have ho0 : o = 0 := by omega
    refine ⟨trivial, fun n => ⟨fun e => by simp [sweep] at e, fun ⟨e1, e2⟩ => ?_⟩⟩
    rw [if_pos ho0] at e1
    exact absurd ((cov_flat' h (b := b) (n := n) (by omega) (fun j hj _ => hz j hj)).trans h0) e2
  | cons n ks ih =>
    intro b f o ⟨k1, k2, k3⟩ ho hf
    have hn := k2 n (List.mem_cons_self ..)
    have kk := List.pairwise_cons.1 k1
    have hflat : ∀ m, b - 1 ≤ m → m < n → cov L m = cov L (b - 1) := fun m h1 h2 => cov_flat' h h1 (fun j j1 j2 => tv_none (fun s hs => by
      have := k3 s hs
      refine ⟨fun e => ?_, fun e => ?_⟩
      · rcases List.mem_cons.1 (this.1 (by omega)) with e' | e'
        · omega
        · have := kk.1 _ e'; omega
      · rcases List.mem_cons.1 (this.2 (by omega)) with e' | e'
        · omega
        · have := kk.1 _ e'; omega))
    have hK : Keys L (n + 1) ks := ⟨kk.2, fun k hk => ⟨by have := kk.1 k hk; omega, (k2 k (List.mem_cons_of_mem _ hk)).2⟩, fun s hs => by
      have := k3 s hs
      refine ⟨fun e => ?_, fun e => ?_⟩
      · rcases List.mem_cons.1 (this.1 (by omega)) with e' | e'
        · omega
        · exact e'
      · rcases List.mem_cons.1 (this.2 (by omega)) with e' | e'
        · omega
        · exact e'⟩
    have hbn := hn.1
    have hprev : cov L (n - 1) = cov L (b - 1) := hflat (n - 1) (by omega) (by omega)
    have hon : o + tv L n = cov L n := by have := cov_step L h n; omega
    have hfirst : o = 0 → cov L n ≠ 0 := fun e => by
      have hc : cov L (n - 1) = 0 := by omega
      rw [cov_zero, List.any_eq_false] at hc
      obtain ⟨s, hs, hsk⟩ := hn.2
      have hso := h s hs
      unfold okS at hso
      intro hcn
      rw [cov_zero, List.any_eq_false] at hcn
      have a1 := hc s hs
      have a2 := hcn s hs
      rw [inS_iff] at a1 a2
      omega
    have hrun : ∀ m, (if o = 0 then n else f) ≤ m → m < n + 1 → (m < n → cov L m ≠ 0) := fun m h1 h2 h3 => by
      by_cases e : o = 0
      · rw [if_pos e] at h1; omega
      · rw [if_neg e] at h1
        by_cases c : m < b
        · exact (hf e).2 m h1 c
        · rw [hflat m (by omega) h3]; omega
    have hfn : (if o = 0 then n else f) ≤ n := by
      split
      · omega
      · rename_i e; have := (hf e).1; omega
    have hlo : ∀ m, ((if o = 0 then b ≤ m else f ≤ m) ∧ cov L m ≠ 0) ↔ ((if o = 0 then n else f) ≤ m ∧ cov L m ≠ 0) := fun m => by
      by_cases e : o = 0
      · rw [if_pos e, if_pos e]
        constructor
        · rintro ⟨h1, h2⟩
          refine ⟨?_, h2⟩
          by_cases c : m < n
          · have := hflat m (by omega) c; omega
          · omega
        · rintro ⟨h1, h2⟩; exact ⟨by omega, h2⟩
      · rw [if_neg e, if_neg e]
    rw [sweep]
    by_cases c : o + tv L n = 0
    · rw [if_pos c]
      have hne : o ≠ 0 := fun e => by have := hfirst e; omega
      have hcn : cov L n = 0 := by omega
      obtain ⟨g1, g2⟩ := ih (n + 1) (if o = 0 then n else f) (o + tv L n) hK (by rw [show n + 1 - 1 = n by omega]; exact hon) (fun e => absurd c e)
      simp only [if_neg hne] at g1 g2 hrun hfn ⊢
      have hfb := (hf hne).1
      refine ⟨⟨by show f ≤ n - 1; omega, fun t ht => ?_, g1⟩, fun m => ?_⟩
      · have hx := (g2 t.1).1 (List.any_eq_true.2 ⟨t, ht, (inS_iff _ _).2 ⟨by omega, nf_each g1 t ht⟩⟩)
        rw [if_pos c] at hx
        show n - 1 + 1 < t.1
        omega
      · rw [List.any_cons, Bool.or_eq_true, g2 m, if_pos c, inS_iff]
        simp only
        constructor
        · rintro (⟨h1, h2⟩ | ⟨h1, h2⟩)
          · exact ⟨h1, by have := hrun m h1 (by omega) (by omega); exact this⟩
          · exact ⟨by omega, h2⟩
        · rintro ⟨h1, h2⟩
          by_cases c1 : m ≤ n - 1
          · exact .inl ⟨h1, c1⟩
          · refine .inr ⟨?_, h2⟩
            by_cases c2 : m = n
            · subst c2; exact absurd hcn h2
            · omega
    · rw [if_neg c]
      have hcn : cov L n ≠ 0 := by omega
      obtain ⟨g1, g2⟩ := ih (n + 1) (if o = 0 then n else f) (o + tv L n) hK (by rw [show n + 1 - 1 = n by omega]; exact hon) (fun _ => ⟨by omega, fun m h1 h2 => by
        by_cases c2 : m = n
        · subst c2; exact hcn
        · exact hrun m h1 h2 (by omega)⟩)
      refine ⟨g1, fun m => ?_⟩
      rw [g2 m, if_neg c]
      exact (hlo m).symm
/-- gone through from nothing on it is as put -/
theorem sweep_raw {L : List Sp} (h : ∀ s ∈ L, okS s) (ks : List Int) (hk : Keys L (-1) ks) (f : Int) : sweep (tv L) ks f 0 = rawS L := by
  have h0 : cov L (-1 - 1) = 0 := by
    rw [cov_zero, List.any_eq_false]
    intro s hs
    have := h s hs
    rw [inS_iff]; unfold okS at this; omega
  obtain ⟨g1, g2⟩ := sweep_spec h ks (-1) f 0 hk (by rw [h0]; rfl) (fun e => absurd rfl e)
  obtain ⟨r1, r2, r3, r4⟩ := rawS_spec L [] trivial (by simp) h
  refine nf_eq g1 r1 (fun n => ?_)
  show _ = (L.foldl putS []).any (inS n)
  rw [Bool.eq_iff_iff, g2 n, r3 n, if_pos rfl]
  simp only [List.any_nil, Bool.false_or]
  constructor
  · rintro ⟨_, h2⟩
    have : ¬ L.any (inS n) = false := fun e => h2 (cov_zero.2 e)
    simpa using this
  · intro h2
    refine ⟨?_, fun e => ?_⟩
    · rw [List.any_eq_true] at h2
      obtain ⟨s, hs, hn⟩ := h2
      have := h s hs
      rw [inS_iff] at hn; unfold okS at this; omega
    · rw [cov_zero] at e; rw [e] at h2; cases h2
/-- a span's cells -/
def spC (s : Sp) : List Value := [.int .i64 s.1, .int .i64 s.2]
/-- a set's cells -/
abbrev ptC (no : Bool) (p : Option Addr) (n : Nat) (c : Nat) : Array Value := #[.bool no, .slice p n c]
/-- spans in memory -/
def Spans (w : World) (p : Option Addr) (c : Nat) (L : List Sp) : Prop :=
  L.length ≤ c ∧ (L = [] ∨ ∃ b o, p = some ⟨b, o, none⟩ ∧ b < w.heap.size ∧ ∀ j s, L[j]? = some s → w.cell? ⟨b, o + j * 2, none⟩ = some (.int .i64 s.1) ∧ w.cell? ⟨b, o + j * 2 + 1, none⟩ = some (.int .i64 s.2))
theorem Spans.below {w w' : World} {p : Option Addr} {c : Nat} {L : List Sp} (h : Spans w p c L) (hb : Below w.heap.size w w') : Spans w' p c L := by
  obtain ⟨h1, h2⟩ := h
  refine ⟨h1, ?_⟩
  rcases h2 with h2 | ⟨b, o, h3, h4, h5⟩
  · exact .inl h2
  · refine .inr ⟨b, o, h3, Nat.lt_of_lt_of_le h4 hb.size, fun j n hj => ?_⟩
    obtain ⟨g1, g2⟩ := h5 j n hj
    exact ⟨(hb.cell (p := ⟨b, o + j * 2, none⟩) h4).trans g1, (hb.cell (p := ⟨b, o + j * 2 + 1, none⟩) h4).trans g2⟩
theorem spC_one (L : List Sp) : ∀ u ∈ L.flatMap spC, u.oneCell' = true := by
  intro u hu
  obtain ⟨x, hx, hu⟩ := List.mem_flatMap.1 hu
  simp only [spC, List.mem_cons, List.not_mem_nil, or_false] at hu
  rcases hu with rfl | rfl <;> rfl
theorem spC_at (L : List Sp) (j : Nat) (n : Sp) (h : L[j]? = some n) : (L.flatMap spC)[j * 2]? = some (.int .i64 n.1) ∧ (L.flatMap spC)[j * 2 + 1]? = some (.int .i64 n.2) := by
  induction L generalizing j with
  | nil => cases h
  | cons x L ih =>
    cases j with
    | zero =>
      simp at h
      subst h
      exact ⟨rfl, rfl⟩
    | succ j =>
      have h' : L[j]? = some n := by simpa using h
      obtain ⟨h1, h2⟩ := ih j h'
      rw [List.flatMap_cons, show (j + 1) * 2 = j * 2 + 1 + 1 by omega]
      exact ⟨h1, h2⟩
theorem row_spans {x : World} {base : Nat} {e : TypeId} {v : Value} {R : List Sp} (h : x.ownsRow base e 2 v R.length (R.flatMap spC)) : ∃ p c, v = .slice p R.length c ∧ Spans x p c R := by
  rcases h.2 with ⟨h1, h2⟩ | ⟨g, cap, cur, h1, h2, h3, h4, h5⟩
  · exact ⟨none, 0, by rw [h1, h2], by omega, .inl (List.eq_nil_of_length_eq_zero h2)⟩
  · refine ⟨_, _, h1, h4, .inr ⟨g, 0, rfl, (Array.getElem?_eq_some_iff.1 h3).1, fun j n hj => ?_⟩⟩
    obtain ⟨k1, k2⟩ := spC_at R j n hj
    have hc := h.cells (show v.ownBlock = some g by rw [h1]; rfl)
    have e1 : ∀ q, (⟨g, 0, none⟩ : Addr).add q = ⟨g, q, none⟩ := fun q => by
      rcases Nat.eq_zero_or_pos q with e | e
      · subst e; simp [Addr.add]
      · simp [Addr.add, Nat.ne_of_gt e]
    have g1 := hc _ _ k1
    have g2 := hc _ _ k2
    rw [e1] at g1 g2
    rw [Nat.zero_add]
    exact ⟨g1, g2⟩
end Go.Proofs.YtgiecmgopibcnaaDoor
