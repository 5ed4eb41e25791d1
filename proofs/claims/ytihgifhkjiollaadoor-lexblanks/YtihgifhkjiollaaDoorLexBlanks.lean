/- LexBlanks: for any text, lines ahead that say nothing and a line behind turn nothing but the tokens' lines; no condition. -/
import Derived.Test.YtihgifhkjiollaaDoorLxCat
import Derived.Test.YtihgifhkjiollaaDoorLxAw
import Derived.Test.YtihgifhkjiollaaDoorLift
import Derived.Test.YtihgifhkjiollaaDoorTie
import Derived.Test.YtihgifhkjiollaaDoorCards
import Derived.LaidMore
import Derived.Lay
import Derived.SevenTiedAt
import Derived.Stop.Joined
namespace Go.Proofs.YtihgifhkjiollaaDoor.lexBlanks
open Go.ChangeShapes Go.WideShapes Go.ChangeAt Go.RowKit
open Go.ChangeMaps (open_string shut_string)
set_option linter.unusedVariables false
set_option maxRecDepth 20000

def ofL (l : List UInt8) : ByteArray := ⟨l.toArray⟩
theorem ofL_app (a : List UInt8) (b : ByteArray) : ofL a ++ b = ofL (a ++ b.data.toList) := by
  apply ByteArray.ext
  simp [ofL]
theorem ofL_of (s : ByteArray) : s = ofL s.data.toList := by
  cases s; simp [ofL]
theorem ofL_data (l : List UInt8) : (ofL l).data.toList = l := by simp [ofL]
theorem ofL_size (l : List UInt8) : (ofL l).size = l.length := by show l.toArray.size = _; simp
theorem one_elem (i N : Nat) (ts : List Lx.Tok) (h : i < ts.length) (o : Nat) (ho : o < 4) : (ts.flatMap tokL)[i * 4 + o]? = (tokL ts[i])[o]? := by
  induction ts generalizing i with
  | nil => simp at h
  | cons t ts ih =>
    cases i with
    | zero =>
      rw [List.flatMap_cons, Nat.zero_mul, Nat.zero_add, List.getElem?_append_left (by simp [tokL]; omega)]
      rfl
    | succ i =>
      have h' : i < ts.length := by simpa using h
      rw [List.flatMap_cons, List.getElem?_append_right (by simp [tokL]; omega)]
      have e : (i + 1) * 4 + o - (tokL t).length = i * 4 + o := by simp [tokL]; omega
      rw [e, ih i h']
      rfl
theorem bel_drewN {B : Nat} {a w : World} (h : Below B a w) (q : Nat) : Below B a (w.drewN q) := ⟨h.os, h.tape, h.output, h.size, h.block⟩
theorem own_max {e : TypeId} {w : World} {base : Nat} {v : Value} {ts : List Lx.Tok} (h : OwnT e w base v ts) : ts.length ≤ maxLen := by
  unfold OwnT at h
  rcases h.2 with ⟨rfl, hn⟩ | ⟨g, cap, cur, rfl, _, _, h1, h2, _⟩
  · rw [hn]; exact Nat.zero_le _
  · omega
/-- what is asked of the loop that holds the two lists side by side -/
theorem elem_cells {e : TypeId} {w w' : World} {base : Nat} {v : Value} {ts : List Lx.Tok} (h : OwnT e w base v ts) (hb : Below w.heap.size w w') (hne : ts ≠ []) : ∃ g c, v = .slice (some ⟨g, 0, none⟩) ts.length c ∧ Hid (∀ i, (hi : i < ts.length) → w'.cell? ⟨g, i * 4, none⟩ = some (.int .i64 ts[i].kind) ∧ w'.cell? ⟨g, i * 4 + 1, none⟩ = some (.string ⟨ts[i].s.toArray⟩) ∧ w'.cell? ⟨g, i * 4 + 2, none⟩ = some (.int .i64 ts[i].n) ∧ w'.cell? ⟨g, i * 4 + 3, none⟩ = some (.int .i64 ts[i].line)) := by
  obtain ⟨g, c, rfl, hg, hc⟩ := h.at hne
  refine ⟨g, c, rfl, fun i hi => ?_⟩
  have hlt : g < w.heap.size := ((World.ownsRow.lt h) g rfl).2
  have key : ∀ o, o < 4 → w'.cell? ⟨g, i * 4 + o, none⟩ = (tokL ts[i])[o]? := fun o ho => by
    rw [hb.cell (p := ⟨g, i * 4 + o, none⟩) hlt, hc (i * 4 + o) (by omega), one_elem i 0 ts hi o ho]
  exact ⟨key 0 (by omega), key 1 (by omega), key 2 (by omega), key 3 (by omega)⟩
theorem pick0 (u : World) : (Instr.index 35 (.agg #[.string ⟨#[10]⟩, .string ⟨#[32, 13, 10]⟩, .string ⟨#[35, 32, 119, 111, 114, 100, 115, 32, 34, 32, 36, 10]⟩]) (.int .i64 0)).run Tryd.prog u = .ok (.string ⟨#[10]⟩) u := by kernel_rfl
theorem pick1 (u : World) : (Instr.index 35 (.agg #[.string ⟨#[10]⟩, .string ⟨#[32, 13, 10]⟩, .string ⟨#[35, 32, 119, 111, 114, 100, 115, 32, 34, 32, 36, 10]⟩]) (.int .i64 1)).run Tryd.prog u = .ok (.string ⟨#[32, 13, 10]⟩) u := by kernel_rfl
theorem pick2 (u : World) : (Instr.index 35 (.agg #[.string ⟨#[10]⟩, .string ⟨#[32, 13, 10]⟩, .string ⟨#[35, 32, 119, 111, 114, 100, 115, 32, 34, 32, 36, 10]⟩]) (.int .i64 2)).run Tryd.prog u = .ok (.string ⟨#[35, 32, 119, 111, 114, 100, 115, 32, 34, 32, 36, 10]⟩) u := by kernel_rfl
/-- which line, by a number: what the array gives -/
structure Line (k : Int) (M : ByteArray) (m : List UInt8) : Prop where
  is : m = M.data.toList
  len : m.length ≤ 12
  mute : Mute m
  pick : ∀ u, (Instr.index 35 (.agg #[.string ⟨#[10]⟩, .string ⟨#[32, 13, 10]⟩, .string ⟨#[35, 32, 119, 111, 114, 100, 115, 32, 34, 32, 36, 10]⟩]) (.int .i64 k)).run Tryd.prog u = .ok (.string M) u
theorem line_of (v : Int) : ∃ M m, Line (v % 3) M m := by
  have h : v % 3 = 0 ∨ v % 3 = 1 ∨ v % 3 = 2 := by omega
  rcases h with h | h | h <;> rw [h]
  · exact ⟨_, _, rfl, by decide, mute1, pick0⟩
  · exact ⟨_, _, rfl, by decide, mute2, pick1⟩
  · exact ⟨_, _, rfl, by decide, mute3, pick2⟩
theorem lexL_bound : ∀ (l : List UInt8) (line : Int), (∀ ts, lexL l line = .ok ts → ∀ t ∈ ts, line ≤ t.line ∧ t.line ≤ line + l.length) ∧ (∀ q, lexL l line = .error q → line ≤ q ∧ q ≤ line + l.length) := by
  intro l
  induction l using lex_ind with
  | h0 =>
    intro line
    rw [lexL_nil]
    exact ⟨fun ts h t ht => by cases h; simp at ht, fun q h => by cases h⟩
  | h c l ih =>
    intro line
    have key : ∀ (n : Nat) (ln : Int), n ≤ l.length → line ≤ ln → ln ≤ line + 1 → (∀ ts, lexL (l.drop n) ln = .ok ts → ∀ t ∈ ts, line ≤ t.line ∧ t.line ≤ line + (c :: l).length) ∧ (∀ q, lexL (l.drop n) ln = .error q → line ≤ q ∧ q ≤ line + (c :: l).length) := by
      intro n ln hn h1 h2
      obtain ⟨a, b⟩ := ih n hn ln
      rw [List.length_drop] at a b
      exact ⟨fun ts h t ht => by have := a ts h t ht; simp only [List.length_cons]; omega, fun q h => by have := b q h; simp only [List.length_cons]; omega⟩
    have k0 := fun ln => key 0 ln (Nat.zero_le _)
    simp only [List.drop_zero] at k0
    by_cases h1 : c.toNat = 10
    · rw [lexL_line _ _ _ h1]
      exact k0 _ (by omega) (by omega)
    · cases h2 : Lx.bt Lx.blank c with
      | true =>
        rw [lexL_blank _ _ _ h1 h2]
        exact k0 _ (by omega) (by omega)
      | false =>
        by_cases h3 : c.toNat = 35
        · rw [lexL_rem _ _ _ h3]
          exact key _ _ (Lx.front_le _ _) (by omega) (by omega)
        · by_cases h4 : (Lx.one (c :: l)).2 = 0
          · rw [lexL_bad _ _ _ h1 h2 h3 h4]
            exact ⟨fun ts h => (by cases h), fun q h => (by cases h; simp only [List.length_cons]; omega)⟩
          · have hle := one_fits (c :: l)
            obtain ⟨m, hm⟩ : ∃ m, (Lx.one (c :: l)).2 = m + 1 := ⟨(Lx.one (c :: l)).2 - 1, by omega⟩
            rw [lexL_tok _ _ _ h1 h2 h3 h4, hm, List.drop_succ_cons]
            rw [hm, List.length_cons] at hle
            obtain ⟨a, b⟩ := key m line (by omega) (by omega) (by omega)
            cases hr : lexL (l.drop m) line with
            | ok ts =>
              refine ⟨fun ts' h t ht => ?_, fun q h => by cases h⟩
              cases h
              rcases List.mem_append.1 ht with ht | ht
              · simp at ht
                subst ht
                show line ≤ line ∧ line ≤ _
                simp only [List.length_cons]
                omega
              · exact a ts hr t ht
            | error q =>
              refine ⟨fun ts' h => (by cases h), fun q' h => ?_⟩
              cases h
              exact b q hr
set_option maxHeartbeats 1000000 in
theorem walk1 (s : ByteArray) (ws : ¬ 3000 < s.size) (lines which : Int) (n : Nat) (hn : lines % 5 = (n : Int)) (hn4 : n ≤ 4) (w : World) (k : Int) (hk : which % 3 = k) (M : ByteArray) (m : List UInt8) (hM : Line k M m) :
    Calls Tryd.prog 4 #[.string s, .int .i64 lines, .int .i64 which] w fun e w' => e = .returned (.bool true) ∧ Below w.heap.size w w' := by
  have c1 := fun u => lexAll_any s u (by unfold maxLen; omega)
  obtain ⟨P, hP⟩ : ∃ P, Lx.allP s.data.toList = P := ⟨_, rfl⟩
  rw [hP] at c1
  have HP : Hid (Lx.allP s.data.toList = P) := hP
  clear hP
  have p1 := fun u => place_any lines 5 u (by omega) (by omega)
  have p2 := fun u => place_any which 3 u (by omega) (by omega)
  rw [hn] at p1
  rw [hk] at p2
  have pk := hM.pick
  have hs' : ¬ (3000 < (s.size : Int)) := by omega
  clear hn hk
  have hnb : (n : Int) ≤ 4 := by omega
  go_enter Tryd.func4, Tryd.ntmps4
  go_wp2_with (first
    | (go_at_call 8; go_must (refine (c1 _).mono ?_; rintro e w1 ⟨⟨v1, rfl, ho1⟩, hb1⟩))
    | (go_at_call_of 11 lines; refine (p1 _).mono ?_; rintro e w2 ⟨rfl, rfl⟩)
    | (go_at_call_of 11 which; refine (p2 _).mono ?_; rintro e w2 ⟨rfl, rfl⟩))
  have HB1 : Hid (Below w.heap.size w w1) := hb1
  have HO1 : Hid (OwnT 30 w1 w.heap.size v1 P.l) := ho1
  clear hb1 ho1 c1 p1 p2 pk
  go_loopg [12, 13] n (fun gk tv iv wx => wx = w1 ∧ ∃ j : Nat, tv = .string (ofL (reps m j)) ∧ iv = .int .i64 (j : Int) ∧ n = j + gk)
  case atStart => exact ⟨rfl, 0, rfl, rfl, by omega⟩
  case round =>
    obtain ⟨rfl, j, rfl, rfl, hj⟩ := hrel
    by_cases hlt : j < n
    · obtain ⟨g', rfl⟩ : ∃ g', gk = g' + 1 := ⟨gk - 1, by omega⟩
      have hlt' : (j : Int) < (n : Int) := by omega
      have hap : ofL (reps m j) ++ M = ofL (reps m (j + 1)) := by rw [ofL_app, ← hM.is]; rfl
      have hjb : (j : Int) ≤ 3 := by omega
      have hz1 : ((ofL (reps m j)).size : Int) ≤ 100 := by
        have h1 := reps_len m j
        have h2 := hM.len
        have h3 := ofL_size (reps m j)
        have h4 : j * m.length ≤ 4 * 12 := Nat.mul_le_mul (by omega) h2
        omega
      have hz2 : (M.size : Int) ≤ 12 := by
        have h2 := hM.len
        rw [hM.is] at h2
        have : M.data.toList.length = M.size := by simp
        omega
      go_wp2
      go_roundg g'
      case measure => omega
      case rel => exact ⟨rfl, j + 1, rfl, by go_num, by omega⟩
    · obtain rfl : j = n := by omega
      clear hj
      have HM := hM.mute
      obtain ⟨T, hT⟩ : ∃ T, reps m j = T := ⟨_, rfl⟩
      have hTl : T.length ≤ 48 := by
        rw [← hT, reps_len]
        exact Nat.mul_le_mul hn4 hM.len
      obtain ⟨TB, hTB⟩ : ∃ TB, ofL T = TB := ⟨_, rfl⟩
      have hz1 : (TB.size : Int) ≤ 48 := by
        have := ofL_size T
        rw [← hTB]
        omega
      obtain ⟨B, hB⟩ : ∃ B, TB ++ s ++ ⟨#[10]⟩ ++ TB ++ ⟨#[35]⟩ = B := ⟨_, rfl⟩
      have hBd : B.data.toList = T ++ s.data.toList ++ [10] ++ T ++ [35] := by rw [← hB, ← hTB]; simp [ofL]
      have hlen : s.data.toList.length = s.size := by simp
      have hall := blanks_all HM j s.data.toList (by omega) (by rw [hT]; simp only [List.length_append, List.length_singleton]; omega)
      rw [hT, ← hBd] at hall
      have c2 := fun u => lexAll_any B u (by
        have : B.data.toList.length = B.size := by simp
        rw [hBd] at this
        simp only [List.length_append, List.length_singleton] at this
        unfold maxLen
        omega)
      obtain ⟨ha1, ha2⟩ := hall
      rw [ha1] at c2
      have hPR : P = Lx.ansOf (lexL s.data.toList 1) := by rw [← HP.out, ha2]
      have hTT : ofL (reps m j) = TB := by rw [hT, hTB]
      have hbd := lexL_bound s.data.toList 1
      rw [hlen] at hbd
      clear ha1 ha2 hBd hTB hT HP HM hTl
      obtain ⟨R, hR⟩ : ∃ R, lexL s.data.toList 1 = R := ⟨_, rfl⟩
      rw [hR] at c2 hPR hbd
      clear hR
      cases R with
      | error q =>
        obtain ⟨hq1, hq2⟩ := hbd.2 q rfl
        subst hPR
        simp only [shift, Lx.ansOf] at c2 HO1 ⊢
        obtain ⟨qn, hqn⟩ : ∃ qn, q + (j : Int) = qn := ⟨_, rfl⟩
        rw [hqn] at c2
        have hqb : -10 ≤ qn ∧ qn ≤ 10000 := by omega
        obtain ⟨hqb1, hqb2⟩ := hqb
        clear hbd hM hlen
        have cA := fun u => awake_any u
        go_wp2_with (first
          | (go_at_call 8; go_must (refine (c2 _).mono ?_; rintro e w2 ⟨⟨v2, rfl, ho2⟩, hb2⟩; obtain ⟨p2, cc2, rfl⟩ := ho2.form))
          | (go_at_call 10; go_must (refine (cA _).mono ?_; rintro e w3 ⟨rfl, hb3⟩)))
        go_ret
        exact ⟨rfl, below_after (below_after HB1.out hb2) hb3⟩
      | ok ts =>
        subst hPR
        simp only [shift, Lx.ansOf] at c2 HO1 ⊢
        have hline : Hid (∀ i, (h : i < ts.length) → 1 ≤ ts[i].line ∧ ts[i].line ≤ 3001) := fun i h => by
          have := hbd.1 ts rfl ts[i] (List.getElem_mem _)
          omega
        clear hbd hM hlen
        go_wp2_with (first
          | (go_at_call 8; go_must (refine (c2 _).mono ?_; rintro e w2 ⟨⟨v2, rfl, ho2⟩, hb2⟩; obtain ⟨p1, cc1, rfl⟩ := HO1.out.form; obtain ⟨p2, cc2, rfl⟩ := ho2.form)))
        obtain ⟨wo, hwo⟩ : ∃ wo, wo = w2 := ⟨_, rfl⟩
        subst hwo
        obtain ⟨wq, hwq⟩ : ∃ wq, wq = wr := ⟨_, rfl⟩
        subst hwq
        have cA := fun u => awake_any u
        have HB2 : Hid (Below wq.heap.size wq wo) := hb2
        have HO2 : Hid (OwnT 30 wo wq.heap.size (.slice p2 (ts.map fun t => t.at (t.line + (j : Int))).length cc2) (ts.map fun t => t.at (t.line + (j : Int)))) := ho2
        clear hb2 ho2 c2 hz1 hB hTT hlt
        go_loopg [17] ts.length (fun gk iv wx => Below wo.heap.size wo wx ∧ ∃ i : Nat, iv = .int .i64 (i : Int) ∧ ts.length = i + gk)
        case atStart => exact ⟨Below.refl _ _, 0, by first | rfl | (go_num), by omega⟩
        case round =>
          obtain ⟨hbx, i, rfl, hi⟩ := hrel
          by_cases hlt : i < ts.length
          · obtain ⟨g', rfl⟩ : ∃ g', gk = g' + 1 := ⟨gk - 1, by omega⟩
            have hne : ts ≠ [] := fun h => by rw [h] at hlt; simp at hlt
            have hne2 : (ts.map fun t => t.at (t.line + (j : Int))) ≠ [] := fun h => hne (List.map_eq_nil_iff.1 h)
            obtain ⟨g1, e1, hv1, hc1⟩ := elem_cells HO1.out (HB2.out.trans (hbx.mono HB2.out.size)) hne
            obtain ⟨g2, e2, hv2, hc2⟩ := elem_cells HO2.out hbx hne2
            obtain ⟨rfl, rfl⟩ : p1 = some ⟨g1, 0, none⟩ ∧ cc1 = e1 := by injection hv1 with h1 h2 h3; exact ⟨h1, h3⟩
            obtain ⟨rfl, rfl⟩ : p2 = some ⟨g2, 0, none⟩ ∧ cc2 = e2 := by injection hv2 with h1 h2 h3; exact ⟨h1, h3⟩
            obtain ⟨a0, a1, a2, a3⟩ := hc1.out i hlt
            obtain ⟨b0, b1, b2, b3⟩ := hc2.out i (by rw [List.length_map]; exact hlt)
            rw [List.getElem_map] at b0 b1 b2 b3
            obtain ⟨hl1, hl2⟩ := hline.out i hlt
            obtain ⟨t, ht⟩ : ∃ t, ts[i] = t := ⟨_, rfl⟩
            rw [ht] at a0 a1 a2 a3 b0 b1 b2 b3 hl1 hl2
            obtain ⟨tk, tsx, tn, tl⟩ := t
            obtain ⟨tl2, htl2⟩ : ∃ l, tl + (j : Int) = l := ⟨_, rfl⟩
            simp only [Lx.Tok.at] at a0 a1 a2 a3 b0 b1 b2 b3 hl1 hl2
            rw [htl2] at b3
            have hb2' : tl2 ≤ 3005 ∧ 1 ≤ tl2 := by omega
            obtain ⟨hb3, hb4⟩ := hb2'
            have HI : Hid (ts.length = i + (g' + 1)) := hi
            have hltI : (i : Int) < (ts.length : Int) := by omega
            have HX : Hid (Below wo.heap.size wo wr) := hbx
            have hib : (i : Int) + 1 ≤ 9223372036854775807 := by have := own_max HO1.out; unfold maxLen at this; omega
            clear hv1 hv2 hc1 hc2 ht hi hbx hne hne2
            go_wp2
            go_quiet (fail)
            go_wp2
            go_roundg g'
            case measure => omega
            case rel => exact ⟨bel_drewN HX.out _, i + 1, by go_num, by have := HI.out; omega⟩
          · have hltI : ¬ ((i : Int) < (ts.length : Int)) := by omega
            clear hi
            go_wp2_with (go_at_call 10; go_must (refine (cA _).mono ?_; rintro e w3 ⟨rfl, hb3⟩))
            go_ret
            exact ⟨rfl, below_after (below_after HB1.out (below_after HB2.out hbx)) hb3⟩
theorem walk (s : ByteArray) (ws : s.size ≤ maxLen) (lines : Int) (wl : (Lit.int .i64 lines).wf = true) (which : Int) (wh : (Lit.int .i64 which).wf = true) (w : World) :
    Calls Tryd.prog 4 #[.string s, .int .i64 lines, .int .i64 which] w fun e w' => e = .returned (.bool true) ∧ Below w.heap.size w w' := by
  by_cases hs : 3000 < s.size
  · have hs' : 3000 < (s.size : Int) := by omega
    have cA := fun u => awake_any u
    go_enter Tryd.func4, Tryd.ntmps4
    go_wp2_with (go_at_call 10; go_must (refine (cA _).mono ?_; rintro e w3 ⟨rfl, hb3⟩))
    go_ret
    exact ⟨rfl, hb3⟩
  · obtain ⟨M, m, hM⟩ := line_of which
    obtain ⟨n, hn⟩ : ∃ n : Nat, lines % 5 = (n : Int) := ⟨(lines % 5).toNat, by omega⟩
    exact walk1 s hs lines which n hn (by omega) w _ rfl M m hM
/-! ### THE ROW's STEP: variables laid, a tied card -/
set_option maxRecDepth 100000 in
theorem lifted (os : Os) (started : os.Started) (H : Type) (enc : TypeId × Value → H) :
    ReturnsInHanded {} Tryd.checked os 4 .any (fun w args => (Rows.lexBlanksSpec.pre enc Tryd.prog Tryd.f4 Rows.lexBlanksRow.domain false w args ∧ laidMetH Tryd.prog Rows.lexBlanksRow.laid w) ∧ sizedMet enc Tryd.prog Tryd.f4 (OpenSpec.ofChange Rows.lexBlanksSpec) false w args)
      (Rows.lexBlanksSpec.post enc Tryd.prog Tryd.f4 false true false false) := by
  refine returnsInHanded_of_change_and (C := Tryd.checked) (X := fun w _ => laidMetH Tryd.prog Rows.lexBlanksRow.laid w) (fun _ _ _ hh h => h.of_heap hh) own started (by kernel_rfl) Tryd.func4
    (ChangeSpec.witness_shaped (enc := enc) (C := Tryd.checked) (os := os) (X := fun w _ => laidMetH Tryd.prog Rows.lexBlanksRow.laid w) false (World.laidAll Tryd.prog os Rows.lexBlanksRow.laid) #[.string ByteArray.empty, .int .i64 0, .int .i64 0] 8 (World.laidAll_os _ _ _)
      (World.shaped_of_ZipB (by kernel_rfl) (by kernel_rfl)) (by kernel_rfl) (by kernel_rfl) (by kernel_rfl)
      (by rw [MakeChecks.laidMetH_plain _ _ _ (by kernel_rfl)]; exact laidMet_laidAll _ (by kernel_rfl) (by kernel_rfl))) ?_
  intro W base args ds gs before hval0 hW _ _ hL _
  have hval : ∀ (j : Nat) t v, Tryd.f4.params[j]? = some t → args[j]? = some v → Value.okWide Tryd.prog W .any base t v := hval0
  have hW' := hW
  obtain ⟨p, q, hA0, hV, rfl, hfz, hnd⟩ := hW
  have hA : DataW.TrodAll enc Tryd.prog W 0 (fun _ => true) true Tryd.f4.params.toList args.toList ds p := hA0
  have hB := fun (W' : World) (bel : Below W.heap.size W W') => below_trodAll_of laidOut bel _ (by kernel_rfl) hA
  rw [Tryd.params4] at hA hval
  obtain ⟨v0, vs0, d0, ds0, p0, q0, hargs, rfl, rfl, h0, r0⟩ := trodAll_cons hA
  obtain ⟨v1, vs1, d1, ds1, p1, q1, rfl, rfl, rfl, h1, r1⟩ := trodAll_cons r0
  obtain ⟨v2, vs2, d2, ds2, p2, q2, rfl, rfl, rfl, h2, r2⟩ := trodAll_cons r1
  obtain ⟨rfl, rfl, rfl⟩ := trodAll_nil r2
  obtain rfl : args = #[v0, v1, v2] := by cases args; simp_all
  obtain ⟨rfl, rfl⟩ := trodVars_none hV
  obtain ⟨a0, rfl, rfl, rfl, w0⟩ := open_string Tryd.underlying9 (hval 0 9 v0 rfl rfl) h0
  obtain ⟨a1, rfl, rfl, rfl, w1⟩ := open_int Tryd.underlying3 (hval 1 3 v1 rfl rfl) h1
  obtain ⟨a2, rfl, rfl, rfl, w2⟩ := open_int Tryd.underlying3 (hval 2 3 v2 rfl rfl) h2
  clear hA0 hval0
  refine (walk a0 w0 a1 w1 a2 w2 W).mono fun e W' ⟨he, bel⟩ => ?_
  subst he
  exact ⟨_, rfl, _, _, _, [], _, [], hW', trodAll_mk1 (shut_bool Tryd.underlying4 _), hB W' bel, rfl, bel.frame _, fun h => by cases h⟩

theorem over : Rows.LexBlanksSaid :=
  OpenClaim.holds_of_wide 4 Tryd.f4 rfl rfl rfl rfl rfl rfl rfl ⟨rfl, rfl, rfl, rfl, rfl⟩ rfl rfl rfl rfl rfl (by kernel_rfl) Tryd.func4 (by kernel_rfl)
    (of_decide_eq_true (by kernel_rfl)) (by unfold Func.isWrapper; first | (rw [if_pos (by decide +kernel)]; kernel_rfl) | (rw [if_neg (by decide +kernel)]; exact ⟨rfl, rfl⟩))
    (fun os started H enc _ => lifted os started H enc)

/-- THE STATEMENT: the card -/
theorem proved : Rows.LexBlanksCardSaid :=
  Claim7.holds_tied_plain_at .later [] [.data, .pinned] true (true, "3e81c1bc683b3bdff90136a3b9451abcfa47785cfadcb66dfc063d9bc2a3244d") false over (fun _ h => by cases h) (by kernel_rfl) (fun _ h => by cases h) lexBlanks_row_tie rfl ⟨rfl, rfl⟩ (by kernel_rfl) rfl
    (fun f fn hf hfn => by
      obtain rfl : f = 4 := Option.some.inj ((show Tryd.prog.funcNamed "rampart/rampartlaw08.LexBlanks" = some 4 by kernel_rfl).symm.trans hf) |>.symm
      obtain rfl : fn = Tryd.f4 := (Option.some.inj (Tryd.func4.symm.trans hfn)).symm
      exact ⟨by kernel_rfl, fun j t ht => by
        rw [Tryd.params4] at ht
        have hm : t ∈ [9, 3, 3] := by simpa using Array.mem_of_getElem? ht
        have hall : ([9, 3, 3].all fun u => !Tryd.prog.wantsStandIn u) = true := by kernel_rfl
        exact (show Tryd.prog.wantsStandIn t = false by simpa using List.all_eq_true.1 hall t hm)⟩)
    (by kernel_rfl)
#print axioms proved
end Go.Proofs.YtihgifhkjiollaaDoor.lexBlanks
