/- DefragBounds: for any bounds and numbers, there are never more entries than may be; one more is refused until one is whole or over; no condition. -/
import Derived.Test.YtkfgapljphhmcaaDfw
import Derived.Test.YtkfgapljphhmcaaLift
namespace Go.Proofs.Ytkfgapljphhmcaa.defragBounds
open Go.ChangeShapes Go.WideShapes Go.ChangeAt Go.RowKit Go.Maps
set_option linter.unusedVariables false
set_option maxRecDepth 20000

def s8 : ByteArray := ⟨#[49, 50, 51, 52, 53, 54, 55, 56]⟩
def sx : ByteArray := ⟨#[120]⟩
def s8x : ByteArray := ⟨#[49, 50, 51, 52, 53, 54, 55, 56, 120]⟩
theorem ipN_ok (id off : Int) (more : Bool) (h : 0 ≤ id ∧ id ≤ 1000) : (ipN id off more).ok := ⟨⟨by show (-9223372036854775808 : Int) ≤ 0; omega, by show (0 : Int) ≤ 9223372036854775807; omega⟩, ⟨by show (-9223372036854775808 : Int) ≤ id; omega, by show id ≤ (9223372036854775807 : Int); omega⟩⟩
def key (j : Nat) : Lit := nmL (ipN (j : Int) 0 true)
theorem key_ne {i j : Nat} (hi : i ≤ 1000) (hj : j ≤ 1000) (h : i ≠ j) : key i ≠ key j := nm_ne (ipN_ok _ _ _ (by omega)) (ipN_ok _ _ _ (by omega)) (.inr (.inr (.inr (by show (i : Int) ≠ (j : Int); omega))))
def e8 : Ent := Ent.zero.take 0 true s8
/-- the first j entries -/
def Tj : Nat → Tbl
  | 0 => Tbl.none
  | j + 1 => (Tj j).put (key j) e8
theorem Tj_none (j i : Nat) (hj : j ≤ 1000) (hi : i ≤ 1000) (h : j ≤ i) : (Tj j).S (key i) = none := by
  induction j with
  | zero => rfl
  | succ j ih =>
    show (upd (Tj j).S (key j) (some e8)) (key i) = _
    rw [upd_other _ _ _ (key_ne hi (by omega) (by omega)), ih (by omega) (by omega)]
theorem Tj_some (j i : Nat) (hj : j ≤ 1000) (h : i < j) : (Tj j).S (key i) = some e8 := by
  induction j with
  | zero => omega
  | succ j ih =>
    show (upd (Tj j).S (key j) (some e8)) (key i) = _
    by_cases hij : i = j
    · subst hij; rw [upd_same]
    · rw [upd_other _ _ _ (key_ne (by omega) (by omega) hij), ih (by omega) (by omega)]
theorem Tj_or (j : Nat) (kl : Lit) : (Tj j).S kl = none ∨ (Tj j).S kl = some e8 := by
  induction j with
  | zero => exact .inl rfl
  | succ j ih =>
    show (upd (Tj j).S (key j) (some e8)) kl = none ∨ (upd (Tj j).S (key j) (some e8)) kl = _
    by_cases h : kl = key j
    · subst h; rw [upd_same]; exact .inr rfl
    · rw [upd_other _ _ _ h]; exact ih
theorem Tj_n (j : Nat) (hj : j ≤ 1000) : (Tj j).n = j := by
  induction j with
  | zero => rfl
  | succ j ih =>
    show (Tj j).n + (if ((Tj j).S (key j)).isSome then 0 else 1) = j + 1
    rw [ih (by omega), Tj_none j j (by omega) (by omega) (Nat.le_refl _)]
    rfl
theorem add_in (j m : Nat) (hj : j < m) (hm : m ≤ 8) : (Tj j).add (m : Int) (ipN (j : Int) 0 true) s8 = ⟨Tj (j + 1), ⟨#[]⟩, false, 0⟩ := by
  have hS : (Tj j).S (nmL (ipN (j : Int) 0 true)) = none := Tj_none j j (by omega) (by omega) (Nat.le_refl _)
  have hw : (Tj j).with (nmL (ipN (j : Int) 0 true)) (ipN (j : Int) 0 true) s8 = e8 := by unfold Tbl.with; rw [hS]; rfl
  rw [Tbl.add_open _ _ _ _ rfl (fault_ok (by decide) (by show (0 : Int) ≤ 0; decide) (fun _ => by decide) (by show (0 : Int) + _ ≤ 2000; decide) (.inr (by rw [Tj_n j (by omega)]; omega))) (by rw [hw]; decide), hw]
  rfl
theorem add_out (i m : Nat) (hi : m ≤ i) (hi2 : i ≤ 1000) (hm : m ≤ 8) : (Tj m).add (m : Int) (ipN (i : Int) 0 true) s8 = ⟨Tj m, ⟨#[]⟩, false, 10⟩ := by
  have hS : (Tj m).S (nmL (ipN (i : Int) 0 true)) = none := Tj_none m i (by omega) (by omega) hi
  refine Tbl.add_fault _ _ _ _ 10 rfl ?_ (by decide) (by decide)
  unfold faultC
  rw [hS, Tj_n m (by omega), if_neg (by unfold brokenB; simp [ipN]; decide), if_neg (by show ¬ (2000 : Int) - 0 < _; decide), if_pos ⟨rfl, Int.le_refl _⟩]
def Td (m q : Nat) : Tbl := (Tj m).del (key q)
theorem add_end (m q : Nat) (hq : q < m) (hm : m ≤ 8) : (Tj m).add (m : Int) (ipN (q : Int) 8 false) sx = ⟨Td m q, s8x, true, 0⟩ := by
  have hn : nmL (ipN (q : Int) 8 false) = key q := rfl
  have hS : (Tj m).S (key q) = some e8 := Tj_some m q (by omega) hq
  have hw : (Tj m).with (key q) (ipN (q : Int) 8 false) sx = e8.take 8 false sx := by unfold Tbl.with; rw [hS]; rfl
  rw [Tbl.add_whole _ _ _ _ rfl (fault_ok (by decide) (by show (0 : Int) ≤ 8; decide) (fun h => by cases h) (by show (8 : Int) + _ ≤ 2000; decide) (.inl (by rw [hn, hS]; rfl))) (by rw [hn, hw]; decide), hn, hw]
  congr 1
theorem Td_n (m q : Nat) (hq : q < m) (hm : m ≤ 8) : (Td m q).n = m - 1 := by
  show (Tj m).n - (if ((Tj m).S (key q)).isSome then 1 else 0) = m - 1
  rw [Tj_some m q (by omega) hq, Tj_n m (by omega)]
  rfl
theorem Td_S (m q : Nat) (hm : m ≤ 8) (kl : Lit) : (Td m q).S kl = none ∨ (Td m q).S kl = some e8 := by
  show upd (Tj m).S (key q) none kl = none ∨ upd (Tj m).S (key q) none kl = some e8
  by_cases h : kl = key q
  · subst h; rw [upd_same]; exact .inl rfl
  · rw [upd_other _ _ _ h]; exact Tj_or m kl
theorem Td_99 (m q : Nat) (hq : q < m) (hm : m ≤ 8) : (Td m q).S (key 99) = none := by
  show upd (Tj m).S (key q) none (key 99) = none
  rw [upd_other _ _ _ (key_ne (by omega) (by omega) (by omega)), Tj_none m 99 (by omega) (by omega) (by omega)]
theorem card_some {S S' : Lit → Option Ent} {n n' : Nat} (h : Card S n) (h' : Card S' n') (he : ∀ kl, (S kl).isSome = (S' kl).isSome) : n = n' := by
  obtain ⟨a, a1, a2, rfl⟩ := h
  obtain ⟨b, b1, b2, rfl⟩ := h'
  exact List.Perm.length_eq ((List.perm_ext_iff_of_nodup a1 b1).2 (fun x => by rw [a2, b2, he]))
theorem e8_age : e8.age = 0 := by unfold e8; rw [Ent.take_age]; rfl
/-- older by k - 1: all are there -/
theorem tick1 (m q : Nat) (k : Int) (hk : 2 ≤ k ∧ k ≤ 10) (hq : q < m) (hm : m ≤ 8) (T' : Tbl) (hS : T'.S = fun kl => ((Td m q).S kl).bind (Ent.aged (max 0 (min (k - 1) 100000)) k)) (hc : Card T'.S T'.n) (hd : Card (Td m q).S (Td m q).n) :
    T'.n = m - 1 ∧ T'.S (key 99) = none ∧ ∀ kl, T'.S kl = none ∨ T'.S kl = some { e8 with age := k - 1 } := by
  have hk1 : max 0 (min (k - 1) 100000) = k - 1 := by omega
  rw [hk1] at hS
  have hag : Ent.aged (k - 1) k e8 = some { e8 with age := k - 1 } := by
    unfold Ent.aged
    rw [e8_age, if_neg (by omega)]
    simp
  refine ⟨?_, by rw [hS]; show ((Td m q).S (key 99)).bind _ = none; rw [Td_99 m q hq hm]; rfl, fun kl => ?_⟩
  · rw [← Td_n m q hq hm]
    refine card_some hc hd (fun kl => ?_)
    rw [hS]
    show (((Td m q).S kl).bind _).isSome = _
    rcases Td_S m q hm kl with h | h
    · rw [h]; rfl
    · rw [h]; show (Ent.aged (k - 1) k e8).isSome = true; rw [hag]; rfl
  · rw [hS]
    show ((Td m q).S kl).bind _ = none ∨ ((Td m q).S kl).bind _ = _
    rcases Td_S m q hm kl with h | h
    · rw [h]; exact .inl rfl
    · rw [h]; exact .inr hag
theorem add_99 (T' : Tbl) (m : Nat) (hm : 1 ≤ m) (hn : T'.n = m - 1) (h9 : T'.S (key 99) = none) : T'.add (m : Int) (ipN 99 0 true) s8 = ⟨T'.put (key 99) e8, ⟨#[]⟩, false, 0⟩ ∧ (T'.put (key 99) e8).n = m := by
  have hn9 : nmL (ipN 99 0 true) = key 99 := rfl
  have hw : T'.with (key 99) (ipN 99 0 true) s8 = e8 := by unfold Tbl.with; rw [h9]; rfl
  constructor
  · rw [Tbl.add_open _ _ _ _ rfl (fault_ok (by decide) (by decide) (fun _ => by decide) (by decide) (.inr (by rw [hn]; omega))) (by rw [hn9, hw]; decide), hn9, hw]
  · show T'.n + (if (T'.S (key 99)).isSome then 0 else 1) = m
    rw [h9, hn]
    show m - 1 + 1 = m
    omega
theorem e8_th (p : Nat) : e8.th p = decide (p < 8) := by
  unfold e8
  rw [Ent.take_mid _ _ _ _ (fun h => by cases h.1), Ent.layN_th]
  have : Ent.zero.past p = false := rfl
  rw [this]
  have h8 : s8.size = 8 := rfl
  rw [h8]
  show (false || (decide (0 ≤ p ∧ p < 0 + 8) && !false)) = _
  simp
theorem count_of (e : Ent) (l : List Nat) (hnd : l.Nodup) (h : ∀ p, p ∈ l ↔ p < 2000 ∧ e.th p = true) : e.count = l.length := by
  unfold Ent.count
  refine List.Perm.length_eq ((List.perm_ext_iff_of_nodup (List.nodup_range.filter _) hnd).2 (fun p => ?_))
  rw [List.mem_filter, List.mem_range, h]
/-- older by one: that one alone is there -/
theorem tick2 (T' : Tbl) (m : Nat) (k : Int) (hk : 2 ≤ k ∧ k ≤ 10) (hm : 1 ≤ m) (hA : ∀ kl, T'.S kl = none ∨ T'.S kl = some { e8 with age := k - 1 }) (T3 : Tbl) (hS : T3.S = fun kl => ((T'.put (key 99) e8).S kl).bind (Ent.aged (max 0 (min 1 100000)) k)) (hc : Card T3.S T3.n) :
    T3.n = 1 ∧ ∀ n, Sums T3.S n → n = 8 := by
  have h1 : (max 0 (min 1 100000) : Int) = 1 := by decide
  rw [h1] at hS
  have hag : Ent.aged 1 k e8 = some { e8 with age := 1 } := by
    unfold Ent.aged
    rw [e8_age, if_neg (by omega)]
    simp
  have hago : Ent.aged 1 k { e8 with age := k - 1 } = none := by
    unfold Ent.aged
    rw [if_pos (by show k ≤ k - 1 + 1; omega)]
  have h9 : T3.S (key 99) = some { e8 with age := 1 } := by
    rw [hS]
    show ((T'.put (key 99) e8).S (key 99)).bind _ = _
    rw [Tbl.put_S]
    exact hag
  have ho : ∀ kl, kl ≠ key 99 → T3.S kl = none := fun kl hne => by
    rw [hS]
    show ((T'.put (key 99) e8).S kl).bind _ = _
    rw [Tbl.put_other _ _ _ _ hne]
    rcases hA kl with h | h
    · rw [h]; rfl
    · rw [h]; exact hago
  have hks : ∀ kl, kl ∈ [key 99] ↔ (T3.S kl).isSome = true := fun kl => by
    rw [List.mem_singleton]
    constructor
    · intro e; rw [e, h9]; rfl
    · intro e
      by_cases hne : kl = key 99
      · exact hne
      · rw [ho kl hne] at e; cases e
  have hnd : [key 99].Nodup := List.nodup_cons.2 ⟨List.not_mem_nil, List.nodup_nil⟩
  refine ⟨hc.one ⟨[key 99], hnd, hks, rfl⟩, fun n hn => hn.one ⟨[key 99], hnd, hks, ?_⟩⟩
  show ((T3.S (key 99)).map Ent.count).getD 0 + 0 = 8
  rw [h9]
  show Ent.count { e8 with age := 1 } + 0 = 8
  rw [count_of _ (List.range 8) List.nodup_range (fun p => by
    show _ ↔ p < 2000 ∧ e8.th p = true
    rw [e8_th, List.mem_range, decide_eq_true_iff]
    omega)]
  rfl
set_option maxHeartbeats 4000000 in
theorem walk_core (most ticks n : Int) (w : World) (m q : Nat) (k : Int) (m1 : 1 ≤ m) (m2 : m ≤ 8) (k1 : 2 ≤ k) (k2 : k ≤ 10) (hq : q < m) (hm : most % 8 = (m : Int) - 1) (hk : ticks % 9 = k - 2) (hn : n % (m : Int) = (q : Int)) :
    Calls Try.prog 5 #[.int .i64 most, .int .i64 ticks, .int .i64 n] w fun e w' => e = .returned (.bool true) ∧ Below w.heap.size w w' := by
  have hne := held_new (Below.refl w.heap.size w) (m : Int) k
  rw [show max 1 (min (m : Int) 32) = (m : Int) from by omega, show max 1 (min k 100000) = k from by omega] at hne
  have p1 := fun w' => place_any most 8 w' (by omega) (by omega)
  have p2 := fun w' => place_any ticks 9 w' (by omega) (by omega)
  have p3 := fun w' => place_any n (m : Int) w' (by omega) (by omega)
  rw [hm] at p1
  rw [hk] at p2
  rw [hn] at p3
  have e1 : 1 + ((m : Int) - 1) = (m : Int) := by omega
  have e2 : 2 + (k - 2) = k := by omega
  clear hm hk hn
  have P3 := (show Hid _ from p3)
  have Q := (show Hid _ from hq)
  clear p3 hq
  go_enter Try.func5, Try.ntmps5
  go_wp2_with fail
  refine (p1 _).mono ?_
  rintro r w' ⟨rfl, rfl⟩
  go_wp2_with fail
  refine (p2 _).mono ?_
  rintro r w' ⟨rfl, rfl⟩
  clear p1 p2
  go_wp2_with fail
  refine hne.mono ?_
  rintro r w1 ⟨rfl, t1⟩
  clear hne
  have H1 := (show Hid _ from t1)
  generalize w.heap.size + 1 = tb at *
  clear t1
  go_wp2_with fail
  go_loopw [10] (fun t wr => ∃ i : Nat, i ≤ m + 3 ∧ t = .int .i64 (i : Int) ∧ Hid (Held w wr tb (m : Int) k (Tj (min i m)))) (fun t _ => m + 3 - (intOf t).toNat)
  case atStart => exact ⟨0, by omega, rfl, by rw [Nat.zero_min]; exact H1⟩
  case round =>
    obtain ⟨i, hi, rfl, HH⟩ := hrel
    clear H1
    by_cases hlt : i < m + 3
    · by_cases him : i < m
      · rw [Nat.min_eq_left (by omega)] at HH
        have a1 := held_add HH.out (ipN (i : Int) 0 true) (ipN_ok _ _ _ (by omega)) s8 (by decide) (by show (0 : Int) ≤ _; decide) _ (add_in i m him m2)
        clear HH
        go_wp2_with fail
        refine a1.mono ?_
        rintro r w2 ⟨rfl, t2⟩
        clear a1
        have hl := held_len t2
        rw [show (Ans.T ⟨Tj (i + 1), ⟨#[]⟩, false, 0⟩).n = i + 1 from Tj_n (i + 1) (by omega)] at hl
        have H2 := (show Hid _ from t2)
        clear t2
        go_wp2_with fail
        refine hl.mono ?_
        rintro r w' ⟨rfl, rfl⟩
        clear hl
        go_wp2_with fail
        go_roundw
        case rel => exact ⟨i + 1, by omega, by go_num, by rw [Nat.min_eq_left (by omega)]; exact H2⟩
        case measure => simp [intOf]; omega
      · rw [Nat.min_eq_right (by omega)] at HH
        have a1 := held_add HH.out (ipN (i : Int) 0 true) (ipN_ok _ _ _ (by omega)) s8 (by decide) (by show (0 : Int) ≤ _; decide) _ (add_out i m (by omega) (by omega) m2)
        clear HH
        go_wp2_with fail
        refine a1.mono ?_
        rintro r w2 ⟨rfl, t2⟩
        clear a1
        have hl := held_len t2
        rw [show (Ans.T ⟨Tj m, ⟨#[]⟩, false, 10⟩).n = m from Tj_n m (by omega)] at hl
        have H2 := (show Hid _ from t2)
        clear t2
        go_wp2_with fail
        refine hl.mono ?_
        rintro r w' ⟨rfl, rfl⟩
        clear hl
        go_wp2_with fail
        go_roundw
        case rel => exact ⟨i + 1, by omega, by go_num, by rw [Nat.min_eq_right (by omega)]; exact H2⟩
        case measure => simp [intOf]; omega
    · obtain rfl : i = m + 3 := by omega
      rw [Nat.min_eq_right (by omega)] at HH
      have hlq : (q : Int) < (m : Int) := by have := Q.out; omega
      have a1 := held_add HH.out (ipN (q : Int) 8 false) (ipN_ok _ _ _ (by omega)) sx (by decide) (by show (8 : Int) ≤ _; decide) _ (add_end m q Q.out m2)
      clear HH
      go_wp2_with fail
      refine (P3.out _).mono ?_
      rintro r w' ⟨rfl, rfl⟩
      clear P3
      go_wp2_with fail
      refine a1.mono ?_
      rintro r w2 ⟨rfl, t2⟩
      clear a1
      have hl := held_len t2
      rw [show (Ans.T ⟨Td m q, s8x, true, 0⟩).n = m - 1 from Td_n m q Q.out m2, show ((m - 1 : Nat) : Int) = (m : Int) - 1 from by omega] at hl
      have hC := (show Hid _ from t2.card)
      have ht := held_tick t2 (k - 1)
      have ml : Hid ((Td m q).n = m - 1) := Td_n m q Q.out m2
      clear t2
      unfold s8x
      go_wp2_with fail
      refine hl.mono ?_
      rintro r w' ⟨rfl, rfl⟩
      clear hl
      go_wp2_with fail
      refine ht.mono ?_
      rintro r w3 ⟨T', hS', _, rfl, t3⟩
      obtain ⟨g1, g2, g3⟩ := tick1 m q k ⟨k1, k2⟩ Q.out m2 T' hS' t3.card hC.out
      have hz : ((Td m q).n - T'.n : Nat) = 0 := by rw [ml.out, g1]; omega
      rw [show (Ans.T ⟨Td m q, s8x, true, 0⟩).n - T'.n = 0 from hz]
      have hl := held_len t3
      rw [g1, show ((m - 1 : Nat) : Int) = (m : Int) - 1 from by omega] at hl
      obtain ⟨u1, u2⟩ := add_99 T' m m1 g1 g2
      have a4 := held_add t3 (ipN 99 0 true) (ipN_ok _ _ _ (by omega)) s8 (by decide) (by decide) _ u1
      have G3 := (show Hid _ from And.intro g3 u2)
      clear ht hS' hC t3 g1 g2 g3 hz u1 u2 ml
      go_wp2_with fail
      refine hl.mono ?_
      rintro r w' ⟨rfl, rfl⟩
      clear hl
      go_wp2_with fail
      refine a4.mono ?_
      rintro r w4 ⟨rfl, t4⟩
      have ht := held_tick t4 1
      clear a4 t4
      go_wp2_with fail
      refine ht.mono ?_
      rintro r w5 ⟨T3, hS3, _, rfl, t5⟩
      obtain ⟨v1, v2⟩ := tick2 T' m k ⟨k1, k2⟩ m1 G3.out.1 T3 hS3 t5.card
      have hz : (Ans.T ⟨T'.put (key 99) e8, ⟨#[]⟩, false, 0⟩).n - T3.n = m - 1 := by rw [show (Ans.T ⟨T'.put (key 99) e8, ⟨#[]⟩, false, 0⟩).n = m from G3.out.2, v1]
      rw [hz, show ((m - 1 : Nat) : Int) = (m : Int) - 1 from by omega]
      have hl := held_len t5
      rw [v1] at hl
      have hb := held_bytes t5
      have V2 := (show Hid _ from v2)
      clear ht hS3 v1 v2 hz t5 G3
      go_wp2_with fail
      refine hl.mono ?_
      rintro r w' ⟨rfl, rfl⟩
      clear hl
      go_wp2_with fail
      refine hb.mono ?_
      rintro r w6 ⟨nb, rfl, hsum, t6⟩
      obtain rfl : nb = 8 := V2.out nb hsum
      have ha := held_awake t6
      clear hb hsum t6 V2
      go_wp2_with fail
      refine ha.mono ?_
      rintro r w7 ⟨rfl, hb7⟩
      have HB7 := (show Hid _ from hb7)
      clear hb7 ha
      go_wp2
      go_ret
      exact ⟨rfl, HB7.out⟩
theorem walk (most : Int) (x1 : (Lit.int .i64 most).wf = true) (ticks : Int) (x2 : (Lit.int .i64 ticks).wf = true) (n : Int) (x3 : (Lit.int .i64 n).wf = true) (w : World) :
    Calls Try.prog 5 #[.int .i64 most, .int .i64 ticks, .int .i64 n] w fun e w' => e = .returned (.bool true) ∧ Below w.heap.size w w' := by
  obtain ⟨m, hm⟩ : ∃ m : Nat, most % 8 = (m : Int) - 1 := ⟨(most % 8).toNat + 1, by omega⟩
  have hm0 : 0 < (m : Int) := by omega
  have h0 := Int.emod_nonneg n (show (m : Int) ≠ 0 from by omega)
  have h1 := Int.emod_lt_of_pos n hm0
  exact walk_core most ticks n w m (n % (m : Int)).toNat (ticks % 9 + 2) (by omega) (by omega) (by omega) (by omega) (by omega) hm (by omega) (by omega)
/-! ### THE ROW's STEP -/
set_option maxRecDepth 100000 in
theorem lifted (os : Os) (started : os.Started) (H : Type) (enc : TypeId × Value → H) :
    ReturnsInHanded {} Try.checked os 5 .any (Rows.defragBoundsSpec.pre6 enc Try.prog Try.f5 Rows.defragBoundsRow.domain false) (Rows.defragBoundsSpec.post enc Try.prog Try.f5 false true false false) := by
  refine returnsInHanded_of_change (C := Try.checked) own started (by kernel_rfl) Try.func5
    (ChangeSpec.witness6 (enc := enc) (C := Try.checked) false ⟨#[], #[.int .i64 0, .int .i64 0, .int .i64 0], []⟩ 8 (by kernel_rfl) (by kernel_rfl) (by kernel_rfl) (by kernel_rfl)) ?_
  intro W base args ds gs before hval0 hW hcnd _
  have hval : ∀ (j : Nat) t v, Try.f5.params[j]? = some t → args[j]? = some v → Value.okWide Try.prog W .any base t v := hval0
  have hW' := hW
  obtain ⟨p, q, hA0, hV, rfl, hfz, hnd⟩ := hW
  have hA : DataW.TrodAll enc Try.prog W 0 (fun _ => true) true Try.f5.params.toList args.toList ds p := hA0
  have hB := fun (W' : World) (bel : Below W.heap.size W W') => below_trodAll_of laidOut bel _ (by kernel_rfl) hA
  rw [Try.params5] at hA hval
  obtain ⟨v0, vs0, d0, ds0, p0, q0, hargs, rfl, rfl, h0, r0⟩ := trodAll_cons hA
  obtain ⟨v1, vs1, d1, ds1, p1, q1, rfl, rfl, rfl, h1, r1⟩ := trodAll_cons r0
  obtain ⟨v2, vs2, d2, ds2, p2, q2, rfl, rfl, rfl, h2, r2⟩ := trodAll_cons r1
  obtain ⟨rfl, rfl, rfl⟩ := trodAll_nil r2
  obtain rfl : args = #[v0, v1, v2] := by cases args; simp_all
  obtain ⟨rfl, rfl⟩ := trodVars_none hV
  obtain ⟨a0, rfl, rfl, rfl, w0⟩ := open_int Try.underlying3 (hval 0 3 v0 rfl rfl) h0
  obtain ⟨a1, rfl, rfl, rfl, w1⟩ := open_int Try.underlying3 (hval 1 3 v1 rfl rfl) h1
  obtain ⟨a2, rfl, rfl, rfl, w2⟩ := open_int Try.underlying3 (hval 2 3 v2 rfl rfl) h2
  clear hA0 hval0
  refine (walk a0 w0 a1 w1 a2 w2 W).mono fun e W' ⟨he, bel⟩ => ?_
  subst he
  exact ⟨_, rfl, _, _, _, [], _, [], hW', trodAll_mk1 (shut_bool Try.underlying4 _), hB W' bel, rfl, bel.frame _, fun h => by cases h⟩

theorem over : Rows.defragBoundsRow.holds Try.pinned (OpenSpec.ofChange Rows.defragBoundsSpec) :=
  OpenClaim.holds_of_wide 5 Try.f5 rfl rfl rfl rfl rfl rfl rfl ⟨rfl, rfl, rfl, rfl, rfl⟩ rfl rfl rfl rfl rfl (by kernel_rfl) Try.func5 (by kernel_rfl)
    (of_decide_eq_true (by kernel_rfl)) (by unfold Func.isWrapper; first | (rw [if_pos (by decide +kernel)]; kernel_rfl) | (rw [if_neg (by decide +kernel)]; exact ⟨rfl, rfl⟩))
    (fun os started H enc _ => lifted os started H enc)

/-- THE STATEMENT -/
theorem proved : Rows.DefragBoundsSaid := over
#print axioms proved
end Go.Proofs.Ytkfgapljphhmcaa.defragBounds
