/- Ipv4Wrong: for any number and any body of 1 to 500 bytes, a datagram with one thing wrong in it is refused with the document's error and nothing else; for other bodies the document's example holds; no condition. -/
import Derived.Test.YtaephhjhifndeaaIps6
import Derived.Test.YtaephhjhifndeaaRows2
import Derived.Test.YtaephhjhifndeaaLift
namespace Go.Proofs.Ytaephhjhifndeaa.ipv4Wrong
open Go.ChangeShapes Go.WideShapes Go.ChangeAt Go.RowKit
open Go.ChangeMaps (open_string shut_string)
set_option linter.unusedVariables false

/-- the head that is put -/
def hW : Ip := ⟨0, 0, false, false, 0, 5, 17, 1, 2, ⟨#[1, 1, 1, 1]⟩⟩
theorem hW_may : hW.May := by
  refine ⟨⟨by decide, by decide⟩, ⟨by decide, by decide⟩, ⟨by decide, by decide⟩, ⟨by decide, by decide⟩, ⟨by decide, by decide⟩, by decide, by decide, by decide⟩
theorem BRow.take {w : World} {b : Nat} {bs : List UInt8} (h : BRow w b bs) (n : Nat) : BRow w b (bs.take n) := by
  intro j hj
  have hj' : j < bs.length := by rw [List.length_take] at hj; omega
  have := h j hj'
  rw [List.getElem_take]
  exact this
theorem at_same (l : List UInt8) (i : Nat) (x : UInt8) (h : i < l.length) : byteAt (l.set i x) i = x.toNat := by
  unfold byteAt
  rw [List.getD_eq_getElem?_getD, List.getElem?_set_self h]
  rfl
theorem at_other (l : List UInt8) (i j : Nat) (x : UInt8) (h : i ≠ j) : byteAt (l.set i x) j = byteAt l j := by
  unfold byteAt
  rw [List.getD_eq_getElem?_getD, List.getElem?_set_ne h, ← List.getD_eq_getElem?_getD]
theorem at_take (l : List UInt8) (n j : Nat) (h : j < n) : byteAt (l.take n) j = byteAt l j := by
  unfold byteAt
  rw [List.getD_eq_getElem?_getD, List.getElem?_take_of_lt h, ← List.getD_eq_getElem?_getD]
/-- what is known of the datagram's bytes -/
structure Known (l : List UInt8) (n : Nat) : Prop where
  len : l.length = 24 + n
  b0 : byteAt l 0 = 70
  al : alL l = 24 + n
  b6 : byteAt l 6 = 0
  b7 : byteAt l 7 = 0
  b8 : byteAt l 8 = 5
  sum : sumL (l.take 24) = 0
theorem known (body : ByteArray) (hb : body.size ≤ 2000) : Known (hW.put body).data.toList body.size := by
  have g := put_got hW body [] hW_may hb
  rw [List.append_nil] at g
  obtain ⟨g1, _, g3, g4⟩ := g
  obtain ⟨s0, s1, a0, a1, a2, a3, b0, b1, b2, b3, na, nb, e⟩ := put_cons hW body
  have hl := put_list hW body
  rw [e] at hl
  have hs := put_size hW body
  rw [← toList_length] at hs
  have ho : hW.opts.size = 4 := rfl
  rw [ho] at g3 g4 hs
  have s := ((bad_none _).1 g1).2.2.2.2.2.2.2.2
  rw [g3] at s
  generalize (hW.put body).data.toList = l at *
  refine ⟨by omega, ?_, by omega, ?_, ?_, ?_, s⟩
  all_goals
    rw [hl]
    rfl
theorem wr0 {l : List UInt8} {n : Nat} (h : Known l n) : badL (l.set 0 102) = 3 := by
  have hl := h.len
  unfold badL
  rw [List.length_set, if_neg (by omega), if_pos (.inl (by rw [at_same l 0 102 (by omega)]; decide))]
theorem wr1 {l : List UInt8} {n : Nat} (h : Known l n) : badL (l.set 0 68) = 3 := by
  have hl := h.len
  unfold badL
  rw [List.length_set, if_neg (by omega), if_pos (.inr (by unfold hdL; rw [at_same l 0 68 (by omega)]; decide))]
theorem wr2 {l : List UInt8} {n : Nat} (h : Known l n) : badL (l.take 22) = 2 := by
  have hl := h.len
  have e : (l.take 22).length = 22 := by rw [List.length_take]; omega
  have b := (at_take l 22 0 (by decide)).trans h.b0
  have hd : hdL (l.take 22) = 24 := by unfold hdL; rw [b]
  unfold badL
  rw [e, hd, b, if_neg (by decide), if_neg (by decide), if_pos (by decide)]
theorem wr3 {l : List UInt8} {n : Nat} (h : Known l n) : badL ((l.set 2 0).set 3 23) = 3 := by
  have hl := h.len
  have b := ((at_other (l.set 2 0) 3 0 23 (by decide)).trans (at_other l 2 0 0 (by decide))).trans h.b0
  have hd : hdL ((l.set 2 0).set 3 23) = 24 := by unfold hdL; rw [b]
  have ha : alL ((l.set 2 0).set 3 23) = 23 := by
    unfold alL
    rw [at_same (l.set 2 0) 3 23 (by rw [List.length_set]; omega), at_other (l.set 2 0) 3 2 23 (by decide), at_same l 2 0 (by omega)]
    rfl
  unfold badL
  rw [List.length_set, List.length_set, hd, ha, b, if_neg (by omega), if_neg (by decide), if_neg (by omega), if_pos (by decide)]
theorem wr4 {l : List UInt8} {n : Nat} (h : Known l n) (h1 : 1 ≤ n) : badL (l.take (23 + n)) = 2 := by
  have hl := h.len
  have e : (l.take (23 + n)).length = 23 + n := by rw [List.length_take]; omega
  have b := (at_take l (23 + n) 0 (by omega)).trans h.b0
  have hd : hdL (l.take (23 + n)) = 24 := by unfold hdL; rw [b]
  have ha : alL (l.take (23 + n)) = 24 + n := by
    have := h.al
    unfold alL at *
    rw [at_take l _ 2 (by omega), at_take l _ 3 (by omega)]
    exact this
  unfold badL
  rw [e, hd, ha, b, if_neg (by omega), if_neg (by decide), if_neg (by omega), if_neg (by omega), if_pos (by omega)]
theorem wr5 {l : List UInt8} {n : Nat} (h : Known l n) : badL (l.set 6 128) = 3 := by
  have hl := h.len
  have b := (at_other l 6 0 128 (by decide)).trans h.b0
  have hd : hdL (l.set 6 128) = 24 := by unfold hdL; rw [b]
  have ha : alL (l.set 6 128) = 24 + n := by
    have := h.al
    unfold alL at *
    rw [at_other l 6 2 128 (by decide), at_other l 6 3 128 (by decide)]
    exact this
  have hc : 32768 ≤ cwL (l.set 6 128) := by
    unfold cwL
    rw [at_same l 6 128 (by omega)]
    show 32768 ≤ 128 * 256 + _
    omega
  unfold badL
  rw [List.length_set, hd, ha, b, if_neg (by omega), if_neg (by decide), if_neg (by omega), if_neg (by omega), if_neg (by omega), if_pos hc]
theorem wr6 {l : List UInt8} {n : Nat} (h : Known l n) (hn : n ≤ 2000) : badL (l.set 8 6) = 4 := by
  have hl := h.len
  have b := (at_other l 8 0 6 (by decide)).trans h.b0
  have hd : hdL (l.set 8 6) = 24 := by unfold hdL; rw [b]
  have ha : alL (l.set 8 6) = 24 + n := by
    have := h.al
    unfold alL at *
    rw [at_other l 8 2 6 (by decide), at_other l 8 3 6 (by decide)]
    exact this
  have hc : cwL (l.set 8 6) = 0 := by
    unfold cwL
    rw [at_other l 8 6 6 (by decide), at_other l 8 7 6 (by decide), h.b6, h.b7]
  have hs : sumL ((l.set 8 6).take 24) ≠ 0 := by
    have lt : (l.take 24).length = 24 := by rw [List.length_take]; omega
    have g8 : ((l.take 24).getD 8 0).toNat = 5 := by
      have := (at_take l 24 8 (by decide)).trans h.b8
      exact this
    have s0 := (sum_zero _).1 h.sum
    rw [List.take_set]
    obtain ⟨c, hc, e⟩ := wt_set (l.take 24) true 8 6 (by omega)
    rw [g8] at e
    intro hz
    have s1 := (sum_zero _).1 hz
    rw [e] at s1
    have e6 : ((6 : UInt8).toNat : Int) = 6 := rfl
    rw [e6] at s1
    rcases hc with rfl | rfl <;> omega
  unfold badL
  rw [List.length_set, hd, ha, hc, b, if_neg (by omega), if_neg (by decide), if_neg (by omega), if_neg (by omega), if_neg (by omega), if_neg (by decide), if_neg (by omega), if_pos hs]
theorem conv_cap (w : World) (s : ByteArray) : ∃ (W : World) (c : Nat), (convert 9 34 (.string s)).run Try.prog w = .ok (.slice (some ⟨w.heap.size, 0, none⟩) s.size c) W ∧ BRow W w.heap.size s.data.toList ∧ Below w.heap.size w W ∧ w.heap.size < W.heap.size ∧ s.size ≤ c := by
  refine ⟨_, _, run_bytes_of_string (P := Try.prog) w 9 34 5 s Try.underlying9 Try.underlying34 Try.underlying5, ?_, ?_, ?_, grownCap_ge w s.size 0 5⟩
  · exact BRow.conv w.drew s _ 5
  · exact (Below.refl w.heap.size w).drew.alloc (Nat.le_refl _) _
  · show w.heap.size < (w.heap.push _).size
    simp
/-- which error the law wants -/
abbrev wants : Array Value := #[.int .i64 3, .int .i64 3, .int .i64 2, .int .i64 3, .int .i64 2, .int .i64 3, .int .i64 4]
theorem want_at (k : Nat) (c : Int) (h : wants[k]? = some (.int .i64 c)) (hk : k < 7) (u : World) : (Instr.index 39 (.agg wants) (.int .i64 (k : Int))).run Try.prog u = .ok (.int .i64 c) u := by
  have hn : (0 : Int) ≤ (k : Int) ∧ (k : Int) < 7 := by omega
  have h' : [Value.int .i64 3, .int .i64 3, .int .i64 2, .int .i64 3, .int .i64 2, .int .i64 3, .int .i64 4][k]? = some (.int .i64 c) := by simpa using h
  simp [Instr.index, run_underlying Try.underlying39, asIntOf, go_sem, hk]
  exact (List.getElem?_eq_some_iff.1 h').2

/-- the facts on sizes that the walk asks -/
theorem szs (p n : Nat) (h : p = 24 + n) (h1 : 1 ≤ n) (h2 : n ≤ 500) : ((p : Int) != 24 + (n : Int)) = false ∧ wrap64 (24 + (n : Int)) = 24 + (n : Int) ∧ (p : Int) ≤ 524 ∧ (25 : Int) ≤ (p : Int) ∧ wrap64 ((p : Int) - 1) = ((23 + n : Nat) : Int) := by
  refine ⟨?_, by unfold wrap64; omega, by omega, by omega, by unfold wrap64; omega⟩
  have e : (p : Int) = 24 + (n : Int) := by omega
  rw [e]
  simp
set_option maxHeartbeats 400000 in
theorem walk_out (how : Int) (body : ByteArray) (w : World) (w1 : body.size ≤ 9223372036854775807) (h : body.size < 1 ∨ 500 < body.size) :
    Calls Try.prog 6 #[.int .i64 how, .string body] w fun e w' => e = .returned (.bool true) ∧ Below w.heap.size w w' := by
  rcases h with h | h
  · have hz : (body.size : Int) < 1 := by omega
    go_enter Try.func6, Try.ntmps6
    go_wp2_with fail
    refine (awake_any _).mono ?_
    rintro e w1 ⟨rfl, hb1⟩
    go_wp2_with fail
    go_ret
    exact ⟨rfl, hb1⟩
  · have hz : (500 : Int) < (body.size : Int) := by omega
    have hz1 : (1 : Int) ≤ (body.size : Int) := by omega
    go_enter Try.func6, Try.ntmps6
    go_wp2_with fail
    refine (awake_any _).mono ?_
    rintro e w1 ⟨rfl, hb1⟩
    go_wp2_with fail
    go_ret
    exact ⟨rfl, hb1⟩
set_option maxRecDepth 100000 in
set_option maxHeartbeats 2000000 in
theorem walk0 (how : Int) (body : ByteArray) (w : World) (h1 : 1 ≤ body.size) (h2 : body.size ≤ 500) (hk : how % 7 = 0) :
    Calls Try.prog 6 #[.int .i64 how, .string body] w fun e w' => e = .returned (.bool true) ∧ Below w.heap.size w w' := by
  have h1i : (1 : Int) ≤ (body.size : Int) := by omega
  have h2i : (body.size : Int) ≤ 500 := by omega
  have kn := known body (by omega)
  have cp := fun w => put_ok hW body w hW_may (by omega)
  have hsz : (hW.put body).size = 24 + body.size := put_size hW body
  generalize hW.put body = p at *
  have e1 : ipV hW = #[.int .i64 0, .int .i64 0, .bool false, .bool false, .int .i64 0, .int .i64 5, .int .i64 17, .int .u32 1, .int .u32 2, .string ⟨#[1, 1, 1, 1]⟩] := rfl
  rw [e1] at cp
  obtain ⟨hne, hw1, hp5, hp25, hp1⟩ := szs p.size body.size hsz h1 h2
  have cg := fun w => get_wrong ⟨(p.data.toList.set 0 102).toArray⟩ 3 w (by rw [← toList_length, ofL]; simp <;> omega) (by rw [ofL]; exact wr0 kn) (by decide)
  have g6 : bv (p.data.toList.getD 6 0) = .int .u8 0 := by show Value.int .u8 ((byteAt p.data.toList 6 : Nat) : Int) = _; rw [kn.b6]; rfl
  have g8 : bv (p.data.toList.getD 8 0) = .int .u8 5 := by show Value.int .u8 ((byteAt p.data.toList 8 : Nat) : Int) = _; rw [kn.b8]; rfl
  have hpl : p.data.toList.length = p.size := toList_length p
  go_enter Try.func6, Try.ntmps6
  go_wp2_with fail
  refine (cp _).mono ?_
  rintro e w1 ⟨rfl, hb1⟩
  obtain ⟨W4, cap, hconv, R, hb4, hz4, hcap⟩ := conv_cap w1 p
  have hc22 : (22 : Int) ≤ (cap : Int) := by omega
  have hc23 : ((23 + body.size : Nat) : Int) ≤ (cap : Int) := by omega
  have hix : ∀ u, (Instr.index 39 (.agg wants) (.int .i64 0)).run Try.prog u = .ok (.int .i64 3) u := fun u => want_at 0 3 rfl (by decide) u
  have HB4 := (show Hid (Below w.heap.size w W4) from below_after hb1 hb4)
  have HZ := (show Hid (w.heap.size ≤ w1.heap.size) from hb1.size)
  have r0 := R.at (j := 0) (by omega)
  have r2 := R.at (j := 2) (by omega)
  have r3 := R.at (j := 3) (by omega)
  have r6 := R.at (j := 6) (by omega)
  have r8 := R.at (j := 8) (by omega)
  rw [g6] at r6
  rw [g8] at r8
  have R5 := R.set 0 102
  have S5 := R5.string (n := 24 + body.size) (c := cap) (by simp <;> omega)
  rw [show bv 102 = .int .u8 102 from rfl] at S5
  have o1 : bits .or .u8 0 128 = 128 := by decide
  clear hb1 hb4 R R5 g6 g8 hpl kn
  go_wp2_with fail
  refine (place_any _ _ _ (by omega) (by omega)).mono ?_
  rintro e w' ⟨rfl, rfl⟩
  rw [hk]
  clear cp hconv
  obtain ⟨r0a, r0b⟩ := r0
  obtain ⟨r2a, r2b⟩ := r2
  obtain ⟨r3a, r3b⟩ := r3
  obtain ⟨r6a, r6b⟩ := r6
  obtain ⟨r8a, r8b⟩ := r8
  go_wp2_with fail
  have HB5 := (show Hid (Below w.heap.size w _) from HB4.out.setCell (p := ⟨w1.heap.size, 0, none⟩) HZ.out (.int .u8 102))
  refine (cg _).mono ?_
  rintro e w5 ⟨rfl, hb5⟩
  have HB6 := (show Hid (Below w.heap.size w w5) from below_call HB5.out (Nat.le_refl _) hb5)
  have HB7 := (show Hid (Below w.heap.size w _) from HB6.out.alloc HB6.out.size (.cells ipZ 24))
  clear hb5 HB5 HB6 S5 cg
  go_wp2_with fail
  refine (awake_any _).mono ?_
  rintro e w9 ⟨rfl, hb9⟩
  go_wp2_with fail
  go_ret
  exact ⟨rfl, below_after HB7.out hb9⟩
set_option maxRecDepth 100000 in
set_option maxHeartbeats 2000000 in
theorem walk1 (how : Int) (body : ByteArray) (w : World) (h1 : 1 ≤ body.size) (h2 : body.size ≤ 500) (hk : how % 7 = 1) :
    Calls Try.prog 6 #[.int .i64 how, .string body] w fun e w' => e = .returned (.bool true) ∧ Below w.heap.size w w' := by
  have h1i : (1 : Int) ≤ (body.size : Int) := by omega
  have h2i : (body.size : Int) ≤ 500 := by omega
  have kn := known body (by omega)
  have cp := fun w => put_ok hW body w hW_may (by omega)
  have hsz : (hW.put body).size = 24 + body.size := put_size hW body
  generalize hW.put body = p at *
  have e1 : ipV hW = #[.int .i64 0, .int .i64 0, .bool false, .bool false, .int .i64 0, .int .i64 5, .int .i64 17, .int .u32 1, .int .u32 2, .string ⟨#[1, 1, 1, 1]⟩] := rfl
  rw [e1] at cp
  obtain ⟨hne, hw1, hp5, hp25, hp1⟩ := szs p.size body.size hsz h1 h2
  have cg := fun w => get_wrong ⟨(p.data.toList.set 0 68).toArray⟩ 3 w (by rw [← toList_length, ofL]; simp <;> omega) (by rw [ofL]; exact wr1 kn) (by decide)
  have g6 : bv (p.data.toList.getD 6 0) = .int .u8 0 := by show Value.int .u8 ((byteAt p.data.toList 6 : Nat) : Int) = _; rw [kn.b6]; rfl
  have g8 : bv (p.data.toList.getD 8 0) = .int .u8 5 := by show Value.int .u8 ((byteAt p.data.toList 8 : Nat) : Int) = _; rw [kn.b8]; rfl
  have hpl : p.data.toList.length = p.size := toList_length p
  go_enter Try.func6, Try.ntmps6
  go_wp2_with fail
  refine (cp _).mono ?_
  rintro e w1 ⟨rfl, hb1⟩
  obtain ⟨W4, cap, hconv, R, hb4, hz4, hcap⟩ := conv_cap w1 p
  have hc22 : (22 : Int) ≤ (cap : Int) := by omega
  have hc23 : ((23 + body.size : Nat) : Int) ≤ (cap : Int) := by omega
  have hix : ∀ u, (Instr.index 39 (.agg wants) (.int .i64 1)).run Try.prog u = .ok (.int .i64 3) u := fun u => want_at 1 3 rfl (by decide) u
  have HB4 := (show Hid (Below w.heap.size w W4) from below_after hb1 hb4)
  have HZ := (show Hid (w.heap.size ≤ w1.heap.size) from hb1.size)
  have r0 := R.at (j := 0) (by omega)
  have r2 := R.at (j := 2) (by omega)
  have r3 := R.at (j := 3) (by omega)
  have r6 := R.at (j := 6) (by omega)
  have r8 := R.at (j := 8) (by omega)
  rw [g6] at r6
  rw [g8] at r8
  have R5 := R.set 0 68
  have S5 := R5.string (n := 24 + body.size) (c := cap) (by simp <;> omega)
  rw [show bv 68 = .int .u8 68 from rfl] at S5
  have o1 : bits .or .u8 0 128 = 128 := by decide
  clear hb1 hb4 R R5 g6 g8 hpl kn
  go_wp2_with fail
  refine (place_any _ _ _ (by omega) (by omega)).mono ?_
  rintro e w' ⟨rfl, rfl⟩
  rw [hk]
  clear cp hconv
  obtain ⟨r0a, r0b⟩ := r0
  obtain ⟨r2a, r2b⟩ := r2
  obtain ⟨r3a, r3b⟩ := r3
  obtain ⟨r6a, r6b⟩ := r6
  obtain ⟨r8a, r8b⟩ := r8
  go_wp2_with fail
  have HB5 := (show Hid (Below w.heap.size w _) from HB4.out.setCell (p := ⟨w1.heap.size, 0, none⟩) HZ.out (.int .u8 68))
  refine (cg _).mono ?_
  rintro e w5 ⟨rfl, hb5⟩
  have HB6 := (show Hid (Below w.heap.size w w5) from below_call HB5.out (Nat.le_refl _) hb5)
  have HB7 := (show Hid (Below w.heap.size w _) from HB6.out.alloc HB6.out.size (.cells ipZ 24))
  clear hb5 HB5 HB6 S5 cg
  go_wp2_with fail
  refine (awake_any _).mono ?_
  rintro e w9 ⟨rfl, hb9⟩
  go_wp2_with fail
  go_ret
  exact ⟨rfl, below_after HB7.out hb9⟩
set_option maxRecDepth 100000 in
set_option maxHeartbeats 2000000 in
theorem walk2 (how : Int) (body : ByteArray) (w : World) (h1 : 1 ≤ body.size) (h2 : body.size ≤ 500) (hk : how % 7 = 2) :
    Calls Try.prog 6 #[.int .i64 how, .string body] w fun e w' => e = .returned (.bool true) ∧ Below w.heap.size w w' := by
  have h1i : (1 : Int) ≤ (body.size : Int) := by omega
  have h2i : (body.size : Int) ≤ 500 := by omega
  have kn := known body (by omega)
  have cp := fun w => put_ok hW body w hW_may (by omega)
  have hsz : (hW.put body).size = 24 + body.size := put_size hW body
  generalize hW.put body = p at *
  have e1 : ipV hW = #[.int .i64 0, .int .i64 0, .bool false, .bool false, .int .i64 0, .int .i64 5, .int .i64 17, .int .u32 1, .int .u32 2, .string ⟨#[1, 1, 1, 1]⟩] := rfl
  rw [e1] at cp
  obtain ⟨hne, hw1, hp5, hp25, hp1⟩ := szs p.size body.size hsz h1 h2
  have cg := fun w => get_wrong ⟨(p.data.toList.take 22).toArray⟩ 2 w (by rw [← toList_length, ofL]; simp <;> omega) (by rw [ofL]; exact wr2 kn) (by decide)
  have g6 : bv (p.data.toList.getD 6 0) = .int .u8 0 := by show Value.int .u8 ((byteAt p.data.toList 6 : Nat) : Int) = _; rw [kn.b6]; rfl
  have g8 : bv (p.data.toList.getD 8 0) = .int .u8 5 := by show Value.int .u8 ((byteAt p.data.toList 8 : Nat) : Int) = _; rw [kn.b8]; rfl
  have hpl : p.data.toList.length = p.size := toList_length p
  go_enter Try.func6, Try.ntmps6
  go_wp2_with fail
  refine (cp _).mono ?_
  rintro e w1 ⟨rfl, hb1⟩
  obtain ⟨W4, cap, hconv, R, hb4, hz4, hcap⟩ := conv_cap w1 p
  have hc22 : (22 : Int) ≤ (cap : Int) := by omega
  have hc23 : ((23 + body.size : Nat) : Int) ≤ (cap : Int) := by omega
  have hix : ∀ u, (Instr.index 39 (.agg wants) (.int .i64 2)).run Try.prog u = .ok (.int .i64 2) u := fun u => want_at 2 2 rfl (by decide) u
  have HB4 := (show Hid (Below w.heap.size w W4) from below_after hb1 hb4)
  have HZ := (show Hid (w.heap.size ≤ w1.heap.size) from hb1.size)
  have r0 := R.at (j := 0) (by omega)
  have r2 := R.at (j := 2) (by omega)
  have r3 := R.at (j := 3) (by omega)
  have r6 := R.at (j := 6) (by omega)
  have r8 := R.at (j := 8) (by omega)
  rw [g6] at r6
  rw [g8] at r8
  have R5 := BRow.take R 22
  have S5 := R5.string (n := 22) (c := cap) (by simp <;> omega)

  have o1 : bits .or .u8 0 128 = 128 := by decide
  clear hb1 hb4 R R5 g6 g8 hpl kn
  go_wp2_with fail
  refine (place_any _ _ _ (by omega) (by omega)).mono ?_
  rintro e w' ⟨rfl, rfl⟩
  rw [hk]
  clear cp hconv
  obtain ⟨r0a, r0b⟩ := r0
  obtain ⟨r2a, r2b⟩ := r2
  obtain ⟨r3a, r3b⟩ := r3
  obtain ⟨r6a, r6b⟩ := r6
  obtain ⟨r8a, r8b⟩ := r8
  go_wp2_with fail
  have HB5 := (show Hid (Below w.heap.size w _) from HB4.out)
  refine (cg _).mono ?_
  rintro e w5 ⟨rfl, hb5⟩
  have HB6 := (show Hid (Below w.heap.size w w5) from below_call HB5.out (Nat.le_refl _) hb5)
  have HB7 := (show Hid (Below w.heap.size w _) from HB6.out.alloc HB6.out.size (.cells ipZ 24))
  clear hb5 HB5 HB6 S5 cg
  go_wp2_with fail
  refine (awake_any _).mono ?_
  rintro e w9 ⟨rfl, hb9⟩
  go_wp2_with fail
  go_ret
  exact ⟨rfl, below_after HB7.out hb9⟩
set_option maxRecDepth 100000 in
set_option maxHeartbeats 2000000 in
theorem walk3 (how : Int) (body : ByteArray) (w : World) (h1 : 1 ≤ body.size) (h2 : body.size ≤ 500) (hk : how % 7 = 3) :
    Calls Try.prog 6 #[.int .i64 how, .string body] w fun e w' => e = .returned (.bool true) ∧ Below w.heap.size w w' := by
  have h1i : (1 : Int) ≤ (body.size : Int) := by omega
  have h2i : (body.size : Int) ≤ 500 := by omega
  have kn := known body (by omega)
  have cp := fun w => put_ok hW body w hW_may (by omega)
  have hsz : (hW.put body).size = 24 + body.size := put_size hW body
  generalize hW.put body = p at *
  have e1 : ipV hW = #[.int .i64 0, .int .i64 0, .bool false, .bool false, .int .i64 0, .int .i64 5, .int .i64 17, .int .u32 1, .int .u32 2, .string ⟨#[1, 1, 1, 1]⟩] := rfl
  rw [e1] at cp
  obtain ⟨hne, hw1, hp5, hp25, hp1⟩ := szs p.size body.size hsz h1 h2
  have cg := fun w => get_wrong ⟨((p.data.toList.set 2 0).set 3 23).toArray⟩ 3 w (by rw [← toList_length, ofL]; simp <;> omega) (by rw [ofL]; exact wr3 kn) (by decide)
  have g6 : bv (p.data.toList.getD 6 0) = .int .u8 0 := by show Value.int .u8 ((byteAt p.data.toList 6 : Nat) : Int) = _; rw [kn.b6]; rfl
  have g8 : bv (p.data.toList.getD 8 0) = .int .u8 5 := by show Value.int .u8 ((byteAt p.data.toList 8 : Nat) : Int) = _; rw [kn.b8]; rfl
  have hpl : p.data.toList.length = p.size := toList_length p
  go_enter Try.func6, Try.ntmps6
  go_wp2_with fail
  refine (cp _).mono ?_
  rintro e w1 ⟨rfl, hb1⟩
  obtain ⟨W4, cap, hconv, R, hb4, hz4, hcap⟩ := conv_cap w1 p
  have hc22 : (22 : Int) ≤ (cap : Int) := by omega
  have hc23 : ((23 + body.size : Nat) : Int) ≤ (cap : Int) := by omega
  have hix : ∀ u, (Instr.index 39 (.agg wants) (.int .i64 3)).run Try.prog u = .ok (.int .i64 3) u := fun u => want_at 3 3 rfl (by decide) u
  have HB4 := (show Hid (Below w.heap.size w W4) from below_after hb1 hb4)
  have HZ := (show Hid (w.heap.size ≤ w1.heap.size) from hb1.size)
  have r0 := R.at (j := 0) (by omega)
  have r2 := R.at (j := 2) (by omega)
  have r3 := R.at (j := 3) (by omega)
  have r6 := R.at (j := 6) (by omega)
  have r8 := R.at (j := 8) (by omega)
  rw [g6] at r6
  rw [g8] at r8
  have R5 := (R.set 2 0).set 3 23
  have S5 := R5.string (n := 24 + body.size) (c := cap) (by simp <;> omega)
  rw [show bv 0 = .int .u8 0 from rfl, show bv 23 = .int .u8 23 from rfl] at S5
  have o1 : bits .or .u8 0 128 = 128 := by decide
  clear hb1 hb4 R R5 g6 g8 hpl kn
  go_wp2_with fail
  refine (place_any _ _ _ (by omega) (by omega)).mono ?_
  rintro e w' ⟨rfl, rfl⟩
  rw [hk]
  clear cp hconv
  obtain ⟨r0a, r0b⟩ := r0
  obtain ⟨r2a, r2b⟩ := r2
  obtain ⟨r3a, r3b⟩ := r3
  obtain ⟨r6a, r6b⟩ := r6
  obtain ⟨r8a, r8b⟩ := r8
  go_wp2_with fail
  have HB5 := (show Hid (Below w.heap.size w _) from (HB4.out.setCell (p := ⟨w1.heap.size, 2, none⟩) HZ.out (.int .u8 0)).setCell (p := ⟨w1.heap.size, 3, none⟩) HZ.out (.int .u8 23))
  refine (cg _).mono ?_
  rintro e w5 ⟨rfl, hb5⟩
  have HB6 := (show Hid (Below w.heap.size w w5) from below_call HB5.out (Nat.le_refl _) hb5)
  have HB7 := (show Hid (Below w.heap.size w _) from HB6.out.alloc HB6.out.size (.cells ipZ 24))
  clear hb5 HB5 HB6 S5 cg
  go_wp2_with fail
  refine (awake_any _).mono ?_
  rintro e w9 ⟨rfl, hb9⟩
  go_wp2_with fail
  go_ret
  exact ⟨rfl, below_after HB7.out hb9⟩
set_option maxRecDepth 100000 in
set_option maxHeartbeats 2000000 in
theorem walk4 (how : Int) (body : ByteArray) (w : World) (h1 : 1 ≤ body.size) (h2 : body.size ≤ 500) (hk : how % 7 = 4) :
    Calls Try.prog 6 #[.int .i64 how, .string body] w fun e w' => e = .returned (.bool true) ∧ Below w.heap.size w w' := by
  have h1i : (1 : Int) ≤ (body.size : Int) := by omega
  have h2i : (body.size : Int) ≤ 500 := by omega
  have kn := known body (by omega)
  have cp := fun w => put_ok hW body w hW_may (by omega)
  have hsz : (hW.put body).size = 24 + body.size := put_size hW body
  generalize hW.put body = p at *
  have e1 : ipV hW = #[.int .i64 0, .int .i64 0, .bool false, .bool false, .int .i64 0, .int .i64 5, .int .i64 17, .int .u32 1, .int .u32 2, .string ⟨#[1, 1, 1, 1]⟩] := rfl
  rw [e1] at cp
  obtain ⟨hne, hw1, hp5, hp25, hp1⟩ := szs p.size body.size hsz h1 h2
  have cg := fun w => get_wrong ⟨(p.data.toList.take (23 + body.size)).toArray⟩ 2 w (by rw [← toList_length, ofL]; simp <;> omega) (by rw [ofL]; exact wr4 kn h1) (by decide)
  have g6 : bv (p.data.toList.getD 6 0) = .int .u8 0 := by show Value.int .u8 ((byteAt p.data.toList 6 : Nat) : Int) = _; rw [kn.b6]; rfl
  have g8 : bv (p.data.toList.getD 8 0) = .int .u8 5 := by show Value.int .u8 ((byteAt p.data.toList 8 : Nat) : Int) = _; rw [kn.b8]; rfl
  have hpl : p.data.toList.length = p.size := toList_length p
  go_enter Try.func6, Try.ntmps6
  go_wp2_with fail
  refine (cp _).mono ?_
  rintro e w1 ⟨rfl, hb1⟩
  obtain ⟨W4, cap, hconv, R, hb4, hz4, hcap⟩ := conv_cap w1 p
  have hc22 : (22 : Int) ≤ (cap : Int) := by omega
  have hc23 : ((23 + body.size : Nat) : Int) ≤ (cap : Int) := by omega
  have hix : ∀ u, (Instr.index 39 (.agg wants) (.int .i64 4)).run Try.prog u = .ok (.int .i64 2) u := fun u => want_at 4 2 rfl (by decide) u
  have HB4 := (show Hid (Below w.heap.size w W4) from below_after hb1 hb4)
  have HZ := (show Hid (w.heap.size ≤ w1.heap.size) from hb1.size)
  have r0 := R.at (j := 0) (by omega)
  have r2 := R.at (j := 2) (by omega)
  have r3 := R.at (j := 3) (by omega)
  have r6 := R.at (j := 6) (by omega)
  have r8 := R.at (j := 8) (by omega)
  rw [g6] at r6
  rw [g8] at r8
  have R5 := BRow.take R (23 + body.size)
  have S5 := R5.string (n := (23 + body.size)) (c := cap) (by simp <;> omega)

  have o1 : bits .or .u8 0 128 = 128 := by decide
  clear hb1 hb4 R R5 g6 g8 hpl kn
  go_wp2_with fail
  refine (place_any _ _ _ (by omega) (by omega)).mono ?_
  rintro e w' ⟨rfl, rfl⟩
  rw [hk]
  clear cp hconv
  obtain ⟨r0a, r0b⟩ := r0
  obtain ⟨r2a, r2b⟩ := r2
  obtain ⟨r3a, r3b⟩ := r3
  obtain ⟨r6a, r6b⟩ := r6
  obtain ⟨r8a, r8b⟩ := r8
  go_wp2_with fail
  have HB5 := (show Hid (Below w.heap.size w _) from HB4.out)
  refine (cg _).mono ?_
  rintro e w5 ⟨rfl, hb5⟩
  have HB6 := (show Hid (Below w.heap.size w w5) from below_call HB5.out (Nat.le_refl _) hb5)
  have HB7 := (show Hid (Below w.heap.size w _) from HB6.out.alloc HB6.out.size (.cells ipZ 24))
  clear hb5 HB5 HB6 S5 cg
  go_wp2_with fail
  refine (awake_any _).mono ?_
  rintro e w9 ⟨rfl, hb9⟩
  go_wp2_with fail
  go_ret
  exact ⟨rfl, below_after HB7.out hb9⟩
set_option maxRecDepth 100000 in
set_option maxHeartbeats 2000000 in
theorem walk5 (how : Int) (body : ByteArray) (w : World) (h1 : 1 ≤ body.size) (h2 : body.size ≤ 500) (hk : how % 7 = 5) :
    Calls Try.prog 6 #[.int .i64 how, .string body] w fun e w' => e = .returned (.bool true) ∧ Below w.heap.size w w' := by
  have h1i : (1 : Int) ≤ (body.size : Int) := by omega
  have h2i : (body.size : Int) ≤ 500 := by omega
  have kn := known body (by omega)
  have cp := fun w => put_ok hW body w hW_may (by omega)
  have hsz : (hW.put body).size = 24 + body.size := put_size hW body
  generalize hW.put body = p at *
  have e1 : ipV hW = #[.int .i64 0, .int .i64 0, .bool false, .bool false, .int .i64 0, .int .i64 5, .int .i64 17, .int .u32 1, .int .u32 2, .string ⟨#[1, 1, 1, 1]⟩] := rfl
  rw [e1] at cp
  obtain ⟨hne, hw1, hp5, hp25, hp1⟩ := szs p.size body.size hsz h1 h2
  have cg := fun w => get_wrong ⟨(p.data.toList.set 6 128).toArray⟩ 3 w (by rw [← toList_length, ofL]; simp <;> omega) (by rw [ofL]; exact wr5 kn) (by decide)
  have g6 : bv (p.data.toList.getD 6 0) = .int .u8 0 := by show Value.int .u8 ((byteAt p.data.toList 6 : Nat) : Int) = _; rw [kn.b6]; rfl
  have g8 : bv (p.data.toList.getD 8 0) = .int .u8 5 := by show Value.int .u8 ((byteAt p.data.toList 8 : Nat) : Int) = _; rw [kn.b8]; rfl
  have hpl : p.data.toList.length = p.size := toList_length p
  go_enter Try.func6, Try.ntmps6
  go_wp2_with fail
  refine (cp _).mono ?_
  rintro e w1 ⟨rfl, hb1⟩
  obtain ⟨W4, cap, hconv, R, hb4, hz4, hcap⟩ := conv_cap w1 p
  have hc22 : (22 : Int) ≤ (cap : Int) := by omega
  have hc23 : ((23 + body.size : Nat) : Int) ≤ (cap : Int) := by omega
  have hix : ∀ u, (Instr.index 39 (.agg wants) (.int .i64 5)).run Try.prog u = .ok (.int .i64 3) u := fun u => want_at 5 3 rfl (by decide) u
  have HB4 := (show Hid (Below w.heap.size w W4) from below_after hb1 hb4)
  have HZ := (show Hid (w.heap.size ≤ w1.heap.size) from hb1.size)
  have r0 := R.at (j := 0) (by omega)
  have r2 := R.at (j := 2) (by omega)
  have r3 := R.at (j := 3) (by omega)
  have r6 := R.at (j := 6) (by omega)
  have r8 := R.at (j := 8) (by omega)
  rw [g6] at r6
  rw [g8] at r8
  have R5 := R.set 6 128
  have S5 := R5.string (n := 24 + body.size) (c := cap) (by simp <;> omega)
  rw [show bv 128 = .int .u8 128 from rfl] at S5
  have o1 : bits .or .u8 0 128 = 128 := by decide
  clear hb1 hb4 R R5 g6 g8 hpl kn
  go_wp2_with fail
  refine (place_any _ _ _ (by omega) (by omega)).mono ?_
  rintro e w' ⟨rfl, rfl⟩
  rw [hk]
  clear cp hconv
  obtain ⟨r0a, r0b⟩ := r0
  obtain ⟨r2a, r2b⟩ := r2
  obtain ⟨r3a, r3b⟩ := r3
  obtain ⟨r6a, r6b⟩ := r6
  obtain ⟨r8a, r8b⟩ := r8
  go_wp2_with fail
  have HB5 := (show Hid (Below w.heap.size w _) from HB4.out.setCell (p := ⟨w1.heap.size, 6, none⟩) HZ.out (.int .u8 128))
  refine (cg _).mono ?_
  rintro e w5 ⟨rfl, hb5⟩
  have HB6 := (show Hid (Below w.heap.size w w5) from below_call HB5.out (Nat.le_refl _) hb5)
  have HB7 := (show Hid (Below w.heap.size w _) from HB6.out.alloc HB6.out.size (.cells ipZ 24))
  clear hb5 HB5 HB6 S5 cg
  go_wp2_with fail
  refine (awake_any _).mono ?_
  rintro e w9 ⟨rfl, hb9⟩
  go_wp2_with fail
  go_ret
  exact ⟨rfl, below_after HB7.out hb9⟩
set_option maxRecDepth 100000 in
set_option maxHeartbeats 2000000 in
theorem walk6 (how : Int) (body : ByteArray) (w : World) (h1 : 1 ≤ body.size) (h2 : body.size ≤ 500) (hk : how % 7 = 6) :
    Calls Try.prog 6 #[.int .i64 how, .string body] w fun e w' => e = .returned (.bool true) ∧ Below w.heap.size w w' := by
  have h1i : (1 : Int) ≤ (body.size : Int) := by omega
  have h2i : (body.size : Int) ≤ 500 := by omega
  have kn := known body (by omega)
  have cp := fun w => put_ok hW body w hW_may (by omega)
  have hsz : (hW.put body).size = 24 + body.size := put_size hW body
  generalize hW.put body = p at *
  have e1 : ipV hW = #[.int .i64 0, .int .i64 0, .bool false, .bool false, .int .i64 0, .int .i64 5, .int .i64 17, .int .u32 1, .int .u32 2, .string ⟨#[1, 1, 1, 1]⟩] := rfl
  rw [e1] at cp
  obtain ⟨hne, hw1, hp5, hp25, hp1⟩ := szs p.size body.size hsz h1 h2
  have cg := fun w => get_wrong ⟨(p.data.toList.set 8 6).toArray⟩ 4 w (by rw [← toList_length, ofL]; simp <;> omega) (by rw [ofL]; exact wr6 kn (by omega)) (by decide)
  have g6 : bv (p.data.toList.getD 6 0) = .int .u8 0 := by show Value.int .u8 ((byteAt p.data.toList 6 : Nat) : Int) = _; rw [kn.b6]; rfl
  have g8 : bv (p.data.toList.getD 8 0) = .int .u8 5 := by show Value.int .u8 ((byteAt p.data.toList 8 : Nat) : Int) = _; rw [kn.b8]; rfl
  have hpl : p.data.toList.length = p.size := toList_length p
  go_enter Try.func6, Try.ntmps6
  go_wp2_with fail
  refine (cp _).mono ?_
  rintro e w1 ⟨rfl, hb1⟩
  obtain ⟨W4, cap, hconv, R, hb4, hz4, hcap⟩ := conv_cap w1 p
  have hc22 : (22 : Int) ≤ (cap : Int) := by omega
  have hc23 : ((23 + body.size : Nat) : Int) ≤ (cap : Int) := by omega
  have hix : ∀ u, (Instr.index 39 (.agg wants) (.int .i64 6)).run Try.prog u = .ok (.int .i64 4) u := fun u => want_at 6 4 rfl (by decide) u
  have HB4 := (show Hid (Below w.heap.size w W4) from below_after hb1 hb4)
  have HZ := (show Hid (w.heap.size ≤ w1.heap.size) from hb1.size)
  have r0 := R.at (j := 0) (by omega)
  have r2 := R.at (j := 2) (by omega)
  have r3 := R.at (j := 3) (by omega)
  have r6 := R.at (j := 6) (by omega)
  have r8 := R.at (j := 8) (by omega)
  rw [g6] at r6
  rw [g8] at r8
  have R5 := R.set 8 6
  have S5 := R5.string (n := 24 + body.size) (c := cap) (by simp <;> omega)
  rw [show bv 6 = .int .u8 6 from rfl] at S5
  have o1 : bits .or .u8 0 128 = 128 := by decide
  clear hb1 hb4 R R5 g6 g8 hpl kn
  go_wp2_with fail
  refine (place_any _ _ _ (by omega) (by omega)).mono ?_
  rintro e w' ⟨rfl, rfl⟩
  rw [hk]
  clear cp hconv
  obtain ⟨r0a, r0b⟩ := r0
  obtain ⟨r2a, r2b⟩ := r2
  obtain ⟨r3a, r3b⟩ := r3
  obtain ⟨r6a, r6b⟩ := r6
  obtain ⟨r8a, r8b⟩ := r8
  go_wp2_with fail
  have HB5 := (show Hid (Below w.heap.size w _) from HB4.out.setCell (p := ⟨w1.heap.size, 8, none⟩) HZ.out (.int .u8 6))
  refine (cg _).mono ?_
  rintro e w5 ⟨rfl, hb5⟩
  have HB6 := (show Hid (Below w.heap.size w w5) from below_call HB5.out (Nat.le_refl _) hb5)
  have HB7 := (show Hid (Below w.heap.size w _) from HB6.out.alloc HB6.out.size (.cells ipZ 24))
  clear hb5 HB5 HB6 S5 cg
  go_wp2_with fail
  refine (awake_any _).mono ?_
  rintro e w9 ⟨rfl, hb9⟩
  go_wp2_with fail
  go_ret
  exact ⟨rfl, below_after HB7.out hb9⟩
theorem walk (how : Int) (w0 : (Lit.int .i64 how).wf = true) (body : ByteArray) (w1 : body.size ≤ maxLen) (w : World) :
    Calls Try.prog 6 #[.int .i64 how, .string body] w fun e w' => e = .returned (.bool true) ∧ Below w.heap.size w w' := by
  unfold maxLen at w1
  by_cases h1 : 1 ≤ body.size
  case neg => exact walk_out how body w (by omega) (.inl (by omega))
  by_cases h2 : body.size ≤ 500
  case neg => exact walk_out how body w (by omega) (.inr (by omega))
  have hk : how % 7 = 0 ∨ how % 7 = 1 ∨ how % 7 = 2 ∨ how % 7 = 3 ∨ how % 7 = 4 ∨ how % 7 = 5 ∨ how % 7 = 6 := by omega
  rcases hk with h | h | h | h | h | h | h
  · exact walk0 how body w h1 h2 h
  · exact walk1 how body w h1 h2 h
  · exact walk2 how body w h1 h2 h
  · exact walk3 how body w h1 h2 h
  · exact walk4 how body w h1 h2 h
  · exact walk5 how body w h1 h2 h
  · exact walk6 how body w h1 h2 h

/-! ### THE ROW's STEP -/
set_option maxRecDepth 100000 in
theorem lifted (os : Os) (started : os.Started) (H : Type) (enc : TypeId × Value → H) :
    ReturnsInHanded {} Try.checked os 6 .any (Rows.ipv4WrongSpec.pre6 enc Try.prog Try.f6 Rows.ipv4WrongRow.domain false) (Rows.ipv4WrongSpec.post enc Try.prog Try.f6 false true false false) := by
  refine returnsInHanded_of_change (C := Try.checked) own started (by kernel_rfl) Try.func6
    (ChangeSpec.witness6 (enc := enc) (C := Try.checked) false ⟨#[], #[.int .i64 0, .string ByteArray.empty], []⟩ 8 (by kernel_rfl) (by kernel_rfl) (by kernel_rfl) (by kernel_rfl)) ?_
  intro W base args ds gs before hval0 hW hcnd _
  have hval : ∀ (j : Nat) t v, Try.f6.params[j]? = some t → args[j]? = some v → Value.okWide Try.prog W .any base t v := hval0
  have hW' := hW
  obtain ⟨p, q, hA0, hV, rfl, hfz, hnd⟩ := hW
  have hA : DataW.TrodAll enc Try.prog W 0 (fun _ => true) true Try.f6.params.toList args.toList ds p := hA0
  have hB := fun (W' : World) (bel : Below W.heap.size W W') => below_trodAll_of laidOut bel _ (by kernel_rfl) hA
  rw [Try.params6] at hA hval
  obtain ⟨v0, vs0, d0, ds0, p0, q0, hargs, rfl, rfl, h0, r0⟩ := trodAll_cons hA
  obtain ⟨v1, vs1, d1, ds1, p1, q1, rfl, rfl, rfl, h1, r1⟩ := trodAll_cons r0
  obtain ⟨rfl, rfl, rfl⟩ := trodAll_nil r1
  obtain rfl : args = #[v0, v1] := by cases args; simp_all
  obtain ⟨rfl, rfl⟩ := trodVars_none hV
  obtain ⟨a0, rfl, rfl, rfl, w0⟩ := open_int Try.underlying3 (hval 0 3 v0 rfl rfl) h0
  obtain ⟨a1, rfl, rfl, rfl, w1⟩ := open_string Try.underlying9 (hval 1 9 v1 rfl rfl) h1
  clear hA0 hval0
  refine (walk a0 w0 a1 w1 W).mono fun e W' ⟨he, bel⟩ => ?_
  subst he
  exact ⟨_, rfl, _, _, _, [], _, [], hW', trodAll_mk1 (shut_bool Try.underlying4 _), hB W' bel, rfl, bel.frame _, fun h => by cases h⟩

theorem over : Rows.ipv4WrongRow.holds Try.pinned (OpenSpec.ofChange Rows.ipv4WrongSpec) :=
  OpenClaim.holds_of_wide 6 Try.f6 rfl rfl rfl rfl rfl rfl rfl ⟨rfl, rfl, rfl, rfl, rfl⟩ rfl rfl rfl rfl rfl (by kernel_rfl) Try.func6 (by kernel_rfl)
    (of_decide_eq_true (by kernel_rfl)) (by unfold Func.isWrapper; first | (rw [if_pos (by decide +kernel)]; kernel_rfl) | (rw [if_neg (by decide +kernel)]; exact ⟨rfl, rfl⟩))
    (fun os started H enc _ => lifted os started H enc)

/-- THE STATEMENT -/
theorem proved : Rows.Ipv4WrongSaid := over
#print axioms proved
end Go.Proofs.Ytaephhjhifndeaa.ipv4Wrong
