/- TcpWrong: for any number and any body of at most 500 bytes, a segment with one thing wrong in it is refused with the document's error and nothing else; for longer bodies the document's example holds; no condition. -/
import Derived.Test.YtpnnaibejgnahaaTcs4
import Derived.Test.YtpnnaibejgnahaaRows2
import Derived.Test.YtpnnaibejgnahaaLift
namespace Go.Proofs.Ytpnnaibejgnahaa.tcpWrong
open Go.ChangeShapes Go.WideShapes Go.ChangeAt Go.RowKit
open Go.ChangeMaps (open_string shut_string)
set_option linter.unusedVariables false

/-- the head that is put -/
def hW : Sg := ⟨5, 80, 0, 0, 0, 0, ⟨#[1, 1, 1, 1]⟩⟩
theorem hW_may : hW.May := by
  refine ⟨⟨by decide, by decide⟩, ⟨by decide, by decide⟩, ⟨by decide, by decide⟩, ⟨by decide, by decide⟩, by decide, by decide⟩
theorem BRow.take {w : World} {b : Nat} {bs : List UInt8} (h : BRow w b bs) (n : Nat) : BRow w b (bs.take n) := by
  intro j hj
  have hj' : j < bs.length := by rw [List.length_take] at hj; omega
  have := h j hj'
  rw [List.getElem_take]
  exact this
theorem at_same (l : List UInt8) (i : Nat) (x : UInt8) (h : i < l.length) : byteAt (l.set i x) i = x.toNat := by
  unfold byteAt
  rw [List.getD_eq_getElem?_getD, List.getElem?_set_self h]
  rfl
theorem at_other (l : List UInt8) (i j : Nat) (x : UInt8) (h : i ≠ j) : byteAt (l.set i x) j = byteAt l j := by
  unfold byteAt
  rw [List.getD_eq_getElem?_getD, List.getElem?_set_ne h, ← List.getD_eq_getElem?_getD]
theorem at_take (l : List UInt8) (n j : Nat) (h : j < n) : byteAt (l.take n) j = byteAt l j := by
  unfold byteAt
  rw [List.getD_eq_getElem?_getD, List.getElem?_take_of_lt h, ← List.getD_eq_getElem?_getD]
/-- what is known of the segment's bytes -/
structure Known (l : List UInt8) (n : Nat) : Prop where
  len : l.length = 24 + n
  b12 : byteAt l 12 = 96
  b13 : byteAt l 13 = 0
  b15 : byteAt l 15 = 0
  sum : sumL (tcAhead 1 2 l.length ++ l) = 0
theorem known (body : ByteArray) (hb : body.size ≤ 500) : Known (hW.put 1 2 body).data.toList body.size := by
  obtain ⟨s0, s1, a0, a1, a2, a3, b0, b1, b2, b3, na, nb, hl⟩ := sgPut_cons hW 1 2 body
  have hs := sgPut_size hW 1 2 body
  have hq := sgPut_sum hW 1 2 body
  rw [← toList_length] at hs
  have ho : hW.opts.size = 4 := rfl
  rw [ho] at hs
  generalize (hW.put 1 2 body).data.toList = l at *
  refine ⟨by omega, ?_, ?_, ?_, hq⟩
  all_goals
    rw [hl]
    rfl
theorem wr0 {l : List UInt8} {n : Nat} (h : Known l n) : badT 1 2 (l.take 19) = 2 := by
  have hl := h.len
  have e : (l.take 19).length = 19 := by rw [List.length_take]; omega
  unfold badT
  rw [e, if_pos (by decide)]
theorem wr1 {l : List UInt8} {n : Nat} (h : Known l n) : badT 1 2 (l.set 12 64) = 3 := by
  have hl := h.len
  have hd : hdT (l.set 12 64) = 16 := by unfold hdT; rw [at_same l 12 64 (by omega)]; decide
  unfold badT
  rw [List.length_set, if_neg (by omega), hd, if_pos (by decide)]
theorem wr2 {l : List UInt8} {n : Nat} (h : Known l n) : badT 1 2 (l.take 22) = 2 := by
  have hl := h.len
  have e : (l.take 22).length = 22 := by rw [List.length_take]; omega
  have hd : hdT (l.take 22) = 24 := by unfold hdT; rw [at_take l 22 12 (by decide), h.b12]
  unfold badT
  rw [e, hd, if_neg (by decide), if_neg (by decide), if_pos (by decide)]
theorem wr3 {l : List UInt8} {n : Nat} (h : Known l n) : badT 1 2 (l.set 12 97) = 3 := by
  have hl := h.len
  have b := at_same l 12 97 (by omega)
  have hd : hdT (l.set 12 97) = 24 := by unfold hdT; rw [b]; decide
  unfold badT
  rw [List.length_set, hd, if_neg (by omega), if_neg (by decide), if_neg (by omega), if_pos (.inl (by rw [b]; decide))]
theorem wr4 {l : List UInt8} {n : Nat} (h : Known l n) : badT 1 2 (l.set 13 64) = 3 := by
  have hl := h.len
  have b := at_same l 13 64 (by omega)
  have hd : hdT (l.set 13 64) = 24 := by unfold hdT; rw [at_other l 13 12 64 (by decide), h.b12]
  unfold badT
  rw [List.length_set, hd, if_neg (by omega), if_neg (by decide), if_neg (by omega), if_pos (.inr (by rw [b]; decide))]
theorem wr5 {l : List UInt8} {n : Nat} (h : Known l n) (hn : n ≤ 500) : badT 1 2 (l.set 15 1) = 4 := by
  have hl := h.len
  have b12 := (at_other l 15 12 1 (by decide)).trans h.b12
  have b13 := (at_other l 15 13 1 (by decide)).trans h.b13
  have hd : hdT (l.set 15 1) = 24 := by unfold hdT; rw [b12]
  have hs : sumL (tcAhead 1 2 l.length ++ l.set 15 1) ≠ 0 := by
    have ha := tcAhead_length 1 2 l.length
    have e1 : tcAhead 1 2 l.length ++ l.set 15 1 = (tcAhead 1 2 l.length ++ l).set (12 + 15) 1 := by
      rw [List.set_append_right _ _ (by omega), ha]
    have g : ((tcAhead 1 2 l.length ++ l).getD (12 + 15) 0).toNat = 0 := by
      have := h.b15
      unfold byteAt at this
      rw [List.getD_eq_getElem?_getD, List.getElem?_append_right (by omega), ha, ← List.getD_eq_getElem?_getD]
      exact this
    have s0 := (sum_zero _).1 h.sum
    rw [e1]
    obtain ⟨c, hc, e⟩ := wt_set (tcAhead 1 2 l.length ++ l) true (12 + 15) 1 (by rw [List.length_append]; omega)
    rw [g] at e
    intro hz
    have s1 := (sum_zero _).1 hz
    rw [e] at s1
    have e6 : ((1 : UInt8).toNat : Int) = 1 := rfl
    rw [e6] at s1
    generalize Pl.wt true (tcAhead 1 2 l.length ++ l) = X at *
    rcases hc with rfl | rfl <;> omega
  unfold badT
  rw [List.length_set, hd, b12, b13, if_neg (by omega), if_neg (by decide), if_neg (by omega), if_neg (by decide), if_neg (by omega), if_pos hs]
theorem conv_cap (w : World) (s : ByteArray) : ∃ (W : World) (c : Nat), (convert 9 34 (.string s)).run Try.prog w = .ok (.slice (some ⟨w.heap.size, 0, none⟩) s.size c) W ∧ BRow W w.heap.size s.data.toList ∧ Below w.heap.size w W ∧ w.heap.size < W.heap.size ∧ s.size ≤ c := by
  refine ⟨_, _, run_bytes_of_string (P := Try.prog) w 9 34 5 s Try.underlying9 Try.underlying34 Try.underlying5, ?_, ?_, ?_, grownCap_ge w s.size 0 5⟩
  · exact BRow.conv w.drew s _ 5
  · exact (Below.refl w.heap.size w).drew.alloc (Nat.le_refl _) _
  · show w.heap.size < (w.heap.push _).size
    simp
/-- which error the law wants -/
abbrev wants : Array Value := #[.int .i64 2, .int .i64 3, .int .i64 2, .int .i64 3, .int .i64 3, .int .i64 4]
theorem want_at (k : Nat) (c : Int) (h : wants[k]? = some (.int .i64 c)) (hk : k < 6) (u : World) : (Instr.index 39 (.agg wants) (.int .i64 (k : Int))).run Try.prog u = .ok (.int .i64 c) u := by
  have hn : (0 : Int) ≤ (k : Int) ∧ (k : Int) < 6 := by omega
  have h' : [Value.int .i64 2, .int .i64 3, .int .i64 2, .int .i64 3, .int .i64 3, .int .i64 4][k]? = some (.int .i64 c) := by simpa using h
  simp [Instr.index, run_underlying Try.underlying39, asIntOf, go_sem, hk]
  exact (List.getElem?_eq_some_iff.1 h').2
/-- the facts on sizes that the walk asks -/
theorem szs (p n : Nat) (h : p = 24 + n) (h2 : n ≤ 500) : ((p : Int) != 24 + (n : Int)) = false ∧ wrap64 (24 + (n : Int)) = 24 + (n : Int) ∧ (p : Int) ≤ 524 ∧ (24 : Int) ≤ (p : Int) := by
  refine ⟨?_, by unfold wrap64; omega, by omega, by omega⟩
  have e : (p : Int) = 24 + (n : Int) := by omega
  rw [e]
  simp
set_option maxHeartbeats 400000 in
theorem walk_out (how : Int) (body : ByteArray) (w : World) (w1 : body.size ≤ 9223372036854775807) (h : 500 < body.size) :
    Calls Try.prog 6 #[.int .i64 how, .string body] w fun e w' => e = .returned (.bool true) ∧ Below w.heap.size w w' := by
  have hz : (500 : Int) < (body.size : Int) := by omega
  go_enter Try.func6, Try.ntmps6
  go_wp2_with fail
  refine (tcAwake_any _).mono ?_
  rintro e w1 ⟨rfl, hb1⟩
  go_wp2_with fail
  go_ret
  exact ⟨rfl, hb1⟩
set_option maxRecDepth 100000 in
set_option maxHeartbeats 2000000 in
theorem walk0 (how : Int) (body : ByteArray) (w : World) (h2 : body.size ≤ 500) (hk : how % 6 = 0) :
    Calls Try.prog 6 #[.int .i64 how, .string body] w fun e w' => e = .returned (.bool true) ∧ Below w.heap.size w w' := by
  have h2i : (body.size : Int) ≤ 500 := by omega
  have kn := known body h2
  have cp : ∀ w : World, Calls Try.prog 8 #[.int .u32 1, .int .u32 2, .agg (sgV hW), .string body] w fun e w' => e = .returned (.tuple #[.string (hW.put 1 2 body), .int .i64 0]) ∧ Below w.heap.size w w' := fun w => tcPut_ok hW 1 2 body w hW_may (by show 20 + 4 + body.size ≤ 2000; omega)
  have hsz : (hW.put 1 2 body).size = 24 + body.size := sgPut_size hW 1 2 body
  generalize hW.put 1 2 body = p at *
  have e1 : sgV hW = #[.int .i64 5, .int .i64 80, .int .u32 0, .int .u32 0, .int .i64 0, .int .i64 0, .string ⟨#[1, 1, 1, 1]⟩] := rfl
  rw [e1] at cp
  obtain ⟨hne, hw1, hp5, hp25⟩ := szs p.size body.size hsz h2
  have cg : ∀ w : World, Calls Try.prog 10 #[.int .u32 1, .int .u32 2, .string ⟨(p.data.toList.take 19).toArray⟩] w fun e w' => e = .returned (.tuple #[.agg sgZ, .string ⟨#[]⟩, .int .i64 2]) ∧ Below w.heap.size w w' := fun w => tcGet_wrong ⟨(p.data.toList.take 19).toArray⟩ 1 2 2 w (by rw [← toList_length, ofL]; simp <;> omega) (by rw [ofL]; exact wr0 kn) (by decide)
  have g12 : bv (p.data.toList.getD 12 0) = .int .u8 96 := by show Value.int .u8 ((byteAt p.data.toList 12 : Nat) : Int) = _; rw [kn.b12]; rfl
  have g15 : bv (p.data.toList.getD 15 0) = .int .u8 0 := by show Value.int .u8 ((byteAt p.data.toList 15 : Nat) : Int) = _; rw [kn.b15]; rfl
  have hpl : p.data.toList.length = p.size := toList_length p
  go_enter Try.func6, Try.ntmps6
  go_wp2_with fail
  refine (cp _).mono ?_
  rintro e w1 ⟨rfl, hb1⟩
  obtain ⟨W4, cap, hconv, R, hb4, hz4, hcap⟩ := conv_cap w1 p
  have hc19 : (19 : Int) ≤ (cap : Int) := by omega
  have hc22 : (22 : Int) ≤ (cap : Int) := by omega
  have hix : ∀ u, (Instr.index 39 (.agg wants) (.int .i64 0)).run Try.prog u = .ok (.int .i64 2) u := fun u => want_at 0 2 rfl (by decide) u
  have HB4 := (show Hid (Below w.heap.size w W4) from below_after hb1 hb4)
  have HZ := (show Hid (w.heap.size ≤ w1.heap.size) from hb1.size)
  have r12 := R.at (j := 12) (by omega)
  have r13 := R.at (j := 13) (by omega)
  have r15 := R.at (j := 15) (by omega)
  rw [g12] at r12
  rw [g15] at r15
  have R5 := BRow.take R 19
  have S5 := R5.string (n := 19) (c := cap) (by simp <;> omega)
  
  have o1 : bits .or .u8 96 1 = 97 := by decide
  clear hb1 hb4 R R5 g12 g15 hpl kn
  go_wp2_with fail
  refine (place_any _ _ _ (by omega) (by omega)).mono ?_
  rintro e w' ⟨rfl, rfl⟩
  rw [hk]
  clear cp hconv
  obtain ⟨r12a, r12b⟩ := r12
  obtain ⟨r13a, r13b⟩ := r13
  obtain ⟨r15a, r15b⟩ := r15
  go_wp2_with fail
  have HB5 := HB4
  refine (cg _).mono ?_
  rintro e w5 ⟨rfl, hb5⟩
  have HB6 := (show Hid (Below w.heap.size w w5) from below_call HB5.out (Nat.le_refl _) hb5)
  have HB7 := (show Hid (Below w.heap.size w _) from HB6.out.alloc HB6.out.size (.cells sgZ 24))
  clear hb5 HB5 HB6 S5 cg
  go_wp2_with fail
  refine (tcAwake_any _).mono ?_
  rintro e w9 ⟨rfl, hb9⟩
  go_wp2_with fail
  go_ret
  exact ⟨rfl, below_after HB7.out hb9⟩
set_option maxRecDepth 100000 in
set_option maxHeartbeats 2000000 in
theorem walk1 (how : Int) (body : ByteArray) (w : World) (h2 : body.size ≤ 500) (hk : how % 6 = 1) :
    Calls Try.prog 6 #[.int .i64 how, .string body] w fun e w' => e = .returned (.bool true) ∧ Below w.heap.size w w' := by
  have h2i : (body.size : Int) ≤ 500 := by omega
  have kn := known body h2
  have cp : ∀ w : World, Calls Try.prog 8 #[.int .u32 1, .int .u32 2, .agg (sgV hW), .string body] w fun e w' => e = .returned (.tuple #[.string (hW.put 1 2 body), .int .i64 0]) ∧ Below w.heap.size w w' := fun w => tcPut_ok hW 1 2 body w hW_may (by show 20 + 4 + body.size ≤ 2000; omega)
  have hsz : (hW.put 1 2 body).size = 24 + body.size := sgPut_size hW 1 2 body
  generalize hW.put 1 2 body = p at *
  have e1 : sgV hW = #[.int .i64 5, .int .i64 80, .int .u32 0, .int .u32 0, .int .i64 0, .int .i64 0, .string ⟨#[1, 1, 1, 1]⟩] := rfl
  rw [e1] at cp
  obtain ⟨hne, hw1, hp5, hp25⟩ := szs p.size body.size hsz h2
  have cg : ∀ w : World, Calls Try.prog 10 #[.int .u32 1, .int .u32 2, .string ⟨(p.data.toList.set 12 64).toArray⟩] w fun e w' => e = .returned (.tuple #[.agg sgZ, .string ⟨#[]⟩, .int .i64 3]) ∧ Below w.heap.size w w' := fun w => tcGet_wrong ⟨(p.data.toList.set 12 64).toArray⟩ 1 2 3 w (by rw [← toList_length, ofL]; simp <;> omega) (by rw [ofL]; exact wr1 kn) (by decide)
  have g12 : bv (p.data.toList.getD 12 0) = .int .u8 96 := by show Value.int .u8 ((byteAt p.data.toList 12 : Nat) : Int) = _; rw [kn.b12]; rfl
  have g15 : bv (p.data.toList.getD 15 0) = .int .u8 0 := by show Value.int .u8 ((byteAt p.data.toList 15 : Nat) : Int) = _; rw [kn.b15]; rfl
  have hpl : p.data.toList.length = p.size := toList_length p
  go_enter Try.func6, Try.ntmps6
  go_wp2_with fail
  refine (cp _).mono ?_
  rintro e w1 ⟨rfl, hb1⟩
  obtain ⟨W4, cap, hconv, R, hb4, hz4, hcap⟩ := conv_cap w1 p
  have hc19 : (19 : Int) ≤ (cap : Int) := by omega
  have hc22 : (22 : Int) ≤ (cap : Int) := by omega
  have hix : ∀ u, (Instr.index 39 (.agg wants) (.int .i64 1)).run Try.prog u = .ok (.int .i64 3) u := fun u => want_at 1 3 rfl (by decide) u
  have HB4 := (show Hid (Below w.heap.size w W4) from below_after hb1 hb4)
  have HZ := (show Hid (w.heap.size ≤ w1.heap.size) from hb1.size)
  have r12 := R.at (j := 12) (by omega)
  have r13 := R.at (j := 13) (by omega)
  have r15 := R.at (j := 15) (by omega)
  rw [g12] at r12
  rw [g15] at r15
  have R5 := R.set 12 64
  have S5 := R5.string (n := (24 + body.size)) (c := cap) (by simp <;> omega)
  rw [show bv 64 = .int .u8 64 from rfl] at S5
  have o1 : bits .or .u8 96 1 = 97 := by decide
  clear hb1 hb4 R R5 g12 g15 hpl kn
  go_wp2_with fail
  refine (place_any _ _ _ (by omega) (by omega)).mono ?_
  rintro e w' ⟨rfl, rfl⟩
  rw [hk]
  clear cp hconv
  obtain ⟨r12a, r12b⟩ := r12
  obtain ⟨r13a, r13b⟩ := r13
  obtain ⟨r15a, r15b⟩ := r15
  go_wp2_with fail
  have HB5 := (show Hid (Below w.heap.size w _) from HB4.out.setCell (p := ⟨w1.heap.size, 12, none⟩) HZ.out (.int .u8 64))
  refine (cg _).mono ?_
  rintro e w5 ⟨rfl, hb5⟩
  have HB6 := (show Hid (Below w.heap.size w w5) from below_call HB5.out (Nat.le_refl _) hb5)
  have HB7 := (show Hid (Below w.heap.size w _) from HB6.out.alloc HB6.out.size (.cells sgZ 24))
  clear hb5 HB5 HB6 S5 cg
  go_wp2_with fail
  refine (tcAwake_any _).mono ?_
  rintro e w9 ⟨rfl, hb9⟩
  go_wp2_with fail
  go_ret
  exact ⟨rfl, below_after HB7.out hb9⟩
set_option maxRecDepth 100000 in
set_option maxHeartbeats 2000000 in
theorem walk2 (how : Int) (body : ByteArray) (w : World) (h2 : body.size ≤ 500) (hk : how % 6 = 2) :
    Calls Try.prog 6 #[.int .i64 how, .string body] w fun e w' => e = .returned (.bool true) ∧ Below w.heap.size w w' := by
  have h2i : (body.size : Int) ≤ 500 := by omega
  have kn := known body h2
  have cp : ∀ w : World, Calls Try.prog 8 #[.int .u32 1, .int .u32 2, .agg (sgV hW), .string body] w fun e w' => e = .returned (.tuple #[.string (hW.put 1 2 body), .int .i64 0]) ∧ Below w.heap.size w w' := fun w => tcPut_ok hW 1 2 body w hW_may (by show 20 + 4 + body.size ≤ 2000; omega)
  have hsz : (hW.put 1 2 body).size = 24 + body.size := sgPut_size hW 1 2 body
  generalize hW.put 1 2 body = p at *
  have e1 : sgV hW = #[.int .i64 5, .int .i64 80, .int .u32 0, .int .u32 0, .int .i64 0, .int .i64 0, .string ⟨#[1, 1, 1, 1]⟩] := rfl
  rw [e1] at cp
  obtain ⟨hne, hw1, hp5, hp25⟩ := szs p.size body.size hsz h2
  have cg : ∀ w : World, Calls Try.prog 10 #[.int .u32 1, .int .u32 2, .string ⟨(p.data.toList.take 22).toArray⟩] w fun e w' => e = .returned (.tuple #[.agg sgZ, .string ⟨#[]⟩, .int .i64 2]) ∧ Below w.heap.size w w' := fun w => tcGet_wrong ⟨(p.data.toList.take 22).toArray⟩ 1 2 2 w (by rw [← toList_length, ofL]; simp <;> omega) (by rw [ofL]; exact wr2 kn) (by decide)
  have g12 : bv (p.data.toList.getD 12 0) = .int .u8 96 := by show Value.int .u8 ((byteAt p.data.toList 12 : Nat) : Int) = _; rw [kn.b12]; rfl
  have g15 : bv (p.data.toList.getD 15 0) = .int .u8 0 := by show Value.int .u8 ((byteAt p.data.toList 15 : Nat) : Int) = _; rw [kn.b15]; rfl
  have hpl : p.data.toList.length = p.size := toList_length p
  go_enter Try.func6, Try.ntmps6
  go_wp2_with fail
  refine (cp _).mono ?_
  rintro e w1 ⟨rfl, hb1⟩
  obtain ⟨W4, cap, hconv, R, hb4, hz4, hcap⟩ := conv_cap w1 p
  have hc19 : (19 : Int) ≤ (cap : Int) := by omega
  have hc22 : (22 : Int) ≤ (cap : Int) := by omega
  have hix : ∀ u, (Instr.index 39 (.agg wants) (.int .i64 2)).run Try.prog u = .ok (.int .i64 2) u := fun u => want_at 2 2 rfl (by decide) u
  have HB4 := (show Hid (Below w.heap.size w W4) from below_after hb1 hb4)
  have HZ := (show Hid (w.heap.size ≤ w1.heap.size) from hb1.size)
  have r12 := R.at (j := 12) (by omega)
  have r13 := R.at (j := 13) (by omega)
  have r15 := R.at (j := 15) (by omega)
  rw [g12] at r12
  rw [g15] at r15
  have R5 := BRow.take R 22
  have S5 := R5.string (n := 22) (c := cap) (by simp <;> omega)
  
  have o1 : bits .or .u8 96 1 = 97 := by decide
  clear hb1 hb4 R R5 g12 g15 hpl kn
  go_wp2_with fail
  refine (place_any _ _ _ (by omega) (by omega)).mono ?_
  rintro e w' ⟨rfl, rfl⟩
  rw [hk]
  clear cp hconv
  obtain ⟨r12a, r12b⟩ := r12
  obtain ⟨r13a, r13b⟩ := r13
  obtain ⟨r15a, r15b⟩ := r15
  go_wp2_with fail
  have HB5 := HB4
  refine (cg _).mono ?_
  rintro e w5 ⟨rfl, hb5⟩
  have HB6 := (show Hid (Below w.heap.size w w5) from below_call HB5.out (Nat.le_refl _) hb5)
  have HB7 := (show Hid (Below w.heap.size w _) from HB6.out.alloc HB6.out.size (.cells sgZ 24))
  clear hb5 HB5 HB6 S5 cg
  go_wp2_with fail
  refine (tcAwake_any _).mono ?_
  rintro e w9 ⟨rfl, hb9⟩
  go_wp2_with fail
  go_ret
  exact ⟨rfl, below_after HB7.out hb9⟩
set_option maxRecDepth 100000 in
set_option maxHeartbeats 2000000 in
theorem walk3 (how : Int) (body : ByteArray) (w : World) (h2 : body.size ≤ 500) (hk : how % 6 = 3) :
    Calls Try.prog 6 #[.int .i64 how, .string body] w fun e w' => e = .returned (.bool true) ∧ Below w.heap.size w w' := by
  have h2i : (body.size : Int) ≤ 500 := by omega
  have kn := known body h2
  have cp : ∀ w : World, Calls Try.prog 8 #[.int .u32 1, .int .u32 2, .agg (sgV hW), .string body] w fun e w' => e = .returned (.tuple #[.string (hW.put 1 2 body), .int .i64 0]) ∧ Below w.heap.size w w' := fun w => tcPut_ok hW 1 2 body w hW_may (by show 20 + 4 + body.size ≤ 2000; omega)
  have hsz : (hW.put 1 2 body).size = 24 + body.size := sgPut_size hW 1 2 body
  generalize hW.put 1 2 body = p at *
  have e1 : sgV hW = #[.int .i64 5, .int .i64 80, .int .u32 0, .int .u32 0, .int .i64 0, .int .i64 0, .string ⟨#[1, 1, 1, 1]⟩] := rfl
  rw [e1] at cp
  obtain ⟨hne, hw1, hp5, hp25⟩ := szs p.size body.size hsz h2
  have cg : ∀ w : World, Calls Try.prog 10 #[.int .u32 1, .int .u32 2, .string ⟨(p.data.toList.set 12 97).toArray⟩] w fun e w' => e = .returned (.tuple #[.agg sgZ, .string ⟨#[]⟩, .int .i64 3]) ∧ Below w.heap.size w w' := fun w => tcGet_wrong ⟨(p.data.toList.set 12 97).toArray⟩ 1 2 3 w (by rw [← toList_length, ofL]; simp <;> omega) (by rw [ofL]; exact wr3 kn) (by decide)
  have g12 : bv (p.data.toList.getD 12 0) = .int .u8 96 := by show Value.int .u8 ((byteAt p.data.toList 12 : Nat) : Int) = _; rw [kn.b12]; rfl
  have g15 : bv (p.data.toList.getD 15 0) = .int .u8 0 := by show Value.int .u8 ((byteAt p.data.toList 15 : Nat) : Int) = _; rw [kn.b15]; rfl
  have hpl : p.data.toList.length = p.size := toList_length p
  go_enter Try.func6, Try.ntmps6
  go_wp2_with fail
  refine (cp _).mono ?_
  rintro e w1 ⟨rfl, hb1⟩
  obtain ⟨W4, cap, hconv, R, hb4, hz4, hcap⟩ := conv_cap w1 p
  have hc19 : (19 : Int) ≤ (cap : Int) := by omega
  have hc22 : (22 : Int) ≤ (cap : Int) := by omega
  have hix : ∀ u, (Instr.index 39 (.agg wants) (.int .i64 3)).run Try.prog u = .ok (.int .i64 3) u := fun u => want_at 3 3 rfl (by decide) u
  have HB4 := (show Hid (Below w.heap.size w W4) from below_after hb1 hb4)
  have HZ := (show Hid (w.heap.size ≤ w1.heap.size) from hb1.size)
  have r12 := R.at (j := 12) (by omega)
  have r13 := R.at (j := 13) (by omega)
  have r15 := R.at (j := 15) (by omega)
  rw [g12] at r12
  rw [g15] at r15
  have R5 := R.set 12 97
  have S5 := R5.string (n := (24 + body.size)) (c := cap) (by simp <;> omega)
  rw [show bv 97 = .int .u8 97 from rfl] at S5
  have o1 : bits .or .u8 96 1 = 97 := by decide
  clear hb1 hb4 R R5 g12 g15 hpl kn
  go_wp2_with fail
  refine (place_any _ _ _ (by omega) (by omega)).mono ?_
  rintro e w' ⟨rfl, rfl⟩
  rw [hk]
  clear cp hconv
  obtain ⟨r12a, r12b⟩ := r12
  obtain ⟨r13a, r13b⟩ := r13
  obtain ⟨r15a, r15b⟩ := r15
  go_wp2_with fail
  have HB5 := (show Hid (Below w.heap.size w _) from HB4.out.setCell (p := ⟨w1.heap.size, 12, none⟩) HZ.out (.int .u8 97))
  refine (cg _).mono ?_
  rintro e w5 ⟨rfl, hb5⟩
  have HB6 := (show Hid (Below w.heap.size w w5) from below_call HB5.out (Nat.le_refl _) hb5)
  have HB7 := (show Hid (Below w.heap.size w _) from HB6.out.alloc HB6.out.size (.cells sgZ 24))
  clear hb5 HB5 HB6 S5 cg
  go_wp2_with fail
  refine (tcAwake_any _).mono ?_
  rintro e w9 ⟨rfl, hb9⟩
  go_wp2_with fail
  go_ret
  exact ⟨rfl, below_after HB7.out hb9⟩
set_option maxRecDepth 100000 in
set_option maxHeartbeats 2000000 in
theorem walk4 (how : Int) (body : ByteArray) (w : World) (h2 : body.size ≤ 500) (hk : how % 6 = 4) :
    Calls Try.prog 6 #[.int .i64 how, .string body] w fun e w' => e = .returned (.bool true) ∧ Below w.heap.size w w' := by
  have h2i : (body.size : Int) ≤ 500 := by omega
  have kn := known body h2
  have cp : ∀ w : World, Calls Try.prog 8 #[.int .u32 1, .int .u32 2, .agg (sgV hW), .string body] w fun e w' => e = .returned (.tuple #[.string (hW.put 1 2 body), .int .i64 0]) ∧ Below w.heap.size w w' := fun w => tcPut_ok hW 1 2 body w hW_may (by show 20 + 4 + body.size ≤ 2000; omega)
  have hsz : (hW.put 1 2 body).size = 24 + body.size := sgPut_size hW 1 2 body
  generalize hW.put 1 2 body = p at *
  have e1 : sgV hW = #[.int .i64 5, .int .i64 80, .int .u32 0, .int .u32 0, .int .i64 0, .int .i64 0, .string ⟨#[1, 1, 1, 1]⟩] := rfl
  rw [e1] at cp
  obtain ⟨hne, hw1, hp5, hp25⟩ := szs p.size body.size hsz h2
  have cg : ∀ w : World, Calls Try.prog 10 #[.int .u32 1, .int .u32 2, .string ⟨(p.data.toList.set 13 64).toArray⟩] w fun e w' => e = .returned (.tuple #[.agg sgZ, .string ⟨#[]⟩, .int .i64 3]) ∧ Below w.heap.size w w' := fun w => tcGet_wrong ⟨(p.data.toList.set 13 64).toArray⟩ 1 2 3 w (by rw [← toList_length, ofL]; simp <;> omega) (by rw [ofL]; exact wr4 kn) (by decide)
  have g12 : bv (p.data.toList.getD 12 0) = .int .u8 96 := by show Value.int .u8 ((byteAt p.data.toList 12 : Nat) : Int) = _; rw [kn.b12]; rfl
  have g15 : bv (p.data.toList.getD 15 0) = .int .u8 0 := by show Value.int .u8 ((byteAt p.data.toList 15 : Nat) : Int) = _; rw [kn.b15]; rfl
  have hpl : p.data.toList.length = p.size := toList_length p
  go_enter Try.func6, Try.ntmps6
  go_wp2_with fail
  refine (cp _).mono ?_
  rintro e w1 ⟨rfl, hb1⟩
  obtain ⟨W4, cap, hconv, R, hb4, hz4, hcap⟩ := conv_cap w1 p
  have hc19 : (19 : Int) ≤ (cap : Int) := by omega
  have hc22 : (22 : Int) ≤ (cap : Int) := by omega
  have hix : ∀ u, (Instr.index 39 (.agg wants) (.int .i64 4)).run Try.prog u = .ok (.int .i64 3) u := fun u => want_at 4 3 rfl (by decide) u
  have HB4 := (show Hid (Below w.heap.size w W4) from below_after hb1 hb4)
  have HZ := (show Hid (w.heap.size ≤ w1.heap.size) from hb1.size)
  have r12 := R.at (j := 12) (by omega)
  have r13 := R.at (j := 13) (by omega)
  have r15 := R.at (j := 15) (by omega)
  rw [g12] at r12
  rw [g15] at r15
  have R5 := R.set 13 64
  have S5 := R5.string (n := (24 + body.size)) (c := cap) (by simp <;> omega)
  rw [show bv 64 = .int .u8 64 from rfl] at S5
  have o1 : bits .or .u8 96 1 = 97 := by decide
  clear hb1 hb4 R R5 g12 g15 hpl kn
  go_wp2_with fail
  refine (place_any _ _ _ (by omega) (by omega)).mono ?_
  rintro e w' ⟨rfl, rfl⟩
  rw [hk]
  clear cp hconv
  obtain ⟨r12a, r12b⟩ := r12
  obtain ⟨r13a, r13b⟩ := r13
  obtain ⟨r15a, r15b⟩ := r15
  go_wp2_with fail
  have HB5 := (show Hid (Below w.heap.size w _) from HB4.out.setCell (p := ⟨w1.heap.size, 13, none⟩) HZ.out (.int .u8 64))
  refine (cg _).mono ?_
  rintro e w5 ⟨rfl, hb5⟩
  have HB6 := (show Hid (Below w.heap.size w w5) from below_call HB5.out (Nat.le_refl _) hb5)
  have HB7 := (show Hid (Below w.heap.size w _) from HB6.out.alloc HB6.out.size (.cells sgZ 24))
  clear hb5 HB5 HB6 S5 cg
  go_wp2_with fail
  refine (tcAwake_any _).mono ?_
  rintro e w9 ⟨rfl, hb9⟩
  go_wp2_with fail
  go_ret
  exact ⟨rfl, below_after HB7.out hb9⟩
set_option maxRecDepth 100000 in
set_option maxHeartbeats 2000000 in
theorem walk5 (how : Int) (body : ByteArray) (w : World) (h2 : body.size ≤ 500) (hk : how % 6 = 5) :
    Calls Try.prog 6 #[.int .i64 how, .string body] w fun e w' => e = .returned (.bool true) ∧ Below w.heap.size w w' := by
  have h2i : (body.size : Int) ≤ 500 := by omega
  have kn := known body h2
  have cp : ∀ w : World, Calls Try.prog 8 #[.int .u32 1, .int .u32 2, .agg (sgV hW), .string body] w fun e w' => e = .returned (.tuple #[.string (hW.put 1 2 body), .int .i64 0]) ∧ Below w.heap.size w w' := fun w => tcPut_ok hW 1 2 body w hW_may (by show 20 + 4 + body.size ≤ 2000; omega)
  have hsz : (hW.put 1 2 body).size = 24 + body.size := sgPut_size hW 1 2 body
  generalize hW.put 1 2 body = p at *
  have e1 : sgV hW = #[.int .i64 5, .int .i64 80, .int .u32 0, .int .u32 0, .int .i64 0, .int .i64 0, .string ⟨#[1, 1, 1, 1]⟩] := rfl
  rw [e1] at cp
  obtain ⟨hne, hw1, hp5, hp25⟩ := szs p.size body.size hsz h2
  have cg : ∀ w : World, Calls Try.prog 10 #[.int .u32 1, .int .u32 2, .string ⟨(p.data.toList.set 15 1).toArray⟩] w fun e w' => e = .returned (.tuple #[.agg sgZ, .string ⟨#[]⟩, .int .i64 4]) ∧ Below w.heap.size w w' := fun w => tcGet_wrong ⟨(p.data.toList.set 15 1).toArray⟩ 1 2 4 w (by rw [← toList_length, ofL]; simp <;> omega) (by rw [ofL]; exact wr5 kn h2) (by decide)
  have g12 : bv (p.data.toList.getD 12 0) = .int .u8 96 := by show Value.int .u8 ((byteAt p.data.toList 12 : Nat) : Int) = _; rw [kn.b12]; rfl
  have g15 : bv (p.data.toList.getD 15 0) = .int .u8 0 := by show Value.int .u8 ((byteAt p.data.toList 15 : Nat) : Int) = _; rw [kn.b15]; rfl
  have hpl : p.data.toList.length = p.size := toList_length p
  go_enter Try.func6, Try.ntmps6
  go_wp2_with fail
  refine (cp _).mono ?_
  rintro e w1 ⟨rfl, hb1⟩
  obtain ⟨W4, cap, hconv, R, hb4, hz4, hcap⟩ := conv_cap w1 p
  have hc19 : (19 : Int) ≤ (cap : Int) := by omega
  have hc22 : (22 : Int) ≤ (cap : Int) := by omega
  have hix : ∀ u, (Instr.index 39 (.agg wants) (.int .i64 5)).run Try.prog u = .ok (.int .i64 4) u := fun u => want_at 5 4 rfl (by decide) u
  have HB4 := (show Hid (Below w.heap.size w W4) from below_after hb1 hb4)
  have HZ := (show Hid (w.heap.size ≤ w1.heap.size) from hb1.size)
  have r12 := R.at (j := 12) (by omega)
  have r13 := R.at (j := 13) (by omega)
  have r15 := R.at (j := 15) (by omega)
  rw [g12] at r12
  rw [g15] at r15
  have R5 := R.set 15 1
  have S5 := R5.string (n := (24 + body.size)) (c := cap) (by simp <;> omega)
  rw [show bv 1 = .int .u8 1 from rfl] at S5
  have o1 : bits .or .u8 96 1 = 97 := by decide
  clear hb1 hb4 R R5 g12 g15 hpl kn
  go_wp2_with fail
  refine (place_any _ _ _ (by omega) (by omega)).mono ?_
  rintro e w' ⟨rfl, rfl⟩
  rw [hk]
  clear cp hconv
  obtain ⟨r12a, r12b⟩ := r12
  obtain ⟨r13a, r13b⟩ := r13
  obtain ⟨r15a, r15b⟩ := r15
  go_wp2_with fail
  have HB5 := (show Hid (Below w.heap.size w _) from HB4.out.setCell (p := ⟨w1.heap.size, 15, none⟩) HZ.out (.int .u8 1))
  refine (cg _).mono ?_
  rintro e w5 ⟨rfl, hb5⟩
  have HB6 := (show Hid (Below w.heap.size w w5) from below_call HB5.out (Nat.le_refl _) hb5)
  have HB7 := (show Hid (Below w.heap.size w _) from HB6.out.alloc HB6.out.size (.cells sgZ 24))
  clear hb5 HB5 HB6 S5 cg
  go_wp2_with fail
  refine (tcAwake_any _).mono ?_
  rintro e w9 ⟨rfl, hb9⟩
  go_wp2_with fail
  go_ret
  exact ⟨rfl, below_after HB7.out hb9⟩

theorem walk (how : Int) (w0 : (Lit.int .i64 how).wf = true) (body : ByteArray) (w1 : body.size ≤ maxLen) (w : World) :
    Calls Try.prog 6 #[.int .i64 how, .string body] w fun e w' => e = .returned (.bool true) ∧ Below w.heap.size w w' := by
  unfold maxLen at w1
  by_cases h2 : body.size ≤ 500
  case neg => exact walk_out how body w (by omega) (by omega)
  have h0 := Int.emod_nonneg how (show (6 : Int) ≠ 0 from by omega)
  have h1 := Int.emod_lt_of_pos how (show 0 < (6 : Int) from by omega)
  have hc : how % 6 = 0 ∨ how % 6 = 1 ∨ how % 6 = 2 ∨ how % 6 = 3 ∨ how % 6 = 4 ∨ how % 6 = 5 := by omega
  rcases hc with h | h | h | h | h | h
  · exact walk0 how body w h2 h
  · exact walk1 how body w h2 h
  · exact walk2 how body w h2 h
  · exact walk3 how body w h2 h
  · exact walk4 how body w h2 h
  · exact walk5 how body w h2 h

/-! ### THE ROW's STEP -/
set_option maxRecDepth 100000 in
theorem lifted (os : Os) (started : os.Started) (H : Type) (enc : TypeId × Value → H) :
    ReturnsInHanded {} Try.checked os 6 .any (Rows.tcpWrongSpec.pre6 enc Try.prog Try.f6 Rows.tcpWrongRow.domain false) (Rows.tcpWrongSpec.post enc Try.prog Try.f6 false true false false) := by
  refine returnsInHanded_of_change (C := Try.checked) own started (by kernel_rfl) Try.func6
    (ChangeSpec.witness6 (enc := enc) (C := Try.checked) false ⟨#[], #[.int .i64 0, .string ByteArray.empty], []⟩ 8 (by kernel_rfl) (by kernel_rfl) (by kernel_rfl) (by kernel_rfl)) ?_
  intro W base args ds gs before hval0 hW hcnd _
  have hval : ∀ (j : Nat) t v, Try.f6.params[j]? = some t → args[j]? = some v → Value.okWide Try.prog W .any base t v := hval0
  have hW' := hW
  obtain ⟨p, q, hA0, hV, rfl, hfz, hnd⟩ := hW
  have hA : DataW.TrodAll enc Try.prog W 0 (fun _ => true) true Try.f6.params.toList args.toList ds p := hA0
  have hB := fun (W' : World) (bel : Below W.heap.size W W') => below_trodAll_of laidOut bel _ (by kernel_rfl) hA
  rw [Try.params6] at hA hval
  obtain ⟨v0, vs0, d0, ds0, p0, q0, hargs, rfl, rfl, h0, r0⟩ := trodAll_cons hA
  obtain ⟨v1, vs1, d1, ds1, p1, q1, rfl, rfl, rfl, h1, r1⟩ := trodAll_cons r0
  obtain ⟨rfl, rfl, rfl⟩ := trodAll_nil r1
  obtain rfl : args = #[v0, v1] := by cases args; simp_all
  obtain ⟨rfl, rfl⟩ := trodVars_none hV
  obtain ⟨a0, rfl, rfl, rfl, w0⟩ := open_int Try.underlying3 (hval 0 3 v0 rfl rfl) h0
  obtain ⟨a1, rfl, rfl, rfl, w1⟩ := open_string Try.underlying9 (hval 1 9 v1 rfl rfl) h1
  clear hA0 hval0
  refine (walk a0 w0 a1 w1 W).mono fun e W' ⟨he, bel⟩ => ?_
  subst he
  exact ⟨_, rfl, _, _, _, [], _, [], hW', trodAll_mk1 (shut_bool Try.underlying4 _), hB W' bel, rfl, bel.frame _, fun h => by cases h⟩

theorem over : Rows.tcpWrongRow.holds Try.pinned (OpenSpec.ofChange Rows.tcpWrongSpec) :=
  OpenClaim.holds_of_wide 6 Try.f6 rfl rfl rfl rfl rfl rfl rfl ⟨rfl, rfl, rfl, rfl, rfl⟩ rfl rfl rfl rfl rfl (by kernel_rfl) Try.func6 (by kernel_rfl)
    (of_decide_eq_true (by kernel_rfl)) (by unfold Func.isWrapper; first | (rw [if_pos (by decide +kernel)]; kernel_rfl) | (rw [if_neg (by decide +kernel)]; exact ⟨rfl, rfl⟩))
    (fun os started H enc _ => lifted os started H enc)

/-- THE STATEMENT -/
theorem proved : Rows.TcpWrongSaid := over
#print axioms proved
end Go.Proofs.Ytpnnaibejgnahaa.tcpWrong
