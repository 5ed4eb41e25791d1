/- Layer 7: contract of Add, a part that is taken. -/
import Derived.Test.YtkfgapljphhmcaaDft6
namespace Go.Proofs.Ytkfgapljphhmcaa
open Go.RowKit Go.Maps
set_option linter.unusedVariables false
set_option maxRecDepth 20000
/-- the entry of a name, with a part more -/
def Tbl.with (T : Tbl) (kl : Lit) (i : Ip) (s : ByteArray) : Ent := ((T.S kl).getD Ent.zero).take i.off.toNat i.more s
theorem Tab.entAt {w : World} {F : Nat → Prop} {tb mb : Nat} {most ticks : Int} {blk : Lit → Option Nat} {T : Tbl} (h : TabT w F tb mb most ticks blk T) {kl : Lit} {B : Nat} (hB : blk kl = some B) {e : Ent} (he : T.S kl = some e) : EntAt w B e ∧ e.tot ≤ 2000 ∧ (0 ≤ e.age ∧ e.age < ticks) ∧ F B := by
  obtain ⟨e1, a1, a2, a3, a4, a5, _⟩ := h.ent kl B hB
  rw [he] at a1
  cases a1
  exact ⟨a2, a3, a4, a5⟩
theorem Tab.took {w w' : World} {F : Nat → Prop} {tb mb : Nat} {most ticks : Int} {blk : Lit → Option Nat} {T : Tbl} {kl : Lit} {e0 e : Ent} (h : TabT w F tb mb most ticks blk (T.put kl e0)) {B : Nat} (hB : blk kl = some B) (hg : w.grownBy w' (some B)) (he : EntAt w' B e) (ht : e.tot ≤ 2000) (ha : e.age = e0.age) :
    TabT w' F tb mb most ticks blk (T.put kl e) ∧ Kept F w F w' := by
  have hs : (T.put kl e0).S kl = some e0 := upd_same _ _ _
  obtain ⟨_, _, a3, a4⟩ := h.entAt hB hs
  have := h.turn hB hg he ht (by rw [ha]; exact a3)
  refine ⟨?_, Kept.of_grown hg a4⟩
  unfold Tbl.put at this
  simp only [upd_upd] at this
  exact this
theorem fault0 {most : Int} {k : Bool} {cnt : Nat} {i : Ip} {n : Nat} (h : faultC most k cnt i n = 0) : (i.off = (i.off.toNat : Int) ∧ i.off.toNat + n ≤ 2000) ∧ (k = false → (cnt : Int) < most) ∧ n ≠ 0 ∧ (i.more = true → n % 8 = 0) := by
  unfold faultC at h
  split at h
  · cases h
  · rename_i h1
    split at h
    · cases h
    · rename_i h2
      split at h
      · cases h
      · rename_i h3
        unfold brokenB at h1
        simp at h1
        refine ⟨⟨by omega, by omega⟩, fun hk => ?_, h1.1.1, h1.2⟩
        rcases Int.lt_or_le (cnt : Int) most with g | g
        · exact g
        · exact absurd ⟨hk, g⟩ h3
theorem text_row {w : World} {B : Nat} {e : Ent} (h : EntAt w B e) (ht : e.tot ≤ 2000) : (convert 45 9 (.slice (some ⟨B, 0, none⟩) e.tot 2000)).run Try.prog w = .ok (.string e.text) w := by
  refine BRow.string (bs := (List.range e.tot).map e.bs) (fun j hj => ?_) (by simp)
  have hj' : j < e.tot := by simpa using hj
  refine ⟨?_, h.f j⟩
  rw [h.b j (by omega)]
  simp
set_option maxHeartbeats 4000000 in
theorem add_take {w : World} {F : Nat → Prop} {tb mb : Nat} {most ticks : Int} {blk : Lit → Option Nat} {T : Tbl} (h : TabT w F tb mb most ticks blk T) (i : Ip) (hk : keyOf Try.prog 54 (.agg (nmV i)) = some (nmL i)) (s : ByteArray) (hs : s.size ≤ 1000000000) (hio : i.off ≤ 9223372036854775807)
    (hp : partB i = true) (hc : faultC most (T.S (nmL i)).isSome T.n i s.size = 0) :
    Calls Try.prog 15 #[.pointer (some ⟨tb, 0, none⟩), .agg (ipV i), .string s] w fun r w' => r = .returned (if (T.with (nmL i) i s).whole then .tuple #[.string (T.with (nmL i) i s).text, .bool true, .int .i64 0] else .tuple #[.string ⟨#[]⟩, .bool false, .int .i64 0]) ∧ TabK F w tb mb most ticks (if (T.with (nmL i) i s).whole then T.del (nmL i) else T.put (nmL i) (T.with (nmL i) i s)) w' := by
  have hpt := fun w => isPart_any i w
  unfold partB at hp
  rw [hp] at hpt
  clear hp
  obtain ⟨⟨f1, f2⟩, f3, _⟩ := fault0 hc
  rw [h.same] at hc
  have hfo := fun (w' : World) (hb : Below w.heap.size w w') => faultOf_any (h.below hb) i hk s hs hio
  rw [hc] at hfo
  have hen := fun (w' : World) (hb : Below w.heap.size w w') => entryOf_any (h.below hb) i hk f3
  obtain ⟨e0, he0⟩ : ∃ e0, e0 = (T.S (nmL i)).getD Ent.zero := ⟨_, rfl⟩
  obtain ⟨e1, he1⟩ : ∃ e1, e1 = T.with (nmL i) i s := ⟨_, rfl⟩
  rw [← he1]
  rw [← he0] at hen
  have HE1 : Hid (e1 = e0.take i.off.toNat i.more s) := by rw [he1, he0]; rfl
  obtain ⟨wh, hwh1⟩ : ∃ wh, e1.whole = wh := ⟨_, rfl⟩
  rw [hwh1]
  have HWH := (show Hid _ from hwh1)
  clear he0 he1 hwh1
  have H := (show Hid _ from h)
  have HK := (show Hid _ from hk)
  have HE := (show Hid _ from hen)
  have H1 := (show Hid _ from f1)
  have H2 := (show Hid _ from f2)
  clear h hk hs hio hc hen f1 f2 f3
  go_enter Try.func15, Try.ntmps15
  go_wp2_with fail
  refine (hpt _).mono ?_
  rintro r w1 ⟨rfl, hb1⟩
  clear hpt
  obtain ⟨q1, _, z1⟩ := new_in (by simpa using hb1)
  have HB1 := (show Hid _ from hb1)
  have HA := (show Hid _ from hfo)
  clear hb1 hfo
  go_wp2_with fail
  have hb2 := (((below1 w (.cells (ipV i) 29)).trans (HB1.out.mono (by simp))).trans ((below1 w1 (.cells (nmV i) 54)).mono (Nat.le_of_lt z1)))
  refine (HA.out _ hb2).mono ?_
  rintro r w2 ⟨rfl, hb3⟩
  have HB2 := (show Hid _ from hb2.trans (hb3.mono hb2.size))
  obtain ⟨q1', z1', q2, z2, _⟩ := two_box HB1.out hb3
  have nF1 : ¬ F w.heap.size := fun hF => absurd (H.out.lt _ hF) (Nat.lt_irrefl _)
  have nF2 : ¬ F w1.heap.size := fun hF => by have := H.out.lt _ hF; omega
  have NF := (show Hid _ from And.intro nF1 nF2)
  clear hb2 hb3 HA HB1 q1 nF1 nF2
  go_wp2_with fail
  refine (HE.out _ HB2.out).mono ?_
  rintro r w3 ⟨B, F3, blk3, rfl, k3, hB3, t3⟩
  have q1 : ∀ o, w3.cell? ⟨w.heap.size, o, none⟩ = (ipV i)[o]? := fun o => by rw [k3.cell _ _ z1' NF.out.1, q1' o]
  have q3 : ∀ o, w3.cell? ⟨w1.heap.size, o, none⟩ = (nmV i)[o]? := fun o => by rw [k3.cell _ _ z2 NF.out.2, q2 o]
  have N3 : Hid (¬ F3 w1.heap.size) := k3.not _ z2 NF.out.2
  have Z3 : Hid (w1.heap.size < w3.heap.size) := Nat.lt_of_lt_of_le z2 k3.size
  obtain ⟨a1, a2, a3, a4⟩ := t3.entAt hB3 (upd_same T.S _ (some e0))
  have hta := take_any w3 B e0 i i.off.toNat s a1 H1.out H2.out a2
  rw [← HE1.out] at hta
  have K3 := (show Hid _ from (Kept.of_below F HB2.out).trans k3)
  have T3 := (show Hid _ from And.intro t3 (And.intro hB3 a2))
  have z3 : w.heap.size < w3.heap.size := Nat.lt_of_lt_of_le z1' k3.size
  clear t3 hB3 a1 a2 a3 k3 HB2 q1' q2 HE NF z1' z2 z1 H
  go_wp2_with fail
  refine hta.mono ?_
  rintro r w4 ⟨rfl, he4, hg4⟩
  have ht4 : e1.tot ≤ 2000 := by
    rw [HE1.out, Ent.take_tot]
    split
    · exact H2.out
    · exact T3.out.2.2
  obtain ⟨t4, k4⟩ := T3.out.1.took T3.out.2.1 hg4 he4 ht4 (by rw [HE1.out, Ent.take_age])
  have q4 : ∀ o, w4.cell? ⟨w1.heap.size, o, none⟩ = (nmV i)[o]? := fun o => by rw [k4.cell _ _ Z3.out N3.out, q3 o]
  have Z4 : Hid (w1.heap.size < w4.heap.size) := Nat.lt_of_lt_of_le Z3.out k4.size
  have hwh := isWhole_any w4 B e1 he4 ht4
  have K4 := (show Hid _ from K3.out.trans k4)
  have T4 := (show Hid _ from t4)
  have E4 := (show Hid _ from he4)
  rw [HWH.out] at hwh
  clear hta he4 hg4 t4 k4 K3 Z3 N3 q1 q3 z3 HE1 H1 H2 HWH
  go_wp2_with fail
  refine hwh.mono ?_
  rintro r w5 ⟨rfl, hb5⟩
  have q5 : ∀ o, w5.cell? ⟨w1.heap.size, o, none⟩ = (nmV i)[o]? := fun o => by rw [hb5.cell (by exact Z4.out), q4 o]
  have t5 := T4.out.below hb5
  have E5 := (show Hid _ from E4.out.below hb5)
  have T5 := (show Hid _ from t5)
  have K5 := (show Hid _ from K4.out.trans (Kept.of_below F3 hb5))
  have z5 : w1.heap.size < w5.heap.size := Nat.lt_of_lt_of_le Z4.out hb5.size
  clear hwh hb5 q4 T4 E4 K4 Z4
  cases wh
  · clear t5 q5 z5
    go_wp2
    exact bodyPost_ret (v := .tuple #[.string ⟨#[]⟩, .bool false, .int .i64 0]) (results_tmp3 Try.results15 _ _ _) rfl ⟨rfl, F3, blk3, K5.out, T5.out⟩
  · have c2 := t5.c2
    have hlt := t5.lt tb t5.ft
    clear t5
    have hcl := Cls.cell (w := w5)
    go_upto_region 13 with fail
    refine wp_region_calm_tail 5 (by kernel_rfl) (by kernel_rfl) (fun hne => ?_)
    simp only [List.take_succ_cons, List.take_zero, List.drop_succ_cons, List.drop_zero]
    repeat (go_big_quiet_step (fail))
    refine wpQuiet_nil ?_
    rintro _ ⟨x, rfl⟩
    have H6 := (show Hid _ from T5.out.below x.bel)
    have E6 := (show Hid _ from E5.out.below x.bel)
    have K6 := (show Hid _ from K5.out.trans (Kept.of_below F3 x.bel))
    generalize x.val = w6 at *
    clear hne hcl T5 K5 q5 E5
    obtain ⟨D, ho, hdo⟩ := H6.out.drop (nmL i)
    have HD := (show Hid _ from hdo)
    have BM : Hid (B ≠ mb) := by obtain ⟨_, _, _, _, _, _, g, _⟩ := H6.out.ent _ B T3.out.2.1; exact g
    clear hdo
    go_wp2_with (first | (at_delete; refine wpList_delete_own _ rfl _ _ 50 54 rfl 55 nmLaw Try.underlying50 _ mb _ D rfl ho _ _ rfl HK.out ?_; intro w7 ho7 hg7) | fail)
    obtain ⟨t7, k7⟩ := HD.out w7 ho7 hg7
    have E7 : EntAt w7 B e1 := E6.out.block (hg7.grown.block B E6.out.lt (by simp [BM.out]))
    have K7 := (show Hid _ from K6.out.trans k7)
    have T7 := (show Hid _ from t7)
    rw [Tbl.put_del] at T7
    have c7 := E7.n
    have l7 := E7.lt
    have hsl := slice_b B e1.tot ht4
    have htx := fun (x : Cls w7) => text_row (E7.below x.bel) ht4
    have hcl := Cls.cell (w := w7)
    generalize e1.tot = tt at *
    clear ho7 hg7 t7 k7 HD ho H6 E6 K6 E7
    go_upto_region 14 with fail
    simp only [Act.put]
    refine wp_region_calm (by kernel_rfl) (by kernel_rfl) (fun hne => ?_)
    repeat (go_big_quiet_step (fail))
    refine wpQuiet_nil ?_
    rintro _ ⟨x, rfl⟩
    go_wp2
    exact bodyPost_ret (v := .tuple #[.string e1.text, .bool true, .int .i64 0]) (results_tmp3 Try.results15 _ _ _) rfl ⟨rfl, F3, _, K7.out.trans (Kept.of_below F3 x.bel), T7.out.below x.bel⟩
end Go.Proofs.Ytkfgapljphhmcaa
