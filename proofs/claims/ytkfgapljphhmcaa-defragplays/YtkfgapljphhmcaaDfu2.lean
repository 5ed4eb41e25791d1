/- Layer 7: contract of Tick. -/
import Derived.Test.YtkfgapljphhmcaaDfu
namespace Go.Proofs.Ytkfgapljphhmcaa
open Go.RowKit Go.Maps
set_option linter.unusedVariables false
set_option maxRecDepth 20000
theorem agedBut_all (n ticks : Int) (S : Lit → Option Ent) (left : Lit → Bool) (h : ∀ kl e, S kl = some e → left kl = true) : agedBut n ticks S left = S := by
  funext kl
  unfold agedBut
  cases hl : left kl with
  | true => rfl
  | false =>
    cases hs : S kl with
    | none => rfl
    | some e => rw [h kl e hs] at hl; cases hl
theorem agedBut_none (n ticks : Int) (S : Lit → Option Ent) (left : Lit → Bool) (h : ∀ kl, left kl = false) : agedBut n ticks S left = fun kl => (S kl).bind (Ent.aged n ticks) := by
  funext kl
  unfold agedBut
  rw [h kl]
  rfl
theorem agedBut_step (n ticks : Int) (S : Lit → Option Ent) (left : Lit → Bool) (kl : Lit) (hk : WideAt.IsKeyLit kl) : agedBut n ticks S (fun z => left z && !z.sameKey kl) = upd (agedBut n ticks S left) kl ((S kl).bind (Ent.aged n ticks)) := by
  funext k2
  by_cases h : k2 = kl
  · subst h
    rw [upd_same]
    unfold agedBut
    simp [WideAt.sameKey_self hk]
  · rw [upd_other _ _ _ h]
    unfold agedBut
    have e2 : k2.sameKey kl = false := by
      cases hq : k2.sameKey kl
      · rfl
      · exact absurd (WideAt.sameKey_eq hq) h
    simp [e2]
theorem owns_one {w : World} {b n m : Nat} {D D' : DataW Nat} (h : w.ownsMap Try.prog 54 ptrR b n D) (k : w.ownsMap Try.prog 54 ptrR b m D') : D = D' := by
  obtain ⟨es, cl, h1, _, _, rfl⟩ := h
  obtain ⟨es', cl', h1', _, _, rfl⟩ := k
  rw [h1] at h1'
  cases h1'
  rfl
theorem Tab.reads {w : World} {F : Nat → Prop} {tb mb : Nat} {most ticks : Int} {blk : Lit → Option Nat} {S : Lit → Option Ent} {cnt n : Nat} {D : DataW Nat} (h : Tab w F tb mb most ticks blk S cnt) (ho : w.ownsMap Try.prog 54 ptrR mb n D) : Maps.size D = cnt ∧ Reads D blk := by
  obtain ⟨D', ho', hz, hr⟩ := h.map
  rw [owns_one ho ho']
  exact ⟨hz, hr⟩
/-- a loop over the table's map under way: those that 'left' names are still to come -/
structure Ticks (w : World) (F : Nat → Prop) (tb mb : Nat) (most ticks : Int) (T : Tbl) (n : Int) (wr : World) (left : Lit → Bool) (cnt : Nat) (D : DataW Nat) (blk : Lit → Option Nat) (gone : Nat) : Prop where
  tab : ∃ c1, Tab wr F tb mb most ticks blk (agedBut n ticks T.S left) c1 ∧ c1 + gone = T.n
  kept : Kept F w F wr
  lef : ∀ kl, left kl = true → WideAt.IsKeyLit kl
set_option maxHeartbeats 4000000 in
theorem tick_any {w : World} {F : Nat → Prop} {tb mb : Nat} {most ticks : Int} {blk : Lit → Option Nat} {T : Tbl} (h : TabT w F tb mb most ticks blk T) (n0 : Int) :
    Calls Try.prog 12 #[.pointer (some ⟨tb, 0, none⟩), .int .i64 n0] w fun r w' => ∃ T' : Tbl, T'.S = (fun kl => (T.S kl).bind (Ent.aged (max 0 (min n0 100000)) ticks)) ∧ T'.n ≤ T.n ∧ r = .returned (.int .i64 ((T.n - T'.n : Nat) : Int)) ∧ TabK F w tb mb most ticks T' w' := by
  have hwi := fun w => within_any n0 0 100000 w
  obtain ⟨n, hn⟩ : ∃ n, n = max 0 (min n0 100000) := ⟨_, rfl⟩
  rw [← hn] at hwi
  rw [← hn]
  have n1 : 0 ≤ n := by omega
  have n2 : n ≤ 100000 := by omega
  clear hn
  have c2 := h.c2
  have hlt := h.lt tb h.ft
  obtain ⟨D, ho, hz, hr⟩ := h.map
  have hn32 := h.few.1
  have htk := h.few.2.2
  have H := (show Hid _ from h)
  have HZ := (show Hid _ from hz)
  have HS : Hid (∀ kl, Maps.has D kl = (T.S kl).isSome) := fun kl => by rw [hr.1, ← h.same]
  have HKey : Hid (∀ kl, Maps.has D kl = true → WideAt.IsKeyLit kl) := fun kl hk => h.key kl (fun x => by rw [hr.1, x] at hk; cases hk)
  have NR : Hid (¬ F w.heap.size) := fun hF => absurd (h.lt _ hF) (Nat.lt_irrefl _)
  clear h hr hz
  go_enter Try.func12, Try.ntmps12
  go_wp2_with fail
  refine (hwi _).mono ?_
  rintro r w0 ⟨rfl, rfl⟩
  clear hwi
  go_wp2_with (first | (at_range; refine wpList_range_own _ rfl _ 50 rfl 54 55 nmLaw Try.underlying50 _ mb T.n D rfl ho ?_; intro w0 hrg0 hg0 hs0) | go_in)
  go_frame
  have H0 : Hid (Below w.heap.size w w0) := ⟨hg0.os, hg0.tape, hg0.output, hg0.size, fun k hk => hg0.block k hk (by simp)⟩
  clear c2
  go_loopw [5] (fun v wr => ∃ left cnt D blk, wr.ranges Try.prog 54 ptrR mb w.heap.size T.n D left cnt ∧ ∃ gone : Nat, v = .int .i64 (gone : Int) ∧ gone + cnt ≤ T.n ∧ Hid (Ticks w F tb mb most ticks T n wr left cnt D blk gone)) (fun _ wr => wr.rangeLeft mb w.heap.size)
  case atStart =>
    refine ⟨_, _, D, blk, hrg0, 0, rfl, by rw [HZ.out]; omega, ?_⟩
    refine ⟨⟨T.n, ?_, by omega⟩, Kept.of_below F H0.out, HKey.out⟩
    rw [agedBut_all n ticks T.S _ (fun kl e he => by rw [HS.out, he]; rfl)]
    exact H.out.below H0.out
  case round =>
    obtain ⟨left, cnt, D1, blk1, hrg, gone, rfl, hgc, HT⟩ := hrel
    clear hrg0 hg0 hs0 H0 ho HS HKey HZ H
    have HR1 : Hid (Reads D1 blk1) := by obtain ⟨c1, t1, _⟩ := HT.out.tab; exact (t1.reads hrg.owns).2
    go_upto_region 5 with (first | (at_next; refine wpList_next_tab _ rfl _ rfl mb w.heap.size T.n D1 blk1 HR1.out left cnt rfl hrg (fun hc0 hl0 => ?_) (fun i B kl w1 cnt1 hkx hlk hB hrg1 hlt1 hg1 hs1 hen => ?_)) | fail)
    · go_ret
      obtain ⟨c1, t1, hc1⟩ := HT.out.tab
      rw [agedBut_none n ticks T.S left hl0] at t1
      refine ⟨⟨_, c1⟩, rfl, by show c1 ≤ T.n; omega, ret_int (by show (gone : Int) = ((T.n - c1 : Nat) : Int); omega), F, blk1, HT.out.kept, t1⟩
    · have hrw := HT.out.kept.size
      have hrr : w.heap.size < wr.heap.size := hrg.lt
      have hK1 : Kept F w F w1 := ⟨hg1.os.trans HT.out.kept.os, hg1.tape.trans HT.out.kept.tape, hg1.output.trans HT.out.kept.output, Nat.le_trans hrw hg1.size, fun k hk hF => by rw [hg1.block k (by omega) (by simp; omega), HT.out.kept.block k hk hF], fun b hb => .inl hb⟩
      obtain ⟨c1, t0, hc1⟩ := HT.out.tab
      have t1 : Tab w1 F tb mb most ticks blk1 (agedBut n ticks T.S left) c1 := t0.block (by omega) (fun b hF => hg1.block b (t0.lt b hF) (fun e => NR.out (by injection e with e; rw [← e]; exact hF)))
      obtain ⟨e, a1, a2, a3, ⟨a4, a4'⟩, a5, a6, a7⟩ := t1.ent kl B hB
      have ha1 : T.S kl = some e := by rw [← a1]; unfold agedBut; rw [hlk]; rfl
      have A := (show Hid _ from a2)
      have T1 := (show Hid _ from t1)
      have K1 := (show Hid _ from hK1)
      have HA := (show Hid _ from ha1)
      have hRG : Hid (w1.ranges Try.prog 54 ptrR mb w.heap.size T.n D1 (fun z => left z && !z.sameKey kl) cnt1) := hrg1
      have hRG0 : Hid (wr.ranges Try.prog 54 ptrR mb w.heap.size T.n D1 left cnt) := hrg
      have HKL : Hid (WideAt.IsKeyLit kl) := HT.out.lef kl hlk
      have HE2 : Hid (e.tot ≤ 2000) := a3
      have HLEF := (show Hid _ from HT.out.lef)
      have HKX := (show Hid _ from hkx)
      have HBB : Hid (blk1 kl = some B ∧ B ≠ mb ∧ F B) := ⟨hB, a6, a5⟩
      have Hrr : Hid (w.heap.size < w1.heap.size) := by show _ < _; omega
      obtain ⟨g, hg⟩ : ∃ g, g = e.age := ⟨_, rfl⟩
      rw [← hg] at a4 a4'
      have HG := (show Hid _ from hg)
      clear hrg hrg1 hK1 t0 t1 a1 a2 a3 a5 a6 a7 ha1 hlk hB hkx hg1 HT hg hrw hs1 hrr
      go_upto_region 6 with fail
      clear hen
      obtain ⟨w2, hw2⟩ : ∃ w2, w2 = w1.alloc (.cells (nmV i) 54) := ⟨_, rfl⟩
      have hb2 : Below w1.heap.size w1 w2 := by rw [hw2]; exact below1 _ _
      have q2 : ∀ o, w2.cell? ⟨w1.heap.size, o, none⟩ = (nmV i)[o]? := fun o => by rw [hw2]; exact World.cell?_alloc_new _ _ _ _
      have z2 : w1.heap.size < w2.heap.size := by rw [hw2]; simp
      have A2 := A.out.below hb2
      have e4 := A2.a
      rw [← HG.out] at e4
      have f4 := A2.f 4001
      have l4 := A2.lt
      have HB2 := (show Hid _ from hb2)
      rw [← hw2]
      have hbz : B ≠ w1.heap.size := by have := A.out.lt; omega
      obtain ⟨bx, hbx⟩ : ∃ bx, bx = w1.heap.size := ⟨_, rfl⟩
      rw [← hbx] at q2 z2 hbz
      rw [← hbx]
      clear hw2 A2 hb2
      have HBX := (show Hid _ from hbx)
      clear hbx
      go_upto_region 7 with fail
      obtain ⟨w3, hw3⟩ : ∃ w3, w3 = w2.setCell ⟨B, 4001, none⟩ (.int .i64 (g + n)) := ⟨_, rfl⟩
      have hg3 : w2.grownBy w3 (some B) := by rw [hw3]; exact (grown_set w2 B 4001 _).1
      have A3 : EntAt w3 B { e with age := g + n } := by rw [hw3]; exact (A.out.below HB2.out).setA (g + n)
      have e3 := A3.a
      have l3 := A3.lt
      have T2 := T1.out.below HB2.out
      have hB0 := HBB.out
      obtain ⟨_, _, _, _, _, _, _, btb⟩ := T2.ent kl B hB0.1
      have d1 : w3.cell? ⟨tb, 1, none⟩ = some (.int .i64 ticks) := by rw [World.cell?_of_block (a := ⟨tb, 1, none⟩) (hg3.block tb (T2.lt tb T2.ft) (by simp [Ne.symm btb]))]; exact T2.c1
      have d2 : w3.cell? ⟨tb, 2, none⟩ = some (.map (some mb)) := by rw [World.cell?_of_block (a := ⟨tb, 2, none⟩) (hg3.block tb (T2.lt tb T2.ft) (by simp [Ne.symm btb]))]; exact T2.c2
      have tl : tb < w3.heap.size := Nat.lt_of_lt_of_le (T2.lt tb T2.ft) hg3.size
      have q3 : ∀ o, w3.cell? ⟨bx, o, none⟩ = (nmV i)[o]? := fun o => by rw [World.cell?_of_block (a := ⟨bx, o, none⟩) (hg3.block bx z2 (by simp [Ne.symm hbz]))]; exact q2 o
      have z3 : bx < w3.heap.size := Nat.lt_of_lt_of_le z2 hg3.size
      have R2 : Hid (w2.ranges Try.prog 54 ptrR mb w.heap.size T.n D1 (fun z => left z && !z.sameKey kl) cnt1) := ranges_below hRG.out HB2.out
      have hBr : w.heap.size ≠ B := fun x => NR.out (by rw [x]; exact hB0.2.2)
      have R3 : Hid (w3.ranges Try.prog 54 ptrR mb w.heap.size T.n D1 (fun z => left z && !z.sameKey kl) cnt1) := R2.out.kept hg3 (by simp [Ne.symm hB0.2.1]) (by simp [hBr])
      have K3 : Hid (Kept F w F w3) := (K1.out.trans (Kept.of_below F HB2.out)).trans (Kept.of_grown hg3 hB0.2.2)
      have HT2 := (show Hid _ from T2)
      have HG3 := (show Hid _ from hg3)
      have HA3 := (show Hid _ from A3)
      have hcl := Cls.cell (w := w3)
      rw [← hw3]
      clear hw3 hg3 A3 T2 q2 z2 e4 f4 l4 hbz hB0 btb HBX A T1 K1 hRG HB2 hBr
      by_cases hold : ticks ≤ g + n
      · have hd : decide (ticks ≤ g + n) = true := by simp [hold]
        refine wp_region_calm (by kernel_rfl) (by kernel_rfl) (fun hne => ?_)
        repeat (go_big_quiet_step (fail))
        refine wpQuiet_nil ?_
        rintro _ ⟨x, rfl⟩
        have R4 : Hid (x.val.ranges Try.prog 54 ptrR mb w.heap.size T.n D1 (fun z => left z && !z.sameKey kl) cnt1) := ranges_below R3.out x.bel
        have K4 := (show Hid _ from K3.out.trans (Kept.of_below F x.bel))
        have q4 : ∀ o, x.val.cell? ⟨bx, o, none⟩ = (nmV i)[o]? := fun o => by rw [x.cell _ _ z3, q3 o]
        have d4 : x.val.cell? ⟨tb, 2, none⟩ = some (.map (some mb)) := by rw [x.cell _ _ tl, d2]
        have z4 := Nat.lt_of_lt_of_le z3 x.bel.size
        have tl4 := Nat.lt_of_lt_of_le tl x.bel.size
        have X4 := (show Hid _ from x.bel)
        generalize x.val = w4 at *
        clear hne hcl R3 K3 q3 z3 tl d1 d2 e3 l3
        have hcl := Cls.cell (w := w4)
        go_upto_region 8 with fail
        refine wp_region_calm_tail 5 (by kernel_rfl) (by kernel_rfl) (fun hne => ?_)
        simp only [List.take_succ_cons, List.take_zero, List.drop_succ_cons, List.drop_zero]
        repeat (go_big_quiet_step (fail))
        refine wpQuiet_nil ?_
        rintro _ ⟨x, rfl⟩
        have R5 : x.val.ranges Try.prog 54 ptrR mb w.heap.size T.n D1 (fun z => left z && !z.sameKey kl) cnt1 := ranges_below R4.out x.bel
        have K5 := (show Hid _ from K4.out.trans (Kept.of_below F x.bel))
        have X5 : Hid (Below w3.heap.size w3 x.val) := X4.out.trans (x.bel.mono X4.out.size)
        generalize x.val = w5 at *
        clear hne hcl R4 K4 q4 z4 tl4 d4 X4
        go_wp2_with (first | (at_delete; refine wpList_delete_ranges _ rfl _ _ 50 54 rfl 55 nmLaw Try.underlying50 _ mb w.heap.size T.n D1 _ cnt1 rfl R5 _ kl rfl HKX.out ?_; intro w6 cnt6 hrg6 hle6 ht6) | go_in)
        go_roundw
        case rel =>
          rw [Maps.strike_twice] at hrg6
          have hz2 := HT2.out.reads R2.out.owns
          have hg6 : ∀ b, F b → b ≠ mb → b ≠ B → w6.heap[b]? = w2.heap[b]? := fun b hF h1 h2 => by
            have hb2 := HT2.out.lt b hF
            have hb3 := Nat.lt_of_lt_of_le hb2 HG3.out.size
            rw [ht6.grown.block b (Nat.lt_of_lt_of_le hb3 X5.out.size) (by simp [h1]), X5.out.block b hb3, HG3.out.block b hb2 (by simp [h2])]
          obtain ⟨c', hc', t6⟩ := HT2.out.del2 kl HBB.out.1 (owns_tight R2.out.owns hz2.1) hz2.1 hz2.2 hrg6.owns (Nat.le_trans HG3.out.size (Nat.le_trans X5.out.size ht6.grown.size)) hg6
          refine ⟨_, cnt6, _, upd blk1 kl none, hrg6, gone + 1, by go_num, by omega, ⟨c', ?_, by omega⟩, K5.out.trans (Kept.of_grown ht6.grown HT2.out.fm), fun k2 hk2 => HLEF.out k2 (by simp at hk2; exact hk2.1)⟩
          rw [agedBut_step _ _ _ _ _ HKL.out, HA.out]
          have : (some e).bind (Ent.aged n ticks) = none := by
            show Ent.aged n ticks e = none
            unfold Ent.aged
            rw [← HG.out, if_pos hold]
          rw [this]
          exact t6
        case measure => rw [hrg6.left_eq, hRG0.out.left_eq]; omega
      · have hd : decide (ticks ≤ g + n) = false := by simp; omega
        refine wp_region_calm (by kernel_rfl) (by kernel_rfl) (fun hne => ?_)
        repeat (go_big_quiet_step (fail))
        refine wpQuiet_nil ?_
        rintro _ ⟨x, rfl⟩
        have R4 : Hid (x.val.ranges Try.prog 54 ptrR mb w.heap.size T.n D1 (fun z => left z && !z.sameKey kl) cnt1) := ranges_below R3.out x.bel
        have K4 := (show Hid _ from K3.out.trans (Kept.of_below F x.bel))
        have X4 := (show Hid _ from x.bel)
        generalize x.val = w4 at *
        clear hne hcl R3 K3 q3 z3 tl d1 d2 e3 l3
        go_wp2_with fail
        go_roundw
        case rel =>
          refine ⟨_, cnt1, D1, blk1, R4.out, gone, rfl, by omega, ⟨c1, ?_, hc1⟩, K4.out, fun k2 hk2 => HLEF.out k2 (by simp at hk2; exact hk2.1)⟩
          rw [agedBut_step _ _ _ _ _ HKL.out, HA.out]
          have : (some e).bind (Ent.aged n ticks) = some { e with age := g + n } := by
            show Ent.aged n ticks e = _
            unfold Ent.aged
            rw [← HG.out, if_neg hold]
          rw [this]
          exact (HT2.out.turn HBB.out.1 HG3.out HA3.out HE2.out ⟨by show 0 ≤ g + n; omega, by show g + n < ticks; omega⟩).below X4.out
        case measure => rw [R4.out.left_eq, hRG0.out.left_eq]; omega
end Go.Proofs.Ytkfgapljphhmcaa
