/- Contracts of the document's own layer 6: Reset, Unreachable. -/
import Derived.Test.YthfncbcnokkmiaaRefCr2
namespace Go.Proofs.Ythfncbcnokkmiaa
open Go.RowKit
set_option linter.unusedVariables false
theorem sgReset_b (h : Sg) (seq ack : UInt32) : sgV (h.reset true seq ack) = #[.int .i64 h.dst, .int .i64 h.src, .int .u32 (seq.toNat : Int), .int .u32 (ack.toNat : Int), .int .i64 20, .int .i64 0, .string ⟨#[]⟩] := rfl
theorem sgReset_o (h : Sg) (seq ack : UInt32) : sgV (h.reset false seq ack) = #[.int .i64 h.src, .int .i64 h.dst, .int .u32 (seq.toNat : Int), .int .u32 (ack.toNat : Int), .int .i64 20, .int .i64 0, .string ⟨#[]⟩] := rfl
/-- two blocks stored whole, one behind the other; what lies behind them is as it was -/
theorem two_set {w w1 : World} {b : Nat} (vs us : List Value) {A I : Array Value} (hb : b = w.heap.size) (qe : ∀ o, w1.cell? ⟨b, o, none⟩ = A[o]?) (hA : A.size = vs.length) (qi : ∀ o, w1.cell? ⟨b + 1, o, none⟩ = I[o]?) (hI : I.size = us.length) (hB : Hid (Below w.heap.size w w1)) :
    ∃ W2, (w1.setCells b 0 vs).setCells (b + 1) 0 us = W2 ∧ (∀ o, W2.cell? ⟨b, o, none⟩ = vs.toArray[o]?) ∧ (∀ o, W2.cell? ⟨b + 1, o, none⟩ = us.toArray[o]?) ∧ (∀ c o, b + 1 < c → W2.cell? ⟨c, o, none⟩ = w1.cell? ⟨c, o, none⟩) ∧ (∀ x, W2.frozen? x = w1.frozen? x) ∧ Hid (Below w.heap.size w W2) := by
  subst hb
  refine ⟨_, rfl, fun o => ?_, ?_, fun c o hc => ?_, fun x => by rw [frz, frz], below_setCells (Nat.le_succ _) us 0 _ (below_setCells (Nat.le_refl _) vs 0 w1 hB.out)⟩
  · rw [World.cell?_setCells_out _ us 0 _ _ (fun e _ => absurd e (by show ¬ w.heap.size = w.heap.size + 1; omega))]
    exact row_set qe hA o
  · refine row_set (A := I) (fun o => ?_) hI
    rw [World.cell?_setCells_out _ vs 0 _ _ (fun e _ => absurd e (by show ¬ w.heap.size + 1 = w.heap.size; omega))]
    exact qi o
  · rw [World.cell?_setCells_out _ us 0 _ _ (fun e _ => absurd e (by show ¬ c = w.heap.size + 1; omega)), World.cell?_setCells_out _ vs 0 _ _ (fun e _ => absurd e (by show ¬ c = w.heap.size; omega))]
set_option maxRecDepth 100000 in
set_option maxHeartbeats 2000000 in
theorem rcReset_on (e : Et) (i : Ip) (h : Sg) (seq ack : UInt32) (D : ByteArray) (w : World)
    (hd : ∀ w : World, Calls Try.prog 16 #[.agg (etV e), .agg (ipV i.on), .agg (sgV (h.reset false seq ack)), .string ⟨#[]⟩] w fun r w' => r = .returned (.string D) ∧ Below w.heap.size w w') :
    Calls Try.prog 18 #[.agg (etV e), .agg (ipV i), .agg (sgV h), .int .u32 (seq.toNat : Int), .int .u32 (ack.toNat : Int), .bool false] w fun r w' => r = .returned (.string D) ∧ Below w.heap.size w w' := by
  rw [ipOn_v, sgReset_o] at hd
  go_enter Try.func18, Try.ntmps18
  go_wp2_with fail
  refine (hd _).mono ?_
  rintro r w1 ⟨rfl, hb1⟩
  have B1 := (show Hid _ from below_after (below4 _ _ _ _ _) hb1)
  clear hb1 hd
  go_wp2_with fail
  go_ret
  exact ⟨rfl, B1.out⟩
set_option maxRecDepth 100000 in
set_option maxHeartbeats 4000000 in
theorem rcReset_back (e : Et) (i : Ip) (h : Sg) (seq ack : UInt32) (D : ByteArray) (w : World)
    (hd : ∀ w : World, Calls Try.prog 16 #[.agg (etV e.back), .agg (ipV i.back), .agg (sgV (h.reset true seq ack)), .string ⟨#[]⟩] w fun r w' => r = .returned (.string D) ∧ Below w.heap.size w w') :
    Calls Try.prog 18 #[.agg (etV e), .agg (ipV i), .agg (sgV h), .int .u32 (seq.toNat : Int), .int .u32 (ack.toNat : Int), .bool true] w fun r w' => r = .returned (.string D) ∧ Below w.heap.size w w' := by
  have hbk := fun w => rcBack_any e i w
  rw [sgReset_b] at hd
  generalize hE : e.back = eb at *
  generalize hI : i.back = ib at *
  clear hE hI
  go_enter Try.func18, Try.ntmps18
  go_wp2_with fail
  refine (hbk _).mono ?_
  rintro r w1 ⟨rfl, hb1⟩
  have e0 := new_alloc w (.cells (etV e) 24)
  have e1 := below_more e0 (size_alloc1 _ _) (.cells (ipV i) 27)
  have e2 := below_more e1 (size_alloc1 _ _) (.cells (sgV h) 29)
  have e3 := below_more e2 (size_alloc1 _ _) (.cells #[.int .i64 h.src, .int .i64 h.dst, .int .u32 (seq.toNat : Int), .int .u32 (ack.toNat : Int), .int .i64 20, .int .i64 0, .string ⟨#[]⟩] 29)
  have e4 := below_call e3 (size_alloc1 _ _) hb1
  have i1 := new_alloc (w.alloc (.cells (etV e) 24)) (.cells (ipV i) 27)
  have i2 := below_more i1 (size_alloc1 _ _) (.cells (sgV h) 29)
  have i3 := below_more i2 (size_alloc1 _ _) (.cells #[.int .i64 h.src, .int .i64 h.dst, .int .u32 (seq.toNat : Int), .int .u32 (ack.toNat : Int), .int .i64 20, .int .i64 0, .string ⟨#[]⟩] 29)
  have i4 := below_call i3 (size_alloc1 _ _) hb1
  have h2 := new_alloc ((w.alloc (.cells (etV e) 24)).alloc (.cells (ipV i) 27)) (.cells (sgV h) 29)
  have h3 := below_more h2 (size_alloc1 _ _) (.cells #[.int .i64 h.src, .int .i64 h.dst, .int .u32 (seq.toNat : Int), .int .u32 (ack.toNat : Int), .int .i64 20, .int .i64 0, .string ⟨#[]⟩] 29)
  have h4 := below_call h3 (size_alloc1 _ _) hb1
  have x3 := new_alloc (((w.alloc (.cells (etV e) 24)).alloc (.cells (ipV i) 27)).alloc (.cells (sgV h) 29)) (.cells #[.int .i64 h.src, .int .i64 h.dst, .int .u32 (seq.toNat : Int), .int .u32 (ack.toNat : Int), .int .i64 20, .int .i64 0, .string ⟨#[]⟩] 29)
  have x4 := below_call x3 (size_alloc1 _ _) hb1
  obtain ⟨qe, fe, _⟩ := new_in e4
  obtain ⟨qi, fi, _⟩ := new_in i4
  obtain ⟨qh, _, _⟩ := new_in h4
  obtain ⟨qx, fx, _⟩ := new_in x4
  simp only [World.size_alloc] at qi fi qh qx fx
  have B1 := (show Hid _ from below_after (below4 _ _ _ _ _) hb1)
  clear hb1 e0 e1 e2 e3 e4 i1 i2 i3 i4 h2 h3 h4 x3 x4 hbk
  obtain ⟨W2, hW2, ve, vi, vo, vf, B2⟩ := two_set [bv eb.a0, bv eb.a1, bv eb.a2, bv eb.a3, bv eb.a4, bv eb.a5, bv eb.b0, bv eb.b1, bv eb.b2, bv eb.b3, bv eb.b4, bv eb.b5, .int .i64 eb.t] [.int .i64 ib.tos, .int .i64 ib.id, .bool ib.more, .bool ib.keep, .int .i64 ib.off, .int .i64 ib.ttl, .int .i64 ib.proto, .int .u32 (ib.src.toNat : Int), .int .u32 (ib.dst.toNat : Int), .string ib.opts] rfl qe rfl qi rfl B1
  have vh : ∀ o, W2.cell? ⟨w.heap.size + 1 + 1, o, none⟩ = (sgV h)[o]? := fun o => (vo _ o (by omega)).trans (qh o)
  have vx : ∀ o, W2.cell? ⟨w.heap.size + 1 + 1 + 1, o, none⟩ = (#[.int .i64 h.src, .int .i64 h.dst, .int .u32 (seq.toNat : Int), .int .u32 (ack.toNat : Int), .int .i64 20, .int .i64 0, .string ⟨#[]⟩] : Array Value)[o]? := fun o => (vo _ o (by omega)).trans (qx o)
  have vfx : ∀ o, W2.frozen? ⟨w.heap.size + 1 + 1 + 1, o, none⟩ = false := fun o => (vf _).trans (fx o)
  have HW := (show Hid _ from hW2)
  have HVE := (show Hid _ from (show (∀ o, W2.cell? ⟨w.heap.size, o, none⟩ = (etV eb)[o]?) ∧ (∀ o, W2.cell? ⟨w.heap.size + 1, o, none⟩ = (ipV ib)[o]?) from ⟨ve, vi⟩))
  have HVX := (show Hid _ from (show (∀ o, W2.cell? ⟨w.heap.size + 1 + 1, o, none⟩ = (sgV h)[o]?) ∧ (∀ o, W2.cell? ⟨w.heap.size + 1 + 1 + 1, o, none⟩ = (#[.int .i64 h.src, .int .i64 h.dst, .int .u32 (seq.toNat : Int), .int .u32 (ack.toNat : Int), .int .i64 20, .int .i64 0, .string ⟨#[]⟩] : Array Value)[o]?) ∧ (∀ o, W2.frozen? ⟨w.heap.size + 1 + 1 + 1, o, none⟩ = false) from ⟨vh, vx, vfx⟩))
  clear hW2 ve vi vo vf vh vx vfx
  go_wp2_with fail
  change Code.wp _ _ _ _ ((w1.setCells w.heap.size 0 [bv eb.a0, bv eb.a1, bv eb.a2, bv eb.a3, bv eb.a4, bv eb.a5, bv eb.b0, bv eb.b1, bv eb.b2, bv eb.b3, bv eb.b4, bv eb.b5, .int .i64 eb.t]).setCells (w.heap.size + 1) 0 [.int .i64 ib.tos, .int .i64 ib.id, .bool ib.more, .bool ib.keep, .int .i64 ib.off, .int .i64 ib.ttl, .int .i64 ib.proto, .int .u32 (ib.src.toNat : Int), .int .u32 (ib.dst.toNat : Int), .string ib.opts])
  rw [HW.out]
  obtain ⟨ve, vi⟩ := HVE.out
  obtain ⟨vh, vx, vfx⟩ := HVX.out
  clear HW HVE HVX B1 qe fe qi fi qh qx fx
  go_region
  all_goals
    go_wp2_with fail
    refine (hd _).mono ?_
    rintro r w3 ⟨rfl, hb3⟩
    have B3 := (show Hid _ from below_after ((B2.out.setCell (p := ⟨w.heap.size + 1 + 1 + 1, 0, none⟩) (show w.heap.size ≤ w.heap.size + 1 + 1 + 1 from by omega) (.int .i64 h.dst)).setCell (p := ⟨w.heap.size + 1 + 1 + 1, 1, none⟩) (show w.heap.size ≤ w.heap.size + 1 + 1 + 1 from by omega) (.int .i64 h.src)).drew hb3)
    clear hb3
    go_wp2_with fail
    go_ret
    exact ⟨rfl, B3.out⟩
theorem dgTold_v : dgV dgTold = #[.int .i64 0, .int .i64 0, .int .i64 3, .int .i64 3, .int .u32 0] := rfl
theorem toldN_int (i : Ip) (p : ByteArray) : (if 28 + (i.opts.size : Int) < (p.size : Int) then 28 + (i.opts.size : Int) else (p.size : Int)) = ((toldN i p : Nat) : Int) := by
  unfold toldN
  split <;> split <;> omega
set_option maxRecDepth 100000 in
set_option maxHeartbeats 4000000 in
theorem rcUnr_of (e : Et) (i : Ip) (body p t D : ByteArray) (c0 c : Int) (w : World) (ho : i.opts.size ≤ 1000) (hps : p.size ≤ 1000000)
    (hp : ∀ w : World, Calls Try.prog 36 #[.agg (ipV i), .string body] w fun r w' => r = .returned (.tuple #[.string p, .int .i64 c0]) ∧ Below w.heap.size w w')
    (hi : ∀ w : World, Calls Try.prog 43 #[.agg (dgV dgTold), .string (p.extract 0 (toldN i p))] w fun r w' => r = .returned (.tuple #[.string t, .int .i64 c]) ∧ Below w.heap.size w w')
    (hd : ∀ w : World, Calls Try.prog 14 #[.agg (etV e.back), .agg (ipV i.told), .string t] w fun r w' => r = .returned (.string D) ∧ Below w.heap.size w w') :
    Calls Try.prog 20 #[.agg (etV e), .agg (ipV i), .string body] w fun r w' => r = .returned (.string (if c = 0 then D else ⟨#[]⟩)) ∧ Below w.heap.size w w' := by
  have hbk := fun w => rcBack_any e i w
  rw [etBack_v, ipBack_v] at hbk
  rw [etBack_v, ipTold_v] at hd
  rw [dgTold_v] at hi
  have hmin := toldN_int i p
  have hle := toldN_le i p
  have hw : wrap64 (28 + (i.opts.size : Int)) = 28 + (i.opts.size : Int) := by unfold wrap64; omega
  have kn : ((toldN i p : Nat) : Int) ≤ (p.size : Int) := by omega
  have kn0 : (0 : Int) ≤ ((toldN i p : Nat) : Int) := by omega
  obtain ⟨T, hT⟩ : ∃ T, p.extract 0 (toldN i p) = T := ⟨_, rfl⟩
  rw [hT] at hi
  generalize toldN i p = n at *
  clear hle
  by_cases hc : c = 0
  · rw [if_pos hc]
    have hb : (c != 0) = false := by simpa using hc
    clear hc
    go_enter Try.func20, Try.ntmps20
    go_wp2_with fail
    refine (hp _).mono ?_
    rintro r w1 ⟨rfl, hb1⟩
    have n1 := below_call (below_more (new_alloc w (.cells (etV e) 24)) (size_alloc1 _ _) (.cells (ipV i) 27)) (size_alloc1 _ _) hb1
    have m1 := below_call (new_alloc (w.alloc (.cells (etV e) 24)) (.cells (ipV i) 27)) (size_alloc1 _ _) hb1
    obtain ⟨q1, _, z1⟩ := new_in n1
    obtain ⟨r1, _, y1⟩ := new_in m1
    simp only [World.size_alloc] at r1 y1
    have B1 := (show Hid _ from below_after (below2 _ _ _) hb1)
    clear hb1 n1 m1 hp
    go_wp2_with fail
    refine (hbk _).mono ?_
    rintro r w2 ⟨rfl, hb2⟩
    have B2 := (show Hid _ from below_after (below_after B1.out hb2) (below2 w2 (.cells #[bv e.b0, bv e.b1, bv e.b2, bv e.b3, bv e.b4, bv e.b5, bv e.a0, bv e.a1, bv e.a2, bv e.a3, bv e.a4, bv e.a5, .int .i64 e.t] 24) (.cells #[.int .i64 i.tos, .int .i64 0, .bool false, .bool false, .int .i64 0, .int .i64 64, .int .i64 1, .int .u32 (i.dst.toNat : Int), .int .u32 (i.src.toNat : Int), .string ⟨#[]⟩] 27)))
    have N2 := (show Hid _ from below_more (new_alloc w2 (.cells #[bv e.b0, bv e.b1, bv e.b2, bv e.b3, bv e.b4, bv e.b5, bv e.a0, bv e.a1, bv e.a2, bv e.a3, bv e.a4, bv e.a5, .int .i64 e.t] 24)) (size_alloc1 _ _) (.cells #[.int .i64 i.tos, .int .i64 0, .bool false, .bool false, .int .i64 0, .int .i64 64, .int .i64 1, .int .u32 (i.dst.toNat : Int), .int .u32 (i.src.toNat : Int), .string ⟨#[]⟩] 27))
    have M2 := (show Hid _ from new_alloc (w2.alloc (.cells #[bv e.b0, bv e.b1, bv e.b2, bv e.b3, bv e.b4, bv e.b5, bv e.a0, bv e.a1, bv e.a2, bv e.a3, bv e.a4, bv e.a5, .int .i64 e.t] 24)) (.cells #[.int .i64 i.tos, .int .i64 0, .bool false, .bool false, .int .i64 0, .int .i64 64, .int .i64 1, .int .u32 (i.dst.toNat : Int), .int .u32 (i.src.toNat : Int), .string ⟨#[]⟩] 27))
    clear hb2 B1 q1 z1 r1 y1 hbk hmin hw kn kn0
    go_wp2_with fail
    refine (hi _).mono ?_
    rintro r w3 ⟨rfl, hb3⟩
    have n3 := below_call N2.out (size_alloc1 _ _) hb3
    have m3 := below_call M2.out (size_alloc1 _ _) hb3
    obtain ⟨q3, _, z3⟩ := new_in n3
    obtain ⟨r3, _, y3⟩ := new_in m3
    simp only [World.size_alloc] at r3 y3
    have B3 := (show Hid _ from below_after B2.out hb3)
    clear hb3 n3 m3 N2 M2 B2 hi
    go_wp2_with fail
    refine (hd _).mono ?_
    rintro r w4 ⟨rfl, hb4⟩
    have B4 := (show Hid _ from below_after B3.out hb4)
    clear hb4 B3 q3 z3 r3 y3 hd
    go_wp2_with fail
    go_ret
    exact ⟨rfl, B4.out⟩
  · rw [if_neg hc]
    have hb : (c != 0) = true := by simpa using hc
    clear hc hd
    go_enter Try.func20, Try.ntmps20
    go_wp2_with fail
    refine (hp _).mono ?_
    rintro r w1 ⟨rfl, hb1⟩
    have n1 := below_call (below_more (new_alloc w (.cells (etV e) 24)) (size_alloc1 _ _) (.cells (ipV i) 27)) (size_alloc1 _ _) hb1
    have m1 := below_call (new_alloc (w.alloc (.cells (etV e) 24)) (.cells (ipV i) 27)) (size_alloc1 _ _) hb1
    obtain ⟨q1, _, z1⟩ := new_in n1
    obtain ⟨r1, _, y1⟩ := new_in m1
    simp only [World.size_alloc] at r1 y1
    have B1 := (show Hid _ from below_after (below2 _ _ _) hb1)
    clear hb1 n1 m1 hp
    go_wp2_with fail
    refine (hbk _).mono ?_
    rintro r w2 ⟨rfl, hb2⟩
    have B2 := (show Hid _ from below_after (below_after B1.out hb2) (below2 w2 (.cells #[bv e.b0, bv e.b1, bv e.b2, bv e.b3, bv e.b4, bv e.b5, bv e.a0, bv e.a1, bv e.a2, bv e.a3, bv e.a4, bv e.a5, .int .i64 e.t] 24) (.cells #[.int .i64 i.tos, .int .i64 0, .bool false, .bool false, .int .i64 0, .int .i64 64, .int .i64 1, .int .u32 (i.dst.toNat : Int), .int .u32 (i.src.toNat : Int), .string ⟨#[]⟩] 27)))
    clear hb2 B1 q1 z1 r1 y1 hbk hmin hw kn kn0
    go_wp2_with fail
    refine (hi _).mono ?_
    rintro r w3 ⟨rfl, hb3⟩
    have B3 := (show Hid _ from below_after B2.out hb3)
    clear hb3 B2 hi
    go_wp2_with fail
    go_ret
    exact ⟨rfl, B3.out⟩
end Go.Proofs.Ythfncbcnokkmiaa
