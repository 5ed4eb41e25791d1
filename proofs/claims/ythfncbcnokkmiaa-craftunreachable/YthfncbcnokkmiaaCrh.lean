/- Contracts of the methods of craft's heads: each of what it calls. -/
import Derived.Test.YthfncbcnokkmiaaRefCr3
import Derived.Test.YthfncbcnokkmiaaCrOwn
import Derived.LoopN
import Derived.Deep.MidRow
import Derived.Laws.EntriesVeiled
namespace Go.Proofs.Ythfncbcnokkmiaa
open Go.RowKit
set_option linter.unusedVariables false
set_option maxRecDepth 20000
/-- three heads, one behind the other -/
abbrev hdV (e : Et) (i : Ip) (h : Sg) : Array Value := #[bv e.a0, bv e.a1, bv e.a2, bv e.a3, bv e.a4, bv e.a5, bv e.b0, bv e.b1, bv e.b2, bv e.b3, bv e.b4, bv e.b5, .int .i64 e.t, .int .i64 i.tos, .int .i64 i.id, .bool i.more, .bool i.keep, .int .i64 i.off, .int .i64 i.ttl, .int .i64 i.proto, .int .u32 (i.src.toNat : Int), .int .u32 (i.dst.toNat : Int), .string i.opts, .int .i64 h.src, .int .i64 h.dst, .int .u32 (h.seq.toNat : Int), .int .u32 (h.ack.toNat : Int), .int .i64 h.flags, .int .i64 h.win, .string h.opts]
set_option maxHeartbeats 1000000 in
theorem hdFrame (e : Et) (i : Ip) (h : Sg) (body : ByteArray) (w : World) (hs : body.size ≤ 1000000) :
    Calls Try.prog 35 #[.agg (hdV e i h), .string body] w fun r w' => r = .returned (.tuple #[.string (e.put body), .int .i64 0]) ∧ Below w.heap.size w w' := by
  have he := fun w => crEth_put e body w hs
  go_enter Try.func35, Try.ntmps35
  go_wp2_with fail
  refine (he _).mono ?_
  rintro r w1 ⟨rfl, hb1⟩
  have B1 := (show Hid _ from below_after (below1 _ _) hb1)
  clear hb1 he
  go_wp2_with fail
  exact bodyPost_ret (v := .tuple #[.string (e.put body), .int .i64 0]) (by simp [results, Try.results35, go_sem]) rfl ⟨rfl, B1.out⟩
set_option maxHeartbeats 1000000 in
theorem hdData (e : Et) (i : Ip) (h : Sg) (body p : ByteArray) (c : Int) (w : World)
    (hp : ∀ w : World, Calls Try.prog 30 #[.agg (ipV i), .string body] w fun r w' => r = .returned (.tuple #[.string p, .int .i64 c]) ∧ Below w.heap.size w w') :
    Calls Try.prog 34 #[.agg (hdV e i h), .string body] w fun r w' => r = .returned (.tuple #[.string p, .int .i64 c]) ∧ Below w.heap.size w w' := by
  go_enter Try.func34, Try.ntmps34
  go_wp2_with fail
  refine (hp _).mono ?_
  rintro r w1 ⟨rfl, hb1⟩
  have B1 := (show Hid _ from below_after (below1 _ _) hb1)
  clear hb1 hp
  go_wp2_with fail
  exact bodyPost_ret (v := .tuple #[.string p, .int .i64 c]) (by simp [results, Try.results34, go_sem]) rfl ⟨rfl, B1.out⟩
set_option maxHeartbeats 1000000 in
theorem hdSeg (e : Et) (i : Ip) (h : Sg) (body p : ByteArray) (c : Int) (w : World)
    (hp : ∀ w : World, Calls Try.prog 61 #[.int .u32 (i.src.toNat : Int), .int .u32 (i.dst.toNat : Int), .agg (sgV h), .string body] w fun r w' => r = .returned (.tuple #[.string p, .int .i64 c]) ∧ Below w.heap.size w w') :
    Calls Try.prog 38 #[.agg (hdV e i h), .string body] w fun r w' => r = .returned (.tuple #[.string p, .int .i64 c]) ∧ Below w.heap.size w w' := by
  go_enter Try.func38, Try.ntmps38
  go_wp2_with fail
  refine (hp _).mono ?_
  rintro r w1 ⟨rfl, hb1⟩
  have B1 := (show Hid _ from below_after (below1 _ _) hb1)
  clear hb1 hp
  go_wp2_with fail
  exact bodyPost_ret (v := .tuple #[.string p, .int .i64 c]) (by simp [results, Try.results38, go_sem]) rfl ⟨rfl, B1.out⟩
set_option maxHeartbeats 1000000 in
theorem hdUnr (e : Et) (i : Ip) (h : Sg) (body p : ByteArray) (c : Int) (w : World)
    (hp : ∀ w : World, Calls Try.prog 64 #[.agg (dgV dgTold), .string body] w fun r w' => r = .returned (.tuple #[.string p, .int .i64 c]) ∧ Below w.heap.size w w') :
    Calls Try.prog 42 #[.agg (hdV e i h), .string body] w fun r w' => r = .returned (.tuple #[.string p, .int .i64 c]) ∧ Below w.heap.size w w' := by
  rw [dgTold_v] at hp
  go_enter Try.func42, Try.ntmps42
  go_wp2_with fail
  refine (hp _).mono ?_
  rintro r w1 ⟨rfl, hb1⟩
  have B1 := (show Hid _ from below_after (below1 _ _) hb1)
  clear hb1 hp
  go_wp2_with fail
  exact bodyPost_ret (v := .tuple #[.string p, .int .i64 c]) (by simp [results, Try.results42, go_sem]) rfl ⟨rfl, B1.out⟩
/-- one block stored whole -/
theorem one_set {w w1 : World} {b : Nat} (vs : List Value) {A : Array Value} (hb : w.heap.size ≤ b) (qe : ∀ o, w1.cell? ⟨b, o, none⟩ = A[o]?) (hA : A.size = vs.length) (hB : Hid (Below w.heap.size w w1)) :
    ∃ W2, w1.setCells b 0 vs = W2 ∧ (∀ o, W2.cell? ⟨b, o, none⟩ = vs.toArray[o]?) ∧ (∀ c o, b ≠ c → W2.cell? ⟨c, o, none⟩ = w1.cell? ⟨c, o, none⟩) ∧ (∀ x, W2.frozen? x = w1.frozen? x) ∧ Hid (Below w.heap.size w W2) := by
  refine ⟨_, rfl, row_set qe hA, fun c o hc => ?_, fun x => by rw [frz], below_setCells hb vs 0 w1 hB.out⟩
  rw [World.cell?_setCells_out _ vs 0 _ _ (fun e _ => absurd e (by show ¬ c = b; omega))]
/-- a block of our own and another one -/
theorem hdZ_own (w : World) (A Z : Array Value) (s t : TypeId) : Own w ((w.alloc (.cells A s)).alloc (.cells Z t)) w.heap.size A ∧ Own w ((w.alloc (.cells A s)).alloc (.cells Z t)) (w.heap.size + 1) Z :=
  ⟨(Own.new (Below.refl _ w) A s).alloc _, Own.made w _ Z t⟩
abbrev hdZ : Array Value := #[z8, z8, z8, z8, z8, z8, z8, z8, z8, z8, z8, z8, .int .i64 0, .int .i64 0, .int .i64 0, .bool false, .bool false, .int .i64 0, .int .i64 0, .int .i64 0, .int .u32 0, .int .u32 0, .string ⟨#[]⟩, .int .i64 0, .int .i64 0, .int .u32 0, .int .u32 0, .int .i64 0, .int .i64 0, .string ⟨#[]⟩]
/-- four cells stored -/
theorem hdOn_set {w W : World} {e : Et} {i : Ip} {h : Sg} {Z : Array Value} (ho : Own w W w.heap.size (hdV e i h)) (hz : Own w W (w.heap.size + 1) Z) :
    ∃ W2, (((W.setCell ⟨w.heap.size, 15, none⟩ (.bool false)).setCell ⟨w.heap.size, 16, none⟩ (.bool false)).setCell ⟨w.heap.size, 17, none⟩ (.int .i64 0)).setCell ⟨w.heap.size, 22, none⟩ (.string ⟨#[]⟩) = W2 ∧ Own w W2 w.heap.size (hdV e i.on h) ∧ Own w W2 (w.heap.size + 1) Z :=
  ⟨_, rfl, (((ho.set 15 (.bool false) (show _ < 30 from by omega)).set 16 (.bool false) (show _ < 30 from by omega)).set 17 (.int .i64 0) (show _ < 30 from by omega)).set 22 (.string ⟨#[]⟩) (show _ < 30 from by omega),
    (((hz.other _ 15 (.bool false) (by omega) (Nat.le_refl _)).other _ 16 (.bool false) (by omega) (Nat.le_refl _)).other _ 17 (.int .i64 0) (by omega) (Nat.le_refl _)).other _ 22 (.string ⟨#[]⟩) (by omega) (Nat.le_refl _)⟩
/-- a block of our own, read whole; stored whole; told as the result -/
theorem Own.range {w W : World} {b : Nat} {A : Array Value} (h : Own w W b A) : W.rangeAt b 0 A.toList := fun j v hv => by
  rw [Nat.zero_add, h.q j, ← hv, Array.getElem?_toList]
theorem Own.there {w W : World} {b n : Nat} {A : Array Value} (h : Own w W b A) (hn : n ≤ A.size) : W.there b 0 n := fun j hj => by
  rw [Nat.zero_add, h.q j, h.f j, Array.getElem?_eq_getElem (by omega)]
  exact ⟨rfl, rfl⟩
theorem Own.load {P : Program} {w W : World} {b : Nat} {A : Array Value} {ty : TypeId} {d : TypeDesc} (h : Own w W b A) (hu : P.underlying ty = some d) (hd : d.isRow = true) (hi : (P.info? ty).map (·.size) = some A.size) :
    (Instr.loadAt ty (.pointer (some ⟨b, 0, none⟩))).run P W = .ok (.agg A) W := by
  have := run_loadAt_mid (P := P) W b 0 ty A.toList d h.range hu hd (by simpa using hi)
  simpa using this
theorem Own.result {P : Program} {w W : World} {b : Nat} {A : Array Value} {ty : TypeId} {d : TypeDesc} {fn : Func} {p : Tmp} {tmps : Array Value} (h : Own w W b A) (hr : fn.results = #[.cell p ty]) (hp : tmps.getD p undef = .pointer (some ⟨b, 0, none⟩)) (hu : P.underlying ty = some d) (hd : d.isRow = true) (hi : (P.info? ty).map (·.size) = some A.size) :
    (results fn tmps).run P W = .ok (.agg A) W := by
  have hl := run_loadVar_mid (P := P) W b 0 ty A.toList d h.range hu hd (by simpa using hi)
  have hp' : tmps[p]?.getD undef = .pointer (some ⟨b, 0, none⟩) := by simpa using hp
  simp [results, hr, hp', asAddr, hl]
theorem Own.store {P : Program} {w W : World} {b : Nat} {A C : Array Value} {ty : TypeId} (h : Own w W b A) (hs : C.size = A.size) (hi : (P.info? ty).map (·.size) = some C.size) (h1 : C.all (·.oneCell') = true) :
    ∃ W2, (Instr.storeAt ty (.pointer (some ⟨b, 0, none⟩)) (.agg C)).run P W = .ok () W2 ∧ Own w W2 b C ∧ (∀ c D, Own w W c D → b ≠ c → Own w W2 c D) := by
  have hlo := h.lo
  refine ⟨_, run_storeAt_mid (P := P) W b 0 ty C (h.there (by omega)) hi h1, ⟨?_, ?_, ?_, h.lo, below_setCells h.lo C.toList 0 W h.hb⟩, fun c D hc hne => ⟨fun o => ?_, fun o => ?_, ?_, hc.lo, below_setCells h.lo C.toList 0 W hc.hb⟩⟩
  · have := row_set (vs := C.toList) h.q (by simp; omega)
    simpa using this
  · intro o
    rw [frz]
    exact h.f o
  · have := (below_setCells (Nat.le_refl b) C.toList 0 W (Below.refl b W)).size
    have := h.z
    omega
  · rw [World.cell?_setCells_out _ C.toList 0 _ _ (fun e _ => absurd e (by show ¬ c = b; omega))]
    exact hc.q o
  · rw [frz]
    exact hc.f o
  · have := (below_setCells (Nat.le_refl b) C.toList 0 W (Below.refl b W)).size
    have := hc.z
    omega
/-- as a step of the walk -/
theorem wpList_ld {P : Program} {ops : Array Oper} {rest : List Oper} {op : Oper} {a : Act} {w : World} {Q : Exit → Act → World → Prop} {ty : TypeId} {b : Addr} {v : Value} (hl : (Instr.loadAt ty (.pointer (some b))).run P w = .ok v w) (hgd : op.guard = none) (x : Operand) (ho : op.op = .load ty x) (hx : a.eval x = .pointer (some b))
    (h : wpList P ops Q rest (a.put op.dst v) w) : wpList P ops Q (op :: rest) a w :=
  wpList_plain hgd fun _ hK => by
    unfold Oper.wp execOp
    simp only [ho, hx, hl, Sem.run_bind, Result.andThen_ok, Sem.run_pure]
    exact hK _ _ h
theorem wpList_st {P : Program} {ops : Array Oper} {rest : List Oper} {op : Oper} {a : Act} {w w2 : World} {Q : Exit → Act → World → Prop} {ty : TypeId} {b : Addr} {v : Value} (hl : (Instr.storeAt ty (.pointer (some b)) v).run P w = .ok () w2) (hgd : op.guard = none) (x y : Operand) (ho : op.op = .store ty x y) (hx : a.eval x = .pointer (some b)) (hy : a.eval y = v) (hd : op.dst = none)
    (h : wpList P ops Q rest a w2) : wpList P ops Q (op :: rest) a w :=
  have h : wpList P ops Q rest (a.put op.dst undef) w2 := by
    rw [hd]
    exact h
  wpList_plain hgd fun _ hK => by
    unfold Oper.wp execOp
    simp only [ho, hx, hy, hl, Sem.run_bind, Result.andThen_ok, Sem.run_pure]
    exact hK _ _ h
theorem hd_ones (e : Et) (i : Ip) (h : Sg) : (hdV e i h).all (·.oneCell') = true := by simp [hdV, Value.oneCell']
theorem hdi : (Try.prog.info? 63).map (·.size) = some 30 := by kernel_rfl
set_option maxHeartbeats 2000000 in
theorem hdOn (e : Et) (i : Ip) (h : Sg) (w : World) :
    Calls Try.prog 40 #[.agg (hdV e i h)] w fun r w' => r = .returned (.agg (hdV e i.on h)) ∧ Below w.heap.size w w' := by
  go_enter Try.func40, Try.ntmps40
  go_upto_region 1 with fail
  obtain ⟨O1, O2⟩ := hdZ_own w (hdV e i h) hdZ 63 63
  generalize (w.alloc (.cells (hdV e i h) 63)).alloc (.cells hdZ 63) = W at O1 O2 ⊢
  obtain ⟨W2, e2, P1, P2⟩ := hdOn_set O1 O2
  have q1 := O1.q
  have f1 := O1.f
  have z1 := O1.z
  have E2 := (show Hid _ from e2)
  clear e2
  go_upto_region 2 with fail
  rw [E2.out]
  clear E2 q1 f1 z1 O1 O2
  have L1 := P1.load (P := Try.prog) Try.underlying63 rfl hdi
  obtain ⟨W3, S3, R3, _⟩ := P2.store (P := Try.prog) (C := hdV e i.on h) (ty := 63) rfl hdi (hd_ones _ _ _)
  have R3' := (show Hid _ from R3)
  clear R3 P1 P2
  generalize hA : hdV e i.on h = A at *
  generalize hdV e i h = A0 at *
  go_wp2_with (first | (refine wpList_ld L1 rfl _ rfl rfl ?_) | (refine wpList_st S3 rfl _ _ rfl rfl rfl rfl ?_))
  refine bodyPost_ret (v := .agg A) ?_ rfl ⟨by rw [← hA], R3'.out.hb⟩
  exact R3'.out.result Try.results40 rfl Try.underlying63 rfl (by rw [← hA]; exact hdi)
def Sg.turn (h : Sg) : Sg := ⟨h.dst, h.src, h.seq, h.ack, h.flags, h.win, h.opts⟩
theorem hdBack_two {w W : World} {e : Et} {i : Ip} {h : Sg} {Z : Array Value} (ho : Own w W w.heap.size (hdV e i.on h)) (hz : Own w W (w.heap.size + 1) Z) :
    ∃ W2, (W.setCell ⟨w.heap.size, 14, none⟩ (.int .i64 0)).setCell ⟨w.heap.size, 18, none⟩ (.int .i64 64) = W2 ∧ Own w W2 w.heap.size (hdV e ⟨i.tos, 0, false, false, 0, 64, i.proto, i.src, i.dst, ⟨#[]⟩⟩ h) ∧ Own w W2 (w.heap.size + 1) Z :=
  ⟨_, rfl, (ho.set 14 (.int .i64 0) (show _ < 30 from by omega)).set 18 (.int .i64 64) (show _ < 30 from by omega),
    (hz.other _ 14 (.int .i64 0) (by omega) (Nat.le_refl _)).other _ 18 (.int .i64 64) (by omega) (Nat.le_refl _)⟩
theorem hdBack_net {w W : World} {e : Et} {i : Ip} {h : Sg} {Z : Array Value} (ho : Own w W w.heap.size (hdV e ⟨i.tos, 0, false, false, 0, 64, i.proto, i.src, i.dst, ⟨#[]⟩⟩ h)) (hz : Own w W (w.heap.size + 1) Z) :
    ∃ W2, (W.setCell ⟨w.heap.size, 21, none⟩ (.int .u32 (i.src.toNat : Int))).setCell ⟨w.heap.size, 20, none⟩ (.int .u32 (i.dst.toNat : Int)) = W2 ∧ Own w W2 w.heap.size (hdV e i.back h) ∧ Own w W2 (w.heap.size + 1) Z :=
  ⟨_, rfl, (ho.set 21 (.int .u32 (i.src.toNat : Int)) (show _ < 30 from by omega)).set 20 (.int .u32 (i.dst.toNat : Int)) (show _ < 30 from by omega),
    (hz.other _ 21 _ (by omega) (Nat.le_refl _)).other _ 20 _ (by omega) (Nat.le_refl _)⟩
theorem hdBack_seg {w W : World} {e : Et} {i : Ip} {h : Sg} {Z : Array Value} (ho : Own w W w.heap.size (hdV e i h)) (hz : Own w W (w.heap.size + 1) Z) :
    ∃ W2, (W.setCell ⟨w.heap.size, 24, none⟩ (.int .i64 h.src)).setCell ⟨w.heap.size, 23, none⟩ (.int .i64 h.dst) = W2 ∧ Own w W2 w.heap.size (hdV e i h.turn) ∧ Own w W2 (w.heap.size + 1) Z :=
  ⟨_, rfl, (ho.set 24 (.int .i64 h.src) (show _ < 30 from by omega)).set 23 (.int .i64 h.dst) (show _ < 30 from by omega),
    (hz.other _ 24 _ (by omega) (Nat.le_refl _)).other _ 23 _ (by omega) (Nat.le_refl _)⟩
theorem hdBack_link {w W : World} {e : Et} {i : Ip} {h : Sg} {Z : Array Value} (ho : Own w W w.heap.size (hdV e i h)) (hz : Own w W (w.heap.size + 1) Z) :
    ∃ W2, (((((((((((W.setCell ⟨w.heap.size, 0, none⟩ (bv e.b0)).setCell ⟨w.heap.size, 1, none⟩ (bv e.b1)).setCell ⟨w.heap.size, 2, none⟩ (bv e.b2)).setCell ⟨w.heap.size, 3, none⟩ (bv e.b3)).setCell ⟨w.heap.size, 4, none⟩ (bv e.b4)).setCell ⟨w.heap.size, 5, none⟩ (bv e.b5)).setCell ⟨w.heap.size, 6, none⟩ (bv e.a0)).setCell ⟨w.heap.size, 7, none⟩ (bv e.a1)).setCell ⟨w.heap.size, 8, none⟩ (bv e.a2)).setCell ⟨w.heap.size, 9, none⟩ (bv e.a3)).setCell ⟨w.heap.size, 10, none⟩ (bv e.a4)).setCell ⟨w.heap.size, 11, none⟩ (bv e.a5) = W2 ∧ Own w W2 w.heap.size (hdV e.back i h) ∧ Own w W2 (w.heap.size + 1) Z := by
  have lt : ∀ k, k < 30 → k < 30 := fun k h => h
  refine ⟨_, rfl, ?_, ?_⟩
  · have o1 := (((((ho.set 0 (bv e.b0) (show _ < 30 from by omega)).set 1 (bv e.b1) (show _ < 30 from by omega)).set 2 (bv e.b2) (show _ < 30 from by omega)).set 3 (bv e.b3) (show _ < 30 from by omega)).set 4 (bv e.b4) (show _ < 30 from by omega)).set 5 (bv e.b5) (show _ < 30 from by omega)
    exact (((((o1.set 6 (bv e.a0) (show _ < 30 from by omega)).set 7 (bv e.a1) (show _ < 30 from by omega)).set 8 (bv e.a2) (show _ < 30 from by omega)).set 9 (bv e.a3) (show _ < 30 from by omega)).set 10 (bv e.a4) (show _ < 30 from by omega)).set 11 (bv e.a5) (show _ < 30 from by omega)
  · have n : w.heap.size + 1 ≠ w.heap.size := by omega
    have l := Nat.le_refl w.heap.size
    exact (((((((((((hz.other _ 0 _ n l).other _ 1 _ n l).other _ 2 _ n l).other _ 3 _ n l).other _ 4 _ n l).other _ 5 _ n l).other _ 6 _ n l).other _ 7 _ n l).other _ 8 _ n l).other _ 9 _ n l).other _ 10 _ n l).other _ 11 _ n l
set_option maxHeartbeats 4000000 in
theorem hdBack (e : Et) (i : Ip) (h : Sg) (w : World) :
    Calls Try.prog 31 #[.agg (hdV e i h)] w fun r w' => r = .returned (.agg (hdV e.back i.back h.turn)) ∧ Below w.heap.size w w' := by
  have ho := fun w => hdOn e i h w
  go_enter Try.func31, Try.ntmps31
  go_upto_region 1 with fail
  obtain ⟨O1, O2⟩ := hdZ_own w (hdV e i h) hdZ 63 63
  generalize (w.alloc (.cells (hdV e i h) 63)).alloc (.cells hdZ 63) = W at O1 O2 ⊢
  have L1 := O1.load (P := Try.prog) Try.underlying63 rfl hdi
  go_wp2_with (refine wpList_ld L1 rfl _ rfl rfl ?_)
  refine (ho _).mono ?_
  rintro r w1 ⟨rfl, hb1⟩
  replace O1 := O1.below hb1
  replace O2 := O2.below hb1
  clear hb1 ho L1
  obtain ⟨W1, S1, R1, R2⟩ := O1.store (P := Try.prog) (C := hdV e i.on h) (ty := 63) rfl hdi (hd_ones _ _ _)
  replace R2 := R2 _ _ O2 (by omega)
  clear O1 O2
  go_upto_region 2 with (refine wpList_st S1 rfl _ _ rfl rfl rfl rfl ?_)
  clear S1
  obtain ⟨W2, e2, P1, P2⟩ := hdBack_two R1 R2
  have q1 := R1.q
  have f1 := R1.f
  have z1 := R1.z
  have E2 := (show Hid _ from e2)
  clear e2
  go_upto_region 3 with fail
  rw [E2.out]
  clear E2 q1 f1 z1 R1 R2
  have R1 := P1
  have R2 := P2
  clear P1 P2
  obtain ⟨W3, e2, P1, P2⟩ := hdBack_link R1 R2
  have q1 := R1.q
  have f1 := R1.f
  have z1 := R1.z
  have E2 := (show Hid _ from e2)
  clear e2
  go_upto_region 4 with fail
  rw [E2.out]
  clear E2 q1 f1 z1 R1 R2
  have R1 := P1
  have R2 := P2
  clear P1 P2
  obtain ⟨W4, e2, P1, P2⟩ := hdBack_net R1 R2
  have q1 := R1.q
  have f1 := R1.f
  have z1 := R1.z
  have E2 := (show Hid _ from e2)
  clear e2
  go_upto_region 5 with fail
  rw [E2.out]
  clear E2 q1 f1 z1 R1 R2
  have R1 := P1
  have R2 := P2
  clear P1 P2
  obtain ⟨W5, e2, P1, P2⟩ := hdBack_seg R1 R2
  have q1 := R1.q
  have f1 := R1.f
  have z1 := R1.z
  have E2 := (show Hid _ from e2)
  clear e2
  go_upto_region 6 with fail
  rw [E2.out]
  clear E2 q1 f1 z1 R1 R2
  have R1 := P1
  have R2 := P2
  clear P1 P2
  have L1 := R1.load (P := Try.prog) Try.underlying63 rfl hdi
  obtain ⟨W6, S3, R3, _⟩ := R2.store (P := Try.prog) (C := hdV e.back i.back h.turn) (ty := 63) rfl hdi (hd_ones _ _ _)
  have R3' := (show Hid _ from R3)
  clear R3 R1 R2
  generalize hA : hdV e.back i.back h.turn = A at *
  go_wp2_with (first | (refine wpList_ld L1 rfl _ rfl rfl ?_) | (refine wpList_st S3 rfl _ _ rfl rfl rfl rfl ?_))
  refine bodyPost_ret (v := .agg A) ?_ rfl ⟨by rw [← hA], R3'.out.hb⟩
  exact R3'.out.result Try.results31 rfl Try.underlying63 rfl (by rw [← hA]; exact hdi)
end Go.Proofs.Ythfncbcnokkmiaa
