/- Contracts of layer 6 (craft), each over those of what it calls. -/
import Derived.Test.YthfncbcnokkmiaaCrw
namespace Go.Proofs.Ythfncbcnokkmiaa
open Go.RowKit
set_option linter.unusedVariables false
set_option maxRecDepth 20000
def sg0 : Sg := ⟨0, 0, 0, 0, 0, 0, ⟨#[]⟩⟩
abbrev hdV0 (e : Et) (i : Ip) : Array Value := #[bv e.a0, bv e.a1, bv e.a2, bv e.a3, bv e.a4, bv e.a5, bv e.b0, bv e.b1, bv e.b2, bv e.b3, bv e.b4, bv e.b5, .int .i64 e.t, .int .i64 i.tos, .int .i64 i.id, .bool i.more, .bool i.keep, .int .i64 i.off, .int .i64 i.ttl, .int .i64 i.proto, .int .u32 (i.src.toNat : Int), .int .u32 (i.dst.toNat : Int), .string i.opts, .int .i64 0, .int .i64 0, .int .u32 0, .int .u32 0, .int .i64 0, .int .i64 0, .string ⟨#[]⟩]
theorem hdV_0 (e : Et) (i : Ip) : hdV e i sg0 = hdV0 e i := rfl
set_option maxHeartbeats 2000000 in
theorem crData_of (e : Et) (i : Ip) (body p : ByteArray) (c : Int) (w : World) (hs : p.size ≤ 1000000)
    (hp : ∀ w : World, Calls Try.prog 30 #[.agg (ipV i), .string body] w fun r w' => r = .returned (.tuple #[.string p, .int .i64 c]) ∧ Below w.heap.size w w') :
    Calls Try.prog 13 #[.agg (etV e), .agg (ipV i), .string body] w fun r w' => r = .returned (.string (if c = 0 then e.put p else ⟨#[]⟩)) ∧ Below w.heap.size w w' := by
  obtain ⟨D, hD⟩ : ∃ D, (if c = 0 then e.put p else ⟨#[]⟩) = D := ⟨_, rfl⟩
  rw [hD]
  have hw := fun (w : World) (B : Nat) q0 q1 => wrapDF e i sg0 body p (e.put p) c 0 B w D (show Hid _ from (show D = _ from by rw [← hD, if_pos (rfl : (0 : Int) = 0)])) q0 q1 (fun w => hdData e i sg0 body p c w hp) (fun _ w => hdFrame e i sg0 p w hs)
  simp only [hdV_0] at hw
  clear hD hp
  go_enter Try.func13, Try.ntmps13
  go_wp2_with fail
  have hm := made_in ((w.alloc (.cells (etV e) 24)).alloc (.cells (ipV i) 27)) #[.func (.func 34) #[] #[], .func (.func 35) #[] #[]] 93
  simp only [World.size_alloc] at hm
  have m0 := (hm 0).trans (show _ = some (.func (.func 34) #[] #[]) from rfl)
  have m1 := (hm 1).trans (show _ = some (.func (.func 35) #[] #[]) from rfl)
  refine (hw _ _ m0 m1).mono ?_
  clear hm m0 m1
  rintro r w1 ⟨rfl, hb1⟩
  have B1 := (show Hid _ from below_after (below3 _ _ _ _) hb1)
  clear hb1 hw
  go_wp2_with fail
  go_ret
  exact ⟨rfl, B1.out⟩
set_option maxHeartbeats 2000000 in
theorem crSeg_of (e : Et) (i : Ip) (h : Sg) (body p t : ByteArray) (c c2 : Int) (w : World) (ht : t.size ≤ 1000000)
    (hp : ∀ w : World, Calls Try.prog 61 #[.int .u32 (i.src.toNat : Int), .int .u32 (i.dst.toNat : Int), .agg (sgV h), .string body] w fun r w' => r = .returned (.tuple #[.string p, .int .i64 c]) ∧ Below w.heap.size w w')
    (hd : ∀ w : World, Calls Try.prog 30 #[.agg (ipV i), .string p] w fun r w' => r = .returned (.tuple #[.string t, .int .i64 c2]) ∧ Below w.heap.size w w') :
    Calls Try.prog 15 #[.agg (etV e), .agg (ipV i), .agg (sgV h), .string body] w fun r w' => r = .returned (.string (if c = 0 then if c2 = 0 then e.put t else ⟨#[]⟩ else ⟨#[]⟩)) ∧ Below w.heap.size w w' := by
  obtain ⟨D, hD⟩ : ∃ D, (if c = 0 then if c2 = 0 then e.put t else ⟨#[]⟩ else ⟨#[]⟩) = D := ⟨_, rfl⟩
  rw [hD]
  have hw := fun (w : World) (B : Nat) q0 q1 q2 => wrapSDF e i h body p t (e.put t) c c2 0 B w D (show Hid _ from (show D = _ from by rw [← hD, if_pos (rfl : (0 : Int) = 0)])) q0 q1 q2 (fun w => hdSeg e i h body p c w hp) (fun _ w => hdData e i h p t c2 w hd) (fun _ _ w => hdFrame e i h t w ht)
  clear hD hp hd
  go_enter Try.func15, Try.ntmps15
  go_wp2_with fail
  have hm := made_in (((w.alloc (.cells (etV e) 24)).alloc (.cells (ipV i) 27)).alloc (.cells (sgV h) 29)) #[.func (.func 38) #[] #[], .func (.func 34) #[] #[], .func (.func 35) #[] #[]] 93
  simp only [World.size_alloc] at hm
  have m0 := (hm 0).trans (show _ = some (.func (.func 38) #[] #[]) from rfl)
  have m1 := (hm 1).trans (show _ = some (.func (.func 34) #[] #[]) from rfl)
  have m2 := (hm 2).trans (show _ = some (.func (.func 35) #[] #[]) from rfl)
  refine (hw _ _ m0 m1 m2).mono ?_
  clear m0 m1 m2
  rintro r w1 ⟨rfl, hb1⟩
  have B1 := (show Hid _ from below_after (below4 _ _ _ _ _) hb1)
  clear hb1 hw hm
  go_wp2_with fail
  go_ret
  exact ⟨rfl, B1.out⟩
theorem Own.all {w W : World} {b : Nat} {A : Array Value} (h : Own w W b A) (vs : List Value) (hs : A.size = vs.length) : Own w (W.setCells b 0 vs) b vs.toArray := by
  refine ⟨row_set h.q hs, fun o => by rw [frz]; exact h.f o, ?_, h.lo, below_setCells h.lo vs 0 W h.hb⟩
  have := (below_setCells (Nat.le_refl b) vs 0 W (Below.refl b W)).size
  have := h.z
  omega
theorem Own.apart {w W : World} {b c : Nat} {D : Array Value} (h : Own w W c D) (hb : w.heap.size ≤ b) (hne : b ≠ c) (vs : List Value) : Own w (W.setCells b 0 vs) c D := by
  refine ⟨fun o => ?_, fun o => by rw [frz]; exact h.f o, ?_, h.lo, below_setCells hb vs 0 W h.hb⟩
  · rw [World.cell?_setCells_out _ vs 0 _ _ (fun e _ => absurd e (by show ¬ c = b; omega))]
    exact h.q o
  · have := (below_setCells (Nat.le_refl b) vs 0 W (Below.refl b W)).size
    have := h.z
    omega
theorem own_results {P : Program} {w W : World} {b c : Nat} {A C : Array Value} {s t : TypeId} {d f : TypeDesc} {fn : Func} {p q : Tmp} {tmps : Array Value} (h : Own w W b A) (g : Own w W c C) (hr : fn.results = #[.cell p s, .cell q t]) (hp : tmps.getD p undef = .pointer (some ⟨b, 0, none⟩)) (hq : tmps.getD q undef = .pointer (some ⟨c, 0, none⟩)) (hu : P.underlying s = some d) (hd : d.isRow = true) (hi : (P.info? s).map (·.size) = some A.size) (gu : P.underlying t = some f) (gd : f.isRow = true) (gi : (P.info? t).map (·.size) = some C.size) :
    (results fn tmps).run P W = .ok (.tuple #[.agg A, .agg C]) W := by
  have hl := run_loadVar_mid (P := P) W b 0 s A.toList d h.range hu hd (by simpa using hi)
  have gl := run_loadVar_mid (P := P) W c 0 t C.toList f g.range gu gd (by simpa using gi)
  have hp' : tmps[p]?.getD undef = .pointer (some ⟨b, 0, none⟩) := by simpa using hp
  have hq' : tmps[q]?.getD undef = .pointer (some ⟨c, 0, none⟩) := by simpa using hq
  simp [results, hr, hp', hq', asAddr, hl, gl]
/-- two boxes, then two blocks of our own -/
theorem own_two (w : World) (A B C D : Array Value) (s t u v : TypeId) : Own w ((((w.alloc (.cells A s)).alloc (.cells B t)).alloc (.cells C u)).alloc (.cells D v)) (w.heap.size + 1 + 1) C ∧ Own w ((((w.alloc (.cells A s)).alloc (.cells B t)).alloc (.cells C u)).alloc (.cells D v)) (w.heap.size + 1 + 1 + 1) D := by
  have c := (Own.new (below2 w (.cells A s) (.cells B t)) C u).alloc (.cells D v)
  have d := Own.new (below3 w (.cells A s) (.cells B t) (.cells C u)) D v
  simp only [World.size_alloc] at c d
  exact ⟨c, d⟩
set_option maxHeartbeats 2000000 in
theorem crBack_any (e : Et) (i : Ip) (w : World) :
    Calls Try.prog 9 #[.agg (etV e), .agg (ipV i)] w fun r w' => r = .returned (.tuple #[.agg (etV e.back), .agg (ipV i.back)]) ∧ Below w.heap.size w w' := by
  have hk := fun w => hdBack e i sg0 w
  simp only [hdV_0] at hk
  go_enter Try.func9, Try.ntmps9
  go_wp2_with fail
  refine (hk _).mono ?_
  rintro r w1 ⟨rfl, hb1⟩
  obtain ⟨O4, O5⟩ := own_two w (etV e) (ipV i) ethZ ipZ 24 27 24 27
  replace O4 := O4.below hb1
  replace O5 := O5.below hb1
  have O6 := Own.new O4.hb hdZ 63
  replace O4 := O4.alloc (.cells hdZ 63)
  replace O5 := O5.alloc (.cells hdZ 63)
  obtain ⟨W2, S2, R6, hR⟩ := O6.store (P := Try.prog) (C := hdV e.back i.back sg0.turn) (ty := 63) rfl hdi (hd_ones _ _ _)
  have n4 := O4.z
  have n5 := O5.z
  have R4 := hR _ _ O4 (by have := hb1.size; simp at this; omega)
  have R5 := hR _ _ O5 (by have := hb1.size; simp at this; omega)
  clear hR O4 O5 O6 n4 n5 hb1 hk
  go_upto_region 2 with (refine wpList_st S2 rfl _ _ rfl rfl rfl rfl ?_)
  clear S2
  generalize w1.heap.size = b at *
  have q4 := R4.q
  have f4 := R4.f
  have z4 := R4.z
  have q5 := R5.q
  have f5 := R5.f
  have z5 := R5.z
  have q6 := R6.q
  have z6 := R6.z
  have HR := (show Hid _ from And.intro R4 (And.intro R5 R6))
  clear R4 R5 R6
  go_cut [] (fun wx => Own w wx (w.heap.size + 1 + 1) (etV e.back) ∧ Own w wx (w.heap.size + 1 + 1 + 1) (ipV i.back))
  case first =>
    go_region
    all_goals
      go_wp2_with fail
      go_meet
      obtain ⟨R4, R5, _⟩ := HR.out
      have l4 := R4.lo
      have l5 := R5.lo
      exact ⟨((R4.all [bv e.back.a0, bv e.back.a1, bv e.back.a2, bv e.back.a3, bv e.back.a4, bv e.back.a5, bv e.back.b0, bv e.back.b1, bv e.back.b2, bv e.back.b3, bv e.back.b4, bv e.back.b5, .int .i64 e.back.t] rfl).apart l5 (by omega) [.int .i64 i.back.tos, .int .i64 i.back.id, .bool i.back.more, .bool i.back.keep, .int .i64 i.back.off, .int .i64 i.back.ttl, .int .i64 i.back.proto, .int .u32 (i.back.src.toNat : Int), .int .u32 (i.back.dst.toNat : Int), .string i.back.opts]).drew, ((R5.apart l4 (by omega) [bv e.back.a0, bv e.back.a1, bv e.back.a2, bv e.back.a3, bv e.back.a4, bv e.back.a5, bv e.back.b0, bv e.back.b1, bv e.back.b2, bv e.back.b3, bv e.back.b4, bv e.back.b5, .int .i64 e.back.t]).all [.int .i64 i.back.tos, .int .i64 i.back.id, .bool i.back.more, .bool i.back.keep, .int .i64 i.back.off, .int .i64 i.back.ttl, .int .i64 i.back.proto, .int .u32 (i.back.src.toNat : Int), .int .u32 (i.back.dst.toNat : Int), .string i.back.opts] rfl).drew⟩
  case rest =>
    obtain ⟨R4, R5⟩ := hcut
    clear q4 f4 z4 q5 f5 z5 q6 z6 HR
    go_wp2_with fail
    refine bodyPost_ret (v := .tuple #[.agg (etV e.back), .agg (ipV i.back)]) ?_ rfl ⟨rfl, R4.hb⟩
    exact own_results R4 R5 Try.results9 rfl rfl Try.underlying24 rfl (by kernel_rfl) Try.underlying27 rfl (by kernel_rfl)
theorem ip_size : (Try.prog.info? 27).map (·.size) = some 10 := by kernel_rfl
theorem et_size : (Try.prog.info? 24).map (·.size) = some 13 := by kernel_rfl
set_option maxHeartbeats 4000000 in
theorem crReset_on (e : Et) (i : Ip) (h : Sg) (seq ack : UInt32) (D : ByteArray) (w : World)
    (hd : ∀ w : World, Calls Try.prog 15 #[.agg (etV e), .agg (ipV i.on), .agg (sgV (h.reset false seq ack)), .string ⟨#[]⟩] w fun r w' => r = .returned (.string D) ∧ Below w.heap.size w w') :
    Calls Try.prog 17 #[.agg (etV e), .agg (ipV i), .agg (sgV h), .int .u32 (seq.toNat : Int), .int .u32 (ack.toNat : Int), .bool false] w fun r w' => r = .returned (.string D) ∧ Below w.heap.size w w' := by
  rw [sgReset_o] at hd
  have hk := fun w => hdOn e i h w
  go_enter Try.func17, Try.ntmps17
  go_wp2_with fail
  refine (hk _).mono ?_
  rintro r w1 ⟨rfl, hb1⟩
  have O6 := Own.new (below_after (below3 w (.cells (etV e) 24) (.cells (ipV i) 27) (.cells (sgV h) 29)) hb1) hdZ 63
  obtain ⟨W2, S2, R6, _⟩ := O6.store (P := Try.prog) (C := hdV e i.on h) (ty := 63) rfl hdi (hd_ones _ _ _)
  clear O6 hb1 hk
  go_upto_region 5 with (refine wpList_st S2 rfl _ _ rfl rfl rfl rfl ?_)
  clear S2
  generalize w1.heap.size = b at *
  have q6 := R6.q
  have z6 := R6.z
  have HR := (show Hid _ from R6)
  clear R6
  generalize i.on = j at *
  go_wp2_with fail
  refine (hd _).mono ?_
  rintro r w3 ⟨rfl, hb3⟩
  have B3 := (show Hid _ from below_after (HR.out.hb.alloc HR.out.hb.size _) hb3)
  clear hb3 hd q6 z6 HR
  go_wp2_with fail
  go_ret
  exact ⟨rfl, B3.out⟩
set_option maxHeartbeats 4000000 in
theorem crReset_back (e : Et) (i : Ip) (h : Sg) (seq ack : UInt32) (D : ByteArray) (w : World)
    (hd : ∀ w : World, Calls Try.prog 15 #[.agg (etV e.back), .agg (ipV i.back), .agg (sgV (h.reset true seq ack)), .string ⟨#[]⟩] w fun r w' => r = .returned (.string D) ∧ Below w.heap.size w w') :
    Calls Try.prog 17 #[.agg (etV e), .agg (ipV i), .agg (sgV h), .int .u32 (seq.toNat : Int), .int .u32 (ack.toNat : Int), .bool true] w fun r w' => r = .returned (.string D) ∧ Below w.heap.size w w' := by
  rw [sgReset_b] at hd
  have hk := fun w => hdBack e i h w
  rw [show h.dst = h.turn.src from rfl, show h.src = h.turn.dst from rfl] at hd
  go_enter Try.func17, Try.ntmps17
  go_wp2_with fail
  refine (hk _).mono ?_
  rintro r w1 ⟨rfl, hb1⟩
  have O6 := Own.new (below_after (below3 w (.cells (etV e) 24) (.cells (ipV i) 27) (.cells (sgV h) 29)) hb1) hdZ 63
  obtain ⟨W2, S2, R6, _⟩ := O6.store (P := Try.prog) (C := hdV e.back i.back h.turn) (ty := 63) rfl hdi (hd_ones _ _ _)
  clear O6 hb1 hk
  go_upto_region 5 with (refine wpList_st S2 rfl _ _ rfl rfl rfl rfl ?_)
  clear S2
  generalize w1.heap.size = b at *
  have q6 := R6.q
  have z6 := R6.z
  have HR := (show Hid _ from R6)
  clear R6
  generalize i.back = j at *
  generalize e.back = f at *
  generalize h.turn = g at *
  go_wp2_with fail
  refine (hd _).mono ?_
  rintro r w3 ⟨rfl, hb3⟩
  have B3 := (show Hid _ from below_after (HR.out.hb.alloc HR.out.hb.size _) hb3)
  clear hb3 hd q6 z6 HR
  go_wp2_with fail
  go_ret
  exact ⟨rfl, B3.out⟩
end Go.Proofs.Ythfncbcnokkmiaa
