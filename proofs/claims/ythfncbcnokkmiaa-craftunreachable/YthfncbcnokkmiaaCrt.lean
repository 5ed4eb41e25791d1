/- Contracts of layer 6 (craft): quoteOf, Unreachable. -/
import Derived.Test.YthfncbcnokkmiaaCrs
namespace Go.Proofs.Ythfncbcnokkmiaa
open Go.RowKit
set_option linter.unusedVariables false
set_option maxRecDepth 20000
set_option maxHeartbeats 4000000 in
theorem crQuote (e : Et) (i : Ip) (body p : ByteArray) (c : Int) (w : World) (ho : i.opts.size ≤ 1000) (hps : p.size ≤ 1000000) (hz : c ≠ 0 → p = ⟨#[]⟩)
    (hp : ∀ w : World, Calls Try.prog 30 #[.agg (ipV i), .string body] w fun r w' => r = .returned (.tuple #[.string p, .int .i64 c]) ∧ Below w.heap.size w w') :
    Calls Try.prog 41 #[.agg (hdV e i sg0), .string body] w fun r w' => r = .returned (.string (p.extract 0 (toldN i p))) ∧ Below w.heap.size w w' := by
  have hw := fun (w : World) (B : Nat) q0 => wrapD e i sg0 body p c B w p (show Hid _ from (show p = _ from by
    by_cases hc : c = 0
    · rw [if_pos hc]
    · rw [if_neg hc, hz hc])) q0 (fun w => hdData e i sg0 body p c w hp)
  clear hz hp
  have hw1 : wrap64 (20 + (i.opts.size : Int)) = 20 + (i.opts.size : Int) := by unfold wrap64; omega
  have hw2 : wrap64 (20 + (i.opts.size : Int) + 8) = 28 + (i.opts.size : Int) := by unfold wrap64; omega
  obtain ⟨T, hT⟩ : ∃ T, p.extract 0 (toldN i p) = T := ⟨_, rfl⟩
  rw [hT]
  have t1 := (show Hid _ from (show 20 + (i.opts.size : Int) + 8 < (p.size : Int) → p.extract 0 (20 + (i.opts.size : Int) + 8).toNat = T from fun h => by
    rw [← hT]
    unfold toldN
    rw [if_pos (by omega)]
    congr 1
    omega))
  have t2 := (show Hid _ from (show (p.size : Int) ≤ 20 + (i.opts.size : Int) + 8 → p = T from fun h => by
    rw [← hT]
    unfold toldN
    rw [if_neg (by omega), ByteArray.extract_zero_size]))
  clear hT
  go_enter Try.func41, Try.ntmps41
  go_upto_region 1 with fail
  have O1 := Own.new (Below.refl _ w) (hdV e i sg0) 63
  generalize w.alloc (.cells (hdV e i sg0) 63) = W at O1 ⊢
  have L1 := O1.load (P := Try.prog) Try.underlying63 rfl hdi
  go_wp2_with (refine wpList_ld L1 rfl _ rfl rfl ?_)
  have m0 := (made_in W #[.func (.func 34) #[] #[]] 93 0).trans (show _ = some (.func (.func 34) #[] #[]) from rfl)
  refine (hw _ _ m0).mono ?_
  clear m0 hw L1
  rintro r w1 ⟨rfl, hb1⟩
  replace O1 := (O1.alloc _).below hb1
  clear hb1
  have q1 := O1.q
  have z1 := O1.z
  have HO := (show Hid _ from O1)
  clear O1
  go_wp2_with fail
  · go_ret
    exact ⟨congrArg (fun x => Ending.returned (.string x)) (t1.out ‹_›), HO.out.hb⟩
  · go_ret
    exact ⟨congrArg (fun x => Ending.returned (.string x)) (t2.out ‹_›), HO.out.hb⟩
/-- a head that is told: one cell stored -/
theorem told_set {w W : World} {e : Et} {i : Ip} {h : Sg} {b : Nat} (ho : Own w W b (hdV e i.back h)) :
    ∃ W2, W.setCell ⟨b, 19, none⟩ (.int .i64 1) = W2 ∧ Own w W2 b (hdV e i.told h) :=
  ⟨_, rfl, ho.set 19 (.int .i64 1) (show _ < 30 from by omega)⟩
set_option maxHeartbeats 4000000 in
theorem crUnr_of (e : Et) (i : Ip) (body p t u : ByteArray) (c0 c c2 : Int) (w : World) (ho : i.opts.size ≤ 1000) (hps : p.size ≤ 1000000) (hz : c0 ≠ 0 → p = ⟨#[]⟩) (hu : u.size ≤ 1000000)
    (hp : ∀ w : World, Calls Try.prog 30 #[.agg (ipV i), .string body] w fun r w' => r = .returned (.tuple #[.string p, .int .i64 c0]) ∧ Below w.heap.size w w')
    (hi : ∀ w : World, Calls Try.prog 64 #[.agg (dgV dgTold), .string (p.extract 0 (toldN i p))] w fun r w' => r = .returned (.tuple #[.string t, .int .i64 c]) ∧ Below w.heap.size w w')
    (hd : ∀ w : World, Calls Try.prog 30 #[.agg (ipV i.told), .string t] w fun r w' => r = .returned (.tuple #[.string u, .int .i64 c2]) ∧ Below w.heap.size w w') :
    Calls Try.prog 19 #[.agg (etV e), .agg (ipV i), .string body] w fun r w' => r = .returned (.string (if c = 0 then if c2 = 0 then e.back.put u else ⟨#[]⟩ else ⟨#[]⟩)) ∧ Below w.heap.size w w' := by
  obtain ⟨D, hD⟩ : ∃ D, (if c = 0 then if c2 = 0 then e.back.put u else ⟨#[]⟩ else ⟨#[]⟩) = D := ⟨_, rfl⟩
  rw [hD]
  have hq := fun w => crQuote e i body p c0 w ho hps hz hp
  have hk := fun w => hdBack e i sg0 w
  generalize p.extract 0 (toldN i p) = T at *
  have hw := fun (w : World) (B : Nat) q0 q1 q2 => wrapUDF e.back i.told sg0.turn T t u (e.back.put u) c c2 0 B w D (show Hid _ from (show D = _ from by rw [← hD, if_pos (rfl : (0 : Int) = 0)])) q0 q1 q2 (fun w => hdUnr e.back i.told sg0.turn T t c w hi) (fun _ w => hdData e.back i.told sg0.turn t u c2 w hd) (fun _ _ w => hdFrame e.back i.told sg0.turn u w hu)
  clear hD hp hi hd hz
  go_enter Try.func19, Try.ntmps19
  have O6 := Own.new (below2 w (.cells (etV e) 24) (.cells (ipV i) 27)) hdZ 63
  obtain ⟨W2, S2, R6, _⟩ := O6.store (P := Try.prog) (C := hdV e i sg0) (ty := 63) rfl hdi (hd_ones _ _ _)
  simp only [World.size_alloc] at S2 R6
  rw [hdV_0] at S2
  clear O6
  go_upto_region 2 with (refine wpList_st S2 rfl _ _ rfl rfl rfl rfl ?_)
  clear S2
  have L1 := R6.load (P := Try.prog) Try.underlying63 rfl hdi
  go_wp2_with (refine wpList_ld L1 rfl _ rfl rfl ?_)
  refine (hq _).mono ?_
  rintro r w1 ⟨rfl, hb1⟩
  replace R6 := R6.below hb1
  clear hb1 hq L1
  have L1 := R6.load (P := Try.prog) Try.underlying63 rfl hdi
  go_wp2_with (refine wpList_ld L1 rfl _ rfl rfl ?_)
  refine (hk _).mono ?_
  rintro r w2 ⟨rfl, hb2⟩
  replace R6 := R6.below hb2
  clear hb2 hk L1
  obtain ⟨W3, S3, R7, _⟩ := R6.store (P := Try.prog) (C := hdV e.back i.back sg0.turn) (ty := 63) rfl hdi (hd_ones _ _ _)
  clear R6
  go_upto_region 4 with (refine wpList_st S3 rfl _ _ rfl rfl rfl rfl ?_)
  clear S3
  obtain ⟨W4, e4, R8⟩ := told_set R7
  have q7 := R7.q
  have f7 := R7.f
  have z7 := R7.z
  have E4 := (show Hid _ from e4)
  clear e4
  go_upto_region 5 with fail
  rw [E4.out]
  clear E4 q7 f7 z7 R7
  have L1 := R8.load (P := Try.prog) Try.underlying63 rfl hdi
  go_wp2_with (refine wpList_ld L1 rfl _ rfl rfl ?_)
  have hm := made_in W4 #[.func (.func 42) #[] #[], .func (.func 34) #[] #[], .func (.func 35) #[] #[]] 93
  have m0 := (hm 0).trans (show _ = some (.func (.func 42) #[] #[]) from rfl)
  have m1 := (hm 1).trans (show _ = some (.func (.func 34) #[] #[]) from rfl)
  have m2 := (hm 2).trans (show _ = some (.func (.func 35) #[] #[]) from rfl)
  refine (hw _ _ m0 m1 m2).mono ?_
  clear hm m0 m1 m2 hw L1
  rintro r w5 ⟨rfl, hb5⟩
  have B5 := (show Hid _ from ((R8.alloc _).below hb5).hb)
  clear hb5 R8
  go_wp2_with fail
  go_ret
  exact ⟨rfl, B5.out⟩
end Go.Proofs.Ythfncbcnokkmiaa
