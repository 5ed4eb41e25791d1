/- Contracts of craft's heads.wrapped, at the lists of wraps that are used. -/
import Derived.Test.YthfncbcnokkmiaaCrh
namespace Go.Proofs.Ythfncbcnokkmiaa
open Go.RowKit
set_option linter.unusedVariables false
set_option maxRecDepth 20000
theorem kept_cell {w w1 : World} {B k : Nat} {v : Value} (h : w.cell? ⟨B, k, none⟩ = some v) (hb : Below w.heap.size w w1) : w1.cell? ⟨B, k, none⟩ = some v := by
  rw [hb.cell (p := ⟨B, k, none⟩) (World.block_lt_of_cell? w _ h)]
  exact h
set_option maxHeartbeats 4000000 in
theorem wrapD (e : Et) (i : Ip) (h : Sg) (p0 p1 : ByteArray) (c1 : Int) (B : Nat) (w : World) (D : ByteArray) (hD : Hid (D = (if c1 = 0 then p1 else ⟨#[]⟩)))
    (hq0 : w.cell? ⟨B, 0, none⟩ = some (.func (.func 34) #[] #[]))
    (h1 : ∀ w : World, Calls Try.prog 34 #[.agg (hdV e i h), .string p0] w fun r w' => r = .returned (.tuple #[.string p1, .int .i64 c1]) ∧ Below w.heap.size w w')
    : Calls Try.prog 33 #[.agg (hdV e i h), .string p0, .slice (some ⟨B, 0, none⟩) 1 1] w fun r w' => r = .returned (.string D) ∧ Below w.heap.size w w' := by
  go_enter Try.func33, Try.ntmps33
  go_upto_region 1 with fail
  have O1 := Own.new (Below.refl _ w) (hdV e i h) 63
  replace hq0 := kept_cell hq0 (below1 w (.cells (hdV e i h) 63))
  generalize w.alloc (.cells (hdV e i h) 63) = W at O1 hq0 ⊢
  have L1 := O1.load (P := Try.prog) Try.underlying63 rfl hdi
  generalize hA : hdV e i h = A at *
  have hi := (show Hid _ from (show (Try.prog.info? 63).map (·.size) = some A.size from by rw [← hA]; exact hdi))
  clear hA
  go_wp2_with fail
  refine wp_loop_rounds 2 ?_
  rw [rounds_succ]
  go_wp2_with (refine wpList_ld L1 rfl _ rfl rfl ?_)
  refine (h1  _).mono ?_
  rintro r w1 ⟨rfl, hb1⟩
  replace O1 := O1.below hb1
  clear hb1 h1 L1 hq0
  have L1 := O1.load (P := Try.prog) Try.underlying63 rfl hi.out
  by_cases hc1 : c1 = 0
  case neg =>
    have hd : ⟨#[]⟩ = D := by rw [hD.out, if_neg hc1]
    have HD := (show Hid _ from hd)
    have hb : (c1 != 0) = true := by simpa using hc1
    clear hc1 hd
    go_wp2_with fail
    go_ret
    exact ⟨congrArg (fun x => Ending.returned (.string x)) HD.out, O1.hb⟩
  have hb : (c1 != 0) = false := by simpa using hc1
  have HC1 := (show Hid _ from hc1)
  clear hc1
  go_wp2_with fail
  have hc1 := HC1.out
  clear hb HC1
  have hd : p1 = D := by rw [hD.out, if_pos hc1]
  have HD := (show Hid _ from hd)
  clear hd hc1
  rw [rounds_succ]
  go_wp2_with fail
  go_ret
  exact ⟨congrArg (fun x => Ending.returned (.string x)) HD.out, O1.hb⟩
set_option maxHeartbeats 4000000 in
theorem wrapDF (e : Et) (i : Ip) (h : Sg) (p0 p1 p2 : ByteArray) (c1 c2 : Int) (B : Nat) (w : World) (D : ByteArray) (hD : Hid (D = (if c1 = 0 then (if c2 = 0 then p2 else ⟨#[]⟩) else ⟨#[]⟩)))
    (hq0 : w.cell? ⟨B, 0, none⟩ = some (.func (.func 34) #[] #[]))
    (hq1 : w.cell? ⟨B, 1, none⟩ = some (.func (.func 35) #[] #[]))
    (h1 : ∀ w : World, Calls Try.prog 34 #[.agg (hdV e i h), .string p0] w fun r w' => r = .returned (.tuple #[.string p1, .int .i64 c1]) ∧ Below w.heap.size w w')
    (h2 : c1 = 0 → ∀ w : World, Calls Try.prog 35 #[.agg (hdV e i h), .string p1] w fun r w' => r = .returned (.tuple #[.string p2, .int .i64 c2]) ∧ Below w.heap.size w w')
    : Calls Try.prog 33 #[.agg (hdV e i h), .string p0, .slice (some ⟨B, 0, none⟩) 2 2] w fun r w' => r = .returned (.string D) ∧ Below w.heap.size w w' := by
  go_enter Try.func33, Try.ntmps33
  go_upto_region 1 with fail
  have O1 := Own.new (Below.refl _ w) (hdV e i h) 63
  replace hq0 := kept_cell hq0 (below1 w (.cells (hdV e i h) 63))
  replace hq1 := kept_cell hq1 (below1 w (.cells (hdV e i h) 63))
  generalize w.alloc (.cells (hdV e i h) 63) = W at O1 hq0 hq1 ⊢
  have L1 := O1.load (P := Try.prog) Try.underlying63 rfl hdi
  generalize hA : hdV e i h = A at *
  have hi := (show Hid _ from (show (Try.prog.info? 63).map (·.size) = some A.size from by rw [← hA]; exact hdi))
  clear hA
  go_wp2_with fail
  refine wp_loop_rounds 3 ?_
  rw [rounds_succ]
  go_wp2_with (refine wpList_ld L1 rfl _ rfl rfl ?_)
  refine (h1  _).mono ?_
  rintro r w1 ⟨rfl, hb1⟩
  replace O1 := O1.below hb1
  replace hq1 := kept_cell hq1 hb1
  clear hb1 h1 L1 hq0
  have L1 := O1.load (P := Try.prog) Try.underlying63 rfl hi.out
  by_cases hc1 : c1 = 0
  case neg =>
    have hd : ⟨#[]⟩ = D := by rw [hD.out, if_neg hc1]
    have HD := (show Hid _ from hd)
    have hb : (c1 != 0) = true := by simpa using hc1
    clear hc1 hd
    go_wp2_with fail
    go_ret
    exact ⟨congrArg (fun x => Ending.returned (.string x)) HD.out, O1.hb⟩
  have hb : (c1 != 0) = false := by simpa using hc1
  have HC1 := (show Hid _ from hc1)
  clear hc1
  go_wp2_with fail
  have hc1 := HC1.out
  clear hb HC1
  rw [rounds_succ]
  go_wp2_with (refine wpList_ld L1 rfl _ rfl rfl ?_)
  refine (h2 hc1 _).mono ?_
  rintro r w2 ⟨rfl, hb1⟩
  replace O1 := O1.below hb1
  clear hb1 h2 L1 hq1
  have L1 := O1.load (P := Try.prog) Try.underlying63 rfl hi.out
  by_cases hc2 : c2 = 0
  case neg =>
    have hd : ⟨#[]⟩ = D := by rw [hD.out, if_pos hc1, if_neg hc2]
    have HD := (show Hid _ from hd)
    have hb : (c2 != 0) = true := by simpa using hc2
    clear hc2 hd
    go_wp2_with fail
    go_ret
    exact ⟨congrArg (fun x => Ending.returned (.string x)) HD.out, O1.hb⟩
  have hb : (c2 != 0) = false := by simpa using hc2
  have HC2 := (show Hid _ from hc2)
  clear hc2
  go_wp2_with fail
  have hc2 := HC2.out
  clear hb HC2
  have hd : p2 = D := by rw [hD.out, if_pos hc1, if_pos hc2]
  have HD := (show Hid _ from hd)
  clear hd hc1 hc2
  rw [rounds_succ]
  go_wp2_with fail
  go_ret
  exact ⟨congrArg (fun x => Ending.returned (.string x)) HD.out, O1.hb⟩
set_option maxHeartbeats 4000000 in
theorem wrapSDF (e : Et) (i : Ip) (h : Sg) (p0 p1 p2 p3 : ByteArray) (c1 c2 c3 : Int) (B : Nat) (w : World) (D : ByteArray) (hD : Hid (D = (if c1 = 0 then (if c2 = 0 then (if c3 = 0 then p3 else ⟨#[]⟩) else ⟨#[]⟩) else ⟨#[]⟩)))
    (hq0 : w.cell? ⟨B, 0, none⟩ = some (.func (.func 38) #[] #[]))
    (hq1 : w.cell? ⟨B, 1, none⟩ = some (.func (.func 34) #[] #[]))
    (hq2 : w.cell? ⟨B, 2, none⟩ = some (.func (.func 35) #[] #[]))
    (h1 : ∀ w : World, Calls Try.prog 38 #[.agg (hdV e i h), .string p0] w fun r w' => r = .returned (.tuple #[.string p1, .int .i64 c1]) ∧ Below w.heap.size w w')
    (h2 : c1 = 0 → ∀ w : World, Calls Try.prog 34 #[.agg (hdV e i h), .string p1] w fun r w' => r = .returned (.tuple #[.string p2, .int .i64 c2]) ∧ Below w.heap.size w w')
    (h3 : c1 = 0 → c2 = 0 → ∀ w : World, Calls Try.prog 35 #[.agg (hdV e i h), .string p2] w fun r w' => r = .returned (.tuple #[.string p3, .int .i64 c3]) ∧ Below w.heap.size w w')
    : Calls Try.prog 33 #[.agg (hdV e i h), .string p0, .slice (some ⟨B, 0, none⟩) 3 3] w fun r w' => r = .returned (.string D) ∧ Below w.heap.size w w' := by
  go_enter Try.func33, Try.ntmps33
  go_upto_region 1 with fail
  have O1 := Own.new (Below.refl _ w) (hdV e i h) 63
  replace hq0 := kept_cell hq0 (below1 w (.cells (hdV e i h) 63))
  replace hq1 := kept_cell hq1 (below1 w (.cells (hdV e i h) 63))
  replace hq2 := kept_cell hq2 (below1 w (.cells (hdV e i h) 63))
  generalize w.alloc (.cells (hdV e i h) 63) = W at O1 hq0 hq1 hq2 ⊢
  have L1 := O1.load (P := Try.prog) Try.underlying63 rfl hdi
  generalize hA : hdV e i h = A at *
  have hi := (show Hid _ from (show (Try.prog.info? 63).map (·.size) = some A.size from by rw [← hA]; exact hdi))
  clear hA
  go_wp2_with fail
  refine wp_loop_rounds 4 ?_
  rw [rounds_succ]
  go_wp2_with (refine wpList_ld L1 rfl _ rfl rfl ?_)
  refine (h1  _).mono ?_
  rintro r w1 ⟨rfl, hb1⟩
  replace O1 := O1.below hb1
  replace hq1 := kept_cell hq1 hb1
  replace hq2 := kept_cell hq2 hb1
  clear hb1 h1 L1 hq0
  have L1 := O1.load (P := Try.prog) Try.underlying63 rfl hi.out
  by_cases hc1 : c1 = 0
  case neg =>
    have hd : ⟨#[]⟩ = D := by rw [hD.out, if_neg hc1]
    have HD := (show Hid _ from hd)
    have hb : (c1 != 0) = true := by simpa using hc1
    clear hc1 hd
    go_wp2_with fail
    go_ret
    exact ⟨congrArg (fun x => Ending.returned (.string x)) HD.out, O1.hb⟩
  have hb : (c1 != 0) = false := by simpa using hc1
  have HC1 := (show Hid _ from hc1)
  clear hc1
  go_wp2_with fail
  have hc1 := HC1.out
  clear hb HC1
  rw [rounds_succ]
  go_wp2_with (refine wpList_ld L1 rfl _ rfl rfl ?_)
  refine (h2 hc1 _).mono ?_
  rintro r w2 ⟨rfl, hb1⟩
  replace O1 := O1.below hb1
  replace hq2 := kept_cell hq2 hb1
  clear hb1 h2 L1 hq1
  have L1 := O1.load (P := Try.prog) Try.underlying63 rfl hi.out
  by_cases hc2 : c2 = 0
  case neg =>
    have hd : ⟨#[]⟩ = D := by rw [hD.out, if_pos hc1, if_neg hc2]
    have HD := (show Hid _ from hd)
    have hb : (c2 != 0) = true := by simpa using hc2
    clear hc2 hd
    go_wp2_with fail
    go_ret
    exact ⟨congrArg (fun x => Ending.returned (.string x)) HD.out, O1.hb⟩
  have hb : (c2 != 0) = false := by simpa using hc2
  have HC2 := (show Hid _ from hc2)
  clear hc2
  go_wp2_with fail
  have hc2 := HC2.out
  clear hb HC2
  rw [rounds_succ]
  go_wp2_with (refine wpList_ld L1 rfl _ rfl rfl ?_)
  refine (h3 hc1 hc2 _).mono ?_
  rintro r w3 ⟨rfl, hb1⟩
  replace O1 := O1.below hb1
  clear hb1 h3 L1 hq2
  have L1 := O1.load (P := Try.prog) Try.underlying63 rfl hi.out
  by_cases hc3 : c3 = 0
  case neg =>
    have hd : ⟨#[]⟩ = D := by rw [hD.out, if_pos hc1, if_pos hc2, if_neg hc3]
    have HD := (show Hid _ from hd)
    have hb : (c3 != 0) = true := by simpa using hc3
    clear hc3 hd
    go_wp2_with fail
    go_ret
    exact ⟨congrArg (fun x => Ending.returned (.string x)) HD.out, O1.hb⟩
  have hb : (c3 != 0) = false := by simpa using hc3
  have HC3 := (show Hid _ from hc3)
  clear hc3
  go_wp2_with fail
  have hc3 := HC3.out
  clear hb HC3
  have hd : p3 = D := by rw [hD.out, if_pos hc1, if_pos hc2, if_pos hc3]
  have HD := (show Hid _ from hd)
  clear hd hc1 hc2 hc3
  rw [rounds_succ]
  go_wp2_with fail
  go_ret
  exact ⟨congrArg (fun x => Ending.returned (.string x)) HD.out, O1.hb⟩
set_option maxHeartbeats 4000000 in
theorem wrapUDF (e : Et) (i : Ip) (h : Sg) (p0 p1 p2 p3 : ByteArray) (c1 c2 c3 : Int) (B : Nat) (w : World) (D : ByteArray) (hD : Hid (D = (if c1 = 0 then (if c2 = 0 then (if c3 = 0 then p3 else ⟨#[]⟩) else ⟨#[]⟩) else ⟨#[]⟩)))
    (hq0 : w.cell? ⟨B, 0, none⟩ = some (.func (.func 42) #[] #[]))
    (hq1 : w.cell? ⟨B, 1, none⟩ = some (.func (.func 34) #[] #[]))
    (hq2 : w.cell? ⟨B, 2, none⟩ = some (.func (.func 35) #[] #[]))
    (h1 : ∀ w : World, Calls Try.prog 42 #[.agg (hdV e i h), .string p0] w fun r w' => r = .returned (.tuple #[.string p1, .int .i64 c1]) ∧ Below w.heap.size w w')
    (h2 : c1 = 0 → ∀ w : World, Calls Try.prog 34 #[.agg (hdV e i h), .string p1] w fun r w' => r = .returned (.tuple #[.string p2, .int .i64 c2]) ∧ Below w.heap.size w w')
    (h3 : c1 = 0 → c2 = 0 → ∀ w : World, Calls Try.prog 35 #[.agg (hdV e i h), .string p2] w fun r w' => r = .returned (.tuple #[.string p3, .int .i64 c3]) ∧ Below w.heap.size w w')
    : Calls Try.prog 33 #[.agg (hdV e i h), .string p0, .slice (some ⟨B, 0, none⟩) 3 3] w fun r w' => r = .returned (.string D) ∧ Below w.heap.size w w' := by
  go_enter Try.func33, Try.ntmps33
  go_upto_region 1 with fail
  have O1 := Own.new (Below.refl _ w) (hdV e i h) 63
  replace hq0 := kept_cell hq0 (below1 w (.cells (hdV e i h) 63))
  replace hq1 := kept_cell hq1 (below1 w (.cells (hdV e i h) 63))
  replace hq2 := kept_cell hq2 (below1 w (.cells (hdV e i h) 63))
  generalize w.alloc (.cells (hdV e i h) 63) = W at O1 hq0 hq1 hq2 ⊢
  have L1 := O1.load (P := Try.prog) Try.underlying63 rfl hdi
  generalize hA : hdV e i h = A at *
  have hi := (show Hid _ from (show (Try.prog.info? 63).map (·.size) = some A.size from by rw [← hA]; exact hdi))
  clear hA
  go_wp2_with fail
  refine wp_loop_rounds 4 ?_
  rw [rounds_succ]
  go_wp2_with (refine wpList_ld L1 rfl _ rfl rfl ?_)
  refine (h1  _).mono ?_
  rintro r w1 ⟨rfl, hb1⟩
  replace O1 := O1.below hb1
  replace hq1 := kept_cell hq1 hb1
  replace hq2 := kept_cell hq2 hb1
  clear hb1 h1 L1 hq0
  have L1 := O1.load (P := Try.prog) Try.underlying63 rfl hi.out
  by_cases hc1 : c1 = 0
  case neg =>
    have hd : ⟨#[]⟩ = D := by rw [hD.out, if_neg hc1]
    have HD := (show Hid _ from hd)
    have hb : (c1 != 0) = true := by simpa using hc1
    clear hc1 hd
    go_wp2_with fail
    go_ret
    exact ⟨congrArg (fun x => Ending.returned (.string x)) HD.out, O1.hb⟩
  have hb : (c1 != 0) = false := by simpa using hc1
  have HC1 := (show Hid _ from hc1)
  clear hc1
  go_wp2_with fail
  have hc1 := HC1.out
  clear hb HC1
  rw [rounds_succ]
  go_wp2_with (refine wpList_ld L1 rfl _ rfl rfl ?_)
  refine (h2 hc1 _).mono ?_
  rintro r w2 ⟨rfl, hb1⟩
  replace O1 := O1.below hb1
  replace hq2 := kept_cell hq2 hb1
  clear hb1 h2 L1 hq1
  have L1 := O1.load (P := Try.prog) Try.underlying63 rfl hi.out
  by_cases hc2 : c2 = 0
  case neg =>
    have hd : ⟨#[]⟩ = D := by rw [hD.out, if_pos hc1, if_neg hc2]
    have HD := (show Hid _ from hd)
    have hb : (c2 != 0) = true := by simpa using hc2
    clear hc2 hd
    go_wp2_with fail
    go_ret
    exact ⟨congrArg (fun x => Ending.returned (.string x)) HD.out, O1.hb⟩
  have hb : (c2 != 0) = false := by simpa using hc2
  have HC2 := (show Hid _ from hc2)
  clear hc2
  go_wp2_with fail
  have hc2 := HC2.out
  clear hb HC2
  rw [rounds_succ]
  go_wp2_with (refine wpList_ld L1 rfl _ rfl rfl ?_)
  refine (h3 hc1 hc2 _).mono ?_
  rintro r w3 ⟨rfl, hb1⟩
  replace O1 := O1.below hb1
  clear hb1 h3 L1 hq2
  have L1 := O1.load (P := Try.prog) Try.underlying63 rfl hi.out
  by_cases hc3 : c3 = 0
  case neg =>
    have hd : ⟨#[]⟩ = D := by rw [hD.out, if_pos hc1, if_pos hc2, if_neg hc3]
    have HD := (show Hid _ from hd)
    have hb : (c3 != 0) = true := by simpa using hc3
    clear hc3 hd
    go_wp2_with fail
    go_ret
    exact ⟨congrArg (fun x => Ending.returned (.string x)) HD.out, O1.hb⟩
  have hb : (c3 != 0) = false := by simpa using hc3
  have HC3 := (show Hid _ from hc3)
  clear hc3
  go_wp2_with fail
  have hc3 := HC3.out
  clear hb HC3
  have hd : p3 = D := by rw [hD.out, if_pos hc1, if_pos hc2, if_pos hc3]
  have HD := (show Hid _ from hd)
  clear hd hc1 hc2 hc3
  rw [rounds_succ]
  go_wp2_with fail
  go_ret
  exact ⟨congrArg (fun x => Ending.returned (.string x)) HD.out, O1.hb⟩
end Go.Proofs.Ythfncbcnokkmiaa
