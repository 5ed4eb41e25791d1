/- Layer 7's own answer: contract of whole. -/
import Derived.Test.YtkfgapljphhmcaaRfs2
import Derived.Test.YtkfgapljphhmcaaNets
namespace Go.Proofs.Ytkfgapljphhmcaa
open Go.RowKit Go.Maps
set_option linter.unusedVariables false
set_option maxRecDepth 20000
/-- bytes laid at their places -/
def fillL (n : Nat) (ps : List (Nat × UInt8)) : List UInt8 := ps.foldl (fun l p => l.set p.1 p.2) (List.replicate n 0)
theorem fillL_take (n : Nat) (ps : List (Nat × UInt8)) (k : Nat) (p : Nat × UInt8) (h : ps[k]? = some p) : fillL n (ps.take (k + 1)) = (fillL n (ps.take k)).set p.1 p.2 := by
  unfold fillL
  rw [List.take_add_one, h, List.foldl_append]
  rfl
theorem fold_len (ps : List (Nat × UInt8)) : ∀ l : List UInt8, (ps.foldl (fun l p => l.set p.1 p.2) l).length = l.length := by
  induction ps with
  | nil => intro l; rfl
  | cons p ps ih => intro l; rw [List.foldl_cons, ih, List.length_set]
theorem fillL_len (n : Nat) (ps : List (Nat × UInt8)) : (fillL n ps).length = n := by
  unfold fillL
  rw [fold_len, List.length_replicate]
set_option maxHeartbeats 4000000 in
theorem whole_any {w : World} {g q : Nat} {e : RE} {v : Value} (hg : g < w.heap.size) (hc : w.cell? ⟨g, q + 4, none⟩ = some v) (hc5 : w.cell? ⟨g, q + 5, none⟩ = some (.int .i64 e.all)) (hp : w.ownsRow 0 73 2 v e.ps.length (rowP e.ps)) (hn : e.ps.length ≤ 2000) (hall : e.all < 0 ∨ (1 ≤ e.all ∧ e.all ≤ 2000)) (hlt : ∀ p ∈ e.ps, p.1 < 2000 ∧ (0 ≤ e.all → (p.1 : Int) < e.all)) :
    Calls Try.prog 29 #[.pointer (some ⟨g, q, none⟩)] w fun r w' => r = .returned (if e.all < 0 ∨ (e.ps.length : Int) < e.all then .tuple #[.string ⟨#[]⟩, .bool false] else .tuple #[.string ⟨(fillL e.all.toNat e.ps).toArray⟩, .bool (decide ((e.ps.length : Int) = e.all))]) ∧ Below w.heap.size w w' := by
  obtain ⟨av, cv, hvL⟩ := own_slice hp
  subst hvL
  have HP : Hid (w.ownsRow 0 73 2 (.slice av e.ps.length cv) e.ps.length (rowP e.ps)) := hp
  have HL := (show Hid _ from hlt)
  clear hp hlt
  have hcl := Cls.cell (w := w)
  by_cases h0 : e.all < 0
  · rw [if_pos (.inl h0)]
    have d0 : decide (e.all < 0) = true := by simp [h0]
    go_enter Try.func29, Try.ntmps29
    go_upto_region 1 with fail
    refine wp_region_calm (by kernel_rfl) (by kernel_rfl) (fun hne => ?_)
    repeat (go_big_quiet_step (fail))
    refine wpQuiet_nil ?_
    rintro _ ⟨x, rfl⟩
    go_wp2
    exact bodyPost_ret (v := .tuple #[.string ⟨#[]⟩, .bool false]) (results_tmp2 Try.results29 _ _ _) rfl ⟨rfl, x.bel⟩
  · have d0 : decide (e.all < 0) = false := by simp; omega
    by_cases h1 : (e.ps.length : Int) < e.all
    · rw [if_pos (.inr h1)]
      have d1 : decide ((e.ps.length : Int) < e.all) = true := by simp [h1]
      go_enter Try.func29, Try.ntmps29
      go_upto_region 1 with fail
      refine wp_region_calm (by kernel_rfl) (by kernel_rfl) (fun hne => ?_)
      repeat (go_big_quiet_step (fail))
      refine wpQuiet_nil ?_
      rintro _ ⟨x, rfl⟩
      go_wp2
      exact bodyPost_ret (v := .tuple #[.string ⟨#[]⟩, .bool false]) (results_tmp2 Try.results29 _ _ _) rfl ⟨rfl, x.bel⟩
    · rw [if_neg (by rintro (h | h) <;> omega)]
      have d1 : decide ((e.ps.length : Int) < e.all) = false := by simp; omega
      obtain ⟨N, hN⟩ : ∃ N : Nat, e.all = (N : Int) := ⟨e.all.toNat, by omega⟩
      have hN1 : 1 ≤ N ∧ N ≤ 2000 := by omega
      rw [hN] at hc5 d0 d1 h1
      obtain ⟨TX, hTX⟩ : ∃ TX : ByteArray, TX = ⟨(fillL e.all.toNat e.ps).toArray⟩ := ⟨_, rfl⟩
      rw [← hTX, hN]
      rw [hN, Int.toNat_natCast] at hTX
      have HTX := (show Hid _ from hTX)
      have HN := (show Hid _ from hN)
      obtain ⟨DD, hDD⟩ : ∃ DD, DD = decide ((e.ps.length : Int) = (N : Int)) := ⟨_, rfl⟩
      rw [← hDD]
      have HDD : Hid (((e.ps.length : Int) == (N : Int)) = DD) := by show _ = _; rw [hDD, Bool.eq_iff_iff]; simp
      have hmk := fun u => make_z N (N : Int) rfl (by omega) u
      clear hTX hN hDD h0 hall
      go_enter Try.func29, Try.ntmps29
      go_upto_region 1 with fail
      refine wp_region_calm (by kernel_rfl) (by kernel_rfl) (fun hne => ?_)
      repeat (go_big_quiet_step (fail))
      refine wpQuiet_nil ?_
      rintro _ ⟨x, rfl⟩
      have hc' : x.val.cell? ⟨g, q + 4, none⟩ = some (.slice av e.ps.length cv) := by rw [x.cell _ _ hg, hc]
      have hc5' : x.val.cell? ⟨g, q + 5, none⟩ = some (.int .i64 (N : Int)) := by rw [x.cell _ _ hg, hc5]
      have hg' := Nat.lt_of_lt_of_le hg x.bel.size
      have HX := (show Hid _ from x.bel)
      have HP1 : Hid (x.val.ownsRow 0 73 2 (.slice av e.ps.length cv) e.ps.length (rowP e.ps)) := ownsRow_block HP.out (fun b hb => x.bel.block b (HP.out.lt b hb).2)
      generalize x.val = w1 at *
      clear hne hcl hc hc5 hg HP
      go_upto_region 4 with fail
      have hb2 := below1 w1 (.cells (madeCells #[.int .u8 0] N) 5)
      have HBR : Hid (BRow (w1.alloc (.cells (madeCells #[.int .u8 0] N) 5)) w1.heap.size (fillL N (e.ps.take 0))) := BRow.made w1 N
      obtain ⟨w2, hw2⟩ : ∃ w2, w2 = w1.alloc (.cells (madeCells #[.int .u8 0] N) 5) := ⟨_, rfl⟩
      rw [← hw2] at hb2 HBR ⊢
      have hz2 : w1.heap.size < w2.heap.size := by rw [hw2]; simp
      have HB2 := (show Hid _ from hb2)
      clear hw2 hb2 hmk
      go_wp2_with fail
      go_loopw [5, 6] (fun c t wr => ∃ k : Nat, k ≤ e.ps.length ∧ t = .int .i64 (k : Int) ∧ c = .int .i64 (k : Int) ∧ Hid (BRow wr w1.heap.size (fillL N (e.ps.take k))) ∧ Hid (Below w1.heap.size w1 wr) ∧ w2.heap.size ≤ wr.heap.size) (fun _ t _ => e.ps.length - (intOf t).toNat)
      case atStart => exact ⟨0, by omega, rfl, rfl, HBR, HB2, Nat.le_refl _⟩
      case round =>
        obtain ⟨k, hk, rfl, rfl, HR, HB, hzr⟩ := hrel
        have hc4 : wr.cell? ⟨g, q + 4, none⟩ = some (.slice av e.ps.length cv) := by rw [HB.out.cell (by exact hg'), hc']
        have hc6 : wr.cell? ⟨g, q + 5, none⟩ = some (.int .i64 (N : Int)) := by rw [HB.out.cell (by exact hg'), hc5']
        have hg3 : g < wr.heap.size := Nat.lt_of_lt_of_le hg' HB.out.size
        have hcl := Cls.cell (w := wr)
        clear hc' hc5'
        by_cases hkl : k < e.ps.length
        · have HP2 : Hid (wr.ownsRow 0 73 2 (.slice av e.ps.length cv) e.ps.length (rowP e.ps)) := ownsRow_block HP1.out (fun b hb => HB.out.block b (HP1.out.lt b hb).2)
          obtain ⟨gp, cap, hv, hgp, hfz, hpt⟩ := parts_at HP2.out (by omega)
          injection hv with hv1 _ hv3
          subst hv1 hv3
          obtain ⟨p, hpk⟩ : ∃ p, e.ps[k]? = some p := ⟨e.ps[k], by simp [hkl]⟩
          obtain ⟨t1, t2⟩ := hpt k p hpk
          have hpl := HL.out p (List.mem_of_getElem? hpk)
          have hpN : (p.1 : Int) < (N : Int) := by have := hpl.2; rw [HN.out] at this; exact this (by omega)
          have dN : decide ((p.1 : Int) < (N : Int)) = true := by simp; omega
          have HPK := (show Hid _ from hpk)
          clear hpt hpk hfz hpl HP2
          go_upto_region 8 with fail
          refine wp_region_calm (by kernel_rfl) (by kernel_rfl) (fun hne => ?_)
          repeat (go_big_quiet_step (fail))
          refine wpQuiet_nil ?_
          rintro _ ⟨x, rfl⟩
          have s1 : x.val.cell? ⟨gp, k * 2, none⟩ = some (.int .i64 (p.1 : Int)) := by rw [x.cell _ _ hgp, t1]
          have s2 : x.val.cell? ⟨gp, k * 2 + 1, none⟩ = some (bv p.2) := by rw [x.cell _ _ hgp, t2]
          have s3 : x.val.cell? ⟨g, q + 4, none⟩ = some (.slice (some ⟨gp, 0, none⟩) e.ps.length cv) := by rw [x.cell _ _ hg3, hc4]
          have s4 := Nat.lt_of_lt_of_le hgp x.bel.size
          have s5 := Nat.lt_of_lt_of_le hg3 x.bel.size
          have HR2 : Hid (BRow x.val w1.heap.size (fillL N (e.ps.take k))) := HR.out.below x.bel (by omega)
          have HB3 : Hid (Below w1.heap.size w1 x.val) := HB.out.trans (x.bel.mono HB.out.size)
          have hz3 : w2.heap.size ≤ x.val.heap.size := Nat.le_trans hzr x.bel.size
          generalize x.val = w3 at *
          clear hne hcl t1 t2 hc4 hc6 hgp hg3 HR HB
          have hcl := Cls.cell (w := w3)
          go_upto_region 9 with fail
          refine wp_region_calm_tail 18 (by kernel_rfl) (by kernel_rfl) (fun hne => ?_)
          simp only [List.take_succ_cons, List.take_zero, List.drop_succ_cons, List.drop_zero]
          repeat (go_big_quiet_step (fail))
          refine wpQuiet_nil ?_
          rintro _ ⟨x, rfl⟩
          have HR3 : Hid (BRow x.val w1.heap.size (fillL N (e.ps.take k))) := HR2.out.below x.bel (by omega)
          have HB4 : Hid (Below w1.heap.size w1 x.val) := HB3.out.trans (x.bel.mono HB3.out.size)
          have hz4 : w2.heap.size ≤ x.val.heap.size := Nat.le_trans hz3 x.bel.size
          generalize x.val = w4 at *
          have hat := HR3.out.at (j := p.1) (by rw [fillL_len]; omega)
          have k1 := hat.1
          have k2 := hat.2
          obtain ⟨ob, hob⟩ : ∃ ob, ob = bv ((fillL N (e.ps.take k)).getD p.1 0) := ⟨_, rfl⟩
          rw [← hob] at k1
          have hz5 : w1.heap.size < w4.heap.size := by omega
          clear hne hcl s1 s2 s3 s4 s5 hat hob HR2 HB3
          go_wp2_with fail
          go_roundw
          case rel =>
            refine ⟨k + 1, by omega, by go_num, by go_num, ?_, ?_, by simpa using hz4⟩
            · show BRow _ _ _
              rw [fillL_take N e.ps k p HPK.out]
              exact HR3.out.set p.1 p.2
            · exact HB4.out.setCell (p := ⟨w1.heap.size, p.1, none⟩) (Nat.le_refl _) _
          case measure => simp [intOf]; omega
        · obtain rfl : k = e.ps.length := by omega
          have hcv : ∀ x : Cls wr, (convert 45 9 (.slice (some ⟨w1.heap.size, 0, none⟩) N N)).run Try.prog x.val = .ok (.string TX) x.val := fun x => by
            have := (HR.out.below x.bel (by omega)).string (n := N) (c := N) (by rw [fillL_len])
            rw [List.take_length] at this
            rw [HTX.out]
            exact this
          have hdd := HDD.out
          go_upto_region 11 with fail
          refine wp_region_calm (by kernel_rfl) (by kernel_rfl) (fun hne => ?_)
          repeat (go_big_quiet_step (fail))
          refine wpQuiet_nil ?_
          rintro _ ⟨x, rfl⟩
          have HBF : Hid (Below w.heap.size w x.val) := HX.out.trans ((HB.out.trans (x.bel.mono HB.out.size)).mono HX.out.size)
          go_wp2
          exact bodyPost_ret (v := .tuple #[.string TX, .bool DD]) (results_tmp2 Try.results29 _ _ _) rfl ⟨rfl, HBF.out⟩
end Go.Proofs.Ytkfgapljphhmcaa
