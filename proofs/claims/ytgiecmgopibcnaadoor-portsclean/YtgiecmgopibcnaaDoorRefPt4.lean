/- Layer 10's own answer: a set's text. -/
import Derived.Test.YtgiecmgopibcnaaDoorRefPt3
import Derived.Test.YtgiecmgopibcnaaDoorPt8
namespace Go.Proofs.YtgiecmgopibcnaaDoor
open Go.RowKit
set_option linter.unusedVariables false
set_option maxRecDepth 20000
/-- the text so far -/
def accS (R : List Sp) : Nat → List UInt8
  | 0 => []
  | i + 1 => (if i = 0 then accS R i else accS R i ++ [44]) ++ spanT (R.getD i default)
theorem join_snoc' (xs : List (List UInt8)) (y : List UInt8) : Lib.join (xs ++ [y]) [44] = (if xs = [] then [] else Lib.join xs [44] ++ [44]) ++ y := by
  cases xs with
  | nil => rw [List.nil_append, Lib.join_one, if_pos rfl, List.nil_append]
  | cons x r =>
    rw [if_neg (by simp), List.cons_append, Lib.join_cons, Lib.join_cons]
    unfold Lib.joinTail
    simp
theorem accS_join (R : List Sp) : ∀ k, k ≤ R.length → accS R k = Lib.join ((R.take k).map spanT) [44]
  | 0, _ => by simp [accS, Lib.join_nil]
  | k + 1, hk => by
    have hg : R[k]? = some (R.getD k default) := by
      rw [List.getD_eq_getElem?_getD, List.getElem?_eq_getElem (by omega)]; rfl
    unfold accS
    rw [List.take_add_one, hg, accS_join R k (by omega)]
    show _ = Lib.join ((R.take k ++ [R.getD k default]).map spanT) [44]
    rw [List.map_append, List.map_cons, List.map_nil, join_snoc']
    by_cases h0 : k = 0
    · subst h0
      simp [Lib.join_nil]
    · rw [if_neg h0, if_neg]
      intro e
      have := congrArg List.length e
      rw [List.length_map, List.length_take] at this
      simp only [List.length_nil] at this
      omega
theorem accS_len (R : List Sp) (h : ∀ n ∈ R, okS n) (k : Nat) (hk : k ≤ R.length) : (accS R k).length ≤ 20 * k := by
  rw [accS_join R k hk]
  have := join_le ((R.take k).map spanT) (fun z hz => by
    obtain ⟨u, hu, rfl⟩ := List.mem_map.1 hz
    exact spanT_len u (h u (List.mem_of_mem_take hu)))
  rw [List.length_map, List.length_take] at this
  omega
set_option maxHeartbeats 2000000 in
theorem rpText (no : Bool) (p : Option Addr) (c : Nat) (L : List Sp) (w : World) (h : Spans w p c L) (h20 : L.length ≤ 20) :
    Calls Tryd.prog 17 #[.agg (ptC no p L.length c)] w fun e w' => e = .returned (.string (sL (textS no L))) ∧ Below w.heap.size w w' := by
  have hb := (Below.refl w.heap.size w).alloc (Nat.le_refl _) (.cells (ptC no p L.length c) 24)
  have hcl := rpClean no p c L _ (h.below hb) h20
  have HB := hidB hb
  clear h hb
  have hok := cleanS_ok L
  have hlen := cleanS_len L
  have HF := hidB (show textS no L = if (checkS L && no) = true then [33] ++ listS (cleanS L) else listS (cleanS L) from rfl)
  generalize cleanS L = R at hcl hok hlen HF
  generalize (checkS L && no) = r at hcl HF
  have HOK := hidB hok
  have hl2 := listS_len R hok (by omega)
  clear hok
  generalize hn : R.length = n at hcl hlen
  have HLn := hidB hn
  clear hn
  go_enter Tryd.func17, Tryd.ntmps17
  go_wp2_with (fail)
  refine hcl.mono ?_
  rintro e w2 ⟨p', c', rfl, hN, hb2⟩
  obtain ⟨d0, d1⟩ := pt_in hb2
  have z0 : w.heap.size < w2.heap.size := Nat.lt_of_lt_of_le (by simp) hb2.size
  have f0 : ∀ o, w2.frozen? ⟨w.heap.size, o, none⟩ = false := fun o => (hb2.frozen (p := ⟨w.heap.size, o, none⟩) (by simp)).trans (by simp)
  have HN3 := hidB (spans_set hN (not_int_two (by simp) (by simp) ((hb2.block w.heap.size (by simp)).trans (heap_new w _))) 0 1 (.bool r) (.slice p' n c'))
  have HB3 := hidB (show Below w.heap.size w ((w2.setCell ⟨w.heap.size, 0, none⟩ (.bool r)).setCell ⟨w.heap.size, 1, none⟩ (.slice p' n c')) from
    ((HB.out.trans (hb2.mono HB.out.size)).setCell (p := ⟨w.heap.size, 0, none⟩) (Nat.le_refl _) _).setCell (p := ⟨w.heap.size, 1, none⟩) (Nat.le_refl _) _)
  have g := two_set10 d0 d1 (.bool r) (.slice p' n c')
  have e1 := g.2
  have e0 := g.1
  have z3 : w.heap.size < ((w2.setCell ⟨w.heap.size, 0, none⟩ (.bool r)).setCell ⟨w.heap.size, 1, none⟩ (.slice p' n c')).heap.size := by rw [World.size_setCell, World.size_setCell]; exact z0
  clear hcl hN hb2 g
  go_wp2
  generalize (w2.setCell ⟨w.heap.size, 0, none⟩ (.bool r)).setCell ⟨w.heap.size, 1, none⟩ (.slice p' n c') = W3 at HN3 HB3 e0 e1 z3 ⊢
  clear d0 d1 f0 z0
  go_loopg [3, 4] n (fun g s3 s4 wr => ∃ i : Nat, i ≤ n ∧ n - i ≤ g ∧ s4 = .int .i64 (i : Int) ∧ s3 = .string (sL (accS R i)) ∧ Hid (Below W3.heap.size W3 wr))
  case atStart => exact ⟨0, Nat.zero_le _, by omega, rfl, rfl, Below.refl _ _⟩
  case round =>
    obtain ⟨i, hin, hg, rfl, rfl, HR⟩ := hrel
    have a0 := (HR.out.cell (p := ⟨w.heap.size, 0, none⟩) z3).trans e0
    have a1 := (HR.out.cell (p := ⟨w.heap.size, 1, none⟩) z3).trans e1
    by_cases hlt : i < n
    · have hlz : (i : Int) < (n : Int) := by omega
      obtain ⟨x, hx⟩ : ∃ x, R[i]? = some x := ⟨_, List.getElem?_eq_getElem (by rw [HLn.out]; exact hlt)⟩
      obtain ⟨hcp, hN2⟩ := HN3.out.below HR.out
      rw [HLn.out] at hcp
      rcases hN2 with h3 | ⟨b, o, rfl, hbl, hcs⟩
      · rw [h3] at hx; cases hx
      · obtain ⟨c0, c1⟩ := hcs i x hx
        have hxok := HOK.out x (List.mem_of_getElem? hx)
        have hgd : R.getD i default = x := by rw [List.getD_eq_getElem?_getD, hx]; rfl
        have hTl := accS_len R HOK.out i (by rw [HLn.out]; exact hin)
        obtain ⟨x1, x2⟩ := x
        unfold okS at hxok
        simp only at hxok c0 c1
        obtain ⟨q1, rfl⟩ : ∃ q : Nat, x1 = (q : Int) := ⟨x1.toNat, by omega⟩
        obtain ⟨q2, rfl⟩ : ∃ q : Nat, x2 = (q : Int) := ⟨x2.toNat, by omega⟩
        have hD := fun (W : World) => rcDec q1 (by omega) W
        have hE := fun (W : World) => rcDec q2 (by omega) W
        have lD := dec_le5 q1 (by omega)
        have lE := dec_le5 q2 (by omega)
        have hq12 : (q1 : Int) ≤ (q2 : Int) := by omega
        have hstep : accS R (i + 1) = (if i = 0 then accS R i else accS R i ++ [44]) ++ (if (q1 : Int) = (q2 : Int) then Lib.decDigits q1 else Lib.decDigits q1 ++ [45] ++ Lib.decDigits q2) := by
          show _ ++ spanT (R.getD i default) = _
          rw [hgd]
          unfold spanT
          simp only [Int.toNat_natCast]
        have hzw : w.heap.size < wr.heap.size := Nat.lt_of_lt_of_le z3 HR.out.size
        generalize Lib.decDigits q1 = D at hD lD hstep
        generalize Lib.decDigits q2 = E at hE lE hstep
        clear hx hcs hgd hxok
        by_cases hi0 : i = 0
        · subst hi0
          simp only [Nat.zero_mul, Nat.add_zero] at c0 c1
          rw [if_pos rfl] at hstep
          have ad1 := fun w => addL (P := Tryd.prog) (accS R 0) D (by omega) (by omega) w
          by_cases heq : (q1 : Int) = (q2 : Int)
          · rw [if_pos heq] at hstep
            have hlt2 : ¬ (q1 : Int) < (q2 : Int) := by omega
            have HST := hidB hstep
            clear hstep hTl heq
            generalize accS R 0 ++ D = T1 at ad1 HST
            generalize accS R 0 = T0 at ad1 ⊢
            have hDw := hD wr
            go_wp2_with (fail)
            refine hDw.mono ?_
            rintro e w5 ⟨rfl, hb5⟩
            have b1 := (hb5.cell (p := ⟨w.heap.size, 1, none⟩) hzw).trans a1
            have d0 := (hb5.cell (p := ⟨b, o, none⟩) hbl).trans c0
            have d1 := (hb5.cell (p := ⟨b, o + 1, none⟩) hbl).trans c1
            have hz5 : w.heap.size < w5.heap.size := Nat.lt_of_lt_of_le hzw hb5.size
            have hbl5 : b < w5.heap.size := Nat.lt_of_lt_of_le hbl hb5.size
            have HR5 := hidB (HR.out.trans (hb5.mono HR.out.size))
            have hcl := Cls.cell (w := w5)
            clear hDw hb5 a0 a1 c0 c1 HR hzw hbl
            go_upto_region 9 with fail
            refine wp_region_calm (by kernel_rfl) (by kernel_rfl) (fun hne => ?_)
            repeat (go_big_quiet_step (fail))
            refine wpQuiet_nil ?_
            rintro _ ⟨y, rfl⟩
            have HY := hidB (HR5.out.trans (y.bel.mono HR5.out.size))
            have b2 := (y.bel.cell (p := ⟨w.heap.size, 1, none⟩) hz5).trans b1
            have g1 := (y.bel.cell (p := ⟨b, o + 1, none⟩) hbl5).trans d1
            have hbl6 : b < y.val.heap.size := Nat.lt_of_lt_of_le hbl5 y.bel.size
            generalize y.val = w6 at HY b2 g1 hbl6 ⊢
            clear hne hcl b1 d0 d1 hbl5 HR5
            go_wp2_with (fail)
            go_roundg (n - (0 + 1))
            case measure => omega
            case rel => exact ⟨0 + 1, by omega, by omega, by go_num, by rw [HST.out], HY⟩
          · rw [if_neg heq, ← List.append_assoc, ← List.append_assoc] at hstep
            have hlt2 : (q1 : Int) < (q2 : Int) := by omega
            have ad2 := fun w => addL (P := Tryd.prog) (accS R 0 ++ D) [45] (by simp; omega) (by simp) w
            have ad3 := fun w => addL (P := Tryd.prog) (accS R 0 ++ D ++ [45]) E (by simp; omega) (by omega) w
            rw [show sL [45] = ⟨#[45]⟩ from rfl] at ad2
            have HST := hidB hstep
            clear hstep hTl heq
            generalize accS R 0 ++ D ++ [45] ++ E = T3 at ad3 HST
            generalize accS R 0 ++ D ++ [45] = T2 at ad2 ad3
            generalize accS R 0 ++ D = T1 at ad1 ad2
            generalize accS R 0 = T0 at ad1 ⊢
            have hDw := hD wr
            go_wp2_with (fail)
            refine hDw.mono ?_
            rintro e w5 ⟨rfl, hb5⟩
            have b1 := (hb5.cell (p := ⟨w.heap.size, 1, none⟩) hzw).trans a1
            have d0 := (hb5.cell (p := ⟨b, o, none⟩) hbl).trans c0
            have d1 := (hb5.cell (p := ⟨b, o + 1, none⟩) hbl).trans c1
            have hz5 : w.heap.size < w5.heap.size := Nat.lt_of_lt_of_le hzw hb5.size
            have hbl5 : b < w5.heap.size := Nat.lt_of_lt_of_le hbl hb5.size
            have HR5 := hidB (HR.out.trans (hb5.mono HR.out.size))
            have hcl := Cls.cell (w := w5)
            clear hDw hb5 a0 a1 c0 c1 HR hzw hbl
            go_upto_region 9 with fail
            refine wp_region_calm (by kernel_rfl) (by kernel_rfl) (fun hne => ?_)
            repeat (go_big_quiet_step (fail))
            refine wpQuiet_nil ?_
            rintro _ ⟨y, rfl⟩
            have HY := hidB (HR5.out.trans (y.bel.mono HR5.out.size))
            have b2 := (y.bel.cell (p := ⟨w.heap.size, 1, none⟩) hz5).trans b1
            have g1 := (y.bel.cell (p := ⟨b, o + 1, none⟩) hbl5).trans d1
            have hbl6 : b < y.val.heap.size := Nat.lt_of_lt_of_le hbl5 y.bel.size
            generalize y.val = w6 at HY b2 g1 hbl6 ⊢
            clear hne hcl b1 d0 d1 hbl5 HR5
            have hEw := hE w6
            go_wp2_with (fail)
            refine hEw.mono ?_
            rintro e w7 ⟨rfl, hb7⟩
            have HY7 := hidB (HY.out.trans (hb7.mono HY.out.size))
            clear hEw hb7 b2 g1 hbl6 HY
            go_wp2_with (fail)
            go_roundg (n - (0 + 1))
            case measure => omega
            case rel => exact ⟨0 + 1, by omega, by omega, by go_num, by rw [HST.out], HY7⟩
        · have hi0z : (0 : Int) < (i : Int) := by omega
          rw [if_neg hi0] at hstep
          have ad0 := fun w => addL (P := Tryd.prog) (accS R i) [44] (by omega) (by simp) w
          rw [show sL [44] = ⟨#[44]⟩ from rfl] at ad0
          have ad1 := fun w => addL (P := Tryd.prog) (accS R i ++ [44]) D (by simp; omega) (by omega) w
          by_cases heq : (q1 : Int) = (q2 : Int)
          · rw [if_pos heq] at hstep
            have hlt2 : ¬ (q1 : Int) < (q2 : Int) := by omega
            have HST := hidB hstep
            clear hstep hTl heq
            generalize (accS R i ++ [44]) ++ D = T1 at ad1 HST
            generalize accS R i ++ [44] = T00 at ad0 ad1
            generalize accS R i = T0 at ad0 ⊢
            have hDw := hD wr
            go_wp2_with (fail)
            refine hDw.mono ?_
            rintro e w5 ⟨rfl, hb5⟩
            have b1 := (hb5.cell (p := ⟨w.heap.size, 1, none⟩) hzw).trans a1
            have d0 := (hb5.cell (p := ⟨b, o + i * 2, none⟩) hbl).trans c0
            have d1 := (hb5.cell (p := ⟨b, o + i * 2 + 1, none⟩) hbl).trans c1
            have hz5 : w.heap.size < w5.heap.size := Nat.lt_of_lt_of_le hzw hb5.size
            have hbl5 : b < w5.heap.size := Nat.lt_of_lt_of_le hbl hb5.size
            have HR5 := hidB (HR.out.trans (hb5.mono HR.out.size))
            have hcl := Cls.cell (w := w5)
            clear hDw hb5 a0 a1 c0 c1 HR hzw hbl
            go_upto_region 9 with fail
            refine wp_region_calm (by kernel_rfl) (by kernel_rfl) (fun hne => ?_)
            repeat (go_big_quiet_step (fail))
            refine wpQuiet_nil ?_
            rintro _ ⟨y, rfl⟩
            have HY := hidB (HR5.out.trans (y.bel.mono HR5.out.size))
            have b2 := (y.bel.cell (p := ⟨w.heap.size, 1, none⟩) hz5).trans b1
            have g1 := (y.bel.cell (p := ⟨b, o + i * 2 + 1, none⟩) hbl5).trans d1
            have hbl6 : b < y.val.heap.size := Nat.lt_of_lt_of_le hbl5 y.bel.size
            generalize y.val = w6 at HY b2 g1 hbl6 ⊢
            clear hne hcl b1 d0 d1 hbl5 HR5
            go_wp2_with (fail)
            go_roundg (n - (i + 1))
            case measure => omega
            case rel => exact ⟨i + 1, by omega, by omega, by go_num, by rw [HST.out], HY⟩
          · rw [if_neg heq, ← List.append_assoc, ← List.append_assoc] at hstep
            have hlt2 : (q1 : Int) < (q2 : Int) := by omega
            have ad2 := fun w => addL (P := Tryd.prog) ((accS R i ++ [44]) ++ D) [45] (by simp; omega) (by simp) w
            have ad3 := fun w => addL (P := Tryd.prog) ((accS R i ++ [44]) ++ D ++ [45]) E (by simp; omega) (by omega) w
            rw [show sL [45] = ⟨#[45]⟩ from rfl] at ad2
            have HST := hidB hstep
            clear hstep hTl heq
            generalize (accS R i ++ [44]) ++ D ++ [45] ++ E = T3 at ad3 HST
            generalize (accS R i ++ [44]) ++ D ++ [45] = T2 at ad2 ad3
            generalize (accS R i ++ [44]) ++ D = T1 at ad1 ad2
            generalize accS R i ++ [44] = T00 at ad0 ad1
            generalize accS R i = T0 at ad0 ⊢
            have hDw := hD wr
            go_wp2_with (fail)
            refine hDw.mono ?_
            rintro e w5 ⟨rfl, hb5⟩
            have b1 := (hb5.cell (p := ⟨w.heap.size, 1, none⟩) hzw).trans a1
            have d0 := (hb5.cell (p := ⟨b, o + i * 2, none⟩) hbl).trans c0
            have d1 := (hb5.cell (p := ⟨b, o + i * 2 + 1, none⟩) hbl).trans c1
            have hz5 : w.heap.size < w5.heap.size := Nat.lt_of_lt_of_le hzw hb5.size
            have hbl5 : b < w5.heap.size := Nat.lt_of_lt_of_le hbl hb5.size
            have HR5 := hidB (HR.out.trans (hb5.mono HR.out.size))
            have hcl := Cls.cell (w := w5)
            clear hDw hb5 a0 a1 c0 c1 HR hzw hbl
            go_upto_region 9 with fail
            refine wp_region_calm (by kernel_rfl) (by kernel_rfl) (fun hne => ?_)
            repeat (go_big_quiet_step (fail))
            refine wpQuiet_nil ?_
            rintro _ ⟨y, rfl⟩
            have HY := hidB (HR5.out.trans (y.bel.mono HR5.out.size))
            have b2 := (y.bel.cell (p := ⟨w.heap.size, 1, none⟩) hz5).trans b1
            have g1 := (y.bel.cell (p := ⟨b, o + i * 2 + 1, none⟩) hbl5).trans d1
            have hbl6 : b < y.val.heap.size := Nat.lt_of_lt_of_le hbl5 y.bel.size
            generalize y.val = w6 at HY b2 g1 hbl6 ⊢
            clear hne hcl b1 d0 d1 hbl5 HR5
            have hEw := hE w6
            go_wp2_with (fail)
            refine hEw.mono ?_
            rintro e w7 ⟨rfl, hb7⟩
            have HY7 := hidB (HY.out.trans (hb7.mono HY.out.size))
            clear hEw hb7 b2 g1 hbl6 HY
            go_wp2_with (fail)
            go_roundg (n - (i + 1))
            case measure => omega
            case rel => exact ⟨i + 1, by omega, by omega, by go_num, by rw [HST.out], HY7⟩
    · have hlz : ¬ (i : Int) < (n : Int) := by omega
      have hin' : i = n := by omega
      have hj := accS_join R i (by rw [HLn.out]; exact hin)
      rw [List.take_of_length_le (by rw [HLn.out]; omega)] at hj
      have hTl := accS_len R HOK.out i (by rw [HLn.out]; exact hin)
      have hLT : listS R = if i = 0 then [97, 110, 121] else if i = 1 then accS R i else [91] ++ accS R i ++ [93] := by
        have hi' := HLn.out
        rw [← hin'] at hi'
        rcases R with _ | ⟨x, _ | ⟨y, R'⟩⟩
        · rw [if_pos (show i = 0 from hi'.symm)]; rfl
        · have h1 : i = 1 := hi'.symm
          rw [if_neg (by omega), if_pos h1, hj]
          simp [listS, Lib.join_one]
        · have h1 : 2 ≤ i := by rw [← hi']; simp
          rw [if_neg (by omega), if_neg (by omega), hj]
          rfl
      have HR2 := HR
      subst hin'
      clear HR hj
      by_cases hi0 : i = 0
      · subst hi0
        rw [if_pos rfl] at hLT
        rw [hLT] at HF
        clear hLT hTl hl2
        cases r with
        | true =>
          rw [if_pos rfl, show ([33] : List UInt8) ++ [97, 110, 121] = [33, 97, 110, 121] from rfl] at HF
          have ad := fun w => addL (P := Tryd.prog) [33] [97, 110, 121] (by simp) (by simp) w
          rw [show sL [33] = ⟨#[33]⟩ from rfl, show sL [97, 110, 121] = ⟨#[97, 110, 121]⟩ from rfl] at ad
          go_wp2_with (fail)
          go_ret
          exact ⟨by rw [HF.out]; rfl, HB3.out.trans (HR2.out.mono HB3.out.size)⟩
        | false =>
          rw [if_neg (by simp)] at HF
          go_wp2_with (fail)
          go_ret
          exact ⟨by rw [HF.out]; rfl, HB3.out.trans (HR2.out.mono HB3.out.size)⟩
      · have b0 : ((i : Int) == 0) = false := by simp; omega
        rw [if_neg hi0] at hLT
        by_cases hi1 : i = 1
        · subst hi1
          rw [if_pos rfl] at hLT
          rw [hLT] at HF
          have ad := fun w => addL (P := Tryd.prog) [33] (accS R 1) (by simp) (by omega) w
          rw [show sL [33] = ⟨#[33]⟩ from rfl] at ad
          generalize [33] ++ accS R 1 = F at ad HF
          generalize accS R 1 = T at ad HF ⊢
          clear hLT hTl hl2
          cases r with
          | true =>
            rw [if_pos rfl] at HF
            go_wp2_with (fail)
            go_ret
            exact ⟨by rw [HF.out]; rfl, HB3.out.trans (HR2.out.mono HB3.out.size)⟩
          | false =>
            rw [if_neg (by simp)] at HF
            go_wp2_with (fail)
            go_ret
            exact ⟨by rw [HF.out]; rfl, HB3.out.trans (HR2.out.mono HB3.out.size)⟩
        · have b1 : ((i : Int) == 1) = false := by simp; omega
          rw [if_neg hi1] at hLT
          rw [hLT] at HF
          have adA := fun w => addL (P := Tryd.prog) [91] (accS R i) (by simp) (by omega) w
          have adB := fun w => addL (P := Tryd.prog) ([91] ++ accS R i) [93] (by simp; omega) (by simp) w
          have ad := fun w => addL (P := Tryd.prog) [33] ([91] ++ accS R i ++ [93]) (by simp) (by simp; omega) w
          rw [show sL [33] = ⟨#[33]⟩ from rfl] at ad
          rw [show sL [91] = ⟨#[91]⟩ from rfl] at adA
          rw [show sL [93] = ⟨#[93]⟩ from rfl] at adB
          generalize [33] ++ ([91] ++ accS R i ++ [93]) = F at ad HF
          generalize [91] ++ accS R i ++ [93] = T2 at ad adB HF
          generalize [91] ++ accS R i = T1 at adA adB
          generalize accS R i = T at adA ⊢
          clear hLT hTl hl2
          cases r with
          | true =>
            rw [if_pos rfl] at HF
            go_wp2_with (fail)
            go_ret
            exact ⟨by rw [HF.out]; rfl, HB3.out.trans (HR2.out.mono HB3.out.size)⟩
          | false =>
            rw [if_neg (by simp)] at HF
            go_wp2_with (fail)
            go_ret
            exact ⟨by rw [HF.out]; rfl, HB3.out.trans (HR2.out.mono HB3.out.size)⟩
end Go.Proofs.YtgiecmgopibcnaaDoor
