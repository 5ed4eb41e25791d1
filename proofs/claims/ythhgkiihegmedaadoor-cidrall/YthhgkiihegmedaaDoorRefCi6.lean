/- Layer 9's own answer: a set's text. -/
import Derived.Test.YthhgkiihegmedaaDoorRefCi5
import Derived.Test.YthhgkiihegmedaaDoorCi7
namespace Go.Proofs.YthhgkiihegmedaaDoor
open Go.RowKit
set_option linter.unusedVariables false
set_option maxRecDepth 20000
/-- the text so far -/
def accT (R : List Nt) : Nat → List UInt8
  | 0 => []
  | i + 1 => (if i = 0 then accT R i else accT R i ++ [44]) ++ netT (R.getD i default)
theorem join_snoc (xs : List (List UInt8)) (y : List UInt8) : Lib.join (xs ++ [y]) [44] = (if xs = [] then [] else Lib.join xs [44] ++ [44]) ++ y := by
  cases xs with
  | nil => rw [List.nil_append, Lib.join_one, if_pos rfl, List.nil_append]
  | cons x r =>
    rw [if_neg (by simp), List.cons_append, Lib.join_cons, Lib.join_cons]
    unfold Lib.joinTail
    simp
theorem accT_join (R : List Nt) : ∀ k, k ≤ R.length → accT R k = Lib.join ((R.take k).map netT) [44]
  | 0, _ => by simp [accT, Lib.join_nil]
  | k + 1, hk => by
    have hg : R[k]? = some (R.getD k default) := by
      rw [List.getD_eq_getElem?_getD, List.getElem?_eq_getElem (by omega)]; rfl
    unfold accT
    rw [List.take_add_one, hg, accT_join R k (by omega)]
    show _ = Lib.join ((R.take k ++ [R.getD k default]).map netT) [44]
    rw [List.map_append, List.map_cons, List.map_nil, join_snoc]
    by_cases h0 : k = 0
    · subst h0
      simp [Lib.join_nil]
    · rw [if_neg h0, if_neg]
      intro e
      have := congrArg List.length e
      rw [List.length_map, List.length_take] at this
      simp only [List.length_nil] at this
      omega
theorem accT_len (R : List Nt) (h : ∀ n ∈ R, 0 ≤ n.2 ∧ n.2 ≤ 32) (k : Nat) (hk : k ≤ R.length) : (accT R k).length ≤ 20 * k := by
  rw [accT_join R k hk]
  have := join_le ((R.take k).map netT) (fun z hz => by
    obtain ⟨u, hu, rfl⟩ := List.mem_map.1 hz
    exact netT_len u (h u (List.mem_of_mem_take hu)).2)
  rw [List.length_map, List.length_take] at this
  omega
theorem nets_set {w w2 : World} {no : Bool} {p : Option Addr} {n c : Nat} {p' : Option Addr} {c' : Nat} {R : List Nt} (hb : Below (w.alloc (.cells (setC no p n c) 24)).heap.size (w.alloc (.cells (setC no p n c) 24)) w2) (h : Nets w2 p' c' R) (u v : Value) :
    Nets ((w2.setCell ⟨w.heap.size, 0, none⟩ u).setCell ⟨w.heap.size, 1, none⟩ v) p' c' R := by
  obtain ⟨h1, h2⟩ := h
  refine ⟨h1, ?_⟩
  rcases h2 with h2 | ⟨b, o, h3, h4, h5⟩
  · exact .inl h2
  · cases hR : R with
    | nil => exact .inl rfl
    | cons x R' =>
      have hx := (h5 0 x (by rw [hR]; rfl)).1
      have hne : b ≠ w.heap.size := by
        intro e
        subst e
        rw [hb.cell (p := ⟨w.heap.size, o + 0 * 2, none⟩) (by simp)] at hx
        rw [World.cell?_alloc_new] at hx
        match o, hx with
        | 0, hx => cases hx
        | 1, hx => cases hx
        | o + 2, hx => simp at hx
      rw [← hR]
      have k : ∀ q, ((w2.setCell ⟨w.heap.size, 0, none⟩ u).setCell ⟨w.heap.size, 1, none⟩ v).cell? ⟨b, q, none⟩ = w2.cell? ⟨b, q, none⟩ := fun q => by
        rw [World.cell?_of_block (a := ⟨b, q, none⟩) (Below.heap_setCell _ ⟨w.heap.size, 1, none⟩ v b hne), World.cell?_of_block (a := ⟨b, q, none⟩) (Below.heap_setCell _ ⟨w.heap.size, 0, none⟩ u b hne)]
      refine .inr ⟨b, o, h3, by rw [World.size_setCell, World.size_setCell]; exact h4, fun j n hj => ?_⟩
      obtain ⟨g1, g2⟩ := h5 j n hj
      exact ⟨(k _).trans g1, (k _).trans g2⟩
set_option maxHeartbeats 2000000 in
theorem rcText (no : Bool) (p : Option Addr) (c : Nat) (L : List Nt) (w : World) (h : Nets w p c L) (h20 : L.length ≤ 20) :
    Calls Tryd.prog 14 #[.agg (setC no p L.length c)] w fun e w' => e = .returned (.string (sL (textL no L))) ∧ Below w.heap.size w w' := by
  have hb := (Below.refl w.heap.size w).alloc (Nat.le_refl _) (.cells (setC no p L.length c) 24)
  have hcl := rcClean no p c L _ (h.below hb) h20
  have HB := hidB hb
  clear h hb
  have hok := cleanL_ok L
  have hlen := cleanL_len L
  have HF := hidB (show textL no L = if (checkL L && no) = true then [33] ++ listT (cleanL L) else listT (cleanL L) from rfl)
  generalize cleanL L = R at hcl hok hlen HF
  generalize (checkL L && no) = r at hcl HF
  have HOK := hidB hok
  have hl2 := listT_len R hok (by omega)
  clear hok
  generalize hn : R.length = n at hcl hlen
  have HLn := hidB hn
  clear hn
  go_enter Tryd.func14, Tryd.ntmps14
  go_wp2_with (fail)
  refine hcl.mono ?_
  rintro e w2 ⟨p', c', rfl, hN, hb2⟩
  obtain ⟨d0, d1⟩ := set_in hb2
  have z0 : w.heap.size < w2.heap.size := Nat.lt_of_lt_of_le (by simp) hb2.size
  have f0 : ∀ o, w2.frozen? ⟨w.heap.size, o, none⟩ = false := fun o => (hb2.frozen (p := ⟨w.heap.size, o, none⟩) (by simp)).trans (by simp)
  have HN3 := hidB (nets_set hb2 hN (.bool r) (.slice p' n c'))
  have HB3 := hidB (show Below w.heap.size w ((w2.setCell ⟨w.heap.size, 0, none⟩ (.bool r)).setCell ⟨w.heap.size, 1, none⟩ (.slice p' n c')) from
    ((HB.out.trans (hb2.mono HB.out.size)).setCell (p := ⟨w.heap.size, 0, none⟩) (Nat.le_refl _) _).setCell (p := ⟨w.heap.size, 1, none⟩) (Nat.le_refl _) _)
  have g := two_set5 d0 d1 (.bool r) (.slice p' n c')
  have e1 := g.2
  have e0 : ((w2.setCell ⟨w.heap.size, 0, none⟩ (.bool r)).setCell ⟨w.heap.size, 1, none⟩ (.slice p' n c')).cell? ⟨w.heap.size, 0, none⟩ = some (.bool r) := by
    rw [World.cell?_setCell_other (w := w2.setCell ⟨w.heap.size, 0, none⟩ (.bool r)) (a := ⟨w.heap.size, 1, none⟩) (b := ⟨w.heap.size, 0, none⟩) (v := .slice p' n c') (by simp)]
    exact g.1
  have z3 : w.heap.size < ((w2.setCell ⟨w.heap.size, 0, none⟩ (.bool r)).setCell ⟨w.heap.size, 1, none⟩ (.slice p' n c')).heap.size := by rw [World.size_setCell, World.size_setCell]; exact z0
  clear hcl hN hb2 g
  go_wp2
  generalize (w2.setCell ⟨w.heap.size, 0, none⟩ (.bool r)).setCell ⟨w.heap.size, 1, none⟩ (.slice p' n c') = W3 at HN3 HB3 e0 e1 z3 ⊢
  clear d0 d1 f0 z0
  go_loopg [3, 4] n (fun g s3 s4 wr => ∃ i : Nat, i ≤ n ∧ n - i ≤ g ∧ s4 = .int .i64 (i : Int) ∧ s3 = .string (sL (accT R i)) ∧ Hid (Below W3.heap.size W3 wr))
  case atStart => exact ⟨0, Nat.zero_le _, by omega, rfl, rfl, Below.refl _ _⟩
  case round =>
    obtain ⟨i, hin, hg, rfl, rfl, HR⟩ := hrel
    have a0 := (HR.out.cell (p := ⟨w.heap.size, 0, none⟩) z3).trans e0
    have a1 := (HR.out.cell (p := ⟨w.heap.size, 1, none⟩) z3).trans e1
    by_cases hlt : i < n
    · have hlz : (i : Int) < (n : Int) := by omega
      obtain ⟨x, hx⟩ : ∃ x, R[i]? = some x := ⟨_, List.getElem?_eq_getElem (by rw [HLn.out]; exact hlt)⟩
      obtain ⟨hcp, hN2⟩ := HN3.out.below HR.out
      rw [HLn.out] at hcp
      rcases hN2 with h3 | ⟨b, o, rfl, hbl, hcs⟩
      · rw [h3] at hx; cases hx
      · obtain ⟨c0, c1⟩ := hcs i x hx
        have hxok := HOK.out x (List.mem_of_getElem? hx)
        have hgd : R.getD i default = x := by rw [List.getD_eq_getElem?_getD, hx]; rfl
        have hTl := accT_len R HOK.out i (by rw [HLn.out]; exact hin)
        obtain ⟨x1, xb⟩ := x
        obtain ⟨q, hq⟩ : ∃ q : Nat, xb = (q : Int) := ⟨xb.toNat, by have := hxok.1; simp only at this; omega⟩
        subst hq
        have hq32 : q ≤ 32 := by have := hxok.2; simp only at this; omega
        have hD := fun (y : Cls wr) => rcDotted x1 y.val
        have hE := fun (y : Cls wr) => rcDec q (by omega) y.val
        have lD := dotA_len x1
        have lE := dec_le3 q (by omega)
        have hstep : accT R (i + 1) = (if i = 0 then accT R i else accT R i ++ [44]) ++ (dotA x1 ++ [47] ++ Lib.decDigits q) := by
          show _ ++ netT (R.getD i default) = _
          rw [hgd]
          rfl
        have hcl := Cls.cell (w := wr)
        have hzw : w.heap.size < wr.heap.size := Nat.lt_of_lt_of_le z3 HR.out.size
        simp only at c0 c1
        generalize dotA x1 = D at hD lD hstep
        generalize Lib.decDigits q = E at hE lE hstep
        clear hx hcs hgd hxok
        by_cases hi0 : i = 0
        · subst hi0
          simp only [Nat.zero_mul, Nat.add_zero] at c0 c1
          rw [if_pos rfl] at hstep
          have hst2 : accT R (0 + 1) = accT R 0 ++ D ++ [47] ++ E := by rw [hstep]; simp
          have HST := hidB hst2
          have ad1 := fun w => addL (P := Tryd.prog) (accT R 0) D (by omega) (by omega) w
          have ad2 := fun w => addL (P := Tryd.prog) (accT R 0 ++ D) [47] (by simp; omega) (by simp) w
          have ad3 := fun w => addL (P := Tryd.prog) (accT R 0 ++ D ++ [47]) E (by simp; omega) (by omega) w
          rw [show sL [47] = ⟨#[47]⟩ from rfl] at ad2
          clear hstep hst2 hTl
          generalize accT R 0 ++ D ++ [47] ++ E = T3 at ad3 HST
          generalize accT R 0 ++ D ++ [47] = T2 at ad2 ad3
          generalize accT R 0 ++ D = T1 at ad1 ad2
          generalize accT R 0 = T0 at ad1 ⊢
          go_upto_region 8 with fail
          refine wp_region_calm (by kernel_rfl) (by kernel_rfl) (fun hne => ?_)
          iterate 9 (go_big_quiet_step (first | (go_at_call 16; exact calm_of (hD _))))
          repeat (go_big_quiet_step (first | (go_at_call 26; exact calm_of (hE _))))
          refine wpQuiet_nil ?_
          rintro _ ⟨y, rfl⟩
          have HY := hidB (HR.out.trans (y.bel.mono HR.out.size))
          clear hne hcl a0 a1 c0 c1 hD hE
          go_wp2
          go_roundg (n - (0 + 1))
          case measure => omega
          case rel => exact ⟨0 + 1, by omega, by omega, by go_num, by rw [HST.out], HY⟩
        · have hi0z : (0 : Int) < (i : Int) := by omega
          rw [if_neg hi0] at hstep
          have hst2 : accT R (i + 1) = accT R i ++ [44] ++ D ++ [47] ++ E := by rw [hstep]; simp
          have HST := hidB hst2
          have ad0 := fun w => addL (P := Tryd.prog) (accT R i) [44] (by omega) (by simp) w
          have ad1 := fun w => addL (P := Tryd.prog) (accT R i ++ [44]) D (by simp; omega) (by omega) w
          have ad2 := fun w => addL (P := Tryd.prog) (accT R i ++ [44] ++ D) [47] (by simp; omega) (by simp) w
          have ad3 := fun w => addL (P := Tryd.prog) (accT R i ++ [44] ++ D ++ [47]) E (by simp; omega) (by omega) w
          rw [show sL [47] = ⟨#[47]⟩ from rfl] at ad2
          rw [show sL [44] = ⟨#[44]⟩ from rfl] at ad0
          clear hstep hst2 hTl
          generalize accT R i ++ [44] ++ D ++ [47] ++ E = T3 at ad3 HST
          generalize accT R i ++ [44] ++ D ++ [47] = T2 at ad2 ad3
          generalize accT R i ++ [44] ++ D = T1 at ad1 ad2
          generalize accT R i ++ [44] = T00 at ad0 ad1
          generalize accT R i = T0 at ad0 ⊢
          go_upto_region 8 with fail
          refine wp_region_calm (by kernel_rfl) (by kernel_rfl) (fun hne => ?_)
          iterate 9 (go_big_quiet_step (first | (go_at_call 16; exact calm_of (hD _))))
          repeat (go_big_quiet_step (first | (go_at_call 26; exact calm_of (hE _))))
          refine wpQuiet_nil ?_
          rintro _ ⟨y, rfl⟩
          have HY := hidB (HR.out.trans (y.bel.mono HR.out.size))
          clear hne hcl a0 a1 c0 c1 hD hE
          go_wp2
          go_roundg (n - (i + 1))
          case measure => omega
          case rel => exact ⟨i + 1, by omega, by omega, by go_num, by rw [HST.out], HY⟩
    · have hlz : ¬ (i : Int) < (n : Int) := by omega
      have hin' : i = n := by omega
      have hj := accT_join R i (by rw [HLn.out]; exact hin)
      rw [List.take_of_length_le (by rw [HLn.out]; omega)] at hj
      have hTl := accT_len R HOK.out i (by rw [HLn.out]; exact hin)
      have hLT : listT R = if i = 0 then [97, 110, 121] else if i = 1 then accT R i else [91] ++ accT R i ++ [93] := by
        have hi' := HLn.out
        rw [← hin'] at hi'
        rcases R with _ | ⟨x, _ | ⟨y, R'⟩⟩
        · rw [if_pos (show i = 0 from hi'.symm)]; rfl
        · have h1 : i = 1 := hi'.symm
          rw [if_neg (by omega), if_pos h1, hj]
          simp [listT, Lib.join_one]
        · have h1 : 2 ≤ i := by rw [← hi']; simp
          rw [if_neg (by omega), if_neg (by omega), hj]
          rfl
      have HR2 := HR
      subst hin'
      clear HR hj
      by_cases hi0 : i = 0
      · subst hi0
        rw [if_pos rfl] at hLT
        rw [hLT] at HF
        clear hLT hTl hl2
        cases r with
        | true =>
          rw [if_pos rfl, show ([33] : List UInt8) ++ [97, 110, 121] = [33, 97, 110, 121] from rfl] at HF
          have ad := fun w => addL (P := Tryd.prog) [33] [97, 110, 121] (by simp) (by simp) w
          rw [show sL [33] = ⟨#[33]⟩ from rfl, show sL [97, 110, 121] = ⟨#[97, 110, 121]⟩ from rfl] at ad
          go_wp2_with (fail)
          go_ret
          exact ⟨by rw [HF.out]; rfl, HB3.out.trans (HR2.out.mono HB3.out.size)⟩
        | false =>
          rw [if_neg (by simp)] at HF
          go_wp2_with (fail)
          go_ret
          exact ⟨by rw [HF.out]; rfl, HB3.out.trans (HR2.out.mono HB3.out.size)⟩
      · have b0 : ((i : Int) == 0) = false := by simp; omega
        rw [if_neg hi0] at hLT
        by_cases hi1 : i = 1
        · subst hi1
          rw [if_pos rfl] at hLT
          rw [hLT] at HF
          have ad := fun w => addL (P := Tryd.prog) [33] (accT R 1) (by simp) (by omega) w
          rw [show sL [33] = ⟨#[33]⟩ from rfl] at ad
          generalize [33] ++ accT R 1 = F at ad HF
          generalize accT R 1 = T at ad HF ⊢
          clear hLT hTl hl2
          cases r with
          | true =>
            rw [if_pos rfl] at HF
            go_wp2_with (fail)
            go_ret
            exact ⟨by rw [HF.out]; rfl, HB3.out.trans (HR2.out.mono HB3.out.size)⟩
          | false =>
            rw [if_neg (by simp)] at HF
            go_wp2_with (fail)
            go_ret
            exact ⟨by rw [HF.out]; rfl, HB3.out.trans (HR2.out.mono HB3.out.size)⟩
        · have b1 : ((i : Int) == 1) = false := by simp; omega
          rw [if_neg hi1] at hLT
          rw [hLT] at HF
          have adA := fun w => addL (P := Tryd.prog) [91] (accT R i) (by simp) (by omega) w
          have adB := fun w => addL (P := Tryd.prog) ([91] ++ accT R i) [93] (by simp; omega) (by simp) w
          have ad := fun w => addL (P := Tryd.prog) [33] ([91] ++ accT R i ++ [93]) (by simp) (by simp; omega) w
          rw [show sL [33] = ⟨#[33]⟩ from rfl] at ad
          rw [show sL [91] = ⟨#[91]⟩ from rfl] at adA
          rw [show sL [93] = ⟨#[93]⟩ from rfl] at adB
          generalize [33] ++ ([91] ++ accT R i ++ [93]) = F at ad HF
          generalize [91] ++ accT R i ++ [93] = T2 at ad adB HF
          generalize [91] ++ accT R i = T1 at adA adB
          generalize accT R i = T at adA ⊢
          clear hLT hTl hl2
          cases r with
          | true =>
            rw [if_pos rfl] at HF
            go_wp2_with (fail)
            go_ret
            exact ⟨by rw [HF.out]; rfl, HB3.out.trans (HR2.out.mono HB3.out.size)⟩
          | false =>
            rw [if_neg (by simp)] at HF
            go_wp2_with (fail)
            go_ret
            exact ⟨by rw [HF.out]; rfl, HB3.out.trans (HR2.out.mono HB3.out.size)⟩
end Go.Proofs.YthhgkiihegmedaaDoor
