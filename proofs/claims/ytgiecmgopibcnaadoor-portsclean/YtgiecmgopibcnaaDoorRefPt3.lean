/- Layer 10's own answer: clean. -/
import Derived.Test.YtgiecmgopibcnaaDoorRefPt2
import Derived.Test.YtgiecmgopibcnaaDoorPt5
import Derived.Test.YtgiecmgopibcnaaDoorMix2
namespace Go.Proofs.YtgiecmgopibcnaaDoor
open Go.RowKit
set_option linter.unusedVariables false
set_option maxRecDepth 20000
structure Cl10 (w x : World) (B : Nat) (no : Bool) (sl v : Value) : Prop where
  bel : Below w.heap.size w x
  lB : w.heap.size + 1 < B
  lx : B < x.heap.size
  a1 : x.cell? ⟨w.heap.size, 1, none⟩ = some sl
  r0 : x.cell? ⟨w.heap.size + 1, 0, none⟩ = some (.bool false)
  r1 : x.cell? ⟨w.heap.size + 1, 1, none⟩ = some (.slice none 0 0)
  rf : ∀ o, x.frozen? ⟨w.heap.size + 1, o, none⟩ = false
  rn : ∀ o s, x.cell? ⟨w.heap.size + 1, o, none⟩ ≠ some (.int .i64 s)
  c0 : x.cell? ⟨B, 0, none⟩ = some (.bool no)
  c1 : x.cell? ⟨B, 1, none⟩ = some v
  cf : ∀ o, x.frozen? ⟨B, o, none⟩ = false
  cn : ∀ o s, x.cell? ⟨B, o, none⟩ ≠ some (.int .i64 s)
theorem Cl10.step {w x y : World} {B : Nat} {no : Bool} {sl v : Value} (h : Cl10 w x B no sl v) (hb : Below x.heap.size x y) : Cl10 w y B no sl v := by
  have h1 := h.lB
  have h2 := h.lx
  have k : ∀ b o, b < x.heap.size → y.cell? ⟨b, o, none⟩ = x.cell? ⟨b, o, none⟩ := fun b o hlt => hb.cell (p := ⟨b, o, none⟩) hlt
  have f : ∀ b o, b < x.heap.size → y.frozen? ⟨b, o, none⟩ = x.frozen? ⟨b, o, none⟩ := fun b o hlt => hb.frozen (p := ⟨b, o, none⟩) hlt
  exact ⟨h.bel.trans (hb.mono h.bel.size), h.lB, Nat.lt_of_lt_of_le h.lx hb.size, (k _ _ (by omega)).trans h.a1, (k _ _ (by omega)).trans h.r0, (k _ _ (by omega)).trans h.r1, fun o => (f _ _ (by omega)).trans (h.rf o), fun o s => by rw [k _ _ (by omega)]; exact h.rn o s,
    (k _ _ h2).trans h.c0, (k _ _ h2).trans h.c1, fun o => (f _ _ h2).trans (h.cf o), fun o s => by rw [k _ _ h2]; exact h.cn o s⟩
theorem Cl10.set {w x : World} {B : Nat} {no : Bool} {sl v : Value} (h : Cl10 w x B no sl v) (p : Option Addr) (m c : Nat) : Cl10 w (x.setCell ⟨B, 1, none⟩ (.slice p m c)) B no sl (.slice p m c) := by
  have h1 := h.lB
  have h2 := h.lx
  have k : ∀ b o, b ≠ B → (x.setCell ⟨B, 1, none⟩ (.slice p m c)).cell? ⟨b, o, none⟩ = x.cell? ⟨b, o, none⟩ := fun b o hb => World.cell?_of_block (a := ⟨b, o, none⟩) (Below.heap_setCell x ⟨B, 1, none⟩ (.slice p m c) b hb)
  have g1 : (x.setCell ⟨B, 1, none⟩ (.slice p m c)).cell? ⟨B, 1, none⟩ = some (.slice p m c) := World.cell?_setCell_same' x ⟨B, 1, none⟩ _ (by rw [h.c1]; rfl)
  have go : ∀ o, o ≠ 1 → (x.setCell ⟨B, 1, none⟩ (.slice p m c)).cell? ⟨B, o, none⟩ = x.cell? ⟨B, o, none⟩ := fun o ho => World.cell?_setCell_other (w := x) (a := ⟨B, 1, none⟩) (b := ⟨B, o, none⟩) (v := .slice p m c) (fun e => ho (Addr.mk.inj e).2.1.symm)
  refine ⟨h.bel.setCell (p := ⟨B, 1, none⟩) (by show w.heap.size ≤ B; omega) _, h.lB, by rw [World.size_setCell]; exact h2, (k _ _ (by omega)).trans h.a1, (k _ _ (by omega)).trans h.r0, (k _ _ (by omega)).trans h.r1, fun o => (World.frozen?_setCell _ _ _ _).trans (h.rf o), fun o s => by rw [k _ _ (by omega)]; exact h.rn o s,
    (go 0 (by omega)).trans h.c0, g1, fun o => (World.frozen?_setCell _ _ _ _).trans (h.cf o), fun o s => ?_⟩
  by_cases e : o = 1
  · subst e; rw [g1]; simp
  · rw [go o e]; exact h.cn o s
theorem spans_set1 {x : World} {B : Nat} {p : Option Addr} {c : Nat} {R : List Sp} (hN : Spans x p c R) (hB : ∀ o s, x.cell? ⟨B, o, none⟩ ≠ some (.int .i64 s)) (o1 : Nat) (u : Value) : Spans (x.setCell ⟨B, o1, none⟩ u) p c R := by
  obtain ⟨h1, h2⟩ := hN
  refine ⟨h1, ?_⟩
  rcases h2 with h2 | ⟨b, o, h3, h4, h5⟩
  · exact .inl h2
  · cases hR : R with
    | nil => exact .inl rfl
    | cons y R' =>
      have hx := (h5 0 y (by rw [hR]; rfl)).1
      have hne : b ≠ B := fun e => by subst e; exact hB _ _ hx
      rw [← hR]
      have k : ∀ q, (x.setCell ⟨B, o1, none⟩ u).cell? ⟨b, q, none⟩ = x.cell? ⟨b, q, none⟩ := fun q => World.cell?_of_block (a := ⟨b, q, none⟩) (Below.heap_setCell _ ⟨B, o1, none⟩ u b hne)
      refine .inr ⟨b, o, h3, by rw [World.size_setCell]; exact h4, fun j n hj => ?_⟩
      obtain ⟨g1, g2⟩ := h5 j n hj
      exact ⟨(k _).trans g1, (k _).trans g2⟩
/-- put so far -/
def upS (L : List Sp) (k : Nat) : List Sp := (L.take k).foldl putS []
theorem upS_step (L : List Sp) (k : Nat) (s : Sp) (h : L[k]? = some s) : upS L (k + 1) = putS (upS L k) s := by
  obtain ⟨hk, e⟩ := List.getElem?_eq_some_iff.1 h
  unfold upS
  rw [List.take_succ_eq_append_getElem hk, e, List.foldl_append]
  rfl
theorem upS_ok {L : List Sp} (h : ∀ s ∈ L, okS s) (k : Nat) : (∀ s ∈ upS L k, okS s) ∧ (upS L k).length ≤ k := by
  have g := rawS_spec (L.take k) [] trivial (by simp) (fun s hs => h s (List.mem_of_mem_take hs))
  refine ⟨g.2.1, ?_⟩
  have := g.2.2.2
  rw [List.length_take, List.length_nil] at this
  show (List.foldl putS [] (L.take k)).length ≤ k
  omega
theorem upS_all (L : List Sp) (k : Nat) (h : L.length ≤ k) : upS L k = rawS L := by unfold upS rawS; rw [List.take_of_length_le h]
set_option maxHeartbeats 4000000 in
theorem rpClean (no : Bool) (p : Option Addr) (c : Nat) (L : List Sp) (w : World) (h : Spans w p c L) (h20 : L.length ≤ 20) :
    Calls Tryd.prog 13 #[.agg (ptC no p L.length c)] w fun e w' => ∃ p' c', e = .returned (.agg (ptC (checkS L && no) p' (cleanS L).length c')) ∧ Spans w' p' c' (cleanS L) ∧ Below w.heap.size w w' := by
  have hb := ((Below.refl w.heap.size w).alloc (Nat.le_refl _) (.cells (ptC no p L.length c) 24)).alloc (by simp) (.cells #[.bool false, .slice none 0 0] 24)
  have h1 := h.below hb
  have hck := rpCheck no p c L _ h1 h20
  have HB := hidB hb
  have H1 := hidB h1
  by_cases hc : checkS L = true
  · rw [hc] at hck
    have HOK := hidB (checkS_ok hc)
    have h4 := checkS_len hc
    have HF := hidB (show cleanS L = if rawS L = [(0, 65535)] then [] else rawS L by unfold cleanS; rw [if_pos hc])
    have HH := hidB h
    rw [hc, Bool.true_and]
    clear h hb h1 hc
    generalize hn : L.length = n at *
    have HLn := hidB hn
    clear hn
    go_enter Tryd.func13, Tryd.ntmps13
    go_wp2_with (fail)
    refine hck.mono ?_
    rintro e w2 ⟨rfl, hb2⟩
    have d0 : w2.cell? ⟨w.heap.size, 0, none⟩ = some (.bool no) := (hb2.cell (p := ⟨w.heap.size, 0, none⟩) (by simp; omega)).trans (by simp)
    have z2 : w.heap.size + 1 < w2.heap.size := Nat.lt_of_lt_of_le (by simp) hb2.size
    have hC : Cl10 w (w2.alloc (.cells #[.bool no, .slice none 0 0] 24)) w2.heap.size no (.slice p n c) (.slice none 0 0) := by
      have d1 : w2.cell? ⟨w.heap.size, 1, none⟩ = some (.slice p n c) := (hb2.cell (p := ⟨w.heap.size, 1, none⟩) (by simp; omega)).trans (by simp)
      have g0 : w2.cell? ⟨w.heap.size + 1, 0, none⟩ = some (.bool false) := (hb2.cell (p := ⟨w.heap.size + 1, 0, none⟩) (by simp)).trans (by simp)
      have g1 : w2.cell? ⟨w.heap.size + 1, 1, none⟩ = some (.slice none 0 0) := (hb2.cell (p := ⟨w.heap.size + 1, 1, none⟩) (by simp)).trans (by simp)
      have gf : ∀ o, w2.frozen? ⟨w.heap.size + 1, o, none⟩ = false := fun o => (hb2.frozen (p := ⟨w.heap.size + 1, o, none⟩) (by simp)).trans (by simp)
      have gn := not_int_two (by simp) (by simp) ((hb2.block (w.heap.size + 1) (by simp)).trans (heap_new2 w _ _))
      have hal := below_more (Below.refl w2.heap.size w2) (Nat.le_refl _) (.cells #[.bool no, .slice none 0 0] 24)
      exact ⟨(HB.out.trans (hb2.mono HB.out.size)).trans (hal.mono (by omega)), z2, by simp, (hal.cell (p := ⟨w.heap.size, 1, none⟩) (by show w.heap.size < _; omega)).trans d1, (hal.cell (p := ⟨w.heap.size + 1, 0, none⟩) z2).trans g0, (hal.cell (p := ⟨w.heap.size + 1, 1, none⟩) z2).trans g1, fun o => (hal.frozen (p := ⟨w.heap.size + 1, o, none⟩) z2).trans (gf o), fun o s => by rw [hal.cell (p := ⟨w.heap.size + 1, o, none⟩) z2]; exact gn o s, by simp, by simp, by simp, not_int_two (by simp) (by simp) (heap_new w2 _)⟩
    have HC := hidB hC
    clear hck hb2 HB H1 hC
    go_wp2
    generalize w2.alloc (.cells #[.bool no, .slice none 0 0] 24) = W3 at HC ⊢
    generalize w2.heap.size = B at HC ⊢
    clear d0 z2
    go_loopg [4] n (fun g s4 wr => ∃ (k : Nat) (p' : Option Addr) (c' : Nat), k ≤ n ∧ n - k ≤ g ∧ s4 = .int .i64 (k : Int) ∧ Hid (Cl10 w wr B no (.slice p n c) (.slice p' (upS L k).length c') ∧ Spans wr p' c' (upS L k)))
    case atStart => exact ⟨0, none, 0, Nat.zero_le _, by omega, rfl, HC.out, Nat.le_refl _, .inl rfl⟩
    case round =>
      obtain ⟨k, p', c', hkn, hg, rfl, HP⟩ := hrel
      have f1 := HP.out.1.a1
      by_cases hlt : k < n
      · have hlz : (k : Int) < (n : Int) := by omega
        obtain ⟨s, hs⟩ : ∃ s, L[k]? = some s := ⟨_, List.getElem?_eq_getElem (by rw [HLn.out]; exact hlt)⟩
        have hso := HOK.out s (List.mem_of_getElem? hs)
        have HST := hidB (upS_step L k s hs)
        obtain ⟨hcp, h2⟩ := HH.out.below HP.out.1.bel
        rw [HLn.out] at hcp
        rcases h2 with h2 | ⟨b, o, rfl, h4b, h5⟩
        · rw [h2] at hs; cases hs
        · obtain ⟨c0, c1⟩ := h5 k s hs
          have hup := upS_ok HOK.out k
          have hput := fun (W : World) (hW : Spans W p' c' (upS L k)) => rpPut p' c' (upS L k) s W hW hup.1 hso (by omega)
          have hnx := upS_ok HOK.out (k + 1)
          rw [← HST.out] at hput
          have e1 := HP.out.1.c1
          have zB := HP.out.1.lx
          have zw : w.heap.size < wr.heap.size := by have := HP.out.1.lB; omega
          have hl4 : (upS L k).length ≤ 20 := by omega
          generalize hR2 : upS L (k + 1) = R2 at hput HST hnx
          have HR2 := hidB hR2
          clear hR2
          generalize upS L k = R1 at HP hput e1 hl4
          generalize hm1 : R1.length = m1 at *
          obtain ⟨s1, s2⟩ := s
          simp only at c0 c1
          have HB2 := hidB (And.intro hnx hso)
          clear hs h5 HST hup hnx hso HC hm1
          go_upto_region 7 with fail
          refine wp_region_mix [true, true, true, true, true, true, true] [(false, 7)] 8 (A := ?A) (fun x => Below wr.heap.size wr x) (by kernel_rfl) (by kernel_rfl) (by rfl) (Below.refl wr.heap.size wr).drew ?walk ?tail
          case walk =>
            intro y hy
            have y1 := (hy.cell (p := ⟨w.heap.size, 1, none⟩) zw).trans f1
            have y2 := (hy.cell (p := ⟨B, 1, none⟩) zB).trans e1
            have y3 := (hy.cell (p := ⟨b, o + k * 2, none⟩) h4b).trans c0
            have y4 := (hy.cell (p := ⟨b, o + k * 2 + 1, none⟩) h4b).trans c1
            clear hy
            simp only [pickM]
            repeat (go_big_quiet_step (fail))
            refine wpQuiet_nil ?_
            rfl
          case tail =>
            have b0 := (Below.refl wr.heap.size wr).drew
            refine mixE_of _ (by simp) _ _ ?_
            simp only [pickX, List.getElem?_cons_succ, List.getElem?_cons_zero, List.append_nil]
            refine mixw_call (by rfl) 24 #[.slice p' m1 c', .agg (spC (s1, s2)).toArray] (fun u w' => ∃ p2 c2, u = .slice p2 R2.length c2 ∧ Spans w' p2 c2 R2 ∧ Below wr.heap.size wr w') (by kernel_rfl) ((hput wr.drew (HP.out.2.below b0)).mono (by rintro e w' ⟨p2, c2, rfl, hN, hb⟩; exact ⟨_, rfl, p2, c2, rfl, hN, b0.trans (hb.mono b0.size)⟩)) ?_
            rintro _ w5 ⟨p2, c2, rfl, hN2, b5⟩
            refine ⟨b5, ?_⟩
            have H5 := hidB (HP.out.1.step b5)
            have H6 := hidB (And.intro (H5.out.set p2 R2.length c2) (spans_set1 hN2 H5.out.cn 1 (.slice p2 R2.length c2)))
            have g1 := H5.out.c1
            have gf := H5.out.cf
            clear hput b0 b5 hN2 f1 e1 c0 c1 HP H5
            unfold mixF
            simp only [List.drop_succ_cons, List.drop_zero]
            simp only [Act.put, List.setIfInBounds_toArray, List.set_cons_succ, List.set_cons_zero]
            go_wp2_with fail
            go_roundg (n - (k + 1))
            case measure => omega
            case rel => exact ⟨k + 1, p2, c2, by omega, by omega, by go_num, hidB (by rw [HR2.out]; exact H6.out)⟩
      · have hlz : ¬ (k : Int) < (n : Int) := by omega
        have hkn' : k = n := by omega
        subst hkn'
        have hup := upS_all L k (by rw [HLn.out]; exact Nat.le_refl _)
        rw [hup] at HP
        have hlen := rawS_len HOK.out
        have hok := rawS_ok HOK.out
        rw [HLn.out] at hlen
        generalize rawS L = R at HP HF hlen hok
        have HOKR := hidB hok
        obtain ⟨hC, hS⟩ := HP.out
        have HCC := hidB hC
        have HSS := hidB hS
        have e0 := hC.c0
        have e1 := hC.c1
        have ef := hC.cf
        have g0 := hC.r0
        have g1 := hC.r1
        have gf := hC.rf
        have hBn := hC.lB
        clear hup HP hC hS hkn hg HC HOK hlt hok
        by_cases hR : R.length = 1
        · obtain ⟨s, rfl⟩ : ∃ s, R = [s] := by
            rcases R with _ | ⟨s, _ | ⟨t, R⟩⟩
            · simp at hR
            · exact ⟨s, rfl⟩
            · simp at hR
          simp only [List.length_cons, List.length_nil, Nat.zero_add] at e1 HCC ⊢
          obtain ⟨hcp, h2⟩ := HSS.out
          rcases h2 with h2 | ⟨b, o, rfl, h4b, h5⟩
          · cases h2
          · obtain ⟨c0, c1⟩ := h5 0 s rfl
            obtain ⟨s1, s2⟩ := s
            simp only [Nat.zero_mul, Nat.add_zero] at c0 c1
            have hcp' : 1 ≤ c' := hcp
            clear h5 hcp hR hlen
            by_cases hf : s1 = 0 ∧ s2 = 65535
            · obtain ⟨rfl, rfl⟩ := hf
              rw [if_pos rfl] at HF
              have hC2 := HCC.out.set none 0 0
              have gg0 := hC2.r0
              have gg1 := hC2.r1
              have ggf := hC2.rf
              have ee0 := hC2.c0
              have ee1 := hC2.c1
              have HC2 := hidB hC2
              clear hC2
              go_wp2
              (try simp only [Exit.inBlock, Exit.then])
              have g := two_set10 gg0 gg1 (.bool no) (.slice none 0 0)
              refine bodyPost_ret (v := .agg #[.bool no, .slice none 0 0]) (by simp [results, Tryd.results13, go_sem, g.1, g.2]) rfl ?_
              refine ⟨none, 0, by rw [HF.out]; rfl, ?_, (HC2.out.bel.setCell (p := ⟨w.heap.size + 1, 0, none⟩) (by show w.heap.size ≤ w.heap.size + 1; omega) _).setCell (p := ⟨w.heap.size + 1, 1, none⟩) (by show w.heap.size ≤ w.heap.size + 1; omega) _⟩
              rw [HF.out]
              exact ⟨Nat.le_refl _, .inl rfl⟩
            · have hne : ¬ [(s1, s2)] = [((0 : Int), (65535 : Int))] := fun e => hf (by simpa using e)
              rw [if_neg hne] at HF
              clear hne
              have hcase : (s1 == 0) = false ∨ ((s1 == 0) = true ∧ (s2 == 65535) = false) := by
                by_cases h1 : s1 = 0
                · exact .inr ⟨by simp [h1], by
                    have h2 : ¬ s2 = 65535 := fun h => hf ⟨h1, h⟩
                    simp [h2]⟩
                · exact .inl (by simp [h1])
              clear hf
              have g := two_set10 g0 g1 (.bool no) (.slice (some ⟨b, o, none⟩) 1 c')
              have HG := hidB g
              clear g
              have HE := hidB (show Spans ((wr.setCell ⟨w.heap.size + 1, 0, none⟩ (.bool no)).setCell ⟨w.heap.size + 1, 1, none⟩ (.slice (some ⟨b, o, none⟩) 1 c')) (some ⟨b, o, none⟩) c' [(s1, s2)] from spans_set HSS.out HCC.out.rn 0 1 _ _)
              rcases hcase with h1 | ⟨h1, h2⟩
              · go_wp2
                (try simp only [Exit.inBlock, Exit.then])
                have g := HG.out
                refine bodyPost_ret (v := .agg #[.bool no, .slice (some ⟨b, o, none⟩) 1 c']) (by simp [results, Tryd.results13, go_sem, g.1, g.2]) rfl ?_
                exact ⟨some ⟨b, o, none⟩, c', by rw [HF.out]; rfl, by rw [HF.out]; exact HE.out, (HCC.out.bel.setCell (p := ⟨w.heap.size + 1, 0, none⟩) (by show w.heap.size ≤ w.heap.size + 1; omega) _).setCell (p := ⟨w.heap.size + 1, 1, none⟩) (by show w.heap.size ≤ w.heap.size + 1; omega) _⟩
              · go_wp2
                (try simp only [Exit.inBlock, Exit.then])
                have g := HG.out
                refine bodyPost_ret (v := .agg #[.bool no, .slice (some ⟨b, o, none⟩) 1 c']) (by simp [results, Tryd.results13, go_sem, g.1, g.2]) rfl ?_
                exact ⟨some ⟨b, o, none⟩, c', by rw [HF.out]; rfl, by rw [HF.out]; exact HE.out, (HCC.out.bel.setCell (p := ⟨w.heap.size + 1, 0, none⟩) (by show w.heap.size ≤ w.heap.size + 1; omega) _).setCell (p := ⟨w.heap.size + 1, 1, none⟩) (by show w.heap.size ≤ w.heap.size + 1; omega) _⟩
        · have hne : ¬ R = [((0 : Int), (65535 : Int))] := fun e => hR (by rw [e]; rfl)
          rw [if_neg hne] at HF
          have HE := hidB (spans_set HSS.out HCC.out.rn 0 1 (.bool no) (.slice p' R.length c'))
          have HRL := hidB (show R.length = R.length from rfl)
          generalize hm : R.length = m at *
          have HM := hidB hm
          have hb1 : ((m : Int) == 1) = false := by simp; omega
          clear hne hR hm HRL
          go_wp2
          (try simp only [Exit.inBlock, Exit.then])
          have g := two_set10 g0 g1 (.bool no) (.slice p' m c')
          refine bodyPost_ret (v := .agg #[.bool no, .slice p' m c']) (by simp [results, Tryd.results13, go_sem, g.1, g.2]) rfl ?_
          exact ⟨p', c', by rw [HF.out, HM.out], by rw [HF.out]; exact HE.out, (HCC.out.bel.setCell (p := ⟨w.heap.size + 1, 0, none⟩) (by show w.heap.size ≤ w.heap.size + 1; omega) _).setCell (p := ⟨w.heap.size + 1, 1, none⟩) (by show w.heap.size ≤ w.heap.size + 1; omega) _⟩
  · have hc : checkS L = false := by simpa using hc
    have HF := hidB (show cleanS L = [] by simp only [cleanS, hc, Bool.false_eq_true, if_false])
    rw [hc] at hck ⊢
    rw [Bool.false_and]
    clear h hb h1 hc
    generalize L.length = n at *
    go_enter Tryd.func13, Tryd.ntmps13
    go_wp2_with (fail)
    refine hck.mono ?_
    rintro e w2 ⟨rfl, hb2⟩
    have g0 : w2.cell? ⟨w.heap.size + 1, 0, none⟩ = some (.bool false) := (hb2.cell (p := ⟨w.heap.size + 1, 0, none⟩) (by simp)).trans (by simp)
    have g1 : w2.cell? ⟨w.heap.size + 1, 1, none⟩ = some (.slice none 0 0) := (hb2.cell (p := ⟨w.heap.size + 1, 1, none⟩) (by simp)).trans (by simp)
    have gf : ∀ o, w2.frozen? ⟨w.heap.size + 1, o, none⟩ = false := fun o => (hb2.frozen (p := ⟨w.heap.size + 1, o, none⟩) (by simp)).trans (by simp)
    have HB2 := hidB (HB.out.trans (hb2.mono HB.out.size))
    clear hck hb2 HB H1
    go_wp2_with fail
    have g := two_set10 g0 g1 (.bool false) (.slice none 0 0)
    refine bodyPost_ret (v := .agg #[.bool false, .slice none 0 0]) (by simp [results, Tryd.results13, go_sem, g.1, g.2]) rfl ?_
    refine ⟨none, 0, by rw [HF.out]; rfl, ?_, (HB2.out.setCell (p := ⟨w.heap.size + 1, 0, none⟩) (by show w.heap.size ≤ w.heap.size + 1; omega) _).setCell (p := ⟨w.heap.size + 1, 1, none⟩) (by show w.heap.size ≤ w.heap.size + 1; omega) _⟩
    rw [HF.out]
    exact ⟨Nat.le_refl _, .inl rfl⟩
end Go.Proofs.YtgiecmgopibcnaaDoor
