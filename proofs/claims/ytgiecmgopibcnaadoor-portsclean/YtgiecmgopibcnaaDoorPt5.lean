/- Layer 10 as landed: clean sets. -/
import Derived.Test.YtgiecmgopibcnaaDoorPt4
import Derived.Deep.CutRange
import Derived.Deep.DeepCutAuto
namespace Go.Proofs.YtgiecmgopibcnaaDoor
open Go.RowKit
set_option linter.unusedVariables false
set_option maxRecDepth 20000
theorem rawS_ok {L : List Sp} (h : ∀ s ∈ L, okS s) : ∀ s ∈ rawS L, okS s := (rawS_spec L [] trivial (by simp) h).2.1
theorem rawS_nf {L : List Sp} (h : ∀ s ∈ L, okS s) : Nf (rawS L) := (rawS_spec L [] trivial (by simp) h).1
theorem rawS_len {L : List Sp} (h : ∀ s ∈ L, okS s) : (rawS L).length ≤ L.length := by have := (rawS_spec L [] trivial (by simp) h).2.2.2; simpa [rawS] using this
theorem any_all {L : List Sp} (h : ∀ s ∈ L, okS s) : (rawS L).any (fun s => s == (0, 65535)) = decide (rawS L = [(0, 65535)]) := by
  rw [Bool.eq_iff_iff, List.any_eq_true, decide_eq_true_eq]
  constructor
  · rintro ⟨s, hs, e⟩
    rw [beq_iff_eq] at e
    subst e
    exact nf_all (rawS_nf h) (rawS_ok h) hs
  · intro e
    exact ⟨(0, 65535), by rw [e]; simp, by simp⟩
theorem spans_set {x : World} {B : Nat} {p : Option Addr} {c : Nat} {R : List Sp} (hN : Spans x p c R) (hB : ∀ o s, x.cell? ⟨B, o, none⟩ ≠ some (.int .i64 s)) (o1 o2 : Nat) (u v : Value) : Spans ((x.setCell ⟨B, o1, none⟩ u).setCell ⟨B, o2, none⟩ v) p c R := by
  obtain ⟨h1, h2⟩ := hN
  refine ⟨h1, ?_⟩
  rcases h2 with h2 | ⟨b, o, h3, h4, h5⟩
  · exact .inl h2
  · cases hR : R with
    | nil => exact .inl rfl
    | cons y R' =>
      have hx := (h5 0 y (by rw [hR]; rfl)).1
      have hne : b ≠ B := fun e => by subst e; exact hB _ _ hx
      rw [← hR]
      have k : ∀ q, ((x.setCell ⟨B, o1, none⟩ u).setCell ⟨B, o2, none⟩ v).cell? ⟨b, q, none⟩ = x.cell? ⟨b, q, none⟩ := fun q => by
        rw [World.cell?_of_block (a := ⟨b, q, none⟩) (Below.heap_setCell _ ⟨B, o2, none⟩ v b hne), World.cell?_of_block (a := ⟨b, q, none⟩) (Below.heap_setCell _ ⟨B, o1, none⟩ u b hne)]
      refine .inr ⟨b, o, h3, by rw [World.size_setCell, World.size_setCell]; exact h4, fun j n hj => ?_⟩
      obtain ⟨g1, g2⟩ := h5 j n hj
      exact ⟨(k _).trans g1, (k _).trans g2⟩
theorem two_set10 {x : World} {B : Nat} {a b : Value} (h0 : x.cell? ⟨B, 0, none⟩ = some a) (h1 : x.cell? ⟨B, 1, none⟩ = some b) (u v : Value) :
    ((x.setCell ⟨B, 0, none⟩ u).setCell ⟨B, 1, none⟩ v).cell? ⟨B, 0, none⟩ = some u ∧ ((x.setCell ⟨B, 0, none⟩ u).setCell ⟨B, 1, none⟩ v).cell? ⟨B, 1, none⟩ = some v := by
  refine ⟨?_, World.cell?_setCell_same' _ ⟨B, 1, none⟩ v ?_⟩
  · rw [World.cell?_setCell_other (w := x.setCell ⟨B, 0, none⟩ u) (a := ⟨B, 1, none⟩) (b := ⟨B, 0, none⟩) (v := v) (by simp)]
    exact World.cell?_setCell_same' x ⟨B, 0, none⟩ u (by rw [h0]; rfl)
  · rw [World.cell?_setCell_other (w := x) (a := ⟨B, 0, none⟩) (b := ⟨B, 1, none⟩) (v := u) (by simp), h1]
    rfl
theorem not_int_two {x : World} {B : Nat} {a b : Value} {t : TypeId} (ha : ∀ s, a ≠ .int .i64 s) (hb : ∀ s, b ≠ .int .i64 s) (h : x.heap[B]? = some (.cells #[a, b] t)) : ∀ o s, x.cell? ⟨B, o, none⟩ ≠ some (.int .i64 s) := by
  intro o s
  simp only [World.cell?, h]
  match o with
  | 0 => simp; exact ha s
  | 1 => simp; exact hb s
  | o + 2 => simp
theorem heap_new (x : World) (O : Obj) : (x.alloc O).heap[x.heap.size]? = some O := by
  show (x.heap.push O)[x.heap.size]? = some O
  simp
theorem heap_new2 (x : World) (O O2 : Obj) : ((x.alloc O).alloc O2).heap[x.heap.size + 1]? = some O2 := by
  rw [← World.size_alloc x O]
  exact heap_new _ _
set_option maxHeartbeats 2000000 in
theorem ptClean (no : Bool) (p : Option Addr) (c : Nat) (L : List Sp) (w : World) (h : Spans w p c L) (h20 : L.length ≤ 20) :
    Calls Tryd.prog 11 #[.agg (ptC no p L.length c)] w fun e w' => ∃ p' c', e = .returned (.agg (ptC (checkS L && no) p' (cleanS L).length c')) ∧ Spans w' p' c' (cleanS L) ∧ Below w.heap.size w w' := by
  have hb := ((Below.refl w.heap.size w).alloc (Nat.le_refl _) (.cells (ptC no p L.length c) 24)).alloc (by simp) (.cells #[.bool false, .slice none 0 0] 24)
  have h1 := h.below hb
  have hck := ptCheck no p c L _ h1 h20
  have HB := hidB hb
  have H1 := hidB h1
  by_cases hc : checkS L = true
  · rw [hc] at hck
    have hok := checkS_ok hc
    have h4 := checkS_len hc
    have hmg := fun (W : World) (hW : Spans W p c L) => ptMerged p c L W hW hok h4
    have HF := hidB (show cleanS L = if rawS L = [(0, 65535)] then [] else rawS L by unfold cleanS; rw [if_pos hc])
    have HA := hidB (any_all hok)
    have hrl := rawS_len hok
    rw [hc, Bool.true_and]
    generalize rawS L = R at hmg HF HA hrl
    clear h hb h1 hc hok
    generalize hn : L.length = n at *
    clear hn
    go_enter Tryd.func11, Tryd.ntmps11
    go_wp2_with (fail)
    refine hck.mono ?_
    rintro e w2 ⟨rfl, hb2⟩
    have d0 : w2.cell? ⟨w.heap.size, 0, none⟩ = some (.bool no) := (hb2.cell (p := ⟨w.heap.size, 0, none⟩) (by simp; omega)).trans (by simp)
    have d1 : w2.cell? ⟨w.heap.size, 1, none⟩ = some (.slice p n c) := (hb2.cell (p := ⟨w.heap.size, 1, none⟩) (by simp; omega)).trans (by simp)
    have g0 : w2.cell? ⟨w.heap.size + 1, 0, none⟩ = some (.bool false) := (hb2.cell (p := ⟨w.heap.size + 1, 0, none⟩) (by simp)).trans (by simp)
    have g1 : w2.cell? ⟨w.heap.size + 1, 1, none⟩ = some (.slice none 0 0) := (hb2.cell (p := ⟨w.heap.size + 1, 1, none⟩) (by simp)).trans (by simp)
    have gf : ∀ o, w2.frozen? ⟨w.heap.size + 1, o, none⟩ = false := fun o => (hb2.frozen (p := ⟨w.heap.size + 1, o, none⟩) (by simp)).trans (by simp)
    have GZ := hidB (not_int_two (by simp) (by simp) ((hb2.block (w.heap.size + 1) (by simp)).trans (heap_new2 w _ _)))
    have z2 : w.heap.size + 1 < w2.heap.size := Nat.lt_of_lt_of_le (by simp) hb2.size
    have z20 : w.heap.size < w2.heap.size := by omega
    have HB2 := hidB (HB.out.trans (hb2.mono HB.out.size))
    have H2 := hidB (H1.out.below hb2)
    clear hck hb2 HB H1
    go_upto_region 3 with fail
    have bA : Below w2.heap.size w2 w2.drew := (Below.refl _ _).drew
    have bB : Below w2.heap.size w2 (w2.alloc (.cells #[.bool false, .slice none 0 0] 24)).drew := (below_more (Below.refl _ _) (Nat.le_refl _) _).drew
    have hA := hmg w2.drew (H2.out.below bA)
    have hB := hmg (w2.alloc (.cells #[.bool false, .slice none 0 0] 24)).drew (H2.out.below bB)
    have BA := hidB bA
    have BB := hidB bB
    clear hmg bA bB
    go_cut [3] (fun s3 wx => ∃ b p' c', s3 = .pointer (some ⟨b, 0, none⟩) ∧ wx.cell? ⟨b, 0, none⟩ = some (.bool no) ∧ wx.cell? ⟨b, 1, none⟩ = some (.slice p' R.length c') ∧ (∀ o, wx.frozen? ⟨b, o, none⟩ = false) ∧ Hid (w2.heap.size ≤ b ∧ Spans wx p' c' R ∧ Below w2.heap.size w2 wx))
    case first =>
      go_region_with (first
        | (go_at_call 22; refine hA.mono ?_; rintro e w9 ⟨p9, c9, rfl, hN9, hb9⟩; have hd0 := ((BA.out.trans (hb9.mono BA.out.size)).cell (p := ⟨w.heap.size, 0, none⟩) z20).trans d0; have HN9 := hidB hN9; have HB9 := hidB (BA.out.trans (hb9.mono BA.out.size)); have hz9 : w.heap.size < w9.heap.size := Nat.lt_of_lt_of_le z20 HB9.out.size; clear hN9 hb9)
        | (go_at_call 22; refine hB.mono ?_; rintro e w9 ⟨p9, c9, rfl, hN9, hb9⟩; have hd0 := ((BB.out.trans (hb9.mono BB.out.size)).cell (p := ⟨w.heap.size, 0, none⟩) z20).trans d0; have hk0 := (hb9.cell (p := ⟨w2.heap.size, 0, none⟩) (by simp)).trans (by simp : _ = some (Value.bool false)); have hk1 := (hb9.cell (p := ⟨w2.heap.size, 1, none⟩) (by simp)).trans (by simp : _ = some (Value.slice none 0 0)); have hkf : ∀ o, w9.frozen? ⟨w2.heap.size, o, none⟩ = false := (fun o => (hb9.frozen (p := ⟨w2.heap.size, o, none⟩) (by simp)).trans (by simp)); have HN9 := hidB hN9; have HB9 := hidB (BB.out.trans (hb9.mono BB.out.size)); have HZ9 := hidB (not_int_two (by simp) (by simp) ((hb9.block w2.heap.size (by simp)).trans (heap_new w2 _))); have hz9 : w.heap.size < w9.heap.size := Nat.lt_of_lt_of_le z20 HB9.out.size; clear hN9 hb9))
      all_goals
        go_wp2_with fail
        go_meet
        first
          | exact ⟨_, p9, c9, rfl, by simp, by simp, by simp, HB9.out.size, (HN9.out.below (below_more (Below.refl _ _) (Nat.le_refl _) _)), below_more HB9.out (Nat.le_refl _) _⟩
          | exact ⟨_, p9, c9, rfl, (two_set10 hk0 hk1 _ _).1, (two_set10 hk0 hk1 _ _).2, (fun o => (World.frozen?_setCell _ _ _ _).trans ((World.frozen?_setCell _ _ _ _).trans (hkf o))), Nat.le_refl _, spans_set HN9.out (HZ9.out) 0 1 _ _, (HB9.out.setCell (p := ⟨w2.heap.size, 0, none⟩) (Nat.le_refl _) _).setCell (p := ⟨w2.heap.size, 1, none⟩) (Nat.le_refl _) _⟩
    case rest =>
      obtain ⟨b, p', c', rfl, k0, k1, kf, HC⟩ := hcut
      have hzb : b < wc.heap.size := ciLt k0
      have hH := ptHolds (0, 65535) p' c' R wc HC.out.2.1 (by omega)
      rw [HA.out] at hH
      have hbx := HC.out.2.2
      have HGZ := hidB (fun o s => (show wc.cell? ⟨w.heap.size + 1, o, none⟩ ≠ some (.int .i64 s) by rw [hbx.cell (p := ⟨w.heap.size + 1, o, none⟩) z2]; exact GZ.out o s))
      have x0 := (hbx.cell (p := ⟨w.heap.size + 1, 0, none⟩) z2).trans g0
      have x1 := (hbx.cell (p := ⟨w.heap.size + 1, 1, none⟩) z2).trans g1
      have xf : ∀ o, wc.frozen? ⟨w.heap.size + 1, o, none⟩ = false := fun o => (hbx.frozen (p := ⟨w.heap.size + 1, o, none⟩) z2).trans (gf o)
      have hbn : w.heap.size + 1 < b := by have := HC.out.1; omega
      have HBx := hidB (HB2.out.trans (hbx.mono HB2.out.size))
      have HSx := hidB HC.out.2.1
      clear hA hB hbx HC g0 g1 gf d0 d1 BA BB H2
      generalize hm : R.length = m at *
      have HM := hidB hm
      clear hm
      have go : ∀ (r : Bool) (w5 : World), Below wc.heap.size wc w5 → w5.cell? ⟨b, 0, none⟩ = some (.bool no) ∧ w5.cell? ⟨b, 1, none⟩ = some (.slice p' m c') ∧ (∀ o, w5.frozen? ⟨b, o, none⟩ = false) ∧ w5.cell? ⟨w.heap.size + 1, 0, none⟩ = some (.bool false) ∧ w5.cell? ⟨w.heap.size + 1, 1, none⟩ = some (.slice none 0 0) ∧ (∀ o, w5.frozen? ⟨w.heap.size + 1, o, none⟩ = false) ∧ Hid (Spans w5 p' c' R ∧ Below w.heap.size w w5 ∧ ∀ o s, w5.cell? ⟨w.heap.size + 1, o, none⟩ ≠ some (.int .i64 s)) := fun r w5 hb5 => by
        have hz : w.heap.size + 1 < wc.heap.size := by omega
        exact ⟨(hb5.cell (p := ⟨b, 0, none⟩) hzb).trans k0, (hb5.cell (p := ⟨b, 1, none⟩) hzb).trans k1, fun o => (hb5.frozen (p := ⟨b, o, none⟩) hzb).trans (kf o), (hb5.cell (p := ⟨w.heap.size + 1, 0, none⟩) hz).trans x0, (hb5.cell (p := ⟨w.heap.size + 1, 1, none⟩) hz).trans x1, fun o => (hb5.frozen (p := ⟨w.heap.size + 1, o, none⟩) hz).trans (xf o), HSx.out.below hb5, HBx.out.trans (hb5.mono HBx.out.size), fun o s => by rw [hb5.cell (p := ⟨w.heap.size + 1, o, none⟩) hz]; exact HGZ.out o s⟩
      by_cases hR : R = [(0, 65535)]
      · rw [decide_eq_true hR] at hH
        rw [if_pos hR] at HF
        go_wp2_with (fail)
        refine hH.mono ?_
        rintro e w5 ⟨rfl, hb5⟩
        obtain ⟨q0, q1, qf, y0, y1, yf, HY⟩ := go true w5 hb5
        clear go k0 k1 kf x0 x1 xf hb5 hH HSx HBx HGZ hzb
        have hne : b ≠ w.heap.size + 1 := by omega
        have hy1 : (w5.setCell ⟨b, 1, none⟩ (.slice none 0 0)).cell? ⟨b, 1, none⟩ = some (.slice none 0 0) := World.cell?_setCell_same' _ ⟨b, 1, none⟩ _ (by rw [q1]; rfl)
        have hy0 : (w5.setCell ⟨b, 1, none⟩ (.slice none 0 0)).cell? ⟨b, 0, none⟩ = some (.bool no) := by rw [World.cell?_setCell_other (w := w5) (a := ⟨b, 1, none⟩) (b := ⟨b, 0, none⟩) (v := .slice none 0 0) (by simp), q0]
        have ko : ∀ o, (w5.setCell ⟨b, 1, none⟩ (.slice none 0 0)).cell? ⟨w.heap.size + 1, o, none⟩ = w5.cell? ⟨w.heap.size + 1, o, none⟩ := fun o => World.cell?_of_block (a := ⟨w.heap.size + 1, o, none⟩) (Below.heap_setCell _ ⟨b, 1, none⟩ _ (w.heap.size + 1) (Ne.symm hne))
        have yy0 := (ko 0).trans y0
        have yy1 := (ko 1).trans y1
        go_wp2_with fail
        have g := two_set10 yy0 yy1 (.bool no) (.slice none 0 0)
        refine bodyPost_ret (v := .agg #[.bool no, .slice none 0 0]) (by simp [results, Tryd.results11, go_sem, g.1, g.2]) rfl ?_
        refine ⟨none, 0, by rw [HF.out]; rfl, ?_, ((HY.out.2.1.setCell (p := ⟨b, 1, none⟩) (by show w.heap.size ≤ b; omega) _).setCell (p := ⟨w.heap.size + 1, 0, none⟩) (by show w.heap.size ≤ w.heap.size + 1; omega) _).setCell (p := ⟨w.heap.size + 1, 1, none⟩) (by show w.heap.size ≤ w.heap.size + 1; omega) _⟩
        rw [HF.out]
        exact ⟨Nat.le_refl _, .inl rfl⟩
      · rw [decide_eq_false hR] at hH
        rw [if_neg hR] at HF
        go_wp2_with (fail)
        refine hH.mono ?_
        rintro e w5 ⟨rfl, hb5⟩
        obtain ⟨q0, q1, qf, y0, y1, yf, HY⟩ := go true w5 hb5
        clear go k0 k1 kf x0 x1 xf hb5 hH HSx HBx HGZ
        go_wp2_with fail
        have g := two_set10 y0 y1 (.bool no) (.slice p' m c')
        refine bodyPost_ret (v := .agg #[.bool no, .slice p' m c']) (by simp [results, Tryd.results11, go_sem, g.1, g.2]) rfl ?_
        refine ⟨p', c', by rw [HF.out, HM.out], ?_, (HY.out.2.1.setCell (p := ⟨w.heap.size + 1, 0, none⟩) (by show w.heap.size ≤ w.heap.size + 1; omega) _).setCell (p := ⟨w.heap.size + 1, 1, none⟩) (by show w.heap.size ≤ w.heap.size + 1; omega) _⟩
        rw [HF.out]
        exact spans_set HY.out.1 HY.out.2.2 0 1 _ _
  · have hc : checkS L = false := by simpa using hc
    have HF := hidB (show cleanS L = [] by simp only [cleanS, hc, Bool.false_eq_true, if_false])
    rw [hc] at hck ⊢
    rw [Bool.false_and]
    clear h hb h1 hc
    generalize L.length = n at *
    go_enter Tryd.func11, Tryd.ntmps11
    go_wp2_with (fail)
    refine hck.mono ?_
    rintro e w2 ⟨rfl, hb2⟩
    have g0 : w2.cell? ⟨w.heap.size + 1, 0, none⟩ = some (.bool false) := (hb2.cell (p := ⟨w.heap.size + 1, 0, none⟩) (by simp)).trans (by simp)
    have g1 : w2.cell? ⟨w.heap.size + 1, 1, none⟩ = some (.slice none 0 0) := (hb2.cell (p := ⟨w.heap.size + 1, 1, none⟩) (by simp)).trans (by simp)
    have gf : ∀ o, w2.frozen? ⟨w.heap.size + 1, o, none⟩ = false := fun o => (hb2.frozen (p := ⟨w.heap.size + 1, o, none⟩) (by simp)).trans (by simp)
    have HB2 := hidB (HB.out.trans (hb2.mono HB.out.size))
    clear hck hb2 HB H1
    go_wp2_with fail
    have g := two_set10 g0 g1 (.bool false) (.slice none 0 0)
    refine bodyPost_ret (v := .agg #[.bool false, .slice none 0 0]) (by simp [results, Tryd.results11, go_sem, g.1, g.2]) rfl ?_
    refine ⟨none, 0, by rw [HF.out]; rfl, ?_, (HB2.out.setCell (p := ⟨w.heap.size + 1, 0, none⟩) (by show w.heap.size ≤ w.heap.size + 1; omega) _).setCell (p := ⟨w.heap.size + 1, 1, none⟩) (by show w.heap.size ≤ w.heap.size + 1; omega) _⟩
    rw [HF.out]
    exact ⟨Nat.le_refl _, .inl rfl⟩
end Go.Proofs.YtgiecmgopibcnaaDoor
