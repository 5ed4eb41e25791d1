/- Layer 10's laws: a set in new memory; awake. -/
import Derived.Test.YtgiecmgopibcnaaDoorRefPt4
import Derived.Test.YtgiecmgopibcnaaDoorSpine2
namespace Go.Proofs.YtgiecmgopibcnaaDoor
open Go.RowKit
set_option linter.unusedVariables false
set_option maxRecDepth 20000
theorem Spans.cell {w : World} {b o c : Nat} {L : List Sp} (h : Spans w (some ⟨b, o, none⟩) c L) {j : Nat} {n : Sp} (hj : L[j]? = some n) :
    b < w.heap.size ∧ w.cell? ⟨b, o + j * 2, none⟩ = some (.int .i64 n.1) ∧ w.cell? ⟨b, o + j * 2 + 1, none⟩ = some (.int .i64 n.2) := by
  obtain ⟨_, h2⟩ := h
  rcases h2 with h2 | ⟨b', o', h3, h4, h5⟩
  · subst h2; cases hj
  · simp only [Option.some.injEq, Addr.mk.injEq] at h3
    obtain ⟨rfl, rfl, _⟩ := h3
    exact ⟨h4, h5 j n hj⟩
theorem flatS_at (L : List Sp) (q : Nat) (u : Value) (h : (L.flatMap spC)[q]? = some u) : ∃ n, L[q / 2]? = some n ∧ ((q % 2 = 0 ∧ u = .int .i64 n.1) ∨ (q % 2 = 1 ∧ u = .int .i64 n.2)) := by
  induction L generalizing q with
  | nil => cases h
  | cons x L ih =>
    match q, h with
    | 0, h => cases h; exact ⟨x, rfl, .inl ⟨rfl, rfl⟩⟩
    | 1, h => cases h; exact ⟨x, rfl, .inr ⟨rfl, rfl⟩⟩
    | q + 2, h =>
      obtain ⟨n, h1, h2⟩ := ih q h
      refine ⟨n, by rw [show (q + 2) / 2 = q / 2 + 1 by omega]; exact h1, ?_⟩
      rw [show (q + 2) % 2 = q % 2 by omega]
      exact h2
theorem spans_cells {w : World} {b o c : Nat} {L : List Sp} (h : Spans w (some ⟨b, o, none⟩) c L) (q : Nat) (u : Value) (hq : (L.flatMap spC)[q]? = some u) : w.cell? ((⟨b, o, none⟩ : Addr).add q) = some u := by
  obtain ⟨n, h1, h2⟩ := flatS_at L q u hq
  obtain ⟨_, c0, c1⟩ := h.cell h1
  have e : (⟨b, o, none⟩ : Addr).add q = ⟨b, o + q, none⟩ := by
    unfold Addr.add
    split
    · subst q; rfl
    · rfl
  rw [e]
  rcases h2 with ⟨g, rfl⟩ | ⟨g, rfl⟩
  · rw [show o + q = o + q / 2 * 2 by omega]; exact c0
  · rw [show o + q = o + q / 2 * 2 + 1 by omega]; exact c1
theorem two_set11 {x : World} {B : Nat} {a b : Value} (h0 : x.cell? ⟨B, 0, none⟩ = some a) (h1 : x.cell? ⟨B, 1, none⟩ = some b) (u v : Value) :
    (x.setCell ⟨B, 0, none⟩ u).cell? ⟨B, 0, none⟩ = some u ∧ ((x.setCell ⟨B, 0, none⟩ u).setCell ⟨B, 1, none⟩ v).cell? ⟨B, 1, none⟩ = some v := by
  refine ⟨World.cell?_setCell_same' x ⟨B, 0, none⟩ u (by rw [h0]; rfl), World.cell?_setCell_same' _ ⟨B, 1, none⟩ v ?_⟩
  rw [World.cell?_setCell_other (w := x) (a := ⟨B, 0, none⟩) (b := ⟨B, 1, none⟩) (v := u) (by simp), h1]
  rfl
theorem copyS_append (w : World) (p : Option Addr) (c : Nat) (L : List Sp) (h : Spans w p c L) (h20 : L.length ≤ 20) :
    ∃ v' w', (Builtin.append_ #[22, 22] 22 #[.slice none 0 0, .slice p L.length c]).run Tryd.prog w = .ok v' w' ∧ Below w.heap.size w w' ∧ ∃ p' c', v' = .slice p' L.length c' ∧ ∀ x : World, (∀ g, w.heap.size ≤ g → x.heap[g]? = w'.heap[g]?) → Spans x p' c' L := by
  obtain ⟨i0, hi, hz0, hz1, hz2⟩ := info_parts infoSp
  have ht := Tryd.underlying22
  rcases h.2 with hL | ⟨b, o, rfl, hb, hc⟩
  · subst hL
    refine ⟨.slice none 0 0, w, ?_, Below.refl _ _, none, 0, rfl, fun x _ => ⟨Nat.le_refl _, .inl rfl⟩⟩
    cases p <;> simp [Builtin.append_, run_underlying ht, sizeOf, typeInfo, hi, Builtin.lenOf, Builtin.firstCells, loadCells, loadCellsFrom]
  · obtain ⟨v', w', hr, ho, hg, hv⟩ := run_append_own2 (P := Tryd.prog) w w.heap.size 22 22 34 i0 _ 2 16 ht hi hz0 hz1 hz2 rfl (by decide) (.slice none 0 0) 0 [] (World.ownsRow_nil _ _ _ _) ⟨b, o, none⟩ L.length c (L.flatMap spC)
      (by have : ∀ M : List Sp, (M.flatMap spC).length = M.length * 2 := by
            intro M
            induction M with
            | nil => rfl
            | cons x M ih => rw [List.flatMap_cons, List.length_append, ih]; simp [spC]; omega
          exact this L) (spans_cells h) (spC_one L) (by simp only [maxLen]; omega) (by omega) (Nat.le_refl _)
    rw [Nat.zero_add, List.nil_append] at ho
    obtain ⟨p', c', hv', _⟩ := row_spans ho
    refine ⟨v', w', hr, (Below.refl _ w).grown hg (Nat.le_refl _) (fun k e => by cases e), p', c', hv', fun x hx => ?_⟩
    obtain ⟨p2, c2, hv2, hN2⟩ := row_spans (ciRow_block ho (fun g hg => hx g (ho.lt g hg).1))
    rw [hv'] at hv2
    cases hv2
    exact hN2
set_option maxHeartbeats 1000000 in
theorem ptCopy (no : Bool) (p : Option Addr) (c : Nat) (L : List Sp) (w : World) (h : Spans w p c L) (h20 : L.length ≤ 20) :
    Calls Tryd.prog 12 #[.agg (ptC no p L.length c)] w fun e w' => ∃ p' c', e = .returned (.agg (ptC no p' L.length c')) ∧ Spans w' p' c' L ∧ Below w.heap.size w w' := by
  have hb := below_more (below_more (Below.refl w.heap.size w) (Nat.le_refl _) (.cells (ptC no p L.length c) 24)) (Nat.le_refl _) (.cells #[.bool false, .slice none 0 0] 24)
  have h1 := hidB (h.below hb)
  have HB := hidB hb
  go_enter Tryd.func12, Tryd.ntmps12
  go_upto_region 1 with fail
  generalize hW0 : (w.alloc (.cells (ptC no p L.length c) 24)).alloc (.cells #[.bool false, .slice none 0 0] 24) = W0 at h1 HB ⊢
  have z1 : w.heap.size + 1 < W0.heap.size := by rw [← hW0]; simp
  have e0 : W0.cell? ⟨w.heap.size, 0, none⟩ = some (.bool no) := by rw [← hW0]; simp
  have e1 : W0.cell? ⟨w.heap.size, 1, none⟩ = some (.slice p L.length c) := by rw [← hW0]; simp
  have e2 : W0.cell? ⟨w.heap.size + 1, 0, none⟩ = some (.bool false) := by rw [← hW0]; simp
  have e3 : W0.cell? ⟨w.heap.size + 1, 1, none⟩ = some (.slice none 0 0) := by rw [← hW0]; simp
  have f2 : ∀ o, W0.frozen? ⟨w.heap.size + 1, o, none⟩ = false := by rw [← hW0]; simp
  clear hW0 hb h
  have hz0 : w.heap.size < W0.heap.size := by omega
  refine wp_region_spineM [true, true, true, true] [false, false, false, false, true] 5 (A := ?A) (fun x => Below W0.heap.size W0 x) (by kernel_rfl) (by kernel_rfl) (by rfl) (Below.refl W0.heap.size W0).drew ?walk ?tail
  case walk =>
    intro y hy
    have y0 := (hy.cell (p := ⟨w.heap.size, 0, none⟩) hz0).trans e0
    have y1 := (hy.cell (p := ⟨w.heap.size, 1, none⟩) hz0).trans e1
    clear hy
    simp only [pickM]
    repeat (go_big_quiet_step (fail))
    refine wpQuiet_nil ?_
    rfl
  case tail =>
    simp only [pickM]
    have hd0 := (Below.refl W0.heap.size W0).drew
    obtain ⟨v', w5, hr, hb5, p', c', hv, hN⟩ := copyS_append W0.drew p c L (h1.out.below hd0) h20
    subst hv
    refine goD_lit rfl (.slice p' L.length c') w5 (by simp [execOp, resolve, invoke, builtin, Act.eval, hr]) ?_
    have hb6 := hd0.trans (hb5.mono hd0.size)
    refine ⟨hb6, ?_⟩
    have g2 := (hb6.cell (p := ⟨w.heap.size + 1, 0, none⟩) z1).trans e2
    have g3 := (hb6.cell (p := ⟨w.heap.size + 1, 1, none⟩) z1).trans e3
    have k2 : ∀ o, w5.frozen? ⟨w.heap.size + 1, o, none⟩ = false := fun o => (hb6.frozen (p := ⟨w.heap.size + 1, o, none⟩) z1).trans (f2 o)
    have HE : Hid (∀ u1 u2, Spans ((w5.setCell ⟨w.heap.size + 1, 0, none⟩ u1).setCell ⟨w.heap.size + 1, 1, none⟩ u2) p' c' L ∧ Below w.heap.size w ((w5.setCell ⟨w.heap.size + 1, 0, none⟩ u1).setCell ⟨w.heap.size + 1, 1, none⟩ u2)) := by
      intro u1 u2
      have hz6 : W0.drew.heap.size = W0.heap.size := rfl
      refine ⟨hN _ (fun g hg => ?_), ((HB.out.trans (hb6.mono HB.out.size)).setCell (p := ⟨w.heap.size + 1, 0, none⟩) (by show w.heap.size ≤ w.heap.size + 1; omega) u1).setCell (p := ⟨w.heap.size + 1, 1, none⟩) (by show w.heap.size ≤ w.heap.size + 1; omega) u2⟩
      rw [Below.heap_setCell _ _ _ g (by show g ≠ w.heap.size + 1; omega), Below.heap_setCell _ _ _ g (by show g ≠ w.heap.size + 1; omega)]
    clear hr hb5 hb6 hN e0 e1 e2 e3 f2 hd0
    unfold goD
    simp only [List.drop_succ_cons, List.drop_zero, Act.put]
    go_wp2_with fail
    (try simp only [Exit.inBlock, Exit.then])
    have g0 := two_set11 g2 g3 (.bool no) (.slice p' L.length c')
    refine bodyPost_ret (v := .agg #[.bool no, .slice p' L.length c']) (by simp [results, Tryd.results12, go_sem, g0.1, g0.2]) rfl ?_
    obtain ⟨a1, a2⟩ := HE.out (.bool no) (.slice p' L.length c')
    exact ⟨p', c', rfl, a1, a2⟩
end Go.Proofs.YtgiecmgopibcnaaDoor
