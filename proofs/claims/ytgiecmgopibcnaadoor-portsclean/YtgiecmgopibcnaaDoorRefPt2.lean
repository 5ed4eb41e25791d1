/- Layer 10's own answer: a span put among rising ones. -/
import Derived.Test.YtgiecmgopibcnaaDoorRefPt
import Derived.Test.YtgiecmgopibcnaaDoorPt4
import Derived.Test.YtgiecmgopibcnaaDoorTail
namespace Go.Proofs.YtgiecmgopibcnaaDoor
open Go.RowKit
set_option linter.unusedVariables false
set_option maxRecDepth 20000
structure Put10 (w x : World) (e : TypeId) (v : Value) (M : List Sp) (X : Sp) (L : List Sp) (k : Nat) (A : List Sp × Sp) : Prop where
  bel : Below w.heap.size w x
  lt : w.heap.size < x.heap.size
  c0 : x.cell? ⟨w.heap.size, 0, none⟩ = some (.int .i64 X.1)
  c1 : x.cell? ⟨w.heap.size, 1, none⟩ = some (.int .i64 X.2)
  fr : ∀ o, x.frozen? ⟨w.heap.size, o, none⟩ = false
  row : x.ownsRow (w.heap.size + 1) e 2 v M.length (M.flatMap spC)
  len : M.length ≤ k
  ok : okS X
  fst : M ++ (ahead (L.drop k) X).1 = A.1
  snd : (ahead (L.drop k) X).2 = A.2
theorem Put10.step {w x y : World} {e : TypeId} {v : Value} {M : List Sp} {X : Sp} {L : List Sp} {k : Nat} {A : List Sp × Sp} (h : Put10 w x e v M X L k A) (hb : Below x.heap.size x y) : Put10 w y e v M X L k A :=
  ⟨h.bel.trans (hb.mono h.bel.size), Nat.lt_of_lt_of_le h.lt hb.size, (hb.cell (p := ⟨w.heap.size, 0, none⟩) h.lt).trans h.c0, (hb.cell (p := ⟨w.heap.size, 1, none⟩) h.lt).trans h.c1, fun o => (hb.frozen (p := ⟨w.heap.size, o, none⟩) h.lt).trans (h.fr o), ciRow_below h.row hb, h.len, h.ok, h.fst, h.snd⟩
theorem drop_of {α : Type} {L : List α} {k : Nat} {s : α} (h : L[k]? = some s) : L.drop k = s :: L.drop (k + 1) := by
  obtain ⟨hk, e⟩ := List.getElem?_eq_some_iff.1 h
  rw [List.drop_eq_getElem_cons hk, e]
theorem Put10.more {w x y : World} {e : TypeId} {v v' : Value} {M : List Sp} {X s : Sp} {L : List Sp} {k : Nat} {A : List Sp × Sp} (h : Put10 w x e v M X L k A) (hs : L[k]? = some s) (hc : s.2 < X.1 - 1) (hg : x.grownBy y v.ownBlock)
    (hr : y.ownsRow (w.heap.size + 1) e 2 v' (M.length + 1) (M.flatMap spC ++ [.int .i64 s.1, .int .i64 s.2])) : Put10 w y e v' (M ++ [s]) X L (k + 1) A := by
  have hne : ∀ g, v.ownBlock = some g → g ≠ w.heap.size := fun g hg e => by have := (h.row.lt g hg).1; omega
  have e2 := h.fst
  have e3 := h.snd
  rw [drop_of hs, ahead, if_pos hc] at e2 e3
  refine ⟨h.bel.grown hg h.bel.size (fun q hq => Nat.le_of_succ_le (h.row.lt q hq).1), Nat.lt_of_lt_of_le h.lt hg.size, hg.cell h.c0 (fun e => hne _ e.symm rfl), hg.cell h.c1 (fun e => hne _ e.symm rfl), fun o => ?_, ?_, by rw [List.length_append]; have := h.len; simp; omega, h.ok, by rw [List.append_assoc]; exact e2, e3⟩
  · exact (World.frozen?_of_block (a := ⟨w.heap.size, o, none⟩) (hg.block w.heap.size h.lt (fun e => hne _ e.symm rfl))).trans (h.fr o)
  · rw [List.length_append, List.length_cons, List.length_nil, List.flatMap_append]
    exact hr
theorem Put10.skip {w x : World} {e : TypeId} {v : Value} {M : List Sp} {X s : Sp} {L : List Sp} {k : Nat} {A : List Sp × Sp} (h : Put10 w x e v M X L k A) (hs : L[k]? = some s) (hc : ¬ s.2 < X.1 - 1) (hd : ¬ s.1 ≤ X.2 + 1) : Put10 w x e v M X L (k + 1) A := by
  have e2 := h.fst
  have e3 := h.snd
  rw [drop_of hs, ahead, if_neg hc, if_neg hd] at e2 e3
  exact ⟨h.bel, h.lt, h.c0, h.c1, h.fr, h.row, Nat.le_succ_of_le h.len, h.ok, e2, e3⟩
theorem Put10.join {w x : World} {e : TypeId} {v : Value} {M : List Sp} {X s : Sp} {L : List Sp} {k : Nat} {A : List Sp × Sp} (h : Put10 w x e v M X L k A) (hs : L[k]? = some s) (hso : okS s) (hc : ¬ s.2 < X.1 - 1) (hd : s.1 ≤ X.2 + 1) :
    Put10 w ((x.setCell ⟨w.heap.size, 0, none⟩ (.int .i64 (min s.1 X.1))).setCell ⟨w.heap.size, 1, none⟩ (.int .i64 (max s.2 X.2))) e v M (min s.1 X.1, max s.2 X.2) L (k + 1) A := by
  have e2 := h.fst
  have e3 := h.snd
  rw [drop_of hs, ahead, if_neg hc, if_pos hd] at e2 e3
  have g := (⟨World.cell?_setCell_same' x ⟨w.heap.size, 0, none⟩ (.int .i64 (min s.1 X.1)) (by rw [h.c0]; rfl), World.cell?_setCell_same' _ ⟨w.heap.size, 1, none⟩ (.int .i64 (max s.2 X.2)) (by
    rw [World.cell?_setCell_other (w := x) (a := ⟨w.heap.size, 0, none⟩) (b := ⟨w.heap.size, 1, none⟩) (v := .int .i64 (min s.1 X.1)) (by simp), h.c1]; rfl)⟩ : _ ∧ _)
  refine ⟨(h.bel.setCell (p := ⟨w.heap.size, 0, none⟩) (Nat.le_refl _) _).setCell (p := ⟨w.heap.size, 1, none⟩) (Nat.le_refl _) _, by rw [World.size_setCell, World.size_setCell]; exact h.lt, ?_, g.2, fun o => (World.frozen?_setCell _ _ _ _).trans ((World.frozen?_setCell _ _ _ _).trans (h.fr o)), ciRow_set (ciRow_set h.row (Nat.lt_succ_self _) _ _) (Nat.lt_succ_self _) _ _, Nat.le_succ_of_le h.len, ?_, e2, e3⟩
  · rw [World.cell?_setCell_other (w := x.setCell ⟨w.heap.size, 0, none⟩ (.int .i64 (min s.1 X.1))) (a := ⟨w.heap.size, 1, none⟩) (b := ⟨w.heap.size, 0, none⟩) (v := .int .i64 (max s.2 X.2)) (by simp)]
    exact g.1
  · have := h.ok
    unfold okS at this hso ⊢
    simp only
    omega
/-- behind the span that was put -/
structure Put11 (w x : World) (e : TypeId) (v : Value) (M : List Sp) (X : Sp) : Prop where
  bel : Below w.heap.size w x
  lt : w.heap.size < x.heap.size
  c0 : x.cell? ⟨w.heap.size, 0, none⟩ = some (.int .i64 X.1)
  c1 : x.cell? ⟨w.heap.size, 1, none⟩ = some (.int .i64 X.2)
  row : x.ownsRow (w.heap.size + 1) e 2 v M.length (M.flatMap spC)
theorem Put11.step {w x y : World} {e : TypeId} {v : Value} {M : List Sp} {X : Sp} (h : Put11 w x e v M X) (hb : Below x.heap.size x y) : Put11 w y e v M X :=
  ⟨h.bel.trans (hb.mono h.bel.size), Nat.lt_of_lt_of_le h.lt hb.size, (hb.cell (p := ⟨w.heap.size, 0, none⟩) h.lt).trans h.c0, (hb.cell (p := ⟨w.heap.size, 1, none⟩) h.lt).trans h.c1, ciRow_below h.row hb⟩
theorem Put11.more {w x y : World} {e : TypeId} {v v' : Value} {M : List Sp} {X s : Sp} (h : Put11 w x e v M X) (hg : x.grownBy y v.ownBlock)
    (hr : y.ownsRow (w.heap.size + 1) e 2 v' (M.length + 1) (M.flatMap spC ++ [.int .i64 s.1, .int .i64 s.2])) : Put11 w y e v' (M ++ [s]) X := by
  have hne : ∀ g, v.ownBlock = some g → g ≠ w.heap.size := fun g hg e => by have := (h.row.lt g hg).1; omega
  refine ⟨h.bel.grown hg h.bel.size (fun q hq => Nat.le_of_succ_le (h.row.lt q hq).1), Nat.lt_of_lt_of_le h.lt hg.size, hg.cell h.c0 (fun e => hne _ e.symm rfl), hg.cell h.c1 (fun e => hne _ e.symm rfl), ?_⟩
  rw [List.length_append, List.length_cons, List.length_nil, List.flatMap_append]
  exact hr
theorem Put10.done {w x : World} {e : TypeId} {v : Value} {M : List Sp} {X : Sp} {L : List Sp} {k : Nat} {A : List Sp × Sp} (h : Put10 w x e v M X L k A) (hk : L.length ≤ k) : M = A.1 ∧ X = A.2 := by
  have e2 := h.fst
  have e3 := h.snd
  rw [List.drop_of_length_le hk] at e2 e3
  simp only [ahead, List.append_nil] at e2 e3
  exact ⟨e2, e3⟩
theorem filter_step (X : Sp) (L : List Sp) (k : Nat) (s : Sp) (h : L[k]? = some s) : (L.take (k + 1)).filter (fun s => decide (X.2 + 1 < s.1)) = (L.take k).filter (fun s => decide (X.2 + 1 < s.1)) ++ (if X.2 + 1 < s.1 then [s] else []) := by
  obtain ⟨hk, e⟩ := List.getElem?_eq_some_iff.1 h
  rw [List.take_succ_eq_append_getElem hk, e, List.filter_append]
  congr 1
  by_cases hc : X.2 + 1 < s.1 <;> simp [hc]
set_option maxHeartbeats 4000000 in
theorem rpPut (p : Option Addr) (c : Nat) (L : List Sp) (x : Sp) (w : World) (h : Spans w p c L) (hok : ∀ s ∈ L, okS s) (hxo : okS x) (h20 : L.length ≤ 20) :
    Calls Tryd.prog 24 #[.slice p L.length c, .agg (spC x).toArray] w fun e w' => ∃ p' c', e = .returned (.slice p' (putS L x).length c') ∧ Spans w' p' c' (putS L x) ∧ Below w.heap.size w w' := by
  obtain ⟨n, hn⟩ : ∃ n : Nat, n = L.length := ⟨_, rfl⟩
  rw [← hn] at h20 ⊢
  have HLn := hidB hn
  have HH := hidB h
  have HOK := hidB hok
  have hcp : n ≤ c := by have := h.1; rw [← hn] at this; exact this
  clear h hok hn
  have HP0 := hidB (show Put10 w (w.alloc (.cells (spC x).toArray 34)) 34 (.slice none 0 0) [] x L 0 (ahead L x) from
    ⟨below_more (Below.refl _ _) (Nat.le_refl _) _, by simp, by simp [spC], by simp [spC], by simp, World.ownsRow_nil _ _ _ _, Nat.le_refl _, hxo, by simp, by simp⟩)
  have HF := hidB (show putS L x = (ahead L x).1 ++ (ahead L x).2 :: L.filter (fun s => decide ((ahead L x).2.2 + 1 < s.1)) from rfl)
  generalize putS L x = R at HF ⊢
  generalize ahead L x = A at HP0 HF
  obtain ⟨x1, x2⟩ := x
  simp only [spC] at HP0 ⊢
  change Hid (Put10 w (w.alloc (.cells #[.int .i64 x1, .int .i64 x2] 34)) 34 (.slice none 0 0) [] (x1, x2) L 0 A) at HP0
  clear hxo
  go_enter Tryd.func24, Tryd.ntmps24
  go_wp2
  generalize w.alloc (.cells #[.int .i64 x1, .int .i64 x2] 34) = W0 at HP0 ⊢
  go_loopg [5, 6] n (fun g s5 s6 wr => ∃ (k : Nat) (M : List Sp) (X : Sp), k ≤ n ∧ n - k ≤ g ∧ s6 = .int .i64 (k : Int) ∧ Hid (Put10 w wr 34 s5 M X L k A))
  case atStart => exact ⟨0, [], (x1, x2), Nat.zero_le _, by omega, rfl, HP0.out⟩
  case round =>
    obtain ⟨k, M, X, hkn, hg, rfl, HP⟩ := hrel
    by_cases hlt : k < n
    · have hlz : (k : Int) < (n : Int) := by omega
      obtain ⟨s, hs⟩ : ∃ s, L[k]? = some s := ⟨_, List.getElem?_eq_getElem (by rw [← HLn.out]; exact hlt)⟩
      have hso := HOK.out s (List.mem_of_getElem? hs)
      have HSO := hidB hso
      obtain ⟨_, h2⟩ := HH.out.below HP.out.bel
      rcases h2 with h2 | ⟨b, o, rfl, h4, h5⟩
      · rw [h2] at hs; cases hs
      · obtain ⟨c0, c1⟩ := h5 k s hs
        have HX := hidB hs
        have y0 := HP.out.c0
        have y1 := HP.out.c1
        have yf := HP.out.fr
        have z1 := HP.out.lt
        have hxok := HP.out.ok
        obtain ⟨X1, X2⟩ := X
        obtain ⟨s1, s2⟩ := s
        obtain ⟨n1, n2, n3⟩ := hxok
        obtain ⟨m1, m2, m3⟩ := hso
        simp only at c0 c1 y0 y1 n1 n2 n3 m1 m2 m3
        have hcl := Cls.cell (w := wr)
        clear hs h5
        generalize hA1 : decide (s2 < X1 - 1) = r1
        go_upto_region 5 with fail
        refine wp_region_calm (by kernel_rfl) (by kernel_rfl) (fun hne => ?_)
        repeat (go_big_quiet_step (fail))
        refine wpQuiet_nil ?_
        rintro _ ⟨y, rfl⟩
        have HP1 := hidB (HP.out.step y.bel)
        have q0 := (y.bel.cell (p := ⟨b, o + k * 2, none⟩) h4).trans c0
        have q1 := (y.bel.cell (p := ⟨b, o + k * 2 + 1, none⟩) h4).trans c1
        have hb4 : b < y.val.heap.size := Nat.lt_of_lt_of_le h4 y.bel.size
        generalize y.val = w1 at HP1 q0 q1 hb4 ⊢
        clear hne hcl c0 c1 y0 y1 yf z1 HP h4
        cases r1 with
        | true =>
          have hA := of_decide_eq_true hA1
          have HA := hidB hA
          have lM := HP1.out.len
          clear hA hA1
          have hlit := lit_span w1 s1 s2
          have hal := below_more (Below.refl w1.heap.size w1) (Nat.le_refl _) (.cells #[.int .i64 s1, .int .i64 s2] 34)
          have HP2 := hidB (HP1.out.step hal)
          have hrow6 := HP2.out.row
          have hnw := alloc_news w1 [.int .i64 s1, .int .i64 s2] 34
          rw [show ([Value.int .i64 s1, .int .i64 s2]).toArray = (#[.int .i64 s1, .int .i64 s2] : Array Value) from rfl] at hnw
          obtain ⟨i0, hi, hz0, hz1, hz2⟩ := info_parts infoSp
          have r1 : M.length + 1 ≤ maxLen := by simp only [maxLen]; omega
          have r2 : (M.length + 1) * 16 ≤ 140737488355328 := by omega
          have r3 : w.heap.size + 1 ≤ (w1.alloc (.cells #[.int .i64 s1, .int .i64 s2] 34)).heap.size := HP2.out.lt
          clear hal HP1
          go_wp2_with (refine wpList_append_own2 rfl (.tmp 23) (.tmp 28) 22 rfl (w.heap.size + 1) 34 i0 _ 2 16 Tryd.underlying22 hi hz0 hz1 hz2 rfl (by decide) _ M.length _ rfl hrow6 ⟨w1.heap.size, 0, none⟩ 1 1 [.int .i64 s1, .int .i64 s2] rfl rfl hnw (by intro u hu; simp at hu; rcases hu with rfl | rfl <;> rfl) r1 r2 r3 ?_; intro v6 w6 ho6 hg6 hv6)
          go_roundg (n - (k + 1))
          case measure => omega
          case rel => exact ⟨k + 1, M ++ [(s1, s2)], (X1, X2), by omega, by omega, by go_num, hidB (HP2.out.more HX.out HA.out hg6 ho6)⟩
        | false =>
          have HA := hidB (of_decide_eq_false hA1)
          clear hA1
          have y0 := HP1.out.c0
          have y1 := HP1.out.c1
          have z1 := HP1.out.lt
          have hcl := Cls.cell (w := w1)
          generalize hA2 : decide (s1 ≤ X2 + 1) = r2
          go_upto_region 7 with fail
          refine wp_region_calm (by kernel_rfl) (by kernel_rfl) (fun hne => ?_)
          repeat (go_big_quiet_step (fail))
          refine wpQuiet_nil ?_
          rintro _ ⟨y, rfl⟩
          have HP2 := hidB (HP1.out.step y.bel)
          have p0 := (y.bel.cell (p := ⟨b, o + k * 2, none⟩) hb4).trans q0
          have p1 := (y.bel.cell (p := ⟨b, o + k * 2 + 1, none⟩) hb4).trans q1
          have hb5 : b < y.val.heap.size := Nat.lt_of_lt_of_le hb4 y.bel.size
          generalize y.val = w2 at HP2 p0 p1 hb5 ⊢
          clear hne hcl q0 q1 y0 y1 z1 HP1 hb4
          cases r2 with
          | false =>
            have HA2 := hidB (of_decide_eq_false hA2)
            clear hA2
            go_wp2
            go_roundg (n - (k + 1))
            case measure => omega
            case rel => exact ⟨k + 1, M, (X1, X2), by omega, by omega, by go_num, hidB (HP2.out.skip HX.out (by first | exact HA.out | exact Int.not_lt.2 HA.out) (by first | exact HA2.out | exact Int.not_le.2 HA2.out))⟩
          | true =>
            have HA2 := hidB (of_decide_eq_true hA2)
            clear hA2
            have y0 := HP2.out.c0
            have y1 := HP2.out.c1
            have yf := HP2.out.fr
            have z1 := HP2.out.lt
            have hcl := Cls.cell (w := w2)
            have hm1 : (if X1 < s1 then X1 else s1) = min s1 X1 := by split <;> omega
            have hm2 : (if X2 > s2 then X2 else s2) = max s2 X2 := by split <;> omega
            have HJ := fun (y : World) (hy : Below w2.heap.size w2 y) => (HP2.out.step hy).join HX.out HSO.out HA.out HA2.out
            simp only at HJ
            have HJJ := hidB HJ
            clear HJ n1 n2 n3 m1 m2 m3
            go_upto_region 8 with fail
            refine wp_region_calm_tail 17 (by kernel_rfl) (by kernel_rfl) (fun hne => ?_)
            simp only [List.take_succ_cons, List.take_zero, List.drop_succ_cons, List.drop_zero]
            repeat (go_big_quiet_step (fail))
            refine wpQuiet_nil ?_
            rintro _ ⟨y, rfl⟩
            have HP3 := hidB (HJJ.out y.val y.bel)
            have y0 := (HP2.out.step y.bel).c0
            have y1 := (HP2.out.step y.bel).c1
            have yf := (HP2.out.step y.bel).fr
            generalize y.val = w3 at HP3 y0 y1 yf ⊢
            clear hne hcl p0 p1 HP2 hb5 HJJ hm1 hm2
            go_wp2
            go_roundg (n - (k + 1))
            case measure => omega
            case rel => exact ⟨k + 1, M, (min s1 X1, max s2 X2), by omega, by omega, by go_num, HP3⟩
    · have hlz : ¬ (k : Int) < (n : Int) := by omega
      have hd := HP.out.done (by rw [← HLn.out]; omega)
      have HQ := hidB (show Put11 w wr 34 _ M X from ⟨HP.out.bel, HP.out.lt, HP.out.c0, HP.out.c1, HP.out.row⟩)
      have lM := HP.out.len
      have hXok := HP.out.ok
      have y0 := HQ.out.c0
      have y1 := HQ.out.c1
      obtain ⟨hd1, hd2⟩ := hd
      have HF2 := hidB (show R = (M ++ [X]) ++ L.filter (fun s => decide (X.2 + 1 < s.1)) by rw [HF.out, ← hd1, ← hd2, List.append_assoc]; rfl)
      have lM4 : M.length ≤ 20 := by omega
      obtain ⟨X1, X2⟩ := X
      obtain ⟨n1, n2, n3⟩ := hXok
      simp only at y0 y1 n1 n2 n3
      clear hd1 hd2 HF HP HP0 lM
      have hlit := lit_span wr X1 X2
      have hal := below_more (Below.refl wr.heap.size wr) (Nat.le_refl _) (.cells #[.int .i64 X1, .int .i64 X2] 34)
      have HQ2 := hidB (HQ.out.step hal)
      have hrow6 := HQ2.out.row
      have hnw := alloc_news wr [.int .i64 X1, .int .i64 X2] 34
      rw [show ([Value.int .i64 X1, .int .i64 X2]).toArray = (#[.int .i64 X1, .int .i64 X2] : Array Value) from rfl] at hnw
      obtain ⟨i0, hi, hz0, hz1, hz2⟩ := info_parts infoSp
      have r1 : M.length + 1 ≤ maxLen := by simp only [maxLen]; omega
      have r2 : (M.length + 1) * 16 ≤ 140737488355328 := by omega
      have r3 : w.heap.size + 1 ≤ (wr.alloc (.cells #[.int .i64 X1, .int .i64 X2] 34)).heap.size := HQ2.out.lt
      clear hal HQ
      go_wp2_with (refine wpList_append_own2 rfl (.tmp 56) (.tmp 58) 22 rfl (w.heap.size + 1) 34 i0 _ 2 16 Tryd.underlying22 hi hz0 hz1 hz2 rfl (by decide) _ (M.length) _ rfl hrow6 ⟨wr.heap.size, 0, none⟩ 1 1 [.int .i64 X1, .int .i64 X2] rfl rfl hnw (by intro u hu; simp at hu; rcases hu with rfl | rfl <;> rfl) r1 r2 r3 ?_; intro v6 w6 ho6 hg6 hv6)
      have HQ3 := hidB (HQ2.out.more (s := (X1, X2)) hg6 ho6)
      have lM5 : (M ++ [(X1, X2)]).length ≤ 21 := by simp; omega
      generalize M ++ [(X1, X2)] = N at HQ3 HF2 lM5
      clear hrow6 hnw hi hz0 hz1 hz2 r1 r2 r3 ho6 hg6 hv6 hlit y0 y1 HQ2 lM4
      go_loopg [5, 7] n (fun g s5 s7 wq => ∃ (k : Nat) (M2 : List Sp), k ≤ n ∧ n - k ≤ g ∧ s7 = .int .i64 (k : Int) ∧ Hid (Put11 w wq 34 s5 M2 (X1, X2) ∧ M2 = N ++ (L.take k).filter (fun s => decide (X2 + 1 < s.1)) ∧ M2.length ≤ 21 + k))
      case atStart => exact ⟨0, N, Nat.zero_le _, by omega, rfl, HQ3.out, by simp, by omega⟩
      case round =>
        obtain ⟨k, M2, hkn, hg, rfl, HP⟩ := hrel
        by_cases hlt : k < n
        · have hlz : (k : Int) < (n : Int) := by omega
          obtain ⟨s, hs⟩ : ∃ s, L[k]? = some s := ⟨_, List.getElem?_eq_getElem (by rw [← HLn.out]; exact hlt)⟩
          obtain ⟨_, h2⟩ := HH.out.below HP.out.1.bel
          rcases h2 with h2 | ⟨b, o, rfl, h4, h5⟩
          · rw [h2] at hs; cases hs
          · obtain ⟨c0, c1⟩ := h5 k s hs
            have HST := hidB (filter_step (X1, X2) L k s hs)
            have y0 := HP.out.1.c0
            have y1 := HP.out.1.c1
            have z1 := HP.out.1.lt
            obtain ⟨s1, s2⟩ := s
            simp only at c0 c1 HST
            have hcl := Cls.cell (w := wr)
            clear hs h5
            generalize hA1 : decide (X2 + 1 < s1) = r1
            go_upto_region 13 with fail
            refine wp_region_calm (by kernel_rfl) (by kernel_rfl) (fun hne => ?_)
            repeat (go_big_quiet_step (fail))
            refine wpQuiet_nil ?_
            rintro _ ⟨y, rfl⟩
            have HP1 := hidB (HP.out.1.step y.bel)
            have HM2 := hidB HP.out.2
            have q0 := (y.bel.cell (p := ⟨b, o + k * 2, none⟩) h4).trans c0
            have q1 := (y.bel.cell (p := ⟨b, o + k * 2 + 1, none⟩) h4).trans c1
            have hb4 : b < y.val.heap.size := Nat.lt_of_lt_of_le h4 y.bel.size
            generalize y.val = w1 at HP1 q0 q1 hb4 ⊢
            clear hne hcl c0 c1 y0 y1 z1 HP h4
            cases r1 with
            | true =>
              have HA := hidB (of_decide_eq_true hA1)
              have lM := HM2.out.2
              clear hA1
              have hlit := lit_span w1 s1 s2
              have hal := below_more (Below.refl w1.heap.size w1) (Nat.le_refl _) (.cells #[.int .i64 s1, .int .i64 s2] 34)
              have HQ2 := hidB (HP1.out.step hal)
              have hrow6 := HQ2.out.row
              have hnw := alloc_news w1 [.int .i64 s1, .int .i64 s2] 34
              rw [show ([Value.int .i64 s1, .int .i64 s2]).toArray = (#[.int .i64 s1, .int .i64 s2] : Array Value) from rfl] at hnw
              obtain ⟨i0, hi, hz0, hz1, hz2⟩ := info_parts infoSp
              have r1 : M2.length + 1 ≤ maxLen := by simp only [maxLen]; omega
              have r2 : (M2.length + 1) * 16 ≤ 140737488355328 := by omega
              have r3 : w.heap.size + 1 ≤ (w1.alloc (.cells #[.int .i64 s1, .int .i64 s2] 34)).heap.size := HQ2.out.lt
              clear hal HP1
              go_wp2_with (refine wpList_append_own2 rfl (.tmp 75) (.tmp 80) 22 rfl (w.heap.size + 1) 34 i0 _ 2 16 Tryd.underlying22 hi hz0 hz1 hz2 rfl (by decide) _ (M2.length) _ rfl hrow6 ⟨w1.heap.size, 0, none⟩ 1 1 [.int .i64 s1, .int .i64 s2] rfl rfl hnw (by intro u hu; simp at hu; rcases hu with rfl | rfl <;> rfl) r1 r2 r3 ?_; intro v6 w6 ho6 hg6 hv6)
              go_roundg (n - (k + 1))
              case measure => omega
              case rel => exact ⟨k + 1, M2 ++ [(s1, s2)], by omega, by omega, by go_num, HQ2.out.more (s := (s1, s2)) hg6 ho6, by rw [HST.out, if_pos HA.out, HM2.out.1, List.append_assoc], by rw [List.length_append]; simp; omega⟩
            | false =>
              have HA := hidB (of_decide_eq_false hA1)
              clear hA1
              go_wp2
              go_roundg (n - (k + 1))
              case measure => omega
              case rel => exact ⟨k + 1, M2, by omega, by omega, by go_num, HP1.out, by rw [HST.out, if_neg (by first | exact HA.out | exact Int.not_lt.2 HA.out), HM2.out.1]; simp, by have := HM2.out.2; omega⟩
        · have hlz : ¬ (k : Int) < (n : Int) := by omega
          obtain ⟨h1, h2, h3⟩ := HP.out
          rw [List.take_of_length_le (by rw [← HLn.out]; omega)] at h2
          have hR : R = M2 := by rw [HF2.out, h2]
          subst hR
          obtain ⟨p', c', rfl, hsp⟩ := row_spans h1.row
          have HZ := hidB (And.intro hsp h1.bel)
          clear h1 h2 h3 hsp HP
          go_wp2
          go_ret
          exact ⟨p', c', rfl, HZ.out⟩
end Go.Proofs.YtgiecmgopibcnaaDoor
