/- PortsClean: for any numbers as spans, with Not or without, and any that are asked: clean has the same ports, rising, and is itself clean; no condition. -/
import Derived.Test.YtgiecmgopibcnaaDoorLiftTab10
import Derived.Test.YtgiecmgopibcnaaDoorLiftPt
import Derived.Test.YtgiecmgopibcnaaDoorPtAwake
import Derived.Test.YtgiecmgopibcnaaDoorMix2
import Derived.Test.YtgiecmgopibcnaaDoorLeafs
import Derived.Test.YtgiecmgopibcnaaDoorTie
import Derived.Test.YtgiecmgopibcnaaDoorCards
import Derived.LaidMore
import Derived.Lay
import Derived.Deep.CutBlock
import Derived.Deep.CutRange
import Derived.Deep.DeepCutAuto
import Derived.SevenTiedAt
import Derived.Stop.Joined
namespace Go.Proofs.YtgiecmgopibcnaaDoor.portsClean
open Go.ChangeShapes Go.WideShapes Go.ChangeAt Go.RowKit
set_option linter.unusedVariables false
set_option maxRecDepth 20000
/-- a slice of ints that came in -/
def IsRow (k : IntKind) (w : World) (a : Option Addr) (len cap : Nat) (zs : List Int) : Prop :=
  (a = none ∧ len = 0 ∧ cap = 0 ∧ zs = []) ∨
  ∃ x, a = some x ∧ len ≤ cap ∧ cap ≤ maxLen ∧ zs.length = cap ∧ (∀ i, i < zs.length → w.cell? (x.add i) = some (.int k (zs.getD i 0))) ∧ ∀ n ∈ zs, (Lit.int k n).wf = true
theorem IsRow.at {w : World} {a : Option Addr} {len cap : Nat} {zs : List Int} (h : IsRow .i64 w a len cap zs) : len ≤ 9223372036854775807 ∧ ∀ j, j < len → ∃ x : Addr, a = some x ∧ w.cell? (x.add j) = some (.int .i64 (zs.getD j 0)) := by
  rcases h with ⟨_, rfl, _⟩ | ⟨x, rfl, h1, h2, h3, h4, _⟩
  · exact ⟨by omega, fun j hj => absurd hj (Nat.not_lt_zero _)⟩
  · exact ⟨by unfold maxLen at h2; omega, fun j hj => ⟨x, rfl, h4 j (by omega)⟩⟩
theorem cell_lt {w : World} {p : Addr} {v : Value} (h : w.cell? p = some v) : p.block < w.heap.size := by
  by_cases hl : p.block < w.heap.size
  · exact hl
  · have : w.heap[p.block]? = none := Array.getElem?_eq_none (by omega)
    simp [World.cell?, this] at h
theorem raw_ne {L : List Sp} (h : ∀ s ∈ L, okS s) (hL : L ≠ []) : rawS L ≠ [] := by
  intro e
  obtain ⟨s, L', rfl⟩ := List.exists_cons_of_ne_nil hL
  have hs := h s (List.mem_cons_self ..)
  have := (rawS_spec (s :: L') [] trivial (by simp) h).2.2.1 s.1
  rw [show List.foldl putS [] (s :: L') = [] from e] at this
  rw [List.any_cons, (inS_iff s.1 s).2 ⟨Int.le_refl _, hs.2.1⟩] at this
  simp at this
theorem clean_same {L : List Sp} (hc : checkS L = true) : checkS (cleanS L) = true ∧ cleanS (cleanS L) = cleanS L := by
  have hok := checkS_ok hc
  have h4 := checkS_len hc
  unfold cleanS
  rw [if_pos hc]
  by_cases e : rawS L = [(0, 65535)]
  · rw [if_pos e]
    exact ⟨by decide, by decide⟩
  · rw [if_neg e]
    have hcr : checkS (rawS L) = true := checkS_of (Nat.le_trans (rawS_len hok) h4) (rawS_ok hok)
    refine ⟨hcr, ?_⟩
    rw [if_pos hcr, nf_raw (rawS_nf hok) (rawS_ok hok), if_neg e]
theorem clean_nf {L : List Sp} (hc : checkS L = true) : Nf (cleanS L) := by
  unfold cleanS
  rw [if_pos hc]
  split
  · trivial
  · exact rawS_nf (checkS_ok hc)
theorem clean_has {L : List Sp} (hc : checkS L = true) (no : Bool) (n : Int) : hasS no (cleanS L) n = hasS no L n := by
  have hok := checkS_ok hc
  unfold hasS
  rw [(clean_same hc).1, hc, Bool.true_and]
  cases hn : inS n (0, 65535)
  · rfl
  · rw [Bool.true_and, Bool.true_and]
    congr 1
    have ha := (rawS_spec L [] trivial (by simp) hok).2.2.1 n
    rw [List.any_nil, Bool.false_or] at ha
    change (rawS L).any (inS n) = _ at ha
    by_cases hL : L = []
    · subst hL; rfl
    · unfold cleanS
      rw [if_pos hc, show L.isEmpty = false by cases L <;> simp_all, Bool.or_false]
      by_cases e : rawS L = [(0, 65535)]
      · rw [if_pos e, ← ha, e]
        simp [hn]
      · rw [if_neg e, ha, show (rawS L).isEmpty = false by have := raw_ne hok hL; cases h : rawS L <;> simp_all, Bool.or_false]
theorem has_mem {L : List Sp} (hc : checkS L = true) (no : Bool) {s : Sp} (hs : s ∈ L) {n : Int} (h1 : s.1 ≤ n) (h2 : n ≤ s.2) : hasS no L n = !no := by
  have hok := checkS_ok hc s hs
  unfold okS at hok
  unfold hasS
  rw [hc, (inS_iff n (0, 65535)).2 ⟨by show (0 : Int) ≤ n; omega, by show n ≤ 65535; omega⟩, List.any_eq_true.2 ⟨s, hs, (inS_iff n s).2 ⟨h1, h2⟩⟩]
  cases no <;> rfl
theorem nf_next : ∀ {R : List Sp} (_ : Nf R) (i : Nat) (s t : Sp), R[i]? = some s → R[i + 1]? = some t → s.2 + 1 < t.1
  | [], _, i, s, t, h, _ => by cases h
  | r :: R, hR, 0, s, t, h, h' => by
    cases h
    have ht : R[0]? = some t := by simpa using h'
    exact hR.2.1 t (List.mem_of_getElem? ht)
  | r :: R, hR, i + 1, s, t, h, h' => nf_next hR.2.2 i s t (by simpa using h) (by simpa using h')
/-- the spans so far -/
structure Cl (w x : World) (e : TypeId) (no : Bool) (v : Value) (L : List Sp) : Prop where
  bel : Below w.heap.size w x
  lt : w.heap.size < x.heap.size
  c0 : x.cell? ⟨w.heap.size, 0, none⟩ = some (.bool no)
  c1 : x.cell? ⟨w.heap.size, 1, none⟩ = some v
  fr : ∀ o, x.frozen? ⟨w.heap.size, o, none⟩ = false
  row : x.ownsRow (w.heap.size + 1) e 2 v L.length (L.flatMap spC)
  ok : ∀ s ∈ L, okS s
theorem Cl.step {w x y : World} {e : TypeId} {no : Bool} {v : Value} {L : List Sp} (h : Cl w x e no v L) (hb : Below x.heap.size x y) : Cl w y e no v L :=
  ⟨h.bel.trans (hb.mono h.bel.size), Nat.lt_of_lt_of_le h.lt hb.size, (hb.cell (p := ⟨w.heap.size, 0, none⟩) h.lt).trans h.c0, (hb.cell (p := ⟨w.heap.size, 1, none⟩) h.lt).trans h.c1, fun o => (hb.frozen (p := ⟨w.heap.size, o, none⟩) h.lt).trans (h.fr o), ciRow_below h.row hb, h.ok⟩
theorem Cl.more {w x y : World} {e : TypeId} {no : Bool} {v : Value} {p : Option Addr} {m c : Nat} {L : List Sp} {s : Sp} (h : Cl w x e no v L) (hs : okS s) (hg : x.grownBy y v.ownBlock)
    (hr : y.ownsRow (w.heap.size + 1) e 2 (.slice p m c) (L.length + 1) (L.flatMap spC ++ [.int .i64 s.1, .int .i64 s.2])) :
    Cl w (y.setCell ⟨w.heap.size, 1, none⟩ (.slice p m c)) e no (.slice p m c) (L ++ [s]) ∧ y.cell? ⟨w.heap.size, 1, none⟩ = some v ∧ ∀ o, y.frozen? ⟨w.heap.size, o, none⟩ = false := by
  have hne : ∀ g, v.ownBlock = some g → g ≠ w.heap.size := fun g hg e => by have := (h.row.lt g hg).1; omega
  have y0 := hg.cell h.c0 (fun e => hne _ e.symm rfl)
  have y1 := hg.cell h.c1 (fun e => hne _ e.symm rfl)
  have yf : ∀ o, y.frozen? ⟨w.heap.size, o, none⟩ = false := fun o => (World.frozen?_of_block (a := ⟨w.heap.size, o, none⟩) (hg.block w.heap.size h.lt (fun e => hne _ e.symm rfl))).trans (h.fr o)
  refine ⟨⟨(h.bel.grown hg h.bel.size (fun q hq => Nat.le_of_succ_le (h.row.lt q hq).1)).setCell (p := ⟨w.heap.size, 1, none⟩) (Nat.le_refl _) _, by rw [World.size_setCell]; exact Nat.lt_of_lt_of_le h.lt hg.size, ?_, World.cell?_setCell_same' y ⟨w.heap.size, 1, none⟩ _ (by rw [y1]; rfl), fun o => (World.frozen?_setCell _ _ _ _).trans (yf o), ?_, fun t ht => ?_⟩, y1, yf⟩
  · rw [World.cell?_setCell_other (w := y) (a := ⟨w.heap.size, 1, none⟩) (b := ⟨w.heap.size, 0, none⟩) (v := .slice p m c) (by simp)]
    exact y0
  · rw [List.length_append, List.length_cons, List.length_nil, List.flatMap_append]
    exact ciRow_set hr (Nat.lt_succ_self _) _ _
  · rcases List.mem_append.1 ht with ht | ht
    · exact h.ok t ht
    · rw [List.mem_singleton] at ht; subst ht; exact hs
theorem fa0 (B : Nat) (w : World) : (Instr.fieldAt 24 (.pointer (some ⟨B, 0, none⟩)) 0).run Tryd.prog w = .ok (.pointer (some ⟨B, 0, none⟩)) w := by
  kernel_rfl
theorem ld0 (B : Nat) (b : Bool) (w : World) (h : w.cell? ⟨B, 0, none⟩ = some (.bool b)) : (Instr.loadAt 4 (.pointer (some ⟨B, 0, none⟩))).run Tryd.prog w = .ok (.bool b) w := by
  have u := Tryd.underlying4
  have g := Tryd.isAgg4
  have z := Tryd.sizeOf4
  go_simp
theorem mixw_neqb {P : Program} {ops : Array Oper} {D : World → Prop} {T : Act → World → Prop} {l : List (Bool × Oper)} {a : Act} {w : World} {o : Oper} (t : TypeId) (x y : Operand) (ty : TypeId) (ho : o.op = .binOp .neq t x y ty) (ht : P.underlying t = some .bool) (hw : Region.wanted o (yielded ops a.tmps) = true) (b : Bool) (hx : a.eval x = .bool b) (hy : a.eval y = .bool b)
    (h : mixF P ops D T l (a.put o.dst (.bool false)) w) : mixF P ops D T ((true, o) :: l) a w :=
  mixw_pure hw _ (fun z _ => by
    unfold execOp
    rw [ho]
    simp only [hx, hy]
    have h := run_neq_bool (P := P) z t b b ht
    simp [eqGuard, h]) h
set_option maxHeartbeats 8000000 in
theorem walk (a0 : Option Addr) (len0 cap0 : Nat) (z0 : List Int) (no : Bool) (a2 : Option Addr) (len2 cap2 : Nat) (z2 : List Int) (w : World) (hT : Tb w) (r0 : IsRow .i64 w a0 len0 cap0 z0) (r2 : IsRow .i64 w a2 len2 cap2 z2) :
    Calls Tryd.prog 4 #[.slice a0 len0 cap0, .bool no, .slice a2 len2 cap2] w fun e w' => e = .returned (.bool true) ∧ Below w.heap.size w w' := by
  obtain ⟨hl0, hr0⟩ := r0.at
  obtain ⟨hl2, hr2⟩ := r2.at
  have hl0i : (len0 : Int) ≤ 9223372036854775807 := by omega
  have hl2i : (len2 : Int) ≤ 9223372036854775807 := by omega
  have HR0 := hidB hr0
  have HR2 := hidB hr2
  have HT := hidB hT
  have HC0 := hidB (show Cl w (w.alloc (.cells #[.bool no, .slice none 0 0] 24)) 34 no (.slice none 0 0) [] from
    ⟨below_more (Below.refl _ _) (Nat.le_refl _) _, by simp, by simp, by simp, by simp, World.ownsRow_nil _ _ _ _, by simp⟩)
  clear r0 r2 hr0 hr2 hT
  go_enter Tryd.func4, Tryd.ntmps4
  go_upto_block 0 with (fail)
  generalize w.alloc (.cells #[.bool no, .slice none 0 0] 24) = W0 at HC0 ⊢
  go_cut [] from 8 to 52 (fun wx => ∃ (p : Option Addr) (c : Nat) (L : List Sp), L.length ≤ 4 ∧ Hid (Cl w wx 34 no (.slice p L.length c) L))
  case first =>
    go_wp2_with (fail)
    go_loopg [8, 9] 4 (fun g s8 s9 wr => ∃ (i : Nat) (p : Option Addr) (c : Nat) (L : List Sp), i = 2 * L.length ∧ 4 - L.length ≤ g ∧ s8 = .int .i64 (i : Int) ∧ L.length ≤ 4 ∧ Hid (Cl w wr 34 no (.slice p L.length c) L))
    case atStart => exact ⟨0, none, 0, [], rfl, by simp, rfl, by simp, HC0.out⟩
    case round =>
      obtain ⟨i, p, c, L, hi, hg, rfl, hL4, HC⟩ := hrel
      obtain ⟨m, hm⟩ : ∃ m : Nat, L.length = m := ⟨_, rfl⟩
      have y1 := HC.out.c1
      rw [hm] at y1 hi hg hL4
      have HM := hidB hm
      clear hm
      have hi8 : i ≤ 8 := by omega
      have HI := hidB hi
      by_cases hlt : i + 1 < len0 ∧ m < 4
      · obtain ⟨h1, h2⟩ := hlt
        have hlz : (i : Int) + 1 < (len0 : Int) := by omega
        have hmz : (m : Int) < 4 := by omega
        obtain ⟨xa, rfl, hx1⟩ := HR0.out i (by omega)
        obtain ⟨xb, hxe, hx2⟩ := HR0.out (i + 1) h1
        cases hxe
        have c1 := (HC.out.bel.cell (cell_lt hx1)).trans hx1
        have c2 := (HC.out.bel.cell (cell_lt hx2)).trans hx2
        have p1 := place_any (z0.getD i 0) 65536 wr (by omega) (by omega)
        have p2 := fun (W : World) => (place_any (z0.getD (i + 1) 0) 30 W (by omega) (by omega)).mono (fun _ w' (h : _ ∧ W = w') => (⟨h.1, h.2.symm⟩ : _ ∧ w' = W))
        generalize z0.getD i 0 = g1 at c1 p1
        generalize z0.getD (i + 1) 0 = g2 at c2 p2
        obtain ⟨f, hf⟩ : ∃ f, f = g1 % 65536 := ⟨_, rfl⟩
        obtain ⟨d, hd⟩ : ∃ d, d = g2 % 30 := ⟨_, rfl⟩
        rw [← hf] at p1
        rw [← hd] at p2
        have f1 : 0 ≤ f := by omega
        have f2 : f ≤ 65535 := by omega
        have d1 : 0 ≤ d := by omega
        have d2 : d < 30 := by omega
        obtain ⟨t, ht⟩ : ∃ t, t = min (f + d) 65535 := ⟨_, rfl⟩
        have HOK := hidB (show okS (f, t) by unfold okS; simp only; omega)
        have htm : min (f + d) 65535 = t := ht.symm
        clear hf hd hx1 hx2 ht hi
        go_wp2_with (fail)
        refine p1.mono ?_
        rintro e w' ⟨rfl, rfl⟩
        go_upto_region 6 with (fail)
        have e0 := HC.out.bel
        have z0w := HC.out.lt
        refine wp_region_mix [true, true, true, true, true, true, true, true, true, true, true, true, true] [(false, 13)] 14 (A := ?A) (fun x => Below wr.heap.size wr x) (by kernel_rfl) (by kernel_rfl) (by rfl) (Below.refl wr.heap.size wr).drew ?walk ?tail
        case walk =>
          intro y hy
          have v1 := (hy.cell (p := ⟨w.heap.size, 1, none⟩) z0w).trans y1
          have v2 := (hy.cell (ciLt c2)).trans c2
          rw [show xa.add (i + 1) = ⟨xa.block, xa.off + (i + 1), none⟩ by simp [Addr.add]] at v2
          clear hy
          simp only [pickM]
          repeat (go_big_quiet_step (first | exact p2 y _))
          refine wpQuiet_nil ?_
          rfl
        case tail =>
          have b0 := (Below.refl wr.heap.size wr).drew
          refine mixE_of _ (by simp) _ _ ?_
          simp only [pickX, List.getElem?_cons_succ, List.getElem?_cons_zero, List.append_nil]
          have hl6 := lit_span wr.drew f t
          refine mix_does rfl (.slice (some ⟨wr.drew.heap.size, 0, none⟩) 1 1) (wr.drew.alloc (.cells #[.int .i64 f, .int .i64 t] 34)) (by simp [execOp, Act.eval, hl6]) ?_
          have hb7 := below_more b0 (Nat.le_refl _) (.cells #[.int .i64 f, .int .i64 t] 34)
          refine ⟨hb7, ?_⟩
          have HC7 := hidB (HC.out.step hb7)
          have hrow7 := HC7.out.row
          obtain ⟨i0, hi, hz0, hz1, hz2⟩ := info_parts infoSp
          unfold mixF
          simp only [List.drop_succ_cons, List.drop_zero]
          simp only [Act.put, List.setIfInBounds_toArray, List.set_cons_succ, List.set_cons_zero]
          have hnw := alloc_news wr.drew [.int .i64 f, .int .i64 t] 34
          rw [show ([Value.int .i64 f, .int .i64 t]).toArray = (#[.int .i64 f, .int .i64 t] : Array Value) from rfl] at hnw
          rw [HM.out] at hrow7
          have r1 : m + 1 ≤ maxLen := by simp only [maxLen]; omega
          have r2 : (m + 1) * 16 ≤ 140737488355328 := by omega
          have r3 : w.heap.size + 1 ≤ (wr.drew.alloc (.cells #[.int .i64 f, .int .i64 t] 34)).heap.size := HC7.out.lt
          refine wpList_append_own2 rfl (.tmp 38) (.tmp 50) 22 rfl (w.heap.size + 1) 34 i0 _ 2 16 Tryd.underlying22 hi hz0 hz1 hz2 rfl (by decide) _ m _ rfl hrow7 ⟨wr.drew.heap.size, 0, none⟩ 1 1 [.int .i64 f, .int .i64 t] rfl rfl hnw (by intro u hu; simp at hu; rcases hu with rfl | rfl <;> rfl) r1 r2 r3 ?_
          intro v8 w8 ho8 hg8 hv8
          obtain ⟨p8, c8, rfl⟩ := own_slice ho8
          have HC7m := HC7.out
          rw [HM.out] at HC7m
          have hg9 : (wr.drew.alloc (.cells #[.int .i64 f, .int .i64 t] 34)).grownBy w8 (Value.slice p m c).ownBlock := hg8
          have hmore := HC7m.more (s := (f, t)) HOK.out hg9 (by rw [HM.out]; exact ho8)
          obtain ⟨hC8, q1, qf⟩ := hmore
          have HC8 := hidB hC8
          clear hrow7 hi hz0 hz1 hz2 hnw r1 r2 r3 ho8 hg8 hg9 HC7m hv8 hC8 hl6 b0 hb7 c1 c2 y1 e0 z0w p1 p2
          go_wp2_with fail
          go_roundg (4 - (m + 1))
          case measure => omega
          case rel => exact ⟨i + 2, p8, c8, L ++ [(f, t)], by rw [List.length_append, HM.out, HI.out]; simp; omega, by rw [List.length_append, HM.out]; simp, by go_num, by rw [List.length_append, HM.out]; simp; omega, hidB (by rw [List.length_append, HM.out]; exact HC8.out)⟩
      · by_cases hA : i + 1 < len0
        · have hlz : (i : Int) + 1 < (len0 : Int) := by omega
          have hmz : ¬ (m : Int) < 4 := by omega
          go_wp2_with fail
          go_meet
          exact ⟨p, c, L, by rw [HM.out]; exact hL4, HC.out⟩
        · have hlz : ¬ (i : Int) + 1 < (len0 : Int) := by omega
          go_wp2_with fail
          go_meet
          exact ⟨p, c, L, by rw [HM.out]; exact hL4, HC.out⟩
  case rest =>
    obtain ⟨p, c, L, hL4, HC⟩ := hcut
    clear HC0 HR0 hl0 hl0i
    have hcL : checkS L = true := checkS_of hL4 HC.out.ok
    obtain ⟨p', c', he, hNp⟩ := row_spans HC.out.row
    cases he
    have y0 := HC.out.c0
    have y1 := HC.out.c1
    have zw := HC.out.lt
    have HBc := hidB HC.out.bel
    have HNp := hidB hNp
    have HCL := hidB hcL
    have k1 := ptCopy no p c L wc hNp (by omega)
    have k2 := fun (p1 : Option Addr) (c1 : Nat) (W : World) (hN : Spans W p1 c1 L) => ptClean no p1 c1 L W hN (by omega)
    have hcs := clean_same hcL
    have hcl4 := cleanS_len L
    have hnf := clean_nf hcL
    have HHAS := hidB (fun n => clean_has hcL no n)
    have k3 := fun (p1 : Option Addr) (c1 : Nat) (W : World) (hN : Spans W p1 c1 (cleanS L)) => ptCopy no p1 c1 (cleanS L) W hN (by omega)
    have k4 := fun (p1 : Option Addr) (c1 : Nat) (W : World) (hN : Spans W p1 c1 (cleanS L)) => ptClean no p1 c1 (cleanS L) W hN (by omega)
    rw [hcs.1, hcs.2, Bool.true_and] at k4
    rw [hcL, Bool.true_and] at k2
    have HCR := hidB hcs.1
    have HNF := hidB hnf
    have k5 := fun (p1 p2 : Option Addr) (c1 c2 : Nat) (W : World) (h1 : Spans W p1 c1 (cleanS L)) (h2 : Spans W p2 c2 (cleanS L)) => rpSame no p1 p2 c1 c2 (cleanS L) W h1 h2 (by omega)
    have k6 := fun (n : Int) (W : World) (hW : Spans W p c L) => ptHas no p c L n W hW (by omega)
    have k7 := fun (n : Int) (p1 : Option Addr) (c1 : Nat) (W : World) (hW : Spans W p1 c1 (cleanS L)) => ptHas no p1 c1 (cleanS L) n W hW (by omega)
    clear hcL hcs hnf hNp HC
    generalize hR : cleanS L = R at k2 k3 k4 k5 k7 HHAS HCR HNF hcl4
    have HRE := hidB hR
    clear hR
    obtain ⟨m, hm⟩ : ∃ m : Nat, L.length = m := ⟨_, rfl⟩
    obtain ⟨r, hr⟩ : ∃ r : Nat, R.length = r := ⟨_, rfl⟩
    have HM := hidB hm
    have HRL := hidB hr
    rw [hm] at k1 k2 k6 y1 hL4
    rw [hr] at k2 k3 k4 k5 k7 hcl4
    clear hm hr
    go_wp2_with (fail)
    refine k1.mono ?_
    rintro e w1 ⟨p1, c1, rfl, hN1, hb1⟩
    have k2 := k2 p1 c1 w1 hN1
    have HB1 := hidB hb1
    clear k1 hN1 hb1
    go_wp2_with (fail)
    refine k2.mono ?_
    rintro e w2 ⟨p2, c2, rfl, hN2, hb2⟩
    have HB2 := hidB (HB1.out.trans (hb2.mono HB1.out.size))
    clear k2 hb2 HB1
    go_upto_region 8 with (fail)
    have hal := below_more (Below.refl w2.heap.size w2) (Nat.le_refl _) (.cells (ptC no p2 r c2) 24)
    have hN3 := hN2.below hal
    have hB3 := HB2.out.trans (hal.mono HB2.out.size)
    generalize hW1 : w2.alloc (.cells (ptC no p2 r c2) 24) = W1 at hN3 hB3 ⊢
    have zc : w2.heap.size < W1.heap.size := by rw [← hW1]; simp
    have g0 : W1.cell? ⟨w2.heap.size, 0, none⟩ = some (.bool no) := by rw [← hW1]; simp
    have g1 : W1.cell? ⟨w2.heap.size, 1, none⟩ = some (.slice p2 r c2) := by rw [← hW1]; simp
    generalize w2.heap.size = B at zc g0 g1 ⊢
    have x0 := (hB3.cell (p := ⟨w.heap.size, 0, none⟩) zw).trans y0
    have x1 := (hB3.cell (p := ⟨w.heap.size, 1, none⟩) zw).trans y1
    have zp : w.heap.size < W1.heap.size := Nat.lt_of_lt_of_le zw hB3.size
    have HNp1 := hidB (HNp.out.below hB3)
    have HNc1 := hidB hN3
    have HBW := hidB (HBc.out.trans (hB3.mono HBc.out.size))
    have HTW := hidB (HT.out.below HBW.out)
    clear hW1 hal hN2 hN3 hB3 HB2 y0 y1 zw HNp HBc HT
    go_cut [67] from 56 to 67 (fun s67 wx => s67 = .bool false ∧ Hid (Below W1.heap.size W1 wx))
    case first =>
      have ld : ∀ x, Below W1.heap.size W1 x → (Instr.loadAt 24 (.pointer (some ⟨B, 0, none⟩))).run Tryd.prog x = .ok (.agg #[.bool no, .slice p2 r c2]) x := fun x hx => by
        refine run_loadAt_list x _ _ [.bool no, .slice p2 r c2] _ (fun j u hj => ?_) Tryd.underlying24 rfl (by kernel_rfl)
        match j, hj with
        | 0, hj => cases hj; exact (hx.cell (p := ⟨B, 0, none⟩) zc).trans g0
        | 1, hj => cases hj; exact (hx.cell (p := ⟨B, 1, none⟩) zc).trans g1
      refine wp_region_mix [true, false, false, true] [(false, 1), (false, 2), (false, 4), (true, 5), (true, 6), (true, 7), (true, 8), (true, 9), (true, 10)] 11 (A := ?A2) (fun x => Below W1.heap.size W1 x) (by kernel_rfl) (by kernel_rfl) (by rfl) (Below.refl W1.heap.size W1).drew ?walk2 ?tail2
      case walk2 =>
        intro y hy
        have v0 := (hy.cell (p := ⟨B, 0, none⟩) zc).trans g0
        have v1 := (hy.cell (p := ⟨B, 1, none⟩) zc).trans g1
        clear hy
        simp only [pickM]
        repeat (go_big_quiet_step (fail))
        refine wpQuiet_nil ?_
        rfl
      case tail2 =>
        have b0 := (Below.refl W1.heap.size W1).drew
        refine mixE_of _ (by simp) _ _ ?_
        simp only [pickX, List.getElem?_cons_succ, List.getElem?_cons_zero, List.cons_append, List.nil_append, List.append_nil]
        refine mixw_call (by rfl) 12 #[.agg (ptC no p2 r c2)] (fun u w' => ∃ p1 c1, u = .agg (ptC no p1 r c1) ∧ Spans w' p1 c1 R ∧ Below W1.heap.size W1 w') (by kernel_rfl) ((k3 p2 c2 W1.drew (HNc1.out.below b0)).mono (by rintro e w' ⟨p1, c1, rfl, hN, hb⟩; exact ⟨_, rfl, p1, c1, rfl, hN, b0.trans (hb.mono b0.size)⟩)) ?_
        rintro _ w3 ⟨p3, c3, rfl, hN3, b3⟩
        refine ⟨b3, ?_⟩
        simp only [Act.put, List.setIfInBounds_toArray, List.set_cons_succ, List.set_cons_zero]
        refine mixw_call (by rfl) 11 #[.agg (ptC no p3 r c3)] (fun u w' => ∃ p2 c2, u = .agg (ptC no p2 r c2) ∧ Spans w' p2 c2 R ∧ Below W1.heap.size W1 w') (by kernel_rfl) ((k4 p3 c3 w3 hN3).mono (by rintro e w' ⟨p2, c2, rfl, hN, hb⟩; exact ⟨_, rfl, p2, c2, rfl, hN, b3.trans (hb.mono b3.size)⟩)) ?_
        rintro _ w4 ⟨p4, c4, rfl, hN4, b4⟩
        refine ⟨b4, ?_⟩
        simp only [Act.put, List.setIfInBounds_toArray, List.set_cons_succ, List.set_cons_zero]
        refine mixw_call (by rfl) 10 #[.agg (ptC no p4 r c4), .agg (ptC no p2 r c2)] (fun u w' => u = .bool true ∧ Below W1.heap.size W1 w') (by kernel_rfl) ((k5 p4 p2 c4 c2 w4 hN4 (HNc1.out.below b4)).mono (by rintro e w' ⟨rfl, hb⟩; exact ⟨_, rfl, rfl, b4.trans (hb.mono b4.size)⟩)) ?_
        rintro _ w5 ⟨rfl, b5⟩
        refine ⟨b5, ?_⟩
        simp only [Act.put, List.setIfInBounds_toArray, List.set_cons_succ, List.set_cons_zero]
        refine mixw_not _ _ rfl (by rfl) true rfl ?_
        simp only [Act.put, List.setIfInBounds_toArray, List.set_cons_succ, List.set_cons_zero, Bool.not_true]
        refine mixw_move _ rfl (by rfl) (.bool false) rfl ?_
        simp only [Act.put, List.setIfInBounds_toArray, List.set_cons_succ, List.set_cons_zero]
        refine mixw_pure (by rfl) (.pointer (some ⟨B, 0, none⟩)) (fun x hx => by have h := fa0 B x; simp [execOp, Act.eval, h]) ?_
        simp only [Act.put, List.setIfInBounds_toArray, List.set_cons_succ, List.set_cons_zero]
        refine mixw_load _ _ rfl (by rfl) _ (.bool no) rfl (fun x hx => ld0 B no x ((hx.cell (p := ⟨B, 0, none⟩) zc).trans g0)) ?_
        simp only [Act.put, List.setIfInBounds_toArray, List.set_cons_succ, List.set_cons_zero]
        refine mixw_move _ rfl (by rfl) (.bool no) rfl ?_
        simp only [Act.put, List.setIfInBounds_toArray, List.set_cons_succ, List.set_cons_zero]
        refine mixw_neqb _ _ _ _ rfl Tryd.underlying4 (by rfl) no rfl rfl ?_
        simp only [Act.put, List.setIfInBounds_toArray, List.set_cons_succ, List.set_cons_zero]
        have H5 := hidB b5
        clear k3 k4 k5 b0 b3 b4 b5 hN3 hN4
        unfold mixF
        simp only [List.drop_succ_cons, List.drop_zero]
        go_wp2_with fail
        go_meet
        exact ⟨rfl, H5.out⟩
    case rest =>
      obtain ⟨rfl, HX⟩ := hcut
      clear k3 k4 k5
      go_upto_block 2 with (fail)
      go_cut [] from 11 to 158 (fun wx => Hid (Below W1.heap.size W1 wx))
      case first =>
        go_wp2_with (fail)
        go_loopg [11] (r + 1) (fun g s11 wr => ∃ j : Nat, j ≤ r ∧ r + 1 - j ≤ g ∧ s11 = .int .i64 ((j : Int) + 1) ∧ Hid (Below W1.heap.size W1 wr))
        case atStart => exact ⟨0, Nat.zero_le _, by omega, rfl, HX.out⟩
        case round =>
          obtain ⟨j, hj, hg, rfl, HB⟩ := hrel
          have v1 := (HB.out.cell (p := ⟨B, 1, none⟩) zc).trans g1
          by_cases hlt : j + 1 < r
          · have hlz : (j : Int) + 1 < (r : Int) := by omega
            obtain ⟨s, hs⟩ : ∃ s, R[j]? = some s := ⟨_, List.getElem?_eq_getElem (by rw [HRL.out]; omega)⟩
            obtain ⟨t, ht⟩ : ∃ t, R[j + 1]? = some t := ⟨_, List.getElem?_eq_getElem (by rw [HRL.out]; omega)⟩
            have hst := nf_next HNF.out j s t hs ht
            have hso := checkS_ok HCR.out s (List.mem_of_getElem? hs)
            obtain ⟨hcp, h2⟩ := HNc1.out.below HB.out
            rw [HRL.out] at hcp
            rcases h2 with h2 | ⟨b, o, rfl, h4, h5⟩
            · rw [h2] at hs; cases hs
            · have c1 := (h5 j s hs).2
              have c0 := (h5 (j + 1) t ht).1
              obtain ⟨s1, s2⟩ := s
              obtain ⟨t1, t2⟩ := t
              simp only at c0 c1 hst
              unfold okS at hso
              simp only at hso
              have n1 : 0 ≤ s2 := by omega
              have n2 : s2 ≤ 65535 := by omega
              have hdec : decide (t1 ≤ s2 + 1) = false := by simp; omega
              have zB : B < wr.heap.size := Nat.lt_of_lt_of_le zc HB.out.size
              have hcl := Cls.cell (w := wr)
              clear hs ht h5 hso hst
              go_upto_region 13 with (fail)
              refine wp_region_calm (by kernel_rfl) (by kernel_rfl) (fun hne => ?_)
              repeat (go_big_quiet_step (fail))
              refine wpQuiet_nil ?_
              rintro _ ⟨y, rfl⟩
              have HY := hidB (HB.out.trans (y.bel.mono HB.out.size))
              clear hne hcl c0 c1 v1
              go_wp2_with (fail)
              go_roundg (r + 1 - (j + 1))
              case measure => omega
              case rel => exact ⟨j + 1, by omega, by omega, by go_num, HY⟩
          · have hlz : ¬ (j : Int) + 1 < (r : Int) := by omega
            have HB2 := HB
            clear HB
            go_wp2_with (fail)
            go_meet
            exact HB2.out
      case rest =>
        have HX2 := hidB hcut
        clear hcut HX HNF HCR
        go_upto_block 4 with (fail)
        go_cut [] from 11 to 158 (fun wx => Hid (Below W1.heap.size W1 wx))
        case first =>
          go_wp2_with (fail)
          go_loopg [12, 13] 65537 (fun g s12 s13 wr => ∃ n i : Nat, n ≤ 300 ∧ i ≤ 65540 ∧ 65537 - i ≤ g ∧ s12 = .int .i64 (n : Int) ∧ s13 = .int .i64 (i : Int) ∧ Hid (Below W1.heap.size W1 wr))
          case atStart => exact ⟨0, 0, by omega, by omega, by omega, rfl, rfl, HX2.out⟩
          case round =>
            obtain ⟨n, i, hn, hi, hg, rfl, rfl, HB⟩ := hrel
            by_cases hlt : i < 65536
            · have hlz : (i : Int) < 65536 := by omega
              have u0 := (HB.out.cell (p := ⟨w.heap.size, 0, none⟩) zp).trans x0
              have u1 := (HB.out.cell (p := ⟨w.heap.size, 1, none⟩) zp).trans x1
              have v0 := (HB.out.cell (p := ⟨B, 0, none⟩) zc).trans g0
              have v1 := (HB.out.cell (p := ⟨B, 1, none⟩) zc).trans g1
              have zp2 : w.heap.size < wr.heap.size := Nat.lt_of_lt_of_le zp HB.out.size
              have zc2 : B < wr.heap.size := Nat.lt_of_lt_of_le zc HB.out.size
              have cA := fun (y : Cls wr) => k6 (i : Int) y.val (HNp1.out.below (HB.out.trans (y.bel.mono HB.out.size)))
              have cB := fun (y : Cls wr) => k7 (i : Int) p2 c2 y.val (HNc1.out.below (HB.out.trans (y.bel.mono HB.out.size)))
              rw [HHAS.out] at cB
              generalize hasS no L (i : Int) = h at cA cB
              have hh : (h != h) = false := by simp
              obtain ⟨q, hq⟩ : ∃ q : Nat, q = (n + 1) % 3 := ⟨_, rfl⟩
              have hq2 : q ≤ 2 := by omega
              have hrem : ((n : Int) + 1).tmod 3 = (q : Int) := by
                rw [Int.tmod_eq_emod_of_nonneg (by omega)]; omega
              have hcl := Cls.cell (w := wr)
              clear hq
              go_upto_region 19 with (fail)
              refine wp_region_calm (by kernel_rfl) (by kernel_rfl) (fun hne => ?_)
              iterate 4 (go_big_quiet_step (first | (go_at_call 14; exact calm_of (cA _))))
              repeat (go_big_quiet_step (first | (go_at_call 14; exact calm_of (cB _))))
              refine wpQuiet_nil ?_
              rintro _ ⟨y, rfl⟩
              have HY := hidB (HB.out.trans (y.bel.mono HB.out.size))
              clear hne hcl u0 u1 v0 v1 cA cB zp2 zc2
              by_cases hb : n = 300
              · subst hb
                go_wp2_with (fail)
                go_meet
                exact HY.out
              · have hbz : ¬ (300 : Int) < (n : Int) + 1 := by omega
                go_wp2_with (fail)
                go_roundg (65537 - (i + 1))
                case measure => omega
                case rel => exact ⟨n + 1, i + 1 + q, by omega, by omega, by omega, by go_num, by go_num, HY⟩
            · have hlz : ¬ (i : Int) < 65536 := by omega
              have HB2 := HB
              clear HB
              go_wp2_with (fail)
              go_meet
              exact HB2.out
        case rest =>
          have HX3 := hidB hcut
          clear hcut HX2
          go_upto_block 6 with (fail)
          go_cut [] from 11 to 158 (fun wx => Hid (Below W1.heap.size W1 wx))
          case first =>
            go_wp2_with (fail)
            go_loopg [14] 31 (fun g s14 wr => ∃ i : Nat, i ≤ 30 ∧ 31 - i ≤ g ∧ s14 = .int .i64 (i : Int) ∧ Hid (Below W1.heap.size W1 wr))
            case atStart => exact ⟨0, by omega, by omega, rfl, HX3.out⟩
            case round =>
              obtain ⟨i, hi, hg, rfl, HB⟩ := hrel
              by_cases hA : i < len2
              · have hlz : (i : Int) < (len2 : Int) := by omega
                by_cases hB : i < 30
                · have hlz2 : (i : Int) < 30 := by omega
                  obtain ⟨xa, rfl, hx⟩ := HR2.out i hA
                  have hcx := ((HBW.out.trans (HB.out.mono HBW.out.size)).cell (cell_lt hx)).trans hx
                  have pl := place_any (z2.getD i 0) 65536 wr (by omega) (by omega)
                  generalize z2.getD i 0 % 65536 = k at pl
                  generalize z2.getD i 0 = gz at hcx pl
                  have u0 := (HB.out.cell (p := ⟨w.heap.size, 0, none⟩) zp).trans x0
                  have u1 := (HB.out.cell (p := ⟨w.heap.size, 1, none⟩) zp).trans x1
                  have v0 := (HB.out.cell (p := ⟨B, 0, none⟩) zc).trans g0
                  have v1 := (HB.out.cell (p := ⟨B, 1, none⟩) zc).trans g1
                  have zp2 : w.heap.size < wr.heap.size := Nat.lt_of_lt_of_le zp HB.out.size
                  have zc2 : B < wr.heap.size := Nat.lt_of_lt_of_le zc HB.out.size
                  have cA := fun (y : Cls wr) => k6 k y.val (HNp1.out.below (HB.out.trans (y.bel.mono HB.out.size)))
                  have cB := fun (y : Cls wr) => k7 k p2 c2 y.val (HNc1.out.below (HB.out.trans (y.bel.mono HB.out.size)))
                  rw [HHAS.out] at cB
                  generalize hasS no L k = h at cA cB
                  have hh : (h != h) = false := by simp
                  have hcl := Cls.cell (w := wr)
                  clear hx
                  go_wp2_with (fail)
                  refine pl.mono ?_
                  rintro e w' ⟨rfl, rfl⟩
                  clear pl hcx
                  go_upto_region 27 with (fail)
                  refine wp_region_calm (by kernel_rfl) (by kernel_rfl) (fun hne => ?_)
                  iterate 4 (go_big_quiet_step (first | (go_at_call 14; exact calm_of (cA _))))
                  repeat (go_big_quiet_step (first | (go_at_call 14; exact calm_of (cB _))))
                  refine wpQuiet_nil ?_
                  rintro _ ⟨y, rfl⟩
                  have HY := hidB (HB.out.trans (y.bel.mono HB.out.size))
                  clear hne hcl u0 u1 v0 v1 cA cB zp2 zc2
                  go_wp2_with (fail)
                  go_roundg (31 - (i + 1))
                  case measure => omega
                  case rel => exact ⟨i + 1, by omega, by omega, by go_num, HY⟩
                · have hlz2 : ¬ (i : Int) < 30 := by omega
                  have HB2 := HB
                  clear HB
                  go_wp2_with (fail)
                  go_meet
                  exact HB2.out
              · have hlz : ¬ (i : Int) < (len2 : Int) := by omega
                have HB2 := HB
                clear HB
                go_wp2_with (fail)
                go_meet
                exact HB2.out
          case rest =>
            have HX4 := hidB hcut
            clear hcut HX3
            go_upto_block 8 with (fail)
            go_cut [] from 11 to 158 (fun wx => Hid (Below W1.heap.size W1 wx))
            case first =>
              go_wp2_with (fail)
              go_loopg [16] m (fun g s16 wr => ∃ i : Nat, i ≤ m ∧ m - i ≤ g ∧ s16 = .int .i64 (i : Int) ∧ Hid (Below W1.heap.size W1 wr))
              case atStart => exact ⟨0, Nat.zero_le _, by omega, rfl, HX4.out⟩
              case round =>
                obtain ⟨i, hi, hg, rfl, HB⟩ := hrel
                have u1 := (HB.out.cell (p := ⟨w.heap.size, 1, none⟩) zp).trans x1
                by_cases hlt : i < m
                · have hlz : (i : Int) < (m : Int) := by omega
                  obtain ⟨s, hs⟩ : ∃ s, L[i]? = some s := ⟨_, List.getElem?_eq_getElem (by rw [HM.out]; exact hlt)⟩
                  have hmem := List.mem_of_getElem? hs
                  have hso := checkS_ok HCL.out s hmem
                  have m1 := has_mem HCL.out no hmem (n := s.1) (Int.le_refl _) hso.2.1
                  have m2 := has_mem HCL.out no hmem (n := s.2) hso.2.1 (Int.le_refl _)
                  obtain ⟨hcp, h2⟩ := HNp1.out.below HB.out
                  rw [HM.out] at hcp
                  rcases h2 with h2 | ⟨b, o, rfl, h4, h5⟩
                  · rw [h2] at hs; cases hs
                  · obtain ⟨c0, c1⟩ := h5 i s hs
                    have v0 := (HB.out.cell (p := ⟨B, 0, none⟩) zc).trans g0
                    have v1 := (HB.out.cell (p := ⟨B, 1, none⟩) zc).trans g1
                    have zp2 : w.heap.size < wr.heap.size := Nat.lt_of_lt_of_le zp HB.out.size
                    have zc2 : B < wr.heap.size := Nat.lt_of_lt_of_le zc HB.out.size
                    have cA := fun (y : Cls wr) => k7 s.1 p2 c2 y.val (HNc1.out.below (HB.out.trans (y.bel.mono HB.out.size)))
                    have cB := fun (y : Cls wr) => k7 s.2 p2 c2 y.val (HNc1.out.below (HB.out.trans (y.bel.mono HB.out.size)))
                    rw [HHAS.out, m1] at cA
                    rw [HHAS.out, m2] at cB
                    have hh : ((!no) == no) = false := by cases no <;> rfl
                    have hcl := Cls.cell (w := wr)
                    obtain ⟨s1, s2⟩ := s
                    simp only at c0 c1 cA cB
                    clear hs hmem hso m1 m2 h5
                    go_upto_region 32 with (fail)
                    refine wp_region_calm (by kernel_rfl) (by kernel_rfl) (fun hne => ?_)
                    iterate 9 (go_big_quiet_step (first | (go_at_call 14; exact calm_of (cA _))))
                    repeat (go_big_quiet_step (first | (go_at_call 14; exact calm_of (cB _))))
                    refine wpQuiet_nil ?_
                    rintro _ ⟨y, rfl⟩
                    have HY := hidB (HB.out.trans (y.bel.mono HB.out.size))
                    clear hne hcl u1 v0 v1 cA cB zp2 zc2 c0 c1
                    go_wp2_with (fail)
                    go_roundg (m - (i + 1))
                    case measure => omega
                    case rel => exact ⟨i + 1, by omega, by omega, by go_num, HY⟩
                · have hlz : ¬ (i : Int) < (m : Int) := by omega
                  have HB2 := HB
                  clear HB
                  go_wp2_with (fail)
                  go_meet
                  exact HB2.out
            case rest =>
              have HX5 := hidB hcut
              clear hcut HX4
              have aw := ptAwake wc (HTW.out.below HX5.out)
              go_wp2_with (fail)
              refine aw.mono ?_
              rintro e w9 ⟨rfl, hb9⟩
              have HE := hidB (HBW.out.trans ((HX5.out.trans (hb9.mono HX5.out.size)).mono HBW.out.size))
              clear aw hb9
              go_wp2_with (fail)
              go_ret
              exact ⟨rfl, HE.out⟩
/-! ### THE ROW's STEP: variables laid, a tied card -/
set_option maxRecDepth 100000 in
theorem lifted (os : Os) (started : os.Started) (H : Type) (enc : TypeId × Value → H) :
    ReturnsInHanded {} Tryd.checked os 4 .any (fun w args => (Rows.portsCleanSpec.pre enc Tryd.prog Tryd.f4 Rows.portsCleanRow.domain false w args ∧ laidMetH Tryd.prog Rows.portsCleanRow.laid w) ∧ sizedMet enc Tryd.prog Tryd.f4 (OpenSpec.ofChange Rows.portsCleanSpec) false w args)
      (Rows.portsCleanSpec.post enc Tryd.prog Tryd.f4 false true false false) := by
  refine returnsInHanded_of_change_and (C := Tryd.checked) (X := fun w _ => laidMetH Tryd.prog Rows.portsCleanRow.laid w) (fun _ _ _ hh h => h.of_heap hh) own started (by kernel_rfl) Tryd.func4
    (ChangeSpec.witness_shaped (enc := enc) (C := Tryd.checked) (os := os) (X := fun w _ => laidMetH Tryd.prog Rows.portsCleanRow.laid w) false (World.laidAll Tryd.prog os Rows.portsCleanRow.laid) #[.slice none 0 0, .bool false, .slice none 0 0] 8 (World.laidAll_os _ _ _)
      (World.shaped_of_ZipB (by kernel_rfl) (by kernel_rfl)) (by kernel_rfl) (by kernel_rfl) (by kernel_rfl)
      (by rw [MakeChecks.laidMetH_plain _ _ _ (by kernel_rfl)]; exact laidMet_laidAll _ (by kernel_rfl) (by kernel_rfl))) ?_
  intro W base args ds gs before hval0 hW _ _ hL _
  have hval : ∀ (j : Nat) t v, Tryd.f4.params[j]? = some t → args[j]? = some v → Value.okWide Tryd.prog W .any base t v := hval0
  have hW' := hW
  obtain ⟨p, q, hA0, hV, rfl, hfz, hnd⟩ := hW
  have hA : DataW.TrodAll enc Tryd.prog W 0 (fun _ => true) true Tryd.f4.params.toList args.toList ds p := hA0
  have hB := fun (W' : World) (bel : Below W.heap.size W W') => below_trodAll_of laidOut bel _ (by kernel_rfl) hA
  rw [Tryd.params4] at hA hval
  obtain ⟨v0, vs0, d0, ds0, p0, q0, hargs, rfl, rfl, h0, r0⟩ := trodAll_cons hA
  obtain ⟨v1, vs1, d1, ds1, p1, q1, rfl, rfl, rfl, h1, r1⟩ := trodAll_cons r0
  obtain ⟨v2, vs2, d2, ds2, p2, q2, rfl, rfl, rfl, h2, r2⟩ := trodAll_cons r1
  obtain ⟨rfl, rfl, rfl⟩ := trodAll_nil r2
  obtain rfl : args = #[v0, v1, v2] := by cases args; simp_all
  obtain ⟨rfl, rfl⟩ := trodVars_none hV
  obtain ⟨a0, len0, cap0, rfl⟩ := okWide_slice Tryd.underlying31 (hval 0 31 v0 rfl rfl)
  obtain ⟨z0, w0⟩ : ∃ zs, IsRow .i64 W a0 len0 cap0 zs := by
    obtain ⟨fuel, hf⟩ := h0
    rcases open_ints Tryd.underlying31 Tryd.underlying3 (by kernel_rfl) hf with ⟨hcs, _⟩ | ⟨x, l, c, zs, hcs, _, hl, hm, hz, _, hcell, hwz⟩
    · simp [Value.cells] at hcs
      obtain ⟨rfl, rfl, rfl⟩ := hcs
      exact ⟨[], .inl ⟨rfl, rfl, rfl, rfl⟩⟩
    · simp [Value.cells] at hcs
      obtain ⟨rfl, rfl, rfl⟩ := hcs
      exact ⟨zs, .inr ⟨_, rfl, hl, hm, by simpa using hz, hcell, hwz⟩⟩
  obtain ⟨a1, rfl, rfl, rfl⟩ := open_bool Tryd.underlying4 (hval 1 4 v1 rfl rfl) h1
  obtain ⟨a2, len2, cap2, rfl⟩ := okWide_slice Tryd.underlying31 (hval 2 31 v2 rfl rfl)
  obtain ⟨z2, w2⟩ : ∃ zs, IsRow .i64 W a2 len2 cap2 zs := by
    obtain ⟨fuel, hf⟩ := h2
    rcases open_ints Tryd.underlying31 Tryd.underlying3 (by kernel_rfl) hf with ⟨hcs, _⟩ | ⟨x, l, c, zs, hcs, _, hl, hm, hz, _, hcell, hwz⟩
    · simp [Value.cells] at hcs
      obtain ⟨rfl, rfl, rfl⟩ := hcs
      exact ⟨[], .inl ⟨rfl, rfl, rfl, rfl⟩⟩
    · simp [Value.cells] at hcs
      obtain ⟨rfl, rfl, rfl⟩ := hcs
      exact ⟨zs, .inr ⟨_, rfl, hl, hm, by simpa using hz, hcell, hwz⟩⟩
  clear hA0 hval0
  refine (walk a0 len0 cap0 z0 a1 a2 len2 cap2 z2 W (tab_pow10 hL) w0 w2).mono fun e W' ⟨he, bel⟩ => ?_
  subst he
  exact ⟨_, rfl, _, _, _, [], _, [], hW', trodAll_mk1 (shut_bool Tryd.underlying4 _), hB W' bel, rfl, bel.frame _, fun h => by cases h⟩

theorem over : Rows.PortsCleanSaid :=
  OpenClaim.holds_of_wide 4 Tryd.f4 rfl rfl rfl rfl rfl rfl rfl ⟨rfl, rfl, rfl, rfl, rfl⟩ rfl rfl rfl rfl rfl (by kernel_rfl) Tryd.func4 (by kernel_rfl)
    (of_decide_eq_true (by kernel_rfl)) (by unfold Func.isWrapper; first | (rw [if_pos (by decide +kernel)]; kernel_rfl) | (rw [if_neg (by decide +kernel)]; exact ⟨rfl, rfl⟩))
    (fun os started H enc _ => lifted os started H enc)

/-- THE STATEMENT: the card -/
theorem proved : Rows.PortsCleanCardSaid :=
  Claim7.holds_tied_plain_at .later [] [.data, .data, .data] true (true, "8f90354d35c42e9b57447291d953c5ed6eaefff3abf76116990a3b0ce82ff6be") false over (fun _ h => by cases h) (by kernel_rfl) (fun _ h => by cases h) portsClean_row_tie rfl ⟨rfl, rfl⟩ (by kernel_rfl) rfl
    (fun f fn hf hfn => by
      obtain rfl : f = 4 := Option.some.inj ((show Tryd.prog.funcNamed "rampart/rampartlaw10.PortsClean" = some 4 by kernel_rfl).symm.trans hf) |>.symm
      obtain rfl : fn = Tryd.f4 := (Option.some.inj (Tryd.func4.symm.trans hfn)).symm
      exact ⟨by kernel_rfl, fun j t ht => by
        rw [Tryd.params4] at ht
        have hm : t ∈ [31, 4, 31] := by simpa using Array.mem_of_getElem? ht
        have hall : ([31, 4, 31].all fun u => !Tryd.prog.wantsStandIn u) = true := by kernel_rfl
        exact (show Tryd.prog.wantsStandIn t = false by simpa using List.all_eq_true.1 hall t hm)⟩)
    (by kernel_rfl)
#print axioms proved
end Go.Proofs.YtgiecmgopibcnaaDoor.portsClean
