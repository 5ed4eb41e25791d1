/- PortsTexts: for any three numbers: spans that touch are one, all ports are any, ones that do not are told rising; no condition. -/
import Derived.Test.YtgiecmgopibcnaaDoorLiftTab10
import Derived.Test.YtgiecmgopibcnaaDoorLiftPt
import Derived.Test.YtgiecmgopibcnaaDoorPtAwake
import Derived.Test.YtgiecmgopibcnaaDoorLeafs
import Derived.Test.YtgiecmgopibcnaaDoorTie
import Derived.Test.YtgiecmgopibcnaaDoorCards
import Derived.LaidMore
import Derived.Lay
import Derived.Deep.CutBlock
import Derived.Deep.CutRange
import Derived.Deep.DeepCutAuto
import Derived.SevenTiedAt
import Derived.Stop.Joined
namespace Go.Proofs.YtgiecmgopibcnaaDoor.portsTexts
open Go.ChangeShapes Go.WideShapes Go.ChangeAt Go.RowKit
set_option linter.unusedVariables false
set_option maxRecDepth 20000
theorem rcDigits (v : Nat) (z : Int) (hz : z = (v : Int)) (hv : v ≤ 9223372036854775807) (w : World) :
    Calls Tryd.prog 19 #[.int .i64 z] w fun e w' => e = .returned (.string (sL (Lib.decDigits v))) ∧ Below w.heap.size w w' := by
  subst hz
  have hd := fun w => rcDec v hv w
  generalize Lib.decDigits v = D at hd ⊢
  go_enter Tryd.func19, Tryd.ntmps19
  go_wp2_with (fail)
  refine (hd _).mono ?_
  rintro e w' ⟨rfl, hb⟩
  go_wp2
  go_ret
  exact ⟨rfl, hb⟩
theorem raw_of {L R : List Sp} (h : ∀ s ∈ L, okS s) (hR : Nf R) (he : ∀ n, L.any (inS n) = R.any (inS n)) : rawS L = R :=
  nf_eq (rawS_nf h) hR (fun n => ((rawS_spec L [] trivial (by simp) h).2.2.1 n).trans (by simpa using he n))
theorem two_clean (x s A : Int) (h0 : 0 ≤ x) (h1 : x ≤ s) (h2 : s + 1 < A) (h3 : A ≤ 65535) : cleanS [(A, A), (x, s)] = [(x, s), (A, A)] := by
  have hok : ∀ t ∈ [((A, A) : Sp), (x, s)], okS t := by
    intro t ht
    simp only [List.mem_cons, List.not_mem_nil, or_false] at ht
    unfold okS
    rcases ht with rfl | rfl
    · simp only; omega
    · simp only; omega
  have hr : rawS [((A, A) : Sp), (x, s)] = [(x, s), (A, A)] := raw_of hok ⟨h1, by simp; omega, Int.le_refl _, by simp, trivial⟩ (fun n => by simp [Bool.or_comm])
  unfold cleanS
  rw [if_pos (checkS_of (by simp) hok), hr, if_neg (by simp)]
theorem two_text (x s A : Nat) (h1 : x ≤ s) (h2 : s + 1 < A) (h3 : A ≤ 65535) :
    textS false [((A : Int), (A : Int)), ((x : Int), (s : Int))] = [91] ++ ((if x = s then Lib.decDigits x else Lib.decDigits x ++ [45] ++ Lib.decDigits s) ++ [44] ++ Lib.decDigits A) ++ [93] := by
  unfold textS
  rw [Bool.and_false, if_neg (by simp), two_clean x s A (by omega) (by omega) (by omega) (by omega)]
  show [91] ++ Lib.join [spanT ((x : Int), (s : Int)), spanT ((A : Int), (A : Int))] [44] ++ [93] = _
  rw [Lib.join_cons]
  unfold Lib.joinTail spanT
  simp only [Int.toNat_natCast, if_true, List.map_cons, List.map_nil, List.flatten_cons, List.flatten_nil, List.append_nil]
  by_cases e : x = s
  · subst e; simp
  · rw [if_neg e, if_neg (by omega)]; simp
theorem all_clean (x y : Nat) (h : x + y < 65535) : cleanS [((x : Int) + (y : Int) + 1, 65535), (0, (x : Int)), ((x : Int), (x : Int) + (y : Int))] = [] := by
  have hok : ∀ t ∈ [(((x : Int) + (y : Int) + 1, 65535) : Sp), (0, (x : Int)), ((x : Int), (x : Int) + (y : Int))], okS t := by
    intro t ht
    simp only [List.mem_cons, List.not_mem_nil, or_false] at ht
    unfold okS
    rcases ht with rfl | rfl | rfl
    · simp only; omega
    · simp only; omega
    · simp only; omega
  have hr : rawS [(((x : Int) + (y : Int) + 1, 65535) : Sp), (0, (x : Int)), ((x : Int), (x : Int) + (y : Int))] = [(0, 65535)] := raw_of hok ⟨by decide, by simp, trivial⟩ (fun n => by
    rw [Bool.eq_iff_iff]
    simp only [List.any_cons, List.any_nil, Bool.or_false, Bool.or_eq_true, inS_iff]
    omega)
  unfold cleanS
  rw [if_pos (checkS_of (by simp) hok), hr, if_pos rfl]
theorem all_text (x y : Nat) (h : x + y < 65535) : textS false [((x : Int) + (y : Int) + 1, 65535), (0, (x : Int)), ((x : Int), (x : Int) + (y : Int))] = [97, 110, 121] := by
  unfold textS
  rw [Bool.and_false, if_neg (by simp), all_clean x y h]
  rfl
theorem lit_span3 (w : World) (a b c d e f : Int) : (Instr.buildSlice 22 3 #[(0, .agg #[.int .i64 a, .int .i64 b]), (1, .agg #[.int .i64 c, .int .i64 d]), (2, .agg #[.int .i64 e, .int .i64 f])]).run Tryd.prog w = .ok (.slice (some ⟨w.heap.size, 0, none⟩) 3 3) (w.alloc (.cells #[.int .i64 a, .int .i64 b, .int .i64 c, .int .i64 d, .int .i64 e, .int .i64 f] 34)) := by
  obtain ⟨i0, hi, hz0, hz1, hz2⟩ := info_parts infoSp
  refine run_buildSlice w _ _ 3 _ _ i0 _ Tryd.underlying22 hi hz0 (by rw [hz1]; decide) (by rw [hz1]; decide) ?_
  rw [hz1]
  kernel_rfl
theorem fld1 (r : Bool) (v : Value) (w : World) : (Instr.field 24 (.agg #[.bool r, v]) 1).run Tryd.prog w = .ok v w := by
  kernel_rfl
set_option maxHeartbeats 4000000 in
theorem walk (a : Int) (wa : (Lit.int .i64 a).wf = true) (b : Int) (wb : (Lit.int .i64 b).wf = true) (gap : Int) (wg : (Lit.int .i64 gap).wf = true) (w : World) (hT : Tb w) :
    Calls Tryd.prog 6 #[.int .i64 a, .int .i64 b, .int .i64 gap] w fun e w' => e = .returned (.bool true) ∧ Below w.heap.size w w' := by
  have p1 := place_any a 1000 w (by omega) (by omega)
  have p2 := place_any b 1000 w (by omega) (by omega)
  have p3 := place_any gap 5 w (by omega) (by omega)
  obtain ⟨x, hx⟩ : ∃ x, x = a % 1000 := ⟨_, rfl⟩
  obtain ⟨y, hy⟩ : ∃ y, y = b % 1000 := ⟨_, rfl⟩
  obtain ⟨z, hz⟩ : ∃ z, z = gap % 5 := ⟨_, rfl⟩
  have x1 : 0 ≤ x := by omega
  have x2 : x < 1000 := by omega
  have y1 : 0 ≤ y := by omega
  have y2 : y < 1000 := by omega
  have z1 : 0 ≤ z := by omega
  have z2 : z < 5 := by omega
  rw [← hx] at p1
  rw [← hy] at p2
  rw [← hz] at p3
  clear hx hy hz wa wb wg
  have h1 := fun (W : World) => rcDigits x.toNat x (by omega) (by omega) W
  have h2 := fun (W : World) => rcDigits (x.toNat + y.toNat) (x + y) (by omega) (by omega) W
  have h3 := fun (W : World) => rcDigits (x.toNat + y.toNat + z.toNat + 2) (x + y + z + 2) (by omega) (by omega) W
  have HT2 := two_text x.toNat (x.toNat + y.toNat) (x.toNat + y.toNat + z.toNat + 2) (by omega) (by omega) (by omega)
  have HQ := all_text x.toNat y.toNat (by omega)
  have HQ2 := all_clean x.toNat y.toNat (by omega)
  have lX := dec_le5 x.toNat (by omega)
  have lS := dec_le5 (x.toNat + y.toNat) (by omega)
  have lY := dec_le5 (x.toNat + y.toNat + z.toNat + 2) (by omega)
  rw [show ((x.toNat + y.toNat + z.toNat + 2 : Nat) : Int) = x + y + z + 2 by omega, show ((x.toNat : Nat) : Int) = x by omega, show ((x.toNat + y.toNat : Nat) : Int) = x + y by omega] at HT2
  rw [show ((x.toNat : Nat) : Int) = x by omega, show ((y.toNat : Nat) : Int) = y by omega] at HQ HQ2
  have h3a : z = 0 → ∀ (W : World), Calls Tryd.prog 19 #[.int .i64 (x + y + 2)] W fun e w' => e = .returned (.string (sL (Lib.decDigits (x.toNat + y.toNat + z.toNat + 2)))) ∧ Below W.heap.size W w' := fun e W => rcDigits _ (x + y + 2) (by omega) (by omega) W
  have h4 : y = 0 → ∀ (W : World), Calls Tryd.prog 19 #[.int .i64 (x + z + 2)] W fun e w' => e = .returned (.string (sL (Lib.decDigits (x.toNat + y.toNat + z.toNat + 2)))) ∧ Below W.heap.size W w' := fun e W => rcDigits _ (x + z + 2) (by omega) (by omega) W
  have h4a : y = 0 → z = 0 → ∀ (W : World), Calls Tryd.prog 19 #[.int .i64 (x + 2)] W fun e w' => e = .returned (.string (sL (Lib.decDigits (x.toNat + y.toNat + z.toNat + 2)))) ∧ Below W.heap.size W w' := fun e e2 W => rcDigits _ (x + 2) (by omega) (by omega) W
  generalize hX : Lib.decDigits x.toNat = X at h1 HT2 lX
  generalize hS : Lib.decDigits (x.toNat + y.toNat) = S at h2 HT2 lS
  generalize hY : Lib.decDigits (x.toNat + y.toNat + z.toNat + 2) = Y at h3 h3a h4 h4a HT2 lY
  obtain ⟨WT, hWT⟩ : ∃ WT, WT = textS false [(x + y + z + 2, x + y + z + 2), (x, x + y)] := ⟨_, rfl⟩
  rw [← hWT] at HT2
  have HWT := hidB hWT
  have HT := hidB hT
  have HQQ := hidB (And.intro HQ HQ2)
  clear hWT hX hS hY hT HQ HQ2
  have hl := lit_span2 w (x + y + z + 2) (x + y + z + 2) x (x + y)
  go_enter Tryd.func6, Tryd.ntmps6
  go_wp2_with (fail)
  refine p1.mono ?_
  rintro e w' ⟨rfl, rfl⟩
  go_wp2_with (fail)
  refine p2.mono ?_
  rintro e w' ⟨rfl, rfl⟩
  go_wp2_with (fail)
  refine p3.mono ?_
  rintro e w' ⟨rfl, rfl⟩
  clear p1 p2 p3
  go_upto_block 0 with (fail)
  have hb1 := below_more (Below.refl w.heap.size w) (Nat.le_refl _) (.cells #[.int .i64 (x + y + z + 2), .int .i64 (x + y + z + 2), .int .i64 x, .int .i64 (x + y)] 34)
  have hb2 := below_more hb1 (Nat.le_refl _) (.cells (ptC false (some ⟨w.heap.size, 0, none⟩) 2 2) 24)
  have hN : Spans ((w.alloc (.cells #[.int .i64 (x + y + z + 2), .int .i64 (x + y + z + 2), .int .i64 x, .int .i64 (x + y)] 34)).alloc (.cells (ptC false (some ⟨w.heap.size, 0, none⟩) 2 2) 24)) (some ⟨w.heap.size, 0, none⟩) 2 [(x + y + z + 2, x + y + z + 2), (x, x + y)] := by
    refine ⟨Nat.le_refl _, .inr ⟨_, _, rfl, by simp; omega, fun j n hj => ?_⟩⟩
    match j, hj with
    | 0, hj => cases hj; exact ⟨by simp, by simp⟩
    | 1, hj => cases hj; exact ⟨by simp, by simp⟩
    | j + 2, hj => cases hj
  have HN := hidB hN
  have HB := hidB hb2
  clear hb1 hb2 hN hl
  generalize hW0 : (w.alloc (.cells #[.int .i64 (x + y + z + 2), .int .i64 (x + y + z + 2), .int .i64 x, .int .i64 (x + y)] 34)).alloc (.cells (ptC false (some ⟨w.heap.size, 0, none⟩) 2 2) 24) = W0 at HN HB ⊢
  have zp : w.heap.size + 1 < W0.heap.size := by rw [← hW0]; simp
  have e0 : W0.cell? ⟨w.heap.size + 1, 0, none⟩ = some (.bool false) := by rw [← hW0]; simp
  have e1 : W0.cell? ⟨w.heap.size + 1, 1, none⟩ = some (.slice (some ⟨w.heap.size, 0, none⟩) 2 2) := by rw [← hW0]; simp
  clear hW0
  go_cut [12] from 40 to 112 (fun s12 wx => s12 = .string (sL WT) ∧ Hid (Below W0.heap.size W0 wx))
  case first =>
    by_cases zz : z = 0
    · by_cases yy : y = 0
      · have a1 := fun w => addL (P := Tryd.prog) [91] X (by simp) (by omega) w
        have a2 := fun w => addL (P := Tryd.prog) ([91] ++ X) [45] (by simp; omega) (by simp) w
        have a3 := fun w => addL (P := Tryd.prog) ([91] ++ X ++ [45]) S (by simp; omega) (by omega) w
        have a4 := fun w => addL (P := Tryd.prog) ([91] ++ X ++ [45] ++ S) [44] (by simp; omega) (by simp) w
        have a5 := fun w => addL (P := Tryd.prog) ([91] ++ X ++ [45] ++ S ++ [44]) Y (by simp; omega) (by omega) w
        have a6 := fun w => addL (P := Tryd.prog) ([91] ++ X ++ [45] ++ S ++ [44] ++ Y) [93] (by simp; omega) (by simp) w
        have b2 := fun w => addL (P := Tryd.prog) ([91] ++ X) [44] (by simp; omega) (by simp) w
        have b3 := fun w => addL (P := Tryd.prog) ([91] ++ X ++ [44]) Y (by simp; omega) (by omega) w
        have b4 := fun w => addL (P := Tryd.prog) ([91] ++ X ++ [44] ++ Y) [93] (by simp; omega) (by simp) w
        rw [if_pos (by omega)] at HT2
        rw [show ([91] : List UInt8) ++ (X ++ [44] ++ Y) ++ [93] = [91] ++ X ++ [44] ++ Y ++ [93] by simp] at HT2
        rw [show sL [91] = ⟨#[91]⟩ from rfl] at a1
        rw [show sL [45] = ⟨#[45]⟩ from rfl] at a2
        rw [show sL [44] = ⟨#[44]⟩ from rfl] at a4
        rw [show sL [93] = ⟨#[93]⟩ from rfl] at a6
        rw [show sL [44] = ⟨#[44]⟩ from rfl] at b2
        rw [show sL [93] = ⟨#[93]⟩ from rfl] at b4
        generalize [91] ++ X ++ [44] ++ Y ++ [93] = U4 at b4 HT2
        generalize [91] ++ X ++ [44] ++ Y = U3 at b3 b4
        generalize [91] ++ X ++ [44] = U2 at b2 b3
        generalize [91] ++ X ++ [45] ++ S ++ [44] ++ Y ++ [93] = T6 at a6
        generalize [91] ++ X ++ [45] ++ S ++ [44] ++ Y = T5 at a5 a6
        generalize [91] ++ X ++ [45] ++ S ++ [44] = T4 at a4 a5
        generalize [91] ++ X ++ [45] ++ S = T3 at a3 a4
        generalize [91] ++ X ++ [45] = T2 at a2 a3
        generalize [91] ++ X = T1 at a1 a2 b2
        have c0 : (z == 0) = true := by simp; omega
        have c1 : (y == 0) = true := by simp; omega
        have ZY := hidB (And.intro zz yy)
        clear lX lS lY zz yy
        go_wp2_with (fail)
        refine (h1 W0).mono ?_
        rintro e w1 ⟨rfl, hb1⟩
        have HB1 := hidB hb1
        clear hb1
        go_wp2_with (fail)
        refine (h2 w1).mono ?_
        rintro e w2 ⟨rfl, hb2⟩
        have HB2 := hidB (HB1.out.trans (hb2.mono HB1.out.size))
        clear hb2
        go_wp2_with (fail)
        refine (h3a ZY.out.1 w2).mono ?_
        rintro e w3 ⟨rfl, hb3⟩
        have HB3 := hidB (HB2.out.trans (hb3.mono HB2.out.size))
        clear hb3
        go_wp2_with (fail)
        refine (h1 w3).mono ?_
        rintro e w4 ⟨rfl, hb4⟩
        have HB4 := hidB (HB3.out.trans (hb4.mono HB3.out.size))
        clear hb4
        go_wp2_with (fail)
        refine (h4a ZY.out.2 ZY.out.1 w4).mono ?_
        rintro e w5 ⟨rfl, hb5⟩
        have HB5 := hidB (HB4.out.trans (hb5.mono HB4.out.size))
        clear hb5
        go_wp2_with (fail)
        go_meet
        exact ⟨by rw [HT2], HB5.out⟩
      · have a1 := fun w => addL (P := Tryd.prog) [91] X (by simp) (by omega) w
        have a2 := fun w => addL (P := Tryd.prog) ([91] ++ X) [45] (by simp; omega) (by simp) w
        have a3 := fun w => addL (P := Tryd.prog) ([91] ++ X ++ [45]) S (by simp; omega) (by omega) w
        have a4 := fun w => addL (P := Tryd.prog) ([91] ++ X ++ [45] ++ S) [44] (by simp; omega) (by simp) w
        have a5 := fun w => addL (P := Tryd.prog) ([91] ++ X ++ [45] ++ S ++ [44]) Y (by simp; omega) (by omega) w
        have a6 := fun w => addL (P := Tryd.prog) ([91] ++ X ++ [45] ++ S ++ [44] ++ Y) [93] (by simp; omega) (by simp) w
        rw [if_neg (by omega)] at HT2
        rw [show ([91] : List UInt8) ++ (X ++ [45] ++ S ++ [44] ++ Y) ++ [93] = [91] ++ X ++ [45] ++ S ++ [44] ++ Y ++ [93] by simp] at HT2
        rw [show sL [91] = ⟨#[91]⟩ from rfl] at a1
        rw [show sL [45] = ⟨#[45]⟩ from rfl] at a2
        rw [show sL [44] = ⟨#[44]⟩ from rfl] at a4
        rw [show sL [93] = ⟨#[93]⟩ from rfl] at a6
        generalize [91] ++ X ++ [45] ++ S ++ [44] ++ Y ++ [93] = T6 at a6 HT2
        generalize [91] ++ X ++ [45] ++ S ++ [44] ++ Y = T5 at a5 a6
        generalize [91] ++ X ++ [45] ++ S ++ [44] = T4 at a4 a5
        generalize [91] ++ X ++ [45] ++ S = T3 at a3 a4
        generalize [91] ++ X ++ [45] = T2 at a2 a3
        generalize [91] ++ X = T1 at a1 a2
        have c0 : (z == 0) = true := by simp; omega
        have c1 : (y == 0) = false := by simp; omega
        have ZY := hidB (And.intro zz yy)
        clear lX lS lY zz yy
        go_wp2_with (fail)
        refine (h1 W0).mono ?_
        rintro e w1 ⟨rfl, hb1⟩
        have HB1 := hidB hb1
        clear hb1
        go_wp2_with (fail)
        refine (h2 w1).mono ?_
        rintro e w2 ⟨rfl, hb2⟩
        have HB2 := hidB (HB1.out.trans (hb2.mono HB1.out.size))
        clear hb2
        go_wp2_with (fail)
        refine (h3a ZY.out.1 w2).mono ?_
        rintro e w3 ⟨rfl, hb3⟩
        have HB3 := hidB (HB2.out.trans (hb3.mono HB2.out.size))
        clear hb3
        go_wp2_with (fail)
        go_meet
        exact ⟨by rw [HT2], HB3.out⟩
    · by_cases yy : y = 0
      · have a1 := fun w => addL (P := Tryd.prog) [91] X (by simp) (by omega) w
        have a2 := fun w => addL (P := Tryd.prog) ([91] ++ X) [45] (by simp; omega) (by simp) w
        have a3 := fun w => addL (P := Tryd.prog) ([91] ++ X ++ [45]) S (by simp; omega) (by omega) w
        have a4 := fun w => addL (P := Tryd.prog) ([91] ++ X ++ [45] ++ S) [44] (by simp; omega) (by simp) w
        have a5 := fun w => addL (P := Tryd.prog) ([91] ++ X ++ [45] ++ S ++ [44]) Y (by simp; omega) (by omega) w
        have a6 := fun w => addL (P := Tryd.prog) ([91] ++ X ++ [45] ++ S ++ [44] ++ Y) [93] (by simp; omega) (by simp) w
        have b2 := fun w => addL (P := Tryd.prog) ([91] ++ X) [44] (by simp; omega) (by simp) w
        have b3 := fun w => addL (P := Tryd.prog) ([91] ++ X ++ [44]) Y (by simp; omega) (by omega) w
        have b4 := fun w => addL (P := Tryd.prog) ([91] ++ X ++ [44] ++ Y) [93] (by simp; omega) (by simp) w
        rw [if_pos (by omega)] at HT2
        rw [show ([91] : List UInt8) ++ (X ++ [44] ++ Y) ++ [93] = [91] ++ X ++ [44] ++ Y ++ [93] by simp] at HT2
        rw [show sL [91] = ⟨#[91]⟩ from rfl] at a1
        rw [show sL [45] = ⟨#[45]⟩ from rfl] at a2
        rw [show sL [44] = ⟨#[44]⟩ from rfl] at a4
        rw [show sL [93] = ⟨#[93]⟩ from rfl] at a6
        rw [show sL [44] = ⟨#[44]⟩ from rfl] at b2
        rw [show sL [93] = ⟨#[93]⟩ from rfl] at b4
        generalize [91] ++ X ++ [44] ++ Y ++ [93] = U4 at b4 HT2
        generalize [91] ++ X ++ [44] ++ Y = U3 at b3 b4
        generalize [91] ++ X ++ [44] = U2 at b2 b3
        generalize [91] ++ X ++ [45] ++ S ++ [44] ++ Y ++ [93] = T6 at a6
        generalize [91] ++ X ++ [45] ++ S ++ [44] ++ Y = T5 at a5 a6
        generalize [91] ++ X ++ [45] ++ S ++ [44] = T4 at a4 a5
        generalize [91] ++ X ++ [45] ++ S = T3 at a3 a4
        generalize [91] ++ X ++ [45] = T2 at a2 a3
        generalize [91] ++ X = T1 at a1 a2 b2
        have c0 : (z == 0) = false := by simp; omega
        have c1 : (y == 0) = true := by simp; omega
        have ZY := hidB (And.intro zz yy)
        clear lX lS lY zz yy
        go_wp2_with (fail)
        refine (h1 W0).mono ?_
        rintro e w1 ⟨rfl, hb1⟩
        have HB1 := hidB hb1
        clear hb1
        go_wp2_with (fail)
        refine (h2 w1).mono ?_
        rintro e w2 ⟨rfl, hb2⟩
        have HB2 := hidB (HB1.out.trans (hb2.mono HB1.out.size))
        clear hb2
        go_wp2_with (fail)
        refine (h3 w2).mono ?_
        rintro e w3 ⟨rfl, hb3⟩
        have HB3 := hidB (HB2.out.trans (hb3.mono HB2.out.size))
        clear hb3
        go_wp2_with (fail)
        refine (h1 w3).mono ?_
        rintro e w4 ⟨rfl, hb4⟩
        have HB4 := hidB (HB3.out.trans (hb4.mono HB3.out.size))
        clear hb4
        go_wp2_with (fail)
        refine (h4 ZY.out.2 w4).mono ?_
        rintro e w5 ⟨rfl, hb5⟩
        have HB5 := hidB (HB4.out.trans (hb5.mono HB4.out.size))
        clear hb5
        go_wp2_with (fail)
        go_meet
        exact ⟨by rw [HT2], HB5.out⟩
      · have a1 := fun w => addL (P := Tryd.prog) [91] X (by simp) (by omega) w
        have a2 := fun w => addL (P := Tryd.prog) ([91] ++ X) [45] (by simp; omega) (by simp) w
        have a3 := fun w => addL (P := Tryd.prog) ([91] ++ X ++ [45]) S (by simp; omega) (by omega) w
        have a4 := fun w => addL (P := Tryd.prog) ([91] ++ X ++ [45] ++ S) [44] (by simp; omega) (by simp) w
        have a5 := fun w => addL (P := Tryd.prog) ([91] ++ X ++ [45] ++ S ++ [44]) Y (by simp; omega) (by omega) w
        have a6 := fun w => addL (P := Tryd.prog) ([91] ++ X ++ [45] ++ S ++ [44] ++ Y) [93] (by simp; omega) (by simp) w
        rw [if_neg (by omega)] at HT2
        rw [show ([91] : List UInt8) ++ (X ++ [45] ++ S ++ [44] ++ Y) ++ [93] = [91] ++ X ++ [45] ++ S ++ [44] ++ Y ++ [93] by simp] at HT2
        rw [show sL [91] = ⟨#[91]⟩ from rfl] at a1
        rw [show sL [45] = ⟨#[45]⟩ from rfl] at a2
        rw [show sL [44] = ⟨#[44]⟩ from rfl] at a4
        rw [show sL [93] = ⟨#[93]⟩ from rfl] at a6
        generalize [91] ++ X ++ [45] ++ S ++ [44] ++ Y ++ [93] = T6 at a6 HT2
        generalize [91] ++ X ++ [45] ++ S ++ [44] ++ Y = T5 at a5 a6
        generalize [91] ++ X ++ [45] ++ S ++ [44] = T4 at a4 a5
        generalize [91] ++ X ++ [45] ++ S = T3 at a3 a4
        generalize [91] ++ X ++ [45] = T2 at a2 a3
        generalize [91] ++ X = T1 at a1 a2
        have c0 : (z == 0) = false := by simp; omega
        have c1 : (y == 0) = false := by simp; omega
        have ZY := hidB (And.intro zz yy)
        clear lX lS lY zz yy
        go_wp2_with (fail)
        refine (h1 W0).mono ?_
        rintro e w1 ⟨rfl, hb1⟩
        have HB1 := hidB hb1
        clear hb1
        go_wp2_with (fail)
        refine (h2 w1).mono ?_
        rintro e w2 ⟨rfl, hb2⟩
        have HB2 := hidB (HB1.out.trans (hb2.mono HB1.out.size))
        clear hb2
        go_wp2_with (fail)
        refine (h3 w2).mono ?_
        rintro e w3 ⟨rfl, hb3⟩
        have HB3 := hidB (HB2.out.trans (hb3.mono HB2.out.size))
        clear hb3
        go_wp2_with (fail)
        go_meet
        exact ⟨by rw [HT2], HB3.out⟩
  case rest =>
    obtain ⟨rfl, HC⟩ := hcut
    clear h1 h2 h3 h3a h4 h4a HT2 lX lS lY
    have hl3 := lit_span3 wc (x + y + 1) 65535 0 x x (x + y)
    have hb1 := below_more (Below.refl wc.heap.size wc) (Nat.le_refl _) (.cells #[.int .i64 (x + y + 1), .int .i64 65535, .int .i64 0, .int .i64 x, .int .i64 x, .int .i64 (x + y)] 34)
    have hb2 := below_more hb1 (Nat.le_refl _) (.cells (ptC false (some ⟨wc.heap.size, 0, none⟩) 3 3) 24)
    have hQ : Spans ((wc.alloc (.cells #[.int .i64 (x + y + 1), .int .i64 65535, .int .i64 0, .int .i64 x, .int .i64 x, .int .i64 (x + y)] 34)).alloc (.cells (ptC false (some ⟨wc.heap.size, 0, none⟩) 3 3) 24)) (some ⟨wc.heap.size, 0, none⟩) 3 [(x + y + 1, 65535), (0, x), (x, x + y)] := by
      refine ⟨Nat.le_refl _, .inr ⟨_, _, rfl, by simp; omega, fun j n hj => ?_⟩⟩
      match j, hj with
      | 0, hj => cases hj; exact ⟨by simp, by simp⟩
      | 1, hj => cases hj; exact ⟨by simp, by simp⟩
      | 2, hj => cases hj; exact ⟨by simp, by simp⟩
      | j + 3, hj => cases hj
    go_upto_region 14 with (fail)
    generalize hW1 : (wc.alloc (.cells #[.int .i64 (x + y + 1), .int .i64 65535, .int .i64 0, .int .i64 x, .int .i64 x, .int .i64 (x + y)] 34)).alloc (.cells (ptC false (some ⟨wc.heap.size, 0, none⟩) 3 3) 24) = W1 at hb2 hQ ⊢
    have q0 : W1.cell? ⟨wc.heap.size + 1, 0, none⟩ = some (.bool false) := by rw [← hW1]; simp
    have q1 : W1.cell? ⟨wc.heap.size + 1, 1, none⟩ = some (.slice (some ⟨wc.heap.size, 0, none⟩) 3 3) := by rw [← hW1]; simp
    have zq : wc.heap.size + 1 < W1.heap.size := by rw [← hW1]; simp
    clear hW1
    have hbW := HC.out.trans (hb2.mono HC.out.size)
    have zp1 : w.heap.size + 1 < W1.heap.size := Nat.lt_of_lt_of_le zp hbW.size
    have f0 := (hbW.cell (p := ⟨w.heap.size + 1, 0, none⟩) zp).trans e0
    have f1 := (hbW.cell (p := ⟨w.heap.size + 1, 1, none⟩) zp).trans e1
    have HB1 := hidB (HB.out.trans (hbW.mono HB.out.size))
    have ht1 := ptText false _ _ _ W1 (HT.out.below HB1.out) (HN.out.below hbW) (by simp)
    rw [← HWT.out] at ht1
    have t2 := fun (W : World) (hW : Below W1.heap.size W1 W) => ptText false _ _ _ W (HT.out.below (HB1.out.trans (hW.mono HB1.out.size))) (hQ.below hW) (by simp)
    have t3 := fun (W : World) (hW : Below W1.heap.size W1 W) => ptClean false _ _ _ W (hQ.below hW) (by simp)
    rw [HQQ.out.1, show sL [97, 110, 121] = ⟨#[97, 110, 121]⟩ from rfl] at t2
    rw [HQQ.out.2] at t3
    simp only [List.length_cons, List.length_nil, Nat.zero_add, Nat.reduceAdd] at ht1 t2 t3
    generalize (checkS [(x + y + 1, 65535), (0, x), (x, x + y)] && false) = rb at t3
    have t3 : ∀ W, Below W1.heap.size W1 W → Calls Tryd.prog 11 #[.agg (ptC false (some ⟨wc.heap.size, 0, none⟩) 3 3)] W fun e w' => ∃ p' c', e = .returned (.agg #[.bool rb, .slice p' 0 c']) ∧ Below W.heap.size W w' := fun W hW => (t3 W hW).mono (by rintro e w' ⟨p', c', h1, _, h3⟩; exact ⟨p', c', h1, h3⟩)
    have hfld := fun v w => fld1 rb v w
    have t4 := fun (W : World) (hW : Below W1.heap.size W1 W) => ptAwake W (HT.out.below (HB1.out.trans (hW.mono HB1.out.size)))
    clear hb1 hb2 hQ hbW e0 e1 hl3 HN HWT HQQ
    go_wp2_with (fail)
    refine ht1.mono ?_
    rintro e w2 ⟨rfl, hb2⟩
    have r0 := (hb2.cell (p := ⟨wc.heap.size + 1, 0, none⟩) zq).trans q0
    have r1 := (hb2.cell (p := ⟨wc.heap.size + 1, 1, none⟩) zq).trans q1
    have t2 := t2 w2 hb2
    have H2 := hidB hb2
    clear ht1 hb2
    go_wp2_with (fail)
    refine t2.mono ?_
    rintro e w3 ⟨rfl, hb3⟩
    have H3 := hidB (H2.out.trans (hb3.mono H2.out.size))
    have s0 := (H3.out.cell (p := ⟨wc.heap.size + 1, 0, none⟩) zq).trans q0
    have s1 := (H3.out.cell (p := ⟨wc.heap.size + 1, 1, none⟩) zq).trans q1
    have t3 := t3 w3 H3.out
    clear t2 hb3 r0 r1
    go_wp2_with (fail)
    refine t3.mono ?_
    rintro e w4 ⟨p', c', rfl, hb4⟩
    have H4 := hidB (H3.out.trans (hb4.mono H3.out.size))
    have t4 := t4 w4 H4.out
    clear t3 hb4 s0 s1
    go_wp2_with (fail)
    refine t4.mono ?_
    rintro e w5 ⟨rfl, hb5⟩
    have H5 := hidB (H4.out.trans (hb5.mono H4.out.size))
    clear t4 hb5
    go_wp2_with (fail)
    go_ret
    exact ⟨rfl, HB1.out.trans (H5.out.mono HB1.out.size)⟩
/-! ### THE ROW's STEP: variables laid, a tied card -/
set_option maxRecDepth 100000 in
theorem lifted (os : Os) (started : os.Started) (H : Type) (enc : TypeId × Value → H) :
    ReturnsInHanded {} Tryd.checked os 6 .any (fun w args => (Rows.portsTextsSpec.pre enc Tryd.prog Tryd.f6 Rows.portsTextsRow.domain false w args ∧ laidMetH Tryd.prog Rows.portsTextsRow.laid w) ∧ sizedMet enc Tryd.prog Tryd.f6 (OpenSpec.ofChange Rows.portsTextsSpec) false w args)
      (Rows.portsTextsSpec.post enc Tryd.prog Tryd.f6 false true false false) := by
  refine returnsInHanded_of_change_and (C := Tryd.checked) (X := fun w _ => laidMetH Tryd.prog Rows.portsTextsRow.laid w) (fun _ _ _ hh h => h.of_heap hh) own started (by kernel_rfl) Tryd.func6
    (ChangeSpec.witness_shaped (enc := enc) (C := Tryd.checked) (os := os) (X := fun w _ => laidMetH Tryd.prog Rows.portsTextsRow.laid w) false (World.laidAll Tryd.prog os Rows.portsTextsRow.laid) #[.int .i64 0, .int .i64 0, .int .i64 0] 8 (World.laidAll_os _ _ _)
      (World.shaped_of_ZipB (by kernel_rfl) (by kernel_rfl)) (by kernel_rfl) (by kernel_rfl) (by kernel_rfl)
      (by rw [MakeChecks.laidMetH_plain _ _ _ (by kernel_rfl)]; exact laidMet_laidAll _ (by kernel_rfl) (by kernel_rfl))) ?_
  intro W base args ds gs before hval0 hW _ _ hL _
  have hval : ∀ (j : Nat) t v, Tryd.f6.params[j]? = some t → args[j]? = some v → Value.okWide Tryd.prog W .any base t v := hval0
  have hW' := hW
  obtain ⟨p, q, hA0, hV, rfl, hfz, hnd⟩ := hW
  have hA : DataW.TrodAll enc Tryd.prog W 0 (fun _ => true) true Tryd.f6.params.toList args.toList ds p := hA0
  have hB := fun (W' : World) (bel : Below W.heap.size W W') => below_trodAll_of laidOut bel _ (by kernel_rfl) hA
  rw [Tryd.params6] at hA hval
  obtain ⟨v0, vs0, d0, ds0, p0, q0, hargs, rfl, rfl, h0, r0⟩ := trodAll_cons hA
  obtain ⟨v1, vs1, d1, ds1, p1, q1, rfl, rfl, rfl, h1, r1⟩ := trodAll_cons r0
  obtain ⟨v2, vs2, d2, ds2, p2, q2, rfl, rfl, rfl, h2, r2⟩ := trodAll_cons r1
  obtain ⟨rfl, rfl, rfl⟩ := trodAll_nil r2
  obtain rfl : args = #[v0, v1, v2] := by cases args; simp_all
  obtain ⟨rfl, rfl⟩ := trodVars_none hV
  obtain ⟨a0, rfl, rfl, rfl, w0⟩ := open_int Tryd.underlying3 (hval 0 3 v0 rfl rfl) h0
  obtain ⟨a1, rfl, rfl, rfl, w1⟩ := open_int Tryd.underlying3 (hval 1 3 v1 rfl rfl) h1
  obtain ⟨a2, rfl, rfl, rfl, w2⟩ := open_int Tryd.underlying3 (hval 2 3 v2 rfl rfl) h2
  clear hA0 hval0
  refine (walk a0 w0 a1 w1 a2 w2 W (tab_pow10 hL)).mono fun e W' ⟨he, bel⟩ => ?_
  subst he
  exact ⟨_, rfl, _, _, _, [], _, [], hW', trodAll_mk1 (shut_bool Tryd.underlying4 _), hB W' bel, rfl, bel.frame _, fun h => by cases h⟩

theorem over : Rows.PortsTextsSaid :=
  OpenClaim.holds_of_wide 6 Tryd.f6 rfl rfl rfl rfl rfl rfl rfl ⟨rfl, rfl, rfl, rfl, rfl⟩ rfl rfl rfl rfl rfl (by kernel_rfl) Tryd.func6 (by kernel_rfl)
    (of_decide_eq_true (by kernel_rfl)) (by unfold Func.isWrapper; first | (rw [if_pos (by decide +kernel)]; kernel_rfl) | (rw [if_neg (by decide +kernel)]; exact ⟨rfl, rfl⟩))
    (fun os started H enc _ => lifted os started H enc)

/-- THE STATEMENT: the card -/
theorem proved : Rows.PortsTextsCardSaid :=
  Claim7.holds_tied_plain_at .later [] [.data, .data, .data] true (true, "8f90354d35c42e9b57447291d953c5ed6eaefff3abf76116990a3b0ce82ff6be") false over (fun _ h => by cases h) (by kernel_rfl) (fun _ h => by cases h) portsTexts_row_tie rfl ⟨rfl, rfl⟩ (by kernel_rfl) rfl
    (fun f fn hf hfn => by
      obtain rfl : f = 6 := Option.some.inj ((show Tryd.prog.funcNamed "rampart/rampartlaw10.PortsTexts" = some 6 by kernel_rfl).symm.trans hf) |>.symm
      obtain rfl : fn = Tryd.f6 := (Option.some.inj (Tryd.func6.symm.trans hfn)).symm
      exact ⟨by kernel_rfl, fun j t ht => by
        rw [Tryd.params6] at ht
        have hm : t ∈ [3, 3, 3] := by simpa using Array.mem_of_getElem? ht
        have hall : ([3, 3, 3].all fun u => !Tryd.prog.wantsStandIn u) = true := by kernel_rfl
        exact (show Tryd.prog.wantsStandIn t = false by simpa using List.all_eq_true.1 hall t hm)⟩)
    (by kernel_rfl)
#print axioms proved
end Go.Proofs.YtgiecmgopibcnaaDoor.portsTexts
