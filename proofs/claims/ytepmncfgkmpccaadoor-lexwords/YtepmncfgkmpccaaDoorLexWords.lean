/- LexWords: for any two numbers: words as long as may be, numbers as great as may be, and one beyond; no condition. -/
import Derived.Test.YtepmncfgkmpccaaDoorLxSide
import Derived.Test.YtepmncfgkmpccaaDoorLxAw
import Derived.Test.YtepmncfgkmpccaaDoorRefCi3
import Derived.Test.YtepmncfgkmpccaaDoorCalm
import Derived.BigQuiet
import Derived.WalkKit
import Derived.Test.YtepmncfgkmpccaaDoorLift
import Derived.Test.YtepmncfgkmpccaaDoorLeafs
import Derived.Test.YtepmncfgkmpccaaDoorTie
import Derived.Test.YtepmncfgkmpccaaDoorCards
import Derived.LaidMore
import Derived.Lay
import Derived.SevenTiedAt
import Derived.Stop.Joined
namespace Go.Proofs.YtepmncfgkmpccaaDoor.lexWords
open Go.ChangeShapes Go.WideShapes Go.ChangeAt Go.RowKit
set_option linter.unusedVariables false
set_option maxRecDepth 20000
def wl : List UInt8 := [97, 66, 99, 68, 101, 70, 103, 72, 105, 74, 48, 49, 50, 51, 52, 53, 54, 55, 56, 57, 107, 76, 109, 78]
def sw (k : Nat) : List UInt8 := ([97, 98, 99, 100, 101, 102, 103, 104, 105, 106, 48, 49, 50, 51, 52, 53, 54, 55, 56, 57, 107, 108, 109, 110] : List UInt8).take k
def tx1 (k : Nat) : List UInt8 := [36] ++ wl.take k ++ [32] ++ wl.take k
def an1 (k : Nat) : Lx.Ans := if k ≤ 20 then ⟨[⟨5, sw k, 0, 1⟩, ⟨1, sw k, 0, 1⟩], 0, 0⟩ else ⟨[], 1, 6⟩
set_option maxRecDepth 100000 in
theorem words_is : ∀ k : Nat, k < 25 → 0 < k → Lx.allP (tx1 k) = an1 k
  | 0, _, h => absurd h (by omega)
  | 1, _, _ => by kernel_rfl
  | 2, _, _ => by kernel_rfl
  | 3, _, _ => by kernel_rfl
  | 4, _, _ => by kernel_rfl
  | 5, _, _ => by kernel_rfl
  | 6, _, _ => by kernel_rfl
  | 7, _, _ => by kernel_rfl
  | 8, _, _ => by kernel_rfl
  | 9, _, _ => by kernel_rfl
  | 10, _, _ => by kernel_rfl
  | 11, _, _ => by kernel_rfl
  | 12, _, _ => by kernel_rfl
  | 13, _, _ => by kernel_rfl
  | 14, _, _ => by kernel_rfl
  | 15, _, _ => by kernel_rfl
  | 16, _, _ => by kernel_rfl
  | 17, _, _ => by kernel_rfl
  | 18, _, _ => by kernel_rfl
  | 19, _, _ => by kernel_rfl
  | 20, _, _ => by kernel_rfl
  | 21, _, _ => by kernel_rfl
  | 22, _, _ => by kernel_rfl
  | 23, _, _ => by kernel_rfl
  | 24, _, _ => by kernel_rfl
  | k + 25, h, _ => absurd h (by omega)
def dg (v : Nat) : List UInt8 := match v with
  | 0 => [57, 57, 57, 57, 57, 57, 57, 57, 57, 57, 57, 48]
  | 1 => [57, 57, 57, 57, 57, 57, 57, 57, 57, 57, 57, 49]
  | 2 => [57, 57, 57, 57, 57, 57, 57, 57, 57, 57, 57, 50]
  | 3 => [57, 57, 57, 57, 57, 57, 57, 57, 57, 57, 57, 51]
  | 4 => [57, 57, 57, 57, 57, 57, 57, 57, 57, 57, 57, 52]
  | 5 => [57, 57, 57, 57, 57, 57, 57, 57, 57, 57, 57, 53]
  | 6 => [57, 57, 57, 57, 57, 57, 57, 57, 57, 57, 57, 54]
  | 7 => [57, 57, 57, 57, 57, 57, 57, 57, 57, 57, 57, 55]
  | 8 => [57, 57, 57, 57, 57, 57, 57, 57, 57, 57, 57, 56]
  | 9 => [57, 57, 57, 57, 57, 57, 57, 57, 57, 57, 57, 57]
  | 10 => [49, 48, 48, 48, 48, 48, 48, 48, 48, 48, 48, 48, 48]
  | 11 => [49, 48, 48, 48, 48, 48, 48, 48, 48, 48, 48, 48, 49]
  | 12 => [49, 48, 48, 48, 48, 48, 48, 48, 48, 48, 48, 48, 50]
  | 13 => [49, 48, 48, 48, 48, 48, 48, 48, 48, 48, 48, 48, 51]
  | 14 => [49, 48, 48, 48, 48, 48, 48, 48, 48, 48, 48, 48, 52]
  | 15 => [49, 48, 48, 48, 48, 48, 48, 48, 48, 48, 48, 48, 53]
  | 16 => [49, 48, 48, 48, 48, 48, 48, 48, 48, 48, 48, 48, 54]
  | 17 => [49, 48, 48, 48, 48, 48, 48, 48, 48, 48, 48, 48, 55]
  | 18 => [49, 48, 48, 48, 48, 48, 48, 48, 48, 48, 48, 48, 56]
  | _ => [49, 48, 48, 48, 48, 48, 48, 48, 48, 48, 48, 48, 57]
set_option maxRecDepth 100000 in
theorem dec_is : ∀ v : Nat, v < 20 → Lib.decDigits (999999999990 + v) = dg v
  | 0, _ => by simp [Lib.decDigits, dg]
  | 1, _ => by simp [Lib.decDigits, dg]
  | 2, _ => by simp [Lib.decDigits, dg]
  | 3, _ => by simp [Lib.decDigits, dg]
  | 4, _ => by simp [Lib.decDigits, dg]
  | 5, _ => by simp [Lib.decDigits, dg]
  | 6, _ => by simp [Lib.decDigits, dg]
  | 7, _ => by simp [Lib.decDigits, dg]
  | 8, _ => by simp [Lib.decDigits, dg]
  | 9, _ => by simp [Lib.decDigits, dg]
  | 10, _ => by simp [Lib.decDigits, dg]
  | 11, _ => by simp [Lib.decDigits, dg]
  | 12, _ => by simp [Lib.decDigits, dg]
  | 13, _ => by simp [Lib.decDigits, dg]
  | 14, _ => by simp [Lib.decDigits, dg]
  | 15, _ => by simp [Lib.decDigits, dg]
  | 16, _ => by simp [Lib.decDigits, dg]
  | 17, _ => by simp [Lib.decDigits, dg]
  | 18, _ => by simp [Lib.decDigits, dg]
  | 19, _ => by simp [Lib.decDigits, dg]
  | v + 20, h => absurd h (by omega)
def an2 (v : Nat) : Lx.Ans := if v < 10 then ⟨[⟨2, [], ((999999999990 + v : Nat) : Int), 1⟩, ⟨4, [59], 0, 1⟩], 0, 0⟩ else ⟨[], 1, 6⟩
set_option maxRecDepth 100000 in
theorem nums_is : ∀ v : Nat, v < 20 → Lx.allP ([48, 48] ++ dg v ++ [59]) = an2 v
  | 0, _ => by kernel_rfl
  | 1, _ => by kernel_rfl
  | 2, _ => by kernel_rfl
  | 3, _ => by kernel_rfl
  | 4, _ => by kernel_rfl
  | 5, _ => by kernel_rfl
  | 6, _ => by kernel_rfl
  | 7, _ => by kernel_rfl
  | 8, _ => by kernel_rfl
  | 9, _ => by kernel_rfl
  | 10, _ => by kernel_rfl
  | 11, _ => by kernel_rfl
  | 12, _ => by kernel_rfl
  | 13, _ => by kernel_rfl
  | 14, _ => by kernel_rfl
  | 15, _ => by kernel_rfl
  | 16, _ => by kernel_rfl
  | 17, _ => by kernel_rfl
  | 18, _ => by kernel_rfl
  | 19, _ => by kernel_rfl
  | v + 20, h => absurd h (by omega)
set_option maxRecDepth 100000 in
theorem x_is : Lx.allP [53, 120] = ⟨[], 1, 6⟩ := by kernel_rfl
theorem rcDigits (v : Nat) (z : Int) (hz : z = (v : Int)) (hv : v ≤ 9223372036854775807) (w : World) :
    Calls Tryd.prog 6 #[.int .i64 z] w fun e w' => e = .returned (.string (sL (Lib.decDigits v))) ∧ Below w.heap.size w w' := by
  subst hz
  have hd := fun w => rcDec v hv w
  generalize Lib.decDigits v = D at hd ⊢
  go_enter Tryd.func6, Tryd.ntmps6
  go_wp2_with (fail)
  refine (hd _).mono ?_
  rintro e w' ⟨rfl, hb⟩
  go_wp2
  go_ret
  exact ⟨rfl, hb⟩
theorem cell_lt {w : World} {p : Addr} {v : Value} (h : w.cell? p = some v) : p.block < w.heap.size := by
  by_cases hl : p.block < w.heap.size
  · exact hl
  · have : w.heap[p.block]? = none := Array.getElem?_eq_none (by omega)
    simp [World.cell?, this] at h
theorem cut_is : ∀ k : Nat, k < 25 → (⟨#[97, 66, 99, 68, 101, 70, 103, 72, 105, 74, 48, 49, 50, 51, 52, 53, 54, 55, 56, 57, 107, 76, 109, 78]⟩ : ByteArray).extract 0 k = sL (wl.take k)
  | 0, _ => by rfl
  | 1, _ => by rfl
  | 2, _ => by rfl
  | 3, _ => by rfl
  | 4, _ => by rfl
  | 5, _ => by rfl
  | 6, _ => by rfl
  | 7, _ => by rfl
  | 8, _ => by rfl
  | 9, _ => by rfl
  | 10, _ => by rfl
  | 11, _ => by rfl
  | 12, _ => by rfl
  | 13, _ => by rfl
  | 14, _ => by rfl
  | 15, _ => by rfl
  | 16, _ => by rfl
  | 17, _ => by rfl
  | 18, _ => by rfl
  | 19, _ => by rfl
  | 20, _ => by rfl
  | 21, _ => by rfl
  | 22, _ => by rfl
  | 23, _ => by rfl
  | 24, _ => by rfl
  | k + 25, h => absurd h (by omega)
theorem sw_zero : ∀ k : Nat, k < 25 → 0 < k → ∀ w : World, (Instr.index 9 (.string ⟨(sw k).toArray⟩) (.int .i64 0)).run Tryd.prog w = .ok (.int .u8 97) w
  | 0, _, h, _ => absurd h (by omega)
  | 1, _, _, w => by kernel_rfl
  | 2, _, _, w => by kernel_rfl
  | 3, _, _, w => by kernel_rfl
  | 4, _, _, w => by kernel_rfl
  | 5, _, _, w => by kernel_rfl
  | 6, _, _, w => by kernel_rfl
  | 7, _, _, w => by kernel_rfl
  | 8, _, _, w => by kernel_rfl
  | 9, _, _, w => by kernel_rfl
  | 10, _, _, w => by kernel_rfl
  | 11, _, _, w => by kernel_rfl
  | 12, _, _, w => by kernel_rfl
  | 13, _, _, w => by kernel_rfl
  | 14, _, _, w => by kernel_rfl
  | 15, _, _, w => by kernel_rfl
  | 16, _, _, w => by kernel_rfl
  | 17, _, _, w => by kernel_rfl
  | 18, _, _, w => by kernel_rfl
  | 19, _, _, w => by kernel_rfl
  | 20, _, _, w => by kernel_rfl
  | 21, _, _, w => by kernel_rfl
  | 22, _, _, w => by kernel_rfl
  | 23, _, _, w => by kernel_rfl
  | 24, _, _, w => by kernel_rfl
  | k + 25, h, _, _ => absurd h (by omega)
theorem sw_one : ∀ k : Nat, k < 25 → 1 < k → ∀ w : World, (Instr.index 9 (.string ⟨(sw k).toArray⟩) (.int .i64 1)).run Tryd.prog w = .ok (.int .u8 98) w
  | 0, _, h, _ => absurd h (by omega)
  | 1, _, h, _ => absurd h (by omega)
  | 2, _, _, w => by kernel_rfl
  | 3, _, _, w => by kernel_rfl
  | 4, _, _, w => by kernel_rfl
  | 5, _, _, w => by kernel_rfl
  | 6, _, _, w => by kernel_rfl
  | 7, _, _, w => by kernel_rfl
  | 8, _, _, w => by kernel_rfl
  | 9, _, _, w => by kernel_rfl
  | 10, _, _, w => by kernel_rfl
  | 11, _, _, w => by kernel_rfl
  | 12, _, _, w => by kernel_rfl
  | 13, _, _, w => by kernel_rfl
  | 14, _, _, w => by kernel_rfl
  | 15, _, _, w => by kernel_rfl
  | 16, _, _, w => by kernel_rfl
  | 17, _, _, w => by kernel_rfl
  | 18, _, _, w => by kernel_rfl
  | 19, _, _, w => by kernel_rfl
  | 20, _, _, w => by kernel_rfl
  | 21, _, _, w => by kernel_rfl
  | 22, _, _, w => by kernel_rfl
  | 23, _, _, w => by kernel_rfl
  | 24, _, _, w => by kernel_rfl
  | k + 25, h, _, _ => absurd h (by omega)
theorem sw_size (k : Nat) (h : k < 25) : (⟨(sw k).toArray⟩ : ByteArray).size = k := by
  show (sw k).toArray.size = k
  rw [List.size_toArray]
  unfold sw
  rw [List.length_take]
  simp only [List.length_cons, List.length_nil]
  omega
theorem tx_size (k : Nat) (h : k < 25) : (sL (tx1 k)).size ≤ maxLen := by
  rw [sL_size]
  unfold tx1 maxLen
  simp only [List.length_append, List.length_take, List.length_cons, List.length_nil]
  omega
theorem dg_len (v : Nat) (h : v < 20) : (dg v).length ≤ 19 := by
  rw [← dec_is v h]
  exact dec_le _ (by omega)
set_option maxHeartbeats 1000000 in
theorem walk (n : Int) (wn : (Lit.int .i64 n).wf = true) (v : Int) (wv : (Lit.int .i64 v).wf = true) (w : World) :
    Calls Tryd.prog 3 #[.int .i64 n, .int .i64 v] w fun e w' => e = .returned (.bool true) ∧ Below w.heap.size w w' := by
  have p1 := place_any n 24 w (by omega) (by omega)
  have p2 := fun (W : World) => place_any v 20 W (by omega) (by omega)
  obtain ⟨q, hq⟩ : ∃ q, q = n % 24 := ⟨_, rfl⟩
  obtain ⟨y, hy⟩ : ∃ y : Nat, (y : Int) = v % 20 := ⟨(v % 20).toNat, by omega⟩
  rw [← hq] at p1
  rw [← hy] at p2
  obtain ⟨k, hk⟩ : ∃ k : Nat, 1 + q = (k : Int) := ⟨(1 + q).toNat, by omega⟩
  have q1 : 0 ≤ q := by omega
  have q2 : q < 24 := by omega
  have y2 : y < 20 := by omega
  have k1 : 0 < k := by omega
  have k2 : k < 25 := by omega
  have y2i : (y : Int) < 20 := by omega
  clear hq hy wn wv
  have hcut := cut_is k k2
  have lW : (wl.take k).length ≤ 24 := by rw [List.length_take]; unfold wl; simp only [List.length_cons, List.length_nil]; omega
  have c1 := fun u => lexAll_any (sL (tx1 k)) u (tx_size k k2)
  rw [show (sL (tx1 k)).data.toList = tx1 k from rfl, words_is k k2 k1] at c1
  have ldg := dg_len y y2
  have c2 := fun u => lexAll_any (sL ([48, 48] ++ dg y ++ [59])) u (by rw [sL_size]; unfold maxLen; simp only [List.length_append, List.length_cons, List.length_nil]; omega)
  rw [show (sL ([48, 48] ++ dg y ++ [59])).data.toList = [48, 48] ++ dg y ++ [59] from rfl, nums_is y y2] at c2
  have c3 := fun u => lexAll_any ⟨#[53, 120]⟩ u (by decide)
  rw [show (⟨#[53, 120]⟩ : ByteArray).data.toList = [53, 120] from rfl, x_is] at c3
  simp only at c3
  have cD := fun W => rcDigits (999999999990 + y) (999999999990 + (y : Int)) (by omega) (by omega) W
  rw [dec_is y y2] at cD
  have a1 := fun w => addL (P := Tryd.prog) [36] (wl.take k) (by simp) (by omega) w
  have a2 := fun w => addL (P := Tryd.prog) ([36] ++ wl.take k) [32] (by simp; omega) (by simp) w
  have a3 := fun w => addL (P := Tryd.prog) ([36] ++ wl.take k ++ [32]) (wl.take k) (by simp; omega) (by omega) w
  have b1 := fun w => addL (P := Tryd.prog) [48, 48] (dg y) (by simp) (by omega) w
  have b2 := fun w => addL (P := Tryd.prog) ([48, 48] ++ dg y) [59] (by simp; omega) (by simp) w
  rw [show sL [36] = ⟨#[36]⟩ from rfl] at a1
  rw [show sL [32] = ⟨#[32]⟩ from rfl] at a2
  rw [show sL [48, 48] = ⟨#[48, 48]⟩ from rfl] at b1
  rw [show sL [59] = ⟨#[59]⟩ from rfl] at b2
  have s0 := sw_zero k k2 k1
  have s1 := fun h => sw_one k k2 h
  have ssz := sw_size k k2
  change ∀ w, (Op.stringOp .add (sL ([36] ++ wl.take k ++ [32])) (sL (wl.take k))).run Tryd.prog w = .ok (.string (sL (tx1 k))) w at a3
  generalize tx1 k = TX at c1 a3
  generalize [36] ++ wl.take k ++ [32] = T2 at a2 a3
  generalize [36] ++ wl.take k = T1 at a1 a2
  generalize wl.take k = WK at hcut a1 a3 lW
  generalize [48, 48] ++ dg y ++ [59] = U2 at c2 b2
  generalize [48, 48] ++ dg y = U1 at b1 b2
  generalize dg y = DG at cD b1 ldg
  clear lW ldg
  go_enter Tryd.func3, Tryd.ntmps3
  go_wp2_with (fail)
  refine p1.mono ?_
  rintro e w' ⟨rfl, rfl⟩
  clear p1
  have c1w := c1 w
  clear c1
  by_cases h20 : k ≤ 20
  · have h20z : (k : Int) ≤ 20 := by omega
    rw [show an1 k = ⟨[⟨5, sw k, 0, 1⟩, ⟨1, sw k, 0, 1⟩], 0, 0⟩ from if_pos h20] at c1w
    simp only at c1w
    go_wp2_with (fail)
    refine c1w.mono ?_
    rintro e w1 ⟨⟨v1, rfl, ho1⟩, hb1⟩
    obtain ⟨g1, d1, rfl, hg1, hc1⟩ := ho1.at (by simp)
    have e0 : w1.cell? ⟨g1, 0, none⟩ = some (.int .i64 5) := hc1 0 (by simp)
    have e1 : w1.cell? ⟨g1, 1, none⟩ = some (.string ⟨(sw k).toArray⟩) := hc1 1 (by simp)
    have e4 : w1.cell? ⟨g1, 4, none⟩ = some (.int .i64 1) := hc1 4 (by simp)
    have e5 : w1.cell? ⟨g1, 5, none⟩ = some (.string ⟨(sw k).toArray⟩) := hc1 5 (by simp)
    have HB1 := hidB hb1
    generalize (⟨(sw k).toArray⟩ : ByteArray) = S at e1 e5 s0 s1 ssz
    have sszi : (S.size : Int) = (k : Int) := by omega
    have zg : g1 < w1.heap.size := cell_lt e0
    clear c1w hb1 ho1 hc1 h20 a1 a2 a3 hcut ssz
    have hcl := Cls.cell (w := w1)
    have hkk : ((k : Int) != (k : Int)) = false := by simp
    by_cases h1 : 1 < k
    · have h1z : decide ((1 : Int) < (k : Int)) = true := by simp; omega
      have s1 := s1 h1
      clear h1 k1 k2
      go_upto_region 6 with (fail)
      refine wp_region_calm (by kernel_rfl) (by kernel_rfl) (fun hne => ?_)
      repeat (go_big_quiet_step (fail))
      refine wpQuiet_nil ?_
      rintro _ ⟨z, rfl⟩
      have HY := hidB (HB1.out.trans (z.bel.mono HB1.out.size))
      generalize z.val = wy at HY ⊢
      clear hcl hne e0 e1 e4 e5 zg s0 s1 sszi hkk h1z HB1
      have pl := p2 wy
      go_wp2_with (fail)
      refine pl.mono ?_
      rintro e w' ⟨rfl, rfl⟩
      have cd := cD wy
      go_wp2_with (fail)
      refine cd.mono ?_
      rintro e w3 ⟨rfl, hb3⟩
      have H3 := hidB (HY.out.trans (hb3.mono HY.out.size))
      have c2w := c2 w3
      clear pl cd hb3 HY p2 cD
      by_cases hy : y < 10
      · have hyz : (999999999990 + (y : Int)) ≤ 999999999999 := by omega
        rw [show an2 y = ⟨[⟨2, [], ((999999999990 + y : Nat) : Int), 1⟩, ⟨4, [59], 0, 1⟩], 0, 0⟩ from if_pos hy] at c2w
        simp only at c2w
        clear hy
        go_wp2_with (fail)
        refine c2w.mono ?_
        rintro e w4 ⟨⟨v4, rfl, ho4⟩, hb4⟩
        have H4 := hidB (H3.out.trans (hb4.mono H3.out.size))
        obtain ⟨g4, d4, rfl, hg4, hc4⟩ := ho4.at (by simp)
        have t4 : w4.cell? ⟨g4, 2, none⟩ = some (.int .i64 ((999999999990 + y : Nat) : Int)) := hc4 2 (by simp)
        rw [show ((999999999990 + y : Nat) : Int) = 999999999990 + (y : Int) by omega] at t4
        have l4 : g4 < w4.heap.size := cell_lt t4
        have c3w := c3 w4
        clear c2w hb4 ho4 hc4
        go_wp2_with (fail)
        refine c3w.mono ?_
        rintro e w5 ⟨⟨v5, rfl, ho5⟩, hb5⟩
        have H5 := hidB (H4.out.trans (hb5.mono H4.out.size))
        have t5 := (hb5.cell (p := ⟨g4, 2, none⟩) l4).trans t4
        have aw := awake_any w5
        clear c3w hb5 ho5 c3 t4 l4
        go_wp2_with (fail)
        refine aw.mono ?_
        rintro e w6 ⟨rfl, hb6⟩
        have H6 := hidB (H5.out.trans (hb6.mono H5.out.size))
        clear aw hb6
        go_wp2_with (fail)
        go_ret
        exact ⟨rfl, H6.out⟩
      · have hyz : decide (999999999990 + (y : Int) ≤ 999999999999) = false := by simp; omega
        rw [show an2 y = ⟨[], 1, 6⟩ from if_neg hy] at c2w
        simp only at c2w
        clear hy
        go_wp2_with (fail)
        refine c2w.mono ?_
        rintro e w4 ⟨⟨v4, rfl, ho4⟩, hb4⟩
        have H4 := hidB (H3.out.trans (hb4.mono H3.out.size))
        obtain ⟨p4, d4, rfl⟩ := ho4.form
        have c3w := c3 w4
        clear c2w hb4 ho4
        go_wp2_with (fail)
        refine c3w.mono ?_
        rintro e w5 ⟨⟨v5, rfl, ho5⟩, hb5⟩
        have H5 := hidB (H4.out.trans (hb5.mono H4.out.size))
        have aw := awake_any w5
        clear c3w hb5 ho5 c3
        go_wp2_with (fail)
        refine aw.mono ?_
        rintro e w6 ⟨rfl, hb6⟩
        have H6 := hidB (H5.out.trans (hb6.mono H5.out.size))
        clear aw hb6
        go_wp2_with (fail)
        go_ret
        exact ⟨rfl, H6.out⟩
    · have h1z : decide ((1 : Int) < (k : Int)) = false := by simp; omega
      clear h1 k1 k2 s1
      go_upto_region 6 with (fail)
      refine wp_region_calm (by kernel_rfl) (by kernel_rfl) (fun hne => ?_)
      repeat (go_big_quiet_step (fail))
      refine wpQuiet_nil ?_
      rintro _ ⟨z, rfl⟩
      have HY := hidB (HB1.out.trans (z.bel.mono HB1.out.size))
      generalize z.val = wy at HY ⊢
      clear hcl hne e0 e1 e4 e5 zg s0 sszi hkk h1z HB1
      have pl := p2 wy
      go_wp2_with (fail)
      refine pl.mono ?_
      rintro e w' ⟨rfl, rfl⟩
      have cd := cD wy
      go_wp2_with (fail)
      refine cd.mono ?_
      rintro e w3 ⟨rfl, hb3⟩
      have H3 := hidB (HY.out.trans (hb3.mono HY.out.size))
      have c2w := c2 w3
      clear pl cd hb3 HY p2 cD
      by_cases hy : y < 10
      · have hyz : (999999999990 + (y : Int)) ≤ 999999999999 := by omega
        rw [show an2 y = ⟨[⟨2, [], ((999999999990 + y : Nat) : Int), 1⟩, ⟨4, [59], 0, 1⟩], 0, 0⟩ from if_pos hy] at c2w
        simp only at c2w
        clear hy
        go_wp2_with (fail)
        refine c2w.mono ?_
        rintro e w4 ⟨⟨v4, rfl, ho4⟩, hb4⟩
        have H4 := hidB (H3.out.trans (hb4.mono H3.out.size))
        obtain ⟨g4, d4, rfl, hg4, hc4⟩ := ho4.at (by simp)
        have t4 : w4.cell? ⟨g4, 2, none⟩ = some (.int .i64 ((999999999990 + y : Nat) : Int)) := hc4 2 (by simp)
        rw [show ((999999999990 + y : Nat) : Int) = 999999999990 + (y : Int) by omega] at t4
        have l4 : g4 < w4.heap.size := cell_lt t4
        have c3w := c3 w4
        clear c2w hb4 ho4 hc4
        go_wp2_with (fail)
        refine c3w.mono ?_
        rintro e w5 ⟨⟨v5, rfl, ho5⟩, hb5⟩
        have H5 := hidB (H4.out.trans (hb5.mono H4.out.size))
        have t5 := (hb5.cell (p := ⟨g4, 2, none⟩) l4).trans t4
        have aw := awake_any w5
        clear c3w hb5 ho5 c3 t4 l4
        go_wp2_with (fail)
        refine aw.mono ?_
        rintro e w6 ⟨rfl, hb6⟩
        have H6 := hidB (H5.out.trans (hb6.mono H5.out.size))
        clear aw hb6
        go_wp2_with (fail)
        go_ret
        exact ⟨rfl, H6.out⟩
      · have hyz : decide (999999999990 + (y : Int) ≤ 999999999999) = false := by simp; omega
        rw [show an2 y = ⟨[], 1, 6⟩ from if_neg hy] at c2w
        simp only at c2w
        clear hy
        go_wp2_with (fail)
        refine c2w.mono ?_
        rintro e w4 ⟨⟨v4, rfl, ho4⟩, hb4⟩
        have H4 := hidB (H3.out.trans (hb4.mono H3.out.size))
        obtain ⟨p4, d4, rfl⟩ := ho4.form
        have c3w := c3 w4
        clear c2w hb4 ho4
        go_wp2_with (fail)
        refine c3w.mono ?_
        rintro e w5 ⟨⟨v5, rfl, ho5⟩, hb5⟩
        have H5 := hidB (H4.out.trans (hb5.mono H4.out.size))
        have aw := awake_any w5
        clear c3w hb5 ho5 c3
        go_wp2_with (fail)
        refine aw.mono ?_
        rintro e w6 ⟨rfl, hb6⟩
        have H6 := hidB (H5.out.trans (hb6.mono H5.out.size))
        clear aw hb6
        go_wp2_with (fail)
        go_ret
        exact ⟨rfl, H6.out⟩
  · have h20z : ¬ (k : Int) ≤ 20 := by omega
    rw [show an1 k = ⟨[], 1, 6⟩ from if_neg h20] at c1w
    simp only at c1w
    go_wp2_with (fail)
    refine c1w.mono ?_
    rintro e w1 ⟨⟨v1, rfl, ho1⟩, hb1⟩
    obtain ⟨pp1, d1, rfl⟩ := ho1.form
    have HB1 := hidB hb1
    clear c1w hb1 ho1 h20 a1 a2 a3 hcut ssz s0 s1 k1 k2
    go_upto_region 6 with (fail)
    refine wp_region_calm (by kernel_rfl) (by kernel_rfl) (fun hne => ?_)
    repeat (go_big_quiet_step (fail))
    refine wpQuiet_nil ?_
    rintro _ ⟨z, rfl⟩
    have HY := hidB (HB1.out.trans (z.bel.mono HB1.out.size))
    generalize z.val = wy at HY ⊢
    clear hne HB1
    have pl := p2 wy
    go_wp2_with (fail)
    refine pl.mono ?_
    rintro e w' ⟨rfl, rfl⟩
    have cd := cD wy
    go_wp2_with (fail)
    refine cd.mono ?_
    rintro e w3 ⟨rfl, hb3⟩
    have H3 := hidB (HY.out.trans (hb3.mono HY.out.size))
    have c2w := c2 w3
    clear pl cd hb3 HY p2 cD
    by_cases hy : y < 10
    · have hyz : (999999999990 + (y : Int)) ≤ 999999999999 := by omega
      rw [show an2 y = ⟨[⟨2, [], ((999999999990 + y : Nat) : Int), 1⟩, ⟨4, [59], 0, 1⟩], 0, 0⟩ from if_pos hy] at c2w
      simp only at c2w
      clear hy
      go_wp2_with (fail)
      refine c2w.mono ?_
      rintro e w4 ⟨⟨v4, rfl, ho4⟩, hb4⟩
      have H4 := hidB (H3.out.trans (hb4.mono H3.out.size))
      obtain ⟨g4, d4, rfl, hg4, hc4⟩ := ho4.at (by simp)
      have t4 : w4.cell? ⟨g4, 2, none⟩ = some (.int .i64 ((999999999990 + y : Nat) : Int)) := hc4 2 (by simp)
      rw [show ((999999999990 + y : Nat) : Int) = 999999999990 + (y : Int) by omega] at t4
      have l4 : g4 < w4.heap.size := cell_lt t4
      have c3w := c3 w4
      clear c2w hb4 ho4 hc4
      go_wp2_with (fail)
      refine c3w.mono ?_
      rintro e w5 ⟨⟨v5, rfl, ho5⟩, hb5⟩
      have H5 := hidB (H4.out.trans (hb5.mono H4.out.size))
      have t5 := (hb5.cell (p := ⟨g4, 2, none⟩) l4).trans t4
      have aw := awake_any w5
      clear c3w hb5 ho5 c3 t4 l4
      go_wp2_with (fail)
      refine aw.mono ?_
      rintro e w6 ⟨rfl, hb6⟩
      have H6 := hidB (H5.out.trans (hb6.mono H5.out.size))
      clear aw hb6
      go_wp2_with (fail)
      go_ret
      exact ⟨rfl, H6.out⟩
    · have hyz : decide (999999999990 + (y : Int) ≤ 999999999999) = false := by simp; omega
      rw [show an2 y = ⟨[], 1, 6⟩ from if_neg hy] at c2w
      simp only at c2w
      clear hy
      go_wp2_with (fail)
      refine c2w.mono ?_
      rintro e w4 ⟨⟨v4, rfl, ho4⟩, hb4⟩
      have H4 := hidB (H3.out.trans (hb4.mono H3.out.size))
      obtain ⟨p4, d4, rfl⟩ := ho4.form
      have c3w := c3 w4
      clear c2w hb4 ho4
      go_wp2_with (fail)
      refine c3w.mono ?_
      rintro e w5 ⟨⟨v5, rfl, ho5⟩, hb5⟩
      have H5 := hidB (H4.out.trans (hb5.mono H4.out.size))
      have aw := awake_any w5
      clear c3w hb5 ho5 c3
      go_wp2_with (fail)
      refine aw.mono ?_
      rintro e w6 ⟨rfl, hb6⟩
      have H6 := hidB (H5.out.trans (hb6.mono H5.out.size))
      clear aw hb6
      go_wp2_with (fail)
      go_ret
      exact ⟨rfl, H6.out⟩
/-! ### THE ROW's STEP: variables laid, a tied card -/
set_option maxRecDepth 100000 in
theorem lifted (os : Os) (started : os.Started) (H : Type) (enc : TypeId × Value → H) :
    ReturnsInHanded {} Tryd.checked os 3 .any (fun w args => (Rows.lexWordsSpec.pre enc Tryd.prog Tryd.f3 Rows.lexWordsRow.domain false w args ∧ laidMetH Tryd.prog Rows.lexWordsRow.laid w) ∧ sizedMet enc Tryd.prog Tryd.f3 (OpenSpec.ofChange Rows.lexWordsSpec) false w args)
      (Rows.lexWordsSpec.post enc Tryd.prog Tryd.f3 false true false false) := by
  refine returnsInHanded_of_change_and (C := Tryd.checked) (X := fun w _ => laidMetH Tryd.prog Rows.lexWordsRow.laid w) (fun _ _ _ hh h => h.of_heap hh) own started (by kernel_rfl) Tryd.func3
    (ChangeSpec.witness_shaped (enc := enc) (C := Tryd.checked) (os := os) (X := fun w _ => laidMetH Tryd.prog Rows.lexWordsRow.laid w) false (World.laidAll Tryd.prog os Rows.lexWordsRow.laid) #[.int .i64 0, .int .i64 0] 8 (World.laidAll_os _ _ _)
      (World.shaped_of_ZipB (by kernel_rfl) (by kernel_rfl)) (by kernel_rfl) (by kernel_rfl) (by kernel_rfl)
      (by rw [MakeChecks.laidMetH_plain _ _ _ (by kernel_rfl)]; exact laidMet_laidAll _ (by kernel_rfl) (by kernel_rfl))) ?_
  intro W base args ds gs before hval0 hW _ _ hL _
  have hval : ∀ (j : Nat) t v, Tryd.f3.params[j]? = some t → args[j]? = some v → Value.okWide Tryd.prog W .any base t v := hval0
  have hW' := hW
  obtain ⟨p, q, hA0, hV, rfl, hfz, hnd⟩ := hW
  have hA : DataW.TrodAll enc Tryd.prog W 0 (fun _ => true) true Tryd.f3.params.toList args.toList ds p := hA0
  have hB := fun (W' : World) (bel : Below W.heap.size W W') => below_trodAll_of laidOut bel _ (by kernel_rfl) hA
  rw [Tryd.params3] at hA hval
  obtain ⟨v0, vs0, d0, ds0, p0, q0, hargs, rfl, rfl, h0, r0⟩ := trodAll_cons hA
  obtain ⟨v1, vs1, d1, ds1, p1, q1, rfl, rfl, rfl, h1, r1⟩ := trodAll_cons r0
  obtain ⟨rfl, rfl, rfl⟩ := trodAll_nil r1
  obtain rfl : args = #[v0, v1] := by cases args; simp_all
  obtain ⟨rfl, rfl⟩ := trodVars_none hV
  obtain ⟨a0, rfl, rfl, rfl, w0⟩ := open_int Tryd.underlying3 (hval 0 3 v0 rfl rfl) h0
  obtain ⟨a1, rfl, rfl, rfl, w1⟩ := open_int Tryd.underlying3 (hval 1 3 v1 rfl rfl) h1
  clear hA0 hval0
  refine (walk a0 w0 a1 w1 W).mono fun e W' ⟨he, bel⟩ => ?_
  subst he
  exact ⟨_, rfl, _, _, _, [], _, [], hW', trodAll_mk1 (shut_bool Tryd.underlying4 _), hB W' bel, rfl, bel.frame _, fun h => by cases h⟩

theorem over : Rows.LexWordsSaid :=
  OpenClaim.holds_of_wide 3 Tryd.f3 rfl rfl rfl rfl rfl rfl rfl ⟨rfl, rfl, rfl, rfl, rfl⟩ rfl rfl rfl rfl rfl (by kernel_rfl) Tryd.func3 (by kernel_rfl)
    (of_decide_eq_true (by kernel_rfl)) (by unfold Func.isWrapper; first | (rw [if_pos (by decide +kernel)]; kernel_rfl) | (rw [if_neg (by decide +kernel)]; exact ⟨rfl, rfl⟩))
    (fun os started H enc _ => lifted os started H enc)

/-- THE STATEMENT: the card -/
theorem proved : Rows.LexWordsCardSaid :=
  Claim7.holds_tied_plain_at .later [] [.data, .pinned] true (true, "5814c96dbc1529526081f9f7ef5f429c007ef3e6e8b19df89fdb09e2a84ce856") false over (fun _ h => by cases h) (by kernel_rfl) (fun _ h => by cases h) lexWords_row_tie rfl ⟨rfl, rfl⟩ (by kernel_rfl) rfl
    (fun f fn hf hfn => by
      obtain rfl : f = 3 := Option.some.inj ((show Tryd.prog.funcNamed "rampart/rampartlaw08.LexWords" = some 3 by kernel_rfl).symm.trans hf) |>.symm
      obtain rfl : fn = Tryd.f3 := (Option.some.inj (Tryd.func3.symm.trans hfn)).symm
      exact ⟨by kernel_rfl, fun j t ht => by
        rw [Tryd.params3] at ht
        have hm : t ∈ [3, 3] := by simpa using Array.mem_of_getElem? ht
        have hall : ([3, 3].all fun u => !Tryd.prog.wantsStandIn u) = true := by kernel_rfl
        exact (show Tryd.prog.wantsStandIn t = false by simpa using List.all_eq_true.1 hall t hm)⟩)
    (by kernel_rfl)
#print axioms proved
end Go.Proofs.YtepmncfgkmpccaaDoor.lexWords
