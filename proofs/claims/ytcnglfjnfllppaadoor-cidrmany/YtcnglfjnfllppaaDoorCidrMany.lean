/- CidrMany: for any number, nets that do not meet, as many as may be and up to two more: which sets may be, their texts in their order, what they have; no condition. -/
import Derived.Test.YtcnglfjnfllppaaDoorLiftTab
import Derived.Test.YtcnglfjnfllppaaDoorCiMid
import Derived.Test.YtcnglfjnfllppaaDoorLift
import Derived.Test.YtcnglfjnfllppaaDoorTie
import Derived.Test.YtcnglfjnfllppaaDoorCards
import Derived.LaidMore
import Derived.Lay
import Derived.SevenTiedAt
import Derived.Stop.Joined
import Derived.Deep.LoopGhost
namespace Go.Proofs.YtcnglfjnfllppaaDoor.cidrMany
open Go.ChangeShapes Go.WideShapes Go.ChangeAt Go.RowKit
set_option linter.unusedVariables false
set_option maxRecDepth 20000
theorem rcDigits (v : Nat) (hv : v ≤ 9223372036854775807) (w : World) :
    Calls Tryd.prog 22 #[.int .i64 (v : Int)] w fun e w' => e = .returned (.string (sL (Lib.decDigits v))) ∧ Below w.heap.size w w' := by
  have hd := fun w => rcDec v hv w
  generalize Lib.decDigits v = D at hd ⊢
  go_enter Tryd.func22, Tryd.ntmps22
  go_wp2_with (fail)
  refine (hd _).mono ?_
  rintro e w' ⟨rfl, hb⟩
  go_wp2
  go_ret
  exact ⟨rfl, hb⟩
def manyN (j : Nat) : Nt := (UInt32.ofNat ((9 - j) * 16777216 + 77), 8)
def manyL : Nat → List Nt
  | 0 => []
  | k + 1 => manyL k ++ [manyN k]
def manyT : Nat → List UInt8
  | 0 => []
  | k + 1 => (if k = 0 then manyT k else manyT k ++ [44]) ++ [UInt8.ofNat (57 - k)] ++ [46, 48, 46, 48, 46, 48, 47, 56]
def manyF (no : Bool) (k : Nat) : List UInt8 := (if no then [33] else []) ++ (if k = 0 then [97, 110, 121] else if k = 1 then manyT 1 else [91] ++ manyT k ++ [93])
theorem manyL_len : ∀ k, (manyL k).length = k
  | 0 => rfl
  | k + 1 => by unfold manyL; rw [List.length_append, manyL_len k]; rfl
theorem manyT_len : ∀ k, (manyT k).length ≤ 10 * k
  | 0 => Nat.le_refl _
  | k + 1 => by
    have := manyT_len k
    unfold manyT
    split <;> simp only [List.length_append, List.length_cons, List.length_nil] <;> omega
theorem many_dig (i : Nat) (h : i < 7) : Lib.decDigits (9 - i) = [UInt8.ofNat (57 - i)] := by
  rw [Lib.decDigits, dif_pos (by omega)]
  congr 2
  omega
theorem or_n32 (m n : Nat) (hm : m < 4294967296) (hn : n < 4294967296) : bits .or .u32 (m : Int) (n : Int) = ((m ||| n : Nat) : Int) := by
  have h : m ||| n < 4294967296 := Nat.or_lt_two_pow (n := 32) hm hn
  show IntKind.u32.wrap ((BitVec.ofInt 32 (m : Int) ||| BitVec.ofInt 32 (n : Int)).toNat : Nat) = _
  rw [BitVec.toNat_or, ofNat32s m hm, ofNat32s n hn]
  show ((m ||| n : Nat) : Int) % 4294967296 = _
  omega
theorem many_or (i : Nat) (h : i < 7) : bits .or .u32 ((9 - (i : Int)) * 16777216) 77 = ((manyN i).1.toNat : Int) := by
  rw [show (9 - (i : Int)) * 16777216 = ((2 ^ 24 * (9 - i) : Nat) : Int) by omega, show (77 : Int) = ((77 : Nat) : Int) from rfl, or_n32 _ _ (by omega) (by omega),
    (Nat.two_pow_add_eq_or_of_lt (i := 24) (b := 77) (by omega) (9 - i)).symm]
  unfold manyN
  rw [UInt32.toNat_ofNat', Nat.mod_eq_of_lt (by omega)]
  omega
theorem nt_text (x : UInt32) (d : Nat) (hd : d < 10) (h1 : x.toNat / 16777216 = d) (h2 : x.toNat / 65536 % 256 = 0) (h3 : x.toNat / 256 % 256 = 0) (h4 : x.toNat % 256 = 0) : netT (x, 8) = [UInt8.ofNat (48 + d), 46, 48, 46, 48, 46, 48, 47, 56] := by
  have d0 : Lib.decDigits 0 = [48] := by simp [Lib.decDigits]
  have d8 : Lib.decDigits 8 = [56] := by simp [Lib.decDigits]
  have dd : Lib.decDigits d = [UInt8.ofNat (48 + d)] := by rw [Lib.decDigits, dif_pos hd]
  unfold netT dotA dotL
  rw [h1, h2, h3, h4, show ((8 : Int)).toNat = 8 from rfl, dd, d0, d8]
  rfl
theorem many_text : ∀ k, k ≤ 4 → ∀ no, textL no (manyL k) = manyF no k := by
  have t9 : netT (150994944, 8) = [57, 46, 48, 46, 48, 46, 48, 47, 56] := nt_text _ 9 (by decide) rfl rfl rfl rfl
  have t8 : netT (134217728, 8) = [56, 46, 48, 46, 48, 46, 48, 47, 56] := nt_text _ 8 (by decide) rfl rfl rfl rfl
  have t7 : netT (117440512, 8) = [55, 46, 48, 46, 48, 46, 48, 47, 56] := nt_text _ 7 (by decide) rfl rfl rfl rfl
  have t6 : netT (100663296, 8) = [54, 46, 48, 46, 48, 46, 48, 47, 56] := nt_text _ 6 (by decide) rfl rfl rfl rfl
  have c0 : cleanL (manyL 0) = [] := by decide
  have c1 : cleanL (manyL 1) = [(150994944, 8)] := by decide
  have c2 : cleanL (manyL 2) = [(150994944, 8), (134217728, 8)] := by decide
  have c3 : cleanL (manyL 3) = [(150994944, 8), (134217728, 8), (117440512, 8)] := by decide
  have c4 : cleanL (manyL 4) = [(150994944, 8), (134217728, 8), (117440512, 8), (100663296, 8)] := by decide
  have k0 : checkL (manyL 0) = true := by decide
  have k1 : checkL (manyL 1) = true := by decide
  have k2 : checkL (manyL 2) = true := by decide
  have k3 : checkL (manyL 3) = true := by decide
  have k4 : checkL (manyL 4) = true := by decide
  intro k hk no
  have hk' : k = 0 ∨ k = 1 ∨ k = 2 ∨ k = 3 ∨ k = 4 := by omega
  unfold textL
  rcases hk' with rfl | rfl | rfl | rfl | rfl
  · rw [c0, k0]; cases no <;> rfl
  · rw [c1, k1, show listT [((150994944 : UInt32), (8 : Int))] = [57, 46, 48, 46, 48, 46, 48, 47, 56] from t9]; cases no <;> rfl
  · rw [c2, k2]; unfold listT; simp only [List.map_cons, List.map_nil, t9, t8]; cases no <;> rfl
  · rw [c3, k3]; unfold listT; simp only [List.map_cons, List.map_nil, t9, t8, t7]; cases no <;> rfl
  · rw [c4, k4]; unfold listT; simp only [List.map_cons, List.map_nil, t9, t8, t7, t6]; cases no <;> rfl
theorem many_check : ∀ k, k < 7 → checkL (manyL k) = decide (k ≤ 4) := by decide
theorem many_has : ∀ k, k < 5 → ∀ no, hasL no (manyL k) 167772160 = (no != decide (k = 0)) := by decide
theorem many_none (no : Bool) (L : List Nt) (h : checkL L = false) : textL no L = [97, 110, 121] := by
  unfold textL cleanL
  rw [h]
  rfl
/-- the set, so far -/
structure Mn (w x : World) (no : Bool) (v : Value) (k : Nat) : Prop where
  bel : Below w.heap.size w x
  c0 : x.cell? ⟨w.heap.size, 0, none⟩ = some (.bool no)
  c1 : x.cell? ⟨w.heap.size, 1, none⟩ = some v
  f : ∀ o, x.frozen? ⟨w.heap.size, o, none⟩ = false
  lt : w.heap.size + 1 ≤ x.heap.size
  row : x.ownsRow (w.heap.size + 1) 35 2 v (manyL k).length ((manyL k).flatMap ntC)
theorem Mn.start (w : World) (no : Bool) : Mn w (w.alloc (.cells #[.bool no, .slice none 0 0] 24)) no (.slice none 0 0) 0 :=
  ⟨below_more (Below.refl _ _) (Nat.le_refl _) _, by simp, by simp, by simp, by simp, World.ownsRow_nil _ _ _ _⟩
theorem Mn.below {w x y : World} {no : Bool} {v : Value} {k : Nat} (h : Mn w x no v k) (hb : Below x.heap.size x y) : Mn w y no v k := by
  have hl := h.lt
  exact ⟨h.bel.trans (hb.mono h.bel.size), (hb.cell (p := ⟨w.heap.size, 0, none⟩) (by show w.heap.size < _; omega)).trans h.c0, (hb.cell (p := ⟨w.heap.size, 1, none⟩) (by show w.heap.size < _; omega)).trans h.c1,
    fun o => (hb.frozen (p := ⟨w.heap.size, o, none⟩) (by show w.heap.size < _; omega)).trans (h.f o), Nat.le_trans hl hb.size, ciRow_below h.row hb⟩
theorem Mn.push {w x y : World} {no : Bool} {v v3 : Value} {k : Nat} (h : Mn w x no v k) (hg : x.grownBy y v.ownBlock) (ho : y.ownsRow (w.heap.size + 1) 35 2 v3 ((manyL k).length + 1) ((manyL k).flatMap ntC ++ ntC (manyN k))) :
    y.cell? ⟨w.heap.size, 1, none⟩ = some v ∧ y.frozen? ⟨w.heap.size, 1, none⟩ = false ∧ Mn w (y.setCell ⟨w.heap.size, 1, none⟩ v3) no v3 (k + 1) := by
  have hl := h.lt
  have hown := fun q hq => (h.row.lt q hq).1
  have hne : some w.heap.size ≠ v.ownBlock := fun e => by have := hown _ e.symm; omega
  have hc : ∀ o, y.cell? ⟨w.heap.size, o, none⟩ = x.cell? ⟨w.heap.size, o, none⟩ := fun o => World.cell?_of_block (a := ⟨w.heap.size, o, none⟩) (hg.block _ (by show w.heap.size < _; omega) hne)
  have hf : ∀ o, y.frozen? ⟨w.heap.size, o, none⟩ = x.frozen? ⟨w.heap.size, o, none⟩ := fun o => World.frozen?_of_block (a := ⟨w.heap.size, o, none⟩) (hg.block _ (by show w.heap.size < _; omega) hne)
  have c1 := (hc 1).trans h.c1
  refine ⟨c1, (hf 1).trans (h.f 1), (h.bel.grown hg h.bel.size (fun q hq => by have := hown q hq; omega)).setCell (p := ⟨w.heap.size, 1, none⟩) (Nat.le_refl _) v3, ?_, World.cell?_setCell_same' y ⟨w.heap.size, 1, none⟩ v3 (by rw [c1]; rfl), fun o => ?_, by rw [World.size_setCell]; exact Nat.le_trans hl hg.size, ciRow_set ?_ (by omega) _ _⟩
  · exact (World.cell?_setCell_other (w := y) (a := ⟨w.heap.size, 1, none⟩) (b := ⟨w.heap.size, 0, none⟩) (v := v3) (by simp)).trans ((hc 0).trans h.c0)
  · rw [World.frozen?_setCell, hf o]; exact h.f o
  · unfold manyL
    rw [List.length_append, List.flatMap_append]
    simpa using ho
set_option maxHeartbeats 4000000 in
theorem walk (n : Int) (hn : (Lit.int .i64 n).wf = true) (no : Bool) (w : World) (hM : Mks w) (hT : Tb w) :
    Calls Tryd.prog 6 #[.int .i64 n, .bool no] w fun e w' => e = .returned (.bool true) ∧ Below w.heap.size w w' := by
  obtain ⟨k, hk⟩ : ∃ x : Nat, n % 7 = (x : Int) := ⟨(n % 7).toNat, by omega⟩
  have p1 := fun w => place_any n 7 w (by omega) (by omega)
  rw [hk] at p1
  have hk7 : k < 7 := by omega
  have HM := hidB hM
  have HT := hidB hT
  have hst := hidB (Mn.start w no)
  clear hM hT hk hn
  go_enter Tryd.func6, Tryd.ntmps6
  go_wp2_with (fail)
  refine (p1 _).mono ?_
  rintro e w' ⟨rfl, rfl⟩
  clear p1
  go_wp2
  go_loopg [7, 8] k (fun g s7 s8 wr => ∃ (i : Nat) (v : Value), i ≤ k ∧ k - i ≤ g ∧ s8 = .int .i64 (i : Int) ∧ s7 = .string (sL (manyT i)) ∧ Hid (Mn w wr no v i))
  case atStart => exact ⟨0, _, Nat.zero_le _, by omega, rfl, rfl, hst⟩
  case round =>
    obtain ⟨i, v, hik, hg, rfl, rfl, HN⟩ := hrel
    have c0 := HN.out.c0
    have c1 := HN.out.c1
    by_cases hlt : i < k
    · have hlz : (i : Int) < (k : Int) := by omega
      have hi7 : i < 7 := by omega
      have hor := many_or i hi7
      have hdg := many_dig i hi7
      have hD := rcDigits (9 - i) (by omega)
      rw [hdg] at hD
      rw [show (((9 - i : Nat) : Int)) = 9 - (i : Int) by omega] at hD
      have hstep : manyT (i + 1) = (if i = 0 then manyT i else manyT i ++ [44]) ++ [UInt8.ofNat (57 - i)] ++ [46, 48, 46, 48, 46, 48, 47, 56] := rfl
      have hTl := manyT_len i
      obtain ⟨A, hA⟩ : ∃ A : Nat, A = (manyN i).1.toNat := ⟨_, rfl⟩
      rw [← hA] at hor
      have hl := lit_net wr (A : Int) 8
      have hb5 := below_more (Below.refl wr.heap.size wr) (Nat.le_refl _) (.cells #[.int .u32 (A : Int), .int .i64 8] 35)
      have h5 := HN.out.below hb5
      have hnw := alloc_news wr [.int .u32 (A : Int), .int .i64 8] 35
      rw [show ([Value.int .u32 (A : Int), .int .i64 8]).toArray = (#[.int .u32 (A : Int), .int .i64 8] : Array Value) from rfl] at hnw
      obtain ⟨i0, hi, hz0, hz1, hz2⟩ := info_parts infoN
      have hlenI := manyL_len i
      have hNA : ntC (manyN i) = [.int .u32 (A : Int), .int .i64 8] := by rw [hA]; rfl
      have HX := hidB (And.intro (And.intro hstep hTl) hNA)
      have q1 : (manyL i).length + 1 ≤ maxLen := by rw [hlenI]; simp only [maxLen]; omega
      have q2 : ((manyL i).length + 1) * 16 ≤ 140737488355328 := by rw [hlenI]; omega
      have q3 := h5.lt
      have hrow5 := h5.row
      have H5 := hidB h5
      clear hA hstep hTl h5 hb5 hlenI hNA hdg
      go_wp2_with (refine wpList_append_own2 rfl (.tmp 19) (.tmp 26) 22 rfl (w.heap.size + 1) 35 i0 _ 2 16 Tryd.underlying22 hi hz0 hz1 hz2 rfl (by decide) v (manyL i).length _ rfl hrow5 ⟨wr.heap.size, 0, none⟩ 1 1 [.int .u32 (A : Int), .int .i64 8] rfl rfl hnw (by intro u hu; simp at hu; rcases hu with rfl | rfl <;> rfl) q1 q2 q3 ?_)
      intro v3 w6 ho6 hg6 hv6
      rw [← HX.out.2] at ho6
      obtain ⟨k1, k2, k3⟩ := H5.out.push hg6 ho6
      obtain ⟨pa3, ca3, hv3⟩ := own_slice ho6
      subst hv3
      obtain ⟨pa, ca, hv0⟩ := own_slice hrow5
      subst hv0
      have K3 := hidB k3
      clear hnw hi hz0 hz1 hz2 q1 q2 q3 hrow5 ho6 hg6 hv6 H5 k3 HN hl
      generalize hlL : (manyL i).length = li at *
      have hstep := HX.out.1.1
      have hTl := HX.out.1.2
      have hT40 : (manyT i).length ≤ 60 := by omega
      by_cases hi0 : i = 0
      · rw [if_pos hi0] at hstep
        subst hi0
        rw [show (9 - (((0 : Nat)) : Int)) = 9 from rfl] at hD
        have ad2 := fun w => addL (P := Tryd.prog) (manyT 0) [UInt8.ofNat (57 - 0)] (by omega) (by simp) w
        have ad3 := fun w => addL (P := Tryd.prog) (manyT 0 ++ [UInt8.ofNat (57 - 0)]) [46, 48, 46, 48, 46, 48, 47, 56] (by simp; omega) (by simp) w
        rw [← hstep] at ad3
        rw [show sL [46, 48, 46, 48, 46, 48, 47, 56] = ⟨#[46, 48, 46, 48, 46, 48, 47, 56]⟩ from rfl] at ad3
        generalize manyT 0 ++ [UInt8.ofNat (57 - 0)] = T2 at ad2 ad3
        generalize [UInt8.ofNat (57 - 0)] = D at ad2 hD
        generalize manyT 0 = T0 at ad2 ⊢
        clear hstep hTl hT40 HX
        generalize hT3 : manyT (0 + 1) = T3 at ad3
        go_wp2_with (fail)
        refine (hD _).mono ?_
        rintro e w7 ⟨rfl, hb7⟩
        have K7 := hidB (K3.out.below hb7)
        clear hb7 hD k1 k2
        go_wp2_with (fail)
        go_roundg (k - (0 + 1))
        case measure => omega
        case rel => exact ⟨0 + 1, _, by omega, by omega, by go_num, by rw [hT3], K7⟩
      · have hi0z : ((0 : Int) < (i : Int)) := by omega
        rw [if_neg hi0] at hstep
        have ad1 := fun w => addL (P := Tryd.prog) (manyT i) [44] (by omega) (by simp) w
        have ad2 := fun w => addL (P := Tryd.prog) (manyT i ++ [44]) [UInt8.ofNat (57 - i)] (by simp; omega) (by simp) w
        have ad3 := fun w => addL (P := Tryd.prog) (manyT i ++ [44] ++ [UInt8.ofNat (57 - i)]) [46, 48, 46, 48, 46, 48, 47, 56] (by simp; omega) (by simp) w
        rw [← hstep] at ad3
        rw [show sL [46, 48, 46, 48, 46, 48, 47, 56] = ⟨#[46, 48, 46, 48, 46, 48, 47, 56]⟩ from rfl] at ad3
        rw [show sL [44] = ⟨#[44]⟩ from rfl] at ad1
        generalize manyT i ++ [44] ++ [UInt8.ofNat (57 - i)] = T2 at ad2 ad3
        generalize manyT i ++ [44] = T1 at ad1 ad2
        generalize [UInt8.ofNat (57 - i)] = D at ad2 hD
        generalize manyT i = T0 at ad1 ⊢
        clear hstep hTl hT40 HX
        generalize hT3 : manyT (i + 1) = T3 at ad3
        go_wp2_with (fail)
        refine (hD _).mono ?_
        rintro e w7 ⟨rfl, hb7⟩
        have K7 := hidB (K3.out.below hb7)
        clear hb7 hD k1 k2
        go_wp2_with (fail)
        go_roundg (k - (i + 1))
        case measure => omega
        case rel => exact ⟨i + 1, _, by omega, by omega, by go_num, by rw [hT3], K7⟩
    · have hlz : ¬ (i : Int) < (k : Int) := by omega
      have hik' : i = k := by omega
      subst hik'
      have hlenI := manyL_len i
      have hnr := row_nets HN.out.row
      rw [hlenI] at hnr
      obtain ⟨pv, cv, hv, hN⟩ := hnr
      subst hv
      have HNt := hidB hN
      have hCk0 := fun (W : World) (hN : Nets W pv cv (manyL i)) => ciCheck no pv cv (manyL i) W hN (by omega)
      have hTx0 := fun (W : World) (hM : Mks W) (hT : Tb W) (hN : Nets W pv cv (manyL i)) => ciText no pv cv (manyL i) W hM hT hN (by omega)
      have hHs0 := fun (x : UInt32) (W : World) (hM : Mks W) (hN : Nets W pv cv (manyL i)) => ciHas no pv cv (manyL i) x W hM hN (by omega)
      have hmc := many_check i hk7
      rw [hlenI] at hCk0 hTx0 hHs0
      clear hN hlenI hg hst
      by_cases hi4 : 4 < i
      · have hi4z : (4 : Int) < (i : Int) := by omega
        have hcf : checkL (manyL i) = false := by rw [hmc]; simp; omega
        have hCk := hCk0
        have hTx := hTx0
        have hHs := hHs0 150994944
        rw [hcf] at hCk
        rw [many_none no (manyL i) hcf] at hTx
        rw [show hasL no (manyL i) 150994944 = false by simp [hasL, hcf]] at hHs
        rw [show (((150994944 : UInt32).toNat : Nat) : Int) = 150994944 from rfl] at hHs
        have any : sL [97, 110, 121] = ⟨#[97, 110, 121]⟩ := rfl
        rw [any] at hTx
        clear hCk0 hTx0 hHs0 hmc hcf any
        go_wp2_with (fail)
        refine (hCk _ (HNt.out)).mono ?_
        rintro e w2 ⟨rfl, hb2⟩
        have K2 := hidB (HN.out.below hb2)
        have N2 := hidB (HNt.out.below hb2)
        have d0 := K2.out.c0
        have d1 := K2.out.c1
        clear hb2 hCk c0 c1
        go_wp2_with (fail)
        refine (hHs _ (HM.out.below K2.out.bel) N2.out).mono ?_
        rintro e w3 ⟨rfl, hb3⟩
        have K3 := hidB (K2.out.below hb3)
        have N3 := hidB (N2.out.below hb3)
        have e0 := K3.out.c0
        have e1 := K3.out.c1
        clear hb3 hHs d0 d1
        go_wp2_with (fail)
        refine (hTx _ (HM.out.below K3.out.bel) (HT.out.below K3.out.bel) N3.out).mono ?_
        rintro e w4 ⟨rfl, hb4⟩
        have K4 := hidB (K3.out.below hb4)
        have hA := ciAwake w4 (HM.out.below K4.out.bel) (HT.out.below K4.out.bel)
        clear hb4 hTx e0 e1
        go_wp2_with (fail)
        refine hA.mono ?_
        rintro e w5 ⟨rfl, hb5⟩
        have H5 := hidB (K4.out.bel.trans (hb5.mono K4.out.bel.size))
        clear hb5 hA
        go_wp2_with (fail)
        go_ret
        exact ⟨rfl, H5.out⟩
      · have hi4z : ¬ (4 : Int) < (i : Int) := by omega
        have hcf : checkL (manyL i) = true := by rw [hmc]; simp; omega
        have hCk := hCk0
        have hTx := hTx0
        have hHs := hHs0 167772160
        rw [hcf] at hCk
        rw [many_text i (by omega) no] at hTx
        rw [many_has i (by omega) no] at hHs
        rw [show (((167772160 : UInt32).toNat : Nat) : Int) = 167772160 from rfl] at hHs
        have hTl := manyT_len i
        have hF : manyF no i = (if no then [33] else []) ++ (if i = 0 then [97, 110, 121] else if i = 1 then manyT 1 else [91] ++ manyT i ++ [93]) := rfl
        clear hCk0 hTx0 hHs0 hmc hcf
        by_cases hi0 : i = 0
        · subst hi0
          rw [if_pos rfl] at hF
          rw [show (decide ((0 : Nat) = 0)) = true from rfl] at hHs
          cases no with
          | true =>
            rw [if_pos rfl, show ([33] : List UInt8) ++ [97, 110, 121] = [33, 97, 110, 121] from rfl] at hF
            rw [hF, show sL [33, 97, 110, 121] = ⟨#[33, 97, 110, 121]⟩ from rfl] at hTx
            have ad := fun w => addL (P := Tryd.prog) [33] [97, 110, 121] (by simp) (by simp) w
            rw [show sL [33] = ⟨#[33]⟩ from rfl, show sL [97, 110, 121] = ⟨#[97, 110, 121]⟩ from rfl, show sL ([33] ++ [97, 110, 121]) = ⟨#[33, 97, 110, 121]⟩ from rfl] at ad
            go_wp2_with (fail)
            refine (hCk _ (HNt.out)).mono ?_
            rintro e w2 ⟨rfl, hb2⟩
            have K2 := hidB (HN.out.below hb2)
            have N2 := hidB (HNt.out.below hb2)
            have d0 := K2.out.c0
            have d1 := K2.out.c1
            clear hb2 hCk c0 c1
            go_wp2_with (fail)
            refine (hTx _ (HM.out.below K2.out.bel) (HT.out.below K2.out.bel) N2.out).mono ?_
            rintro e w3 ⟨rfl, hb3⟩
            have K3 := hidB (K2.out.below hb3)
            have N3 := hidB (N2.out.below hb3)
            have e0 := K3.out.c0
            have e1 := K3.out.c1
            clear hb3 hTx d0 d1
            go_wp2_with (fail)
            refine (hHs _ (HM.out.below K3.out.bel) N3.out).mono ?_
            rintro e w4 ⟨rfl, hb4⟩
            have K4 := hidB (K3.out.below hb4)
            have hA := ciAwake w4 (HM.out.below K4.out.bel) (HT.out.below K4.out.bel)
            clear hb4 hHs e0 e1
            go_wp2_with (fail)
            refine hA.mono ?_
            rintro e w5 ⟨rfl, hb5⟩
            have H5 := hidB (K4.out.bel.trans (hb5.mono K4.out.bel.size))
            clear hb5 hA
            go_wp2_with (fail)
            go_ret
            exact ⟨rfl, H5.out⟩
          | false =>
            rw [if_neg (by simp), List.nil_append] at hF
            rw [hF, show sL [97, 110, 121] = ⟨#[97, 110, 121]⟩ from rfl] at hTx
            go_wp2_with (fail)
            refine (hCk _ (HNt.out)).mono ?_
            rintro e w2 ⟨rfl, hb2⟩
            have K2 := hidB (HN.out.below hb2)
            have N2 := hidB (HNt.out.below hb2)
            have d0 := K2.out.c0
            have d1 := K2.out.c1
            clear hb2 hCk c0 c1
            go_wp2_with (fail)
            refine (hTx _ (HM.out.below K2.out.bel) (HT.out.below K2.out.bel) N2.out).mono ?_
            rintro e w3 ⟨rfl, hb3⟩
            have K3 := hidB (K2.out.below hb3)
            have N3 := hidB (N2.out.below hb3)
            have e0 := K3.out.c0
            have e1 := K3.out.c1
            clear hb3 hTx d0 d1
            go_wp2_with (fail)
            refine (hHs _ (HM.out.below K3.out.bel) N3.out).mono ?_
            rintro e w4 ⟨rfl, hb4⟩
            have K4 := hidB (K3.out.below hb4)
            have hA := ciAwake w4 (HM.out.below K4.out.bel) (HT.out.below K4.out.bel)
            clear hb4 hHs e0 e1
            go_wp2_with (fail)
            refine hA.mono ?_
            rintro e w5 ⟨rfl, hb5⟩
            have H5 := hidB (K4.out.bel.trans (hb5.mono K4.out.bel.size))
            clear hb5 hA
            go_wp2_with (fail)
            go_ret
            exact ⟨rfl, H5.out⟩
        · have b0 : ((i : Int) == 0) = false := by simp; omega
          rw [if_neg hi0] at hF
          rw [show (decide (i = 0)) = false by simp [hi0]] at hHs
          by_cases hi1 : i = 1
          · subst hi1
            rw [if_pos rfl] at hF
            have hTl1 := manyT_len 1
            cases no with
            | true =>
              rw [if_pos rfl] at hF
              have ad := fun w => addL (P := Tryd.prog) [33] (manyT 1) (by simp) (by omega) w
              rw [← hF, show sL [33] = ⟨#[33]⟩ from rfl] at ad
              generalize manyF true 1 = F at ad hTx
              generalize manyT 1 = T at ad ⊢
              clear hF hTl hTl1
              go_wp2_with (fail)
              refine (hCk _ (HNt.out)).mono ?_
              rintro e w2 ⟨rfl, hb2⟩
              have K2 := hidB (HN.out.below hb2)
              have N2 := hidB (HNt.out.below hb2)
              have d0 := K2.out.c0
              have d1 := K2.out.c1
              clear hb2 hCk c0 c1
              go_wp2_with (fail)
              refine (hTx _ (HM.out.below K2.out.bel) (HT.out.below K2.out.bel) N2.out).mono ?_
              rintro e w3 ⟨rfl, hb3⟩
              have K3 := hidB (K2.out.below hb3)
              have N3 := hidB (N2.out.below hb3)
              have e0 := K3.out.c0
              have e1 := K3.out.c1
              clear hb3 hTx d0 d1
              go_wp2_with (fail)
              refine (hHs _ (HM.out.below K3.out.bel) N3.out).mono ?_
              rintro e w4 ⟨rfl, hb4⟩
              have K4 := hidB (K3.out.below hb4)
              have hA := ciAwake w4 (HM.out.below K4.out.bel) (HT.out.below K4.out.bel)
              clear hb4 hHs e0 e1
              go_wp2_with (fail)
              refine hA.mono ?_
              rintro e w5 ⟨rfl, hb5⟩
              have H5 := hidB (K4.out.bel.trans (hb5.mono K4.out.bel.size))
              clear hb5 hA
              go_wp2_with (fail)
              go_ret
              exact ⟨rfl, H5.out⟩
            | false =>
              rw [if_neg (by simp), List.nil_append] at hF
              rw [hF] at hTx
              generalize manyT 1 = T at hTx ⊢
              clear hF hTl hTl1
              go_wp2_with (fail)
              refine (hCk _ (HNt.out)).mono ?_
              rintro e w2 ⟨rfl, hb2⟩
              have K2 := hidB (HN.out.below hb2)
              have N2 := hidB (HNt.out.below hb2)
              have d0 := K2.out.c0
              have d1 := K2.out.c1
              clear hb2 hCk c0 c1
              go_wp2_with (fail)
              refine (hTx _ (HM.out.below K2.out.bel) (HT.out.below K2.out.bel) N2.out).mono ?_
              rintro e w3 ⟨rfl, hb3⟩
              have K3 := hidB (K2.out.below hb3)
              have N3 := hidB (N2.out.below hb3)
              have e0 := K3.out.c0
              have e1 := K3.out.c1
              clear hb3 hTx d0 d1
              go_wp2_with (fail)
              refine (hHs _ (HM.out.below K3.out.bel) N3.out).mono ?_
              rintro e w4 ⟨rfl, hb4⟩
              have K4 := hidB (K3.out.below hb4)
              have hA := ciAwake w4 (HM.out.below K4.out.bel) (HT.out.below K4.out.bel)
              clear hb4 hHs e0 e1
              go_wp2_with (fail)
              refine hA.mono ?_
              rintro e w5 ⟨rfl, hb5⟩
              have H5 := hidB (K4.out.bel.trans (hb5.mono K4.out.bel.size))
              clear hb5 hA
              go_wp2_with (fail)
              go_ret
              exact ⟨rfl, H5.out⟩
          · have b1 : (1 : Int) < (i : Int) := by omega
            rw [if_neg hi1] at hF
            have adA := fun w => addL (P := Tryd.prog) [91] (manyT i) (by simp) (by omega) w
            have adB := fun w => addL (P := Tryd.prog) ([91] ++ manyT i) [93] (by simp; omega) (by simp) w
            have hl3 : ([91] ++ manyT i ++ [93]).length ≤ 100 := by simp; omega
            rw [show sL [91] = ⟨#[91]⟩ from rfl] at adA
            rw [show sL [93] = ⟨#[93]⟩ from rfl] at adB
            generalize [91] ++ manyT i ++ [93] = T2 at adB hF hl3
            generalize [91] ++ manyT i = T1 at adA adB
            generalize manyT i = T0 at adA ⊢
            cases no with
            | true =>
              rw [if_pos rfl] at hF
              have ad := fun w => addL (P := Tryd.prog) [33] T2 (by simp) (by omega) w
              rw [← hF, show sL [33] = ⟨#[33]⟩ from rfl] at ad
              generalize manyF true i = F at ad hTx
              clear hF hTl hl3
              go_wp2_with (fail)
              refine (hCk _ (HNt.out)).mono ?_
              rintro e w2 ⟨rfl, hb2⟩
              have K2 := hidB (HN.out.below hb2)
              have N2 := hidB (HNt.out.below hb2)
              have d0 := K2.out.c0
              have d1 := K2.out.c1
              clear hb2 hCk c0 c1
              go_wp2_with (fail)
              refine (hTx _ (HM.out.below K2.out.bel) (HT.out.below K2.out.bel) N2.out).mono ?_
              rintro e w3 ⟨rfl, hb3⟩
              have K3 := hidB (K2.out.below hb3)
              have N3 := hidB (N2.out.below hb3)
              have e0 := K3.out.c0
              have e1 := K3.out.c1
              clear hb3 hTx d0 d1
              go_wp2_with (fail)
              refine (hHs _ (HM.out.below K3.out.bel) N3.out).mono ?_
              rintro e w4 ⟨rfl, hb4⟩
              have K4 := hidB (K3.out.below hb4)
              have hA := ciAwake w4 (HM.out.below K4.out.bel) (HT.out.below K4.out.bel)
              clear hb4 hHs e0 e1
              go_wp2_with (fail)
              refine hA.mono ?_
              rintro e w5 ⟨rfl, hb5⟩
              have H5 := hidB (K4.out.bel.trans (hb5.mono K4.out.bel.size))
              clear hb5 hA
              go_wp2_with (fail)
              go_ret
              exact ⟨rfl, H5.out⟩
            | false =>
              rw [if_neg (by simp), List.nil_append] at hF
              rw [hF] at hTx
              clear hF hTl hl3
              go_wp2_with (fail)
              refine (hCk _ (HNt.out)).mono ?_
              rintro e w2 ⟨rfl, hb2⟩
              have K2 := hidB (HN.out.below hb2)
              have N2 := hidB (HNt.out.below hb2)
              have d0 := K2.out.c0
              have d1 := K2.out.c1
              clear hb2 hCk c0 c1
              go_wp2_with (fail)
              refine (hTx _ (HM.out.below K2.out.bel) (HT.out.below K2.out.bel) N2.out).mono ?_
              rintro e w3 ⟨rfl, hb3⟩
              have K3 := hidB (K2.out.below hb3)
              have N3 := hidB (N2.out.below hb3)
              have e0 := K3.out.c0
              have e1 := K3.out.c1
              clear hb3 hTx d0 d1
              go_wp2_with (fail)
              refine (hHs _ (HM.out.below K3.out.bel) N3.out).mono ?_
              rintro e w4 ⟨rfl, hb4⟩
              have K4 := hidB (K3.out.below hb4)
              have hA := ciAwake w4 (HM.out.below K4.out.bel) (HT.out.below K4.out.bel)
              clear hb4 hHs e0 e1
              go_wp2_with (fail)
              refine hA.mono ?_
              rintro e w5 ⟨rfl, hb5⟩
              have H5 := hidB (K4.out.bel.trans (hb5.mono K4.out.bel.size))
              clear hb5 hA
              go_wp2_with (fail)
              go_ret
              exact ⟨rfl, H5.out⟩
/-! ### THE ROW's STEP: variables laid, a tied card -/
set_option maxRecDepth 100000 in
theorem lifted (os : Os) (started : os.Started) (H : Type) (enc : TypeId × Value → H) :
    ReturnsInHanded {} Tryd.checked os 6 .any (fun w args => (Rows.cidrManySpec.pre enc Tryd.prog Tryd.f6 Rows.cidrManyRow.domain false w args ∧ laidMetH Tryd.prog Rows.cidrManyRow.laid w) ∧ sizedMet enc Tryd.prog Tryd.f6 (OpenSpec.ofChange Rows.cidrManySpec) false w args)
      (Rows.cidrManySpec.post enc Tryd.prog Tryd.f6 false true false false) := by
  refine returnsInHanded_of_change_and (C := Tryd.checked) (X := fun w _ => laidMetH Tryd.prog Rows.cidrManyRow.laid w) (fun _ _ _ hh h => h.of_heap hh) own started (by kernel_rfl) Tryd.func6
    (ChangeSpec.witness_shaped (enc := enc) (C := Tryd.checked) (os := os) (X := fun w _ => laidMetH Tryd.prog Rows.cidrManyRow.laid w) false (World.laidAll Tryd.prog os Rows.cidrManyRow.laid) #[.int .i64 0, .bool false] 8 (World.laidAll_os _ _ _)
      (World.shaped_of_ZipB (by kernel_rfl) (by kernel_rfl)) (by kernel_rfl) (by kernel_rfl) (by kernel_rfl)
      (by rw [MakeChecks.laidMetH_plain _ _ _ (by kernel_rfl)]; exact laidMet_laidAll _ (by kernel_rfl) (by kernel_rfl))) ?_
  intro W base args ds gs before hval0 hW _ _ hL _
  have hval : ∀ (j : Nat) t v, Tryd.f6.params[j]? = some t → args[j]? = some v → Value.okWide Tryd.prog W .any base t v := hval0
  have hW' := hW
  obtain ⟨p, q, hA0, hV, rfl, hfz, hnd⟩ := hW
  have hA : DataW.TrodAll enc Tryd.prog W 0 (fun _ => true) true Tryd.f6.params.toList args.toList ds p := hA0
  have hB := fun (W' : World) (bel : Below W.heap.size W W') => below_trodAll_of laidOut bel _ (by kernel_rfl) hA
  rw [Tryd.params6] at hA hval
  obtain ⟨v0, vs0, d0, ds0, p0, q0, hargs, rfl, rfl, h0, r0⟩ := trodAll_cons hA
  obtain ⟨v1, vs1, d1, ds1, p1, q1, rfl, rfl, rfl, h1, r1⟩ := trodAll_cons r0
  obtain ⟨rfl, rfl, rfl⟩ := trodAll_nil r1
  obtain rfl : args = #[v0, v1] := by cases args; simp_all
  obtain ⟨rfl, rfl⟩ := trodVars_none hV
  obtain ⟨a0, rfl, rfl, rfl, w0⟩ := open_int Tryd.underlying3 (hval 0 3 v0 rfl rfl) h0
  obtain ⟨a1, rfl, rfl, rfl⟩ := open_bool Tryd.underlying4 (hval 1 4 v1 rfl rfl) h1
  clear hA0 hval0
  refine (walk a0 w0 a1 W (mks_of hL) (tab_pow hL)).mono fun e W' ⟨he, bel⟩ => ?_
  subst he
  exact ⟨_, rfl, _, _, _, [], _, [], hW', trodAll_mk1 (shut_bool Tryd.underlying4 _), hB W' bel, rfl, bel.frame _, fun h => by cases h⟩

theorem over : Rows.CidrManySaid :=
  OpenClaim.holds_of_wide 6 Tryd.f6 rfl rfl rfl rfl rfl rfl rfl ⟨rfl, rfl, rfl, rfl, rfl⟩ rfl rfl rfl rfl rfl (by kernel_rfl) Tryd.func6 (by kernel_rfl)
    (of_decide_eq_true (by kernel_rfl)) (by unfold Func.isWrapper; first | (rw [if_pos (by decide +kernel)]; kernel_rfl) | (rw [if_neg (by decide +kernel)]; exact ⟨rfl, rfl⟩))
    (fun os started H enc _ => lifted os started H enc)

/-- THE STATEMENT: the card -/
theorem proved : Rows.CidrManyCardSaid :=
  Claim7.holds_tied_plain_at .later [] [.data, .data, .data, .data] true (true, "5e3d923d2ccd30a7cb2f00fb2e251b9ea31824a73c9dcfd24af9987084c360a6") false over (fun _ h => by cases h) (by kernel_rfl) (fun _ h => by cases h) cidrMany_row_tie rfl ⟨rfl, rfl⟩ (by kernel_rfl) rfl
    (fun f fn hf hfn => by
      obtain rfl : f = 6 := Option.some.inj ((show Tryd.prog.funcNamed "rampart/rampartlaw09.CidrMany" = some 6 by kernel_rfl).symm.trans hf) |>.symm
      obtain rfl : fn = Tryd.f6 := (Option.some.inj (Tryd.func6.symm.trans hfn)).symm
      exact ⟨by kernel_rfl, fun j t ht => by
        rw [Tryd.params6] at ht
        have hm : t ∈ [3, 4] := by simpa using Array.mem_of_getElem? ht
        have hall : ([3, 4].all fun u => !Tryd.prog.wantsStandIn u) = true := by kernel_rfl
        exact (show Tryd.prog.wantsStandIn t = false by simpa using List.all_eq_true.1 hall t hm)⟩)
    (by kernel_rfl)
#print axioms proved
end Go.Proofs.YtcnglfjnfllppaaDoor.cidrMany
