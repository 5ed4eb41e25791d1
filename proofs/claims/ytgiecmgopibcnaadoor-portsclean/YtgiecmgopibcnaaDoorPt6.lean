/- Layer 10: spans as a text. -/
import Derived.Test.YtgiecmgopibcnaaDoorPtPl
import Derived.Test.YtgiecmgopibcnaaDoorCi6
namespace Go.Proofs.YtgiecmgopibcnaaDoor
open Go.RowKit
set_option linter.unusedVariables false
set_option maxRecDepth 20000
/-- a span's text -/
def spanT (s : Sp) : List UInt8 := if s.1 = s.2 then Lib.decDigits s.1.toNat else Lib.decDigits s.1.toNat ++ [45] ++ Lib.decDigits s.2.toNat
def listS : List Sp → List UInt8
  | [] => [97, 110, 121]
  | [n] => spanT n
  | n :: m :: R => [91] ++ Lib.join ((n :: m :: R).map spanT) [44] ++ [93]
theorem dec_le5 (v : Nat) (h : v < 100000) : (Lib.decDigits v).length ≤ 5 := dec_len 5 v (by omega) (by omega)
theorem spanT_len (s : Sp) (h : okS s) : (spanT s).length ≤ 19 := by
  unfold okS at h
  have h1 := dec_le5 s.1.toNat (by omega)
  have h2 := dec_le5 s.2.toNat (by omega)
  unfold spanT
  split
  · omega
  · simp only [List.length_append, List.length_cons, List.length_nil]; omega
def strS (n : Sp) : Value := .string (sL (spanT n))
set_option maxHeartbeats 1000000 in
theorem ptSpanText (s : Sp) (h : okS s) (w : World) (hT : Tb w) :
    Calls Tryd.prog 33 #[.agg (spC s).toArray] w fun e w' => e = .returned (.string (sL (spanT s))) ∧ Below w.heap.size w w' := by
  obtain ⟨a, b⟩ := s
  unfold okS at h
  simp only at h
  obtain ⟨x, rfl⟩ : ∃ x : Nat, a = (x : Int) := ⟨a.toNat, by omega⟩
  obtain ⟨y, rfl⟩ : ∃ y : Nat, b = (y : Int) := ⟨b.toNat, by omega⟩
  have hx : x ≤ 65535 := by omega
  have hy : y ≤ 65535 := by omega
  clear h
  have hb := below_more (Below.refl w.heap.size w) (Nat.le_refl _) (.cells #[.int .i64 (x : Int), .int .i64 (y : Int)] 34)
  have HB := hidB hb
  have HT := hidB (hT.below hb)
  have l1 := dec_le5 x (by omega)
  have l2 := dec_le5 y (by omega)
  have HF := hidB (show spanT ((x : Int), (y : Int)) = if (x : Int) = (y : Int) then Lib.decDigits x else Lib.decDigits x ++ [45] ++ Lib.decDigits y by unfold spanT; simp only [Int.toNat_natCast])
  have hA := fun (W : World) (hW : Tb W) => ciItoa x (by omega) W hW
  have hB := fun (W : World) (hW : Tb W) => ciItoa y (by omega) W hW
  show Calls Tryd.prog 33 #[.agg #[.int .i64 (x : Int), .int .i64 (y : Int)]] w fun e w' => e = .returned (.string (sL (spanT ((x : Int), (y : Int))))) ∧ Below w.heap.size w w'
  generalize Lib.decDigits x = X at hA l1 HF
  generalize Lib.decDigits y = Y at hB l2 HF
  have ad1 := fun w => addL (P := Tryd.prog) X [45] (by omega) (by simp) w
  have ad2 := fun w => addL (P := Tryd.prog) (X ++ [45]) Y (by simp; omega) (by omega) w
  rw [show sL [45] = ⟨#[45]⟩ from rfl] at ad1
  generalize hT1 : X ++ [45] = T1 at ad1 ad2
  generalize hT2 : T1 ++ Y = T2 at ad2
  have HTT := hidB (And.intro hT1 hT2)
  clear hT hb l1 l2 hT1 hT2
  by_cases he : (x : Int) = (y : Int)
  · rw [if_pos he] at HF
    have hA0 := hA _ HT.out
    have heb : ((x : Int) == (y : Int)) = true := by simp [he]
    clear hA hB ad1 ad2 he hx hy
    go_enter Tryd.func33, Tryd.ntmps33
    go_wp2_with (go_at_call 38; refine hA0.mono ?_; rintro e w2 ⟨rfl, hb2⟩)
    go_ret
    exact ⟨by rw [HF.out]; rfl, HB.out.trans (hb2.mono HB.out.size)⟩
  · rw [if_neg he] at HF
    have heb : ((x : Int) == (y : Int)) = false := by simp [he]
    clear he hx hy
    go_enter Tryd.func33, Tryd.ntmps33
    go_upto_region 3 with fail
    generalize hW0 : w.alloc (.cells #[.int .i64 (x : Int), .int .i64 (y : Int)] 34) = W0 at HB HT ⊢
    have e0 : W0.cell? ⟨w.heap.size, 0, none⟩ = some (.int .i64 (x : Int)) := by rw [← hW0]; simp
    have e1 : W0.cell? ⟨w.heap.size, 1, none⟩ = some (.int .i64 (y : Int)) := by rw [← hW0]; simp
    have z0 : w.heap.size < W0.heap.size := by rw [← hW0]; simp
    clear hW0
    have hcl := Cls.cell (w := W0)
    have cA := fun (y : Cls W0) => hA y.val (HT.out.below y.bel)
    have cB := fun (y : Cls W0) => hB y.val (HT.out.below y.bel)
    clear hA hB
    refine wp_region_calm (by kernel_rfl) (by kernel_rfl) (fun hne => ?_)
    iterate 4 (go_big_quiet_step (first | (go_at_call 38; exact calm_of (cA _))))
    repeat (go_big_quiet_step (first | (go_at_call 38; exact calm_of (cB _))))
    refine wpQuiet_nil ?_
    rintro _ ⟨z, rfl⟩
    go_wp2
    go_ret
    exact ⟨by rw [HF.out, ← HTT.out.2, ← HTT.out.1]; rfl, HB.out.trans (z.bel.mono HB.out.size)⟩
end Go.Proofs.YtgiecmgopibcnaaDoor
