/- Layer 10 as landed: a set's text. -/
import Derived.Test.YtgiecmgopibcnaaDoorPt5
import Derived.Test.YtgiecmgopibcnaaDoorPt7
namespace Go.Proofs.YtgiecmgopibcnaaDoor
open Go.RowKit
set_option linter.unusedVariables false
set_option maxRecDepth 20000
def textS (no : Bool) (L : List Sp) : List UInt8 := if (checkS L && no) = true then [33] ++ listS (cleanS L) else listS (cleanS L)
theorem cleanS_ok (L : List Sp) : ∀ s ∈ cleanS L, okS s := by
  intro s hs
  unfold cleanS at hs
  by_cases hc : checkS L = true
  · rw [if_pos hc] at hs
    split at hs
    · cases hs
    · exact rawS_ok (checkS_ok hc) s hs
  · rw [if_neg hc] at hs; cases hs
theorem cleanS_len (L : List Sp) : (cleanS L).length ≤ 4 := by
  unfold cleanS
  by_cases hc : checkS L = true
  · rw [if_pos hc]
    split
    · simp
    · exact Nat.le_trans (rawS_len (checkS_ok hc)) (checkS_len hc)
  · rw [if_neg hc]; simp
theorem listS_len (R : List Sp) (h : ∀ n ∈ R, okS n) (h4 : R.length ≤ 20) : (listS R).length ≤ 1000 := by
  rcases R with _ | ⟨x, _ | ⟨y, R'⟩⟩
  · simp [listS]
  · have := spanT_len x (h x (List.mem_cons_self ..))
    show (spanT x).length ≤ 1000
    omega
  · have := join_le ((x :: y :: R').map spanT) (fun z hz => by
      obtain ⟨u, hu, rfl⟩ := List.mem_map.1 hz
      exact spanT_len u (h u hu))
    rw [List.length_map] at this
    show ([91] ++ Lib.join ((x :: y :: R').map spanT) [44] ++ [93]).length ≤ 1000
    simp only [List.length_append, List.length_cons, List.length_nil] at this h4 ⊢
    omega
set_option maxHeartbeats 1000000 in
theorem ptText (no : Bool) (p : Option Addr) (c : Nat) (L : List Sp) (w : World) (hT : Tb w) (h : Spans w p c L) (h20 : L.length ≤ 20) :
    Calls Tryd.prog 16 #[.agg (ptC no p L.length c)] w fun e w' => e = .returned (.string (sL (textS no L))) ∧ Below w.heap.size w w' := by
  have hb := (Below.refl w.heap.size w).alloc (Nat.le_refl _) (.cells (ptC no p L.length c) 24)
  have hcl := ptClean no p c L _ (h.below hb) h20
  have HB := hidB hb
  have HT := hidB hT
  clear h hT hb
  have hok := cleanS_ok L
  have hlen := cleanS_len L
  have HF := hidB (show textS no L = if (checkS L && no) = true then [33] ++ listS (cleanS L) else listS (cleanS L) from rfl)
  generalize cleanS L = R at hcl hok hlen HF
  generalize (checkS L && no) = r at hcl HF
  have hl2 := listS_len R hok (by omega)
  have HOK := hidB hok
  clear hok
  go_enter Tryd.func16, Tryd.ntmps16
  go_wp2_with (fail)
  refine hcl.mono ?_
  rintro e w2 ⟨p', c', rfl, hN, hb2⟩
  have HB2 := hidB (HB.out.trans (hb2.mono HB.out.size))
  have hal := below_more (Below.refl w2.heap.size w2) (Nat.le_refl _) (.cells (ptC r p' R.length c') 24)
  have hb3 := HB2.out.trans (hal.mono HB2.out.size)
  have hTx := ptTextOf p' c' R _ (HT.out.below hb3) (hN.below hal) HOK.out (by omega)
  have HB3 := hidB hb3
  clear hcl hN hb2 hal hb3 HB HB2
  cases r with
  | true =>
    have ad := fun w => addL (P := Tryd.prog) [33] (listS R) (by simp) (by omega) w
    rw [if_pos rfl] at HF
    generalize [33] ++ listS R = T at ad HF
    generalize listS R = T0 at ad hTx hl2
    rw [show sL [33] = ⟨#[33]⟩ from rfl] at ad
    clear hl2
    go_wp2_with (fail)
    refine hTx.mono ?_
    rintro e w4 ⟨rfl, hb4⟩
    have HB4 := hidB (HB3.out.trans (hb4.mono HB3.out.size))
    clear hTx hb4
    go_wp2_with (fail)
    go_ret
    exact ⟨by rw [HF.out]; rfl, HB4.out⟩
  | false =>
    rw [if_neg (by simp)] at HF
    generalize listS R = T0 at hTx hl2 HF
    clear hl2
    go_wp2_with (fail)
    refine hTx.mono ?_
    rintro e w4 ⟨rfl, hb4⟩
    have HB4 := hidB (HB3.out.trans (hb4.mono HB3.out.size))
    clear hTx hb4
    go_wp2_with (fail)
    go_ret
    exact ⟨by rw [HF.out]; rfl, HB4.out⟩
end Go.Proofs.YtgiecmgopibcnaaDoor
