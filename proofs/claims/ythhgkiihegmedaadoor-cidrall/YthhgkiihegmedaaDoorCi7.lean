/- Layer 9 as landed: a set's text; awake. -/
import Derived.Test.YthhgkiihegmedaaDoorCi6
namespace Go.Proofs.YthhgkiihegmedaaDoor
open Go.RowKit
set_option linter.unusedVariables false
set_option maxRecDepth 20000
def textL (no : Bool) (L : List Nt) : List UInt8 := if (checkL L && no) = true then [33] ++ listT (cleanL L) else listT (cleanL L)
theorem cleanUpto_mem (L : List Nt) : ∀ k, k ≤ L.length → ∀ n ∈ cleanUpto L k, ∃ m ∈ L, n = cutN m
  | 0, _, n, hn => by cases hn
  | k + 1, hk, n, hn => by
    unfold cleanUpto at hn
    rcases List.mem_append.1 hn with hn | hn
    · exact cleanUpto_mem L k (by omega) n hn
    · split at hn
      · cases hn
      · have e := List.mem_singleton.1 hn
        refine ⟨_, ?_, e⟩
        rw [List.getD_eq_getElem?_getD, List.getElem?_eq_getElem (by omega)]
        exact List.getElem_mem _
theorem cleanL_ok (L : List Nt) : ∀ n ∈ cleanL L, 0 ≤ n.2 ∧ n.2 ≤ 32 := by
  intro n hn
  unfold cleanL at hn
  by_cases hc : checkL L = true
  · rw [if_pos hc] at hn
    obtain ⟨m, hm, rfl⟩ := cleanUpto_mem L _ (Nat.le_refl _) n hn
    exact checkL_ok hc m hm
  · rw [if_neg hc] at hn; cases hn
theorem cleanL_len (L : List Nt) : (cleanL L).length ≤ 4 := by
  unfold cleanL
  by_cases hc : checkL L = true
  · rw [if_pos hc]
    exact Nat.le_trans (cleanUpto_len L _) (checkL_len hc)
  · rw [if_neg hc]; simp
theorem listT_len (R : List Nt) (h : ∀ n ∈ R, 0 ≤ n.2 ∧ n.2 ≤ 32) (h4 : R.length ≤ 20) : (listT R).length ≤ 1000 := by
  rcases R with _ | ⟨x, _ | ⟨y, R'⟩⟩
  · simp [listT]
  · have := netT_len x (h x (List.mem_cons_self ..)).2
    show (netT x).length ≤ 1000
    omega
  · have := join_le ((x :: y :: R').map netT) (fun z hz => by
      obtain ⟨u, hu, rfl⟩ := List.mem_map.1 hz
      exact netT_len u (h u hu).2)
    rw [List.length_map] at this
    show ([91] ++ Lib.join ((x :: y :: R').map netT) [44] ++ [93]).length ≤ 1000
    simp only [List.length_append, List.length_cons, List.length_nil] at this h4 ⊢
    omega
set_option maxHeartbeats 1000000 in
theorem ciText (no : Bool) (p : Option Addr) (c : Nat) (L : List Nt) (w : World) (hM : Mks w) (hT : Tb w) (h : Nets w p c L) (h20 : L.length ≤ 20) :
    Calls Tryd.prog 13 #[.agg (setC no p L.length c)] w fun e w' => e = .returned (.string (sL (textL no L))) ∧ Below w.heap.size w w' := by
  have hb := (Below.refl w.heap.size w).alloc (Nat.le_refl _) (.cells (setC no p L.length c) 24)
  have hcl := ciClean no p c L _ (hM.below hb) (h.below hb) h20
  have HB := hidB hb
  have HT := hidB hT
  clear h hM hT hb
  have hok := cleanL_ok L
  have hlen := cleanL_len L
  have HF := hidB (show textL no L = if (checkL L && no) = true then [33] ++ listT (cleanL L) else listT (cleanL L) from rfl)
  generalize cleanL L = R at hcl hok hlen HF
  generalize (checkL L && no) = r at hcl HF
  have hl2 := listT_len R hok (by omega)
  have HOK := hidB hok
  clear hok
  go_enter Tryd.func13, Tryd.ntmps13
  go_wp2_with (fail)
  refine hcl.mono ?_
  rintro e w2 ⟨p', c', rfl, hN, hb2⟩
  have HB2 := hidB (HB.out.trans (hb2.mono HB.out.size))
  have hal := below_more (Below.refl w2.heap.size w2) (Nat.le_refl _) (.cells (setC r p' R.length c') 24)
  have hb3 := HB2.out.trans (hal.mono HB2.out.size)
  have hTx := ciTextOf p' c' R _ (HT.out.below hb3) (hN.below hal) HOK.out (by omega)
  have HB3 := hidB hb3
  clear hcl hN hb2 hal hb3 HB HB2
  cases r with
  | true =>
    have ad := fun w => addL (P := Tryd.prog) [33] (listT R) (by simp) (by omega) w
    rw [if_pos rfl] at HF
    generalize [33] ++ listT R = T at ad HF
    generalize listT R = T0 at ad hTx hl2
    rw [show sL [33] = ⟨#[33]⟩ from rfl] at ad
    clear hl2
    go_wp2_with (fail)
    refine hTx.mono ?_
    rintro e w4 ⟨rfl, hb4⟩
    have HB4 := hidB (HB3.out.trans (hb4.mono HB3.out.size))
    clear hTx hb4
    go_wp2_with (fail)
    go_ret
    exact ⟨by rw [HF.out]; rfl, HB4.out⟩
  | false =>
    rw [if_neg (by simp)] at HF
    generalize listT R = T0 at hTx hl2 HF
    clear hl2
    go_wp2_with (fail)
    refine hTx.mono ?_
    rintro e w4 ⟨rfl, hb4⟩
    have HB4 := hidB (HB3.out.trans (hb4.mono HB3.out.size))
    clear hTx hb4
    go_wp2_with (fail)
    go_ret
    exact ⟨by rw [HF.out]; rfl, HB4.out⟩
end Go.Proofs.YthhgkiihegmedaaDoor
