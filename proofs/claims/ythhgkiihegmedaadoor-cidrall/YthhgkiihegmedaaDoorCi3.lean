/- Layer 9 as landed: what is needless. -/
import Derived.Test.YthhgkiihegmedaaDoorCi2
namespace Go.Proofs.YthhgkiihegmedaaDoor
open Go.RowKit
set_option linter.unusedVariables false
set_option maxRecDepth 20000
set_option maxHeartbeats 1000000 in
theorem ciNeedless (M : List Vn) (b o c i : Nat) (n : Vn) (hi : M[i]? = some n) (w : World) (hM : Mks w) (hN : Nets w (some ⟨b, o, none⟩) c (M.map Vn.nt)) (h20 : M.length ≤ 20) :
    Calls Tryd.prog 19 #[.slice (some ⟨b, o, none⟩) M.length c, .int .i64 (i : Int)] w fun e w' => e = .returned (.bool (needless (M.map Vn.nt) i n.nt)) ∧ Below w.heap.size w w' := by
  have hil := (List.getElem?_eq_some_iff.1 hi).1
  obtain ⟨hb, c0, c1⟩ := hN.cell (vn_at hi)
  have i1 : (i : Int) < (M.length : Int) := by omega
  have hc := hN.1
  rw [List.length_map] at hc
  have hbw := (Below.refl w.heap.size w).alloc (Nat.le_refl _) (.cells (ntC n.nt).toArray 34)
  have hM1 := hM.below hbw
  have hN1 := hN.below hbw
  have d0 : (w.alloc (.cells (ntC n.nt).toArray 34)).cell? ⟨w.heap.size, 0, none⟩ = some (.int .u32 (n.1.toNat : Int)) := by simp [ntC, Vn.nt]
  have d1 : (w.alloc (.cells (ntC n.nt).toArray 34)).cell? ⟨w.heap.size, 1, none⟩ = some (.int .i64 ((n.2.val : Nat) : Int)) := by simp [ntC, Vn.nt]
  have k1 := ciContains Vn.nt (fun e => within n.nt e.nt) 30 #[.pointer (some ⟨w.heap.size, 0, none⟩)] egLess1 (some ⟨b, o, none⟩) c (M.take i) _
    (pred_of fun W' x hW' => ciLess1 x n w.heap.size W' (hM1.below hW') ((hW'.cell (p := ⟨w.heap.size, 0, none⟩) (ciLt d0)).trans d0) ((hW'.cell (p := ⟨w.heap.size, 1, none⟩) (ciLt d1)).trans d1))
    (by rw [List.map_take]; exact hN1.take i) (by rw [List.length_take]; omega)
  have k2 := fun (W : World) (hW : Below (w.alloc (.cells (ntC n.nt).toArray 34)).heap.size (w.alloc (.cells (ntC n.nt).toArray 34)) W) =>
    ciContains Vn.nt (fun l => within n.nt l.nt && !within l.nt n.nt) 32 #[.pointer (some ⟨w.heap.size, 0, none⟩)] egLess2 (some ⟨b, o + (i + 1) * 2, none⟩) (c - (i + 1)) (M.drop (i + 1)) W
    (pred_of fun W' x hW' => ciLess2 x n w.heap.size W' ((hM1.below hW).below hW') ((hW'.cell (p := ⟨w.heap.size, 0, none⟩) (Nat.lt_of_lt_of_le (ciLt d0) hW.size)).trans ((hW.cell (p := ⟨w.heap.size, 0, none⟩) (ciLt d0)).trans d0)) ((hW'.cell (p := ⟨w.heap.size, 1, none⟩) (Nat.lt_of_lt_of_le (ciLt d1) hW.size)).trans ((hW.cell (p := ⟨w.heap.size, 1, none⟩) (ciLt d1)).trans d1)))
    (by rw [List.map_drop]; exact (hN1.below hW).drop (i + 1)) (by rw [List.length_drop]; omega)
  rw [List.length_take, Nat.min_eq_left (by omega)] at k1
  rw [List.length_drop] at k2
  have k3 := fun (W : World) (hW : Below (w.alloc (.cells (ntC n.nt).toArray 34)).heap.size (w.alloc (.cells (ntC n.nt).toArray 34)) W) =>
    ciContains Vn.nt (fun l => within n.nt l.nt && !within l.nt n.nt) 32 #[.pointer (some ⟨w.heap.size, 0, none⟩)] egLess2 (some ⟨b, o, none⟩) 0 [] W
    (pred_of fun W' x hW' => ciLess2 x n w.heap.size W' ((hM1.below hW).below hW') ((hW'.cell (p := ⟨w.heap.size, 0, none⟩) (Nat.lt_of_lt_of_le (ciLt d0) hW.size)).trans ((hW.cell (p := ⟨w.heap.size, 0, none⟩) (ciLt d0)).trans d0)) ((hW'.cell (p := ⟨w.heap.size, 1, none⟩) (Nat.lt_of_lt_of_le (ciLt d1) hW.size)).trans ((hW.cell (p := ⟨w.heap.size, 1, none⟩) (ciLt d1)).trans d1)))
    ⟨Nat.le_refl _, .inl rfl⟩ (by simp)
  simp only [List.length_nil, List.any_nil] at k3
  have k4 : c = i + 1 → M.drop (i + 1) = [] := fun e => List.drop_eq_nil_of_le (by omega)
  have HF := hidB (show needless (M.map Vn.nt) i n.nt = ((M.take i).any (fun e => within n.nt e.nt) || (M.drop (i + 1)).any (fun l => within n.nt l.nt && !within l.nt n.nt)) by
    unfold needless
    rw [← List.map_take, ← List.map_drop, List.any_map, List.any_map]
    rfl)
  have HB := hidB hbw
  generalize (M.take i).any (fun e => within n.nt e.nt) = r1 at k1 HF
  have k5 : c = i + 1 → (M.drop (i + 1)).any (fun l => within n.nt l.nt && !within l.nt n.nt) = false := fun e => by rw [k4 e]; rfl
  clear k4
  generalize (M.drop (i + 1)).any (fun l => within n.nt l.nt && !within l.nt n.nt) = r2 at k2 HF k5
  have w1 : wrap64 ((i : Int) + 1) = ((i + 1 : Nat) : Int) := by rw [wrap64]; omega
  clear hM hN hM1 hN1 d0 d1 hbw hi
  generalize M.length = m at *
  cases r1 with
  | true =>
    clear k2 k3 k5
    go_enter Tryd.func19, Tryd.ntmps19
    go_wp2_with (fail)
    refine k1.mono ?_
    rintro e w2 ⟨rfl, hb2⟩
    have HB2 := hidB (HB.out.trans (hb2.mono HB.out.size))
    clear k1 hb2 HB
    go_wp2
    go_ret
    exact ⟨by rw [HF.out]; rfl, HB2.out⟩
  | false =>
    by_cases hce : c = i + 1
    · have k6 := k5 hce
      clear k5
      subst hce
      have hm : m = i + 1 := by omega
      subst hm
      subst k6
      clear k2
      go_enter Tryd.func19, Tryd.ntmps19
      go_wp2_with (fail)
      refine k1.mono ?_
      rintro e w2 ⟨rfl, hb2⟩
      have k3 := k3 w2 hb2
      have HB2 := hidB (HB.out.trans (hb2.mono HB.out.size))
      clear k1 hb2 HB
      go_wp2_with (fail)
      refine k3.mono ?_
      rintro e w3 ⟨rfl, hb3⟩
      have HB3 := hidB (HB2.out.trans (hb3.mono HB2.out.size))
      clear k3 hb3 HB2
      go_wp2
      go_ret
      exact ⟨by rw [HF.out]; rfl, HB3.out⟩
    · have hce2 : ¬ ((c : Int) = ((i : Int) + 1)) := by omega
      clear k3 k5
      go_enter Tryd.func19, Tryd.ntmps19
      go_wp2_with (fail)
      refine k1.mono ?_
      rintro e w2 ⟨rfl, hb2⟩
      have k2 := k2 w2 hb2
      have HB2 := hidB (HB.out.trans (hb2.mono HB.out.size))
      clear k1 hb2 HB
      go_wp2_with (fail)
      refine k2.mono ?_
      rintro e w3 ⟨rfl, hb3⟩
      have HB3 := hidB (HB2.out.trans (hb3.mono HB2.out.size))
      clear k2 hb3 HB2
      go_wp2
      go_ret
      exact ⟨by rw [HF.out]; rfl, HB3.out⟩
end Go.Proofs.YthhgkiihegmedaaDoor
