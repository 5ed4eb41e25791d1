/- Layer 8: strings.Map with smallOf, on bytes below 128. -/
import Derived.Test.YtepmncfgkmpccaaDoorLxs
import Derived.Test.YtepmncfgkmpccaaDoorLxRows
import Derived.Test.YtepmncfgkmpccaaDoorShelf
import Derived.Deep.DeepFit
import Derived.Deep.DeepCutAuto
namespace Go.Proofs.YtepmncfgkmpccaaDoor
open Go.RowKit Go.Lib
set_option linter.unusedVariables false
set_option linter.unusedSimpArgs false

theorem cap_cell (b : Nat) (p : Option Addr) (n cap : Nat) (w : World) (c1 : w.cell? ⟨b, 1, none⟩ = some (.slice p n cap)) :
    Calls Tryd.prog 34 #[.pointer (some ⟨b, 0, none⟩)] w fun e w' => e = .returned (.int .i64 cap) ∧ w' = w := by
  go_enter Tryd.func34, Tryd.ntmps34
  go_wp2
  go_ret
  exact ⟨rfl, rfl⟩
theorem smallB_val (x : UInt8) (h : x.toNat < 128) : ((Lx.smallB x).toNat : Int) = Lx.small (x.toNat : Int) := by
  unfold Lx.smallB
  have : 0 ≤ Lx.small (x.toNat : Int) ∧ Lx.small (x.toNat : Int) < 256 := by unfold Lx.small; split <;> omega
  rw [UInt8.toNat_ofNat']
  omega
theorem cells_one (x : UInt8) : Lib.byteCells [x] = [.int .u8 (x.toNat : Int)] := rfl
theorem extract_to (s : ByteArray) (pos : Nat) (h : pos ≤ s.size) : (s.extract 0 pos).size = pos ∧ (s.extract 0 pos).data.toList = s.data.toList.take pos := by
  constructor
  · simp; omega
  · rw [Lib.extract_data]; simp
theorem extract_from (s : ByteArray) (pos : Nat) (h : pos ≤ s.size) : (s.extract pos s.size).size = s.size - pos ∧ (s.extract pos s.size).data.toList = s.data.toList.drop pos := by
  have hlen : s.data.toList.length = s.size := by simp
  constructor
  · simp
  · rw [Lib.extract_data, List.take_of_length_le (by rw [List.length_drop, hlen]; omega)]
theorem map_parts (s : ByteArray) (pos : Nat) (h : pos < s.size) : ∃ t1 t2 : ByteArray, s.extract 0 pos = t1 ∧ s.extract (pos + 1) s.size = t2 ∧ Hid (t1.size = pos ∧ t1.data.toList = s.data.toList.take pos) ∧ Hid (t2.size = s.size - (pos + 1) ∧ t2.data.toList = s.data.toList.drop (pos + 1)) :=
  ⟨_, _, rfl, rfl, extract_to s pos (by omega), extract_from s (pos + 1) (by omega)⟩
theorem map_nums (pos z : Nat) (h : pos < z) (hz : z ≤ 8192) : wrap64 ((pos : Int) + 1) = (pos : Int) + 1 ∧ ((pos : Int) + 1).toNat = pos + 1 ∧ (pos : Int) + 1 ≤ (z : Int) := by
  refine ⟨by simp [wrap64]; omega, by omega, by omega⟩
theorem cells_of (l : List UInt8) : Lib.byteCells l = l.map bv := rfl
theorem map_cells (t1 s : ByteArray) (pos : Nat) (y : UInt8) (h : t1.data.toList = s.data.toList.take pos) (hy : y.toNat < 128) :
    [] ++ Lib.strCells t1 ++ Lib.runeCells (y.toNat : Int) = Lib.byteCells (s.data.toList.take pos ++ [y]) := by
  rw [List.nil_append, Lib.strCells_eq, h, Lib.byteCells_append]
  congr 1
  unfold Lib.runeCells
  rw [Lib.encodeRuneZ_one (by omega) (by omega)]
  rfl
theorem map_cap {B : Nat} {W6 : World} {l : List Value} {q : Value} (h : Lib.BuilderAtF 51 5 B B q l W6) (hl : 1 ≤ l.length) : ∃ g6 cap6, W6.cell? ⟨B, 1, none⟩ = some (.slice (some ⟨g6, 0, none⟩) l.length cap6) ∧ 1 ≤ cap6 := by
  obtain ⟨_, v6, hv6, hown6, _⟩ := h
  rcases hown6.2 with ⟨_, h0⟩ | ⟨g6, cap6, _, _, rfl, _, _, _, hnc, _⟩
  · omega
  · exact ⟨g6, cap6, by rw [Lib.cell_of_heap hv6]; rfl, by omega⟩
set_option maxHeartbeats 1000000 in
set_option maxRecDepth 100000 in
theorem map_small (s : ByteArray) (w : World) (hs : s.size ≤ 8192) (hlow : ∀ x ∈ s.data.toList, x.toNat < 128) :
    Calls Tryd.prog 23 #[.func (.func 24) #[] #[], .string s] w fun e w' => e = .returned (.string ⟨(s.data.toList.map Lx.smallB).toArray⟩) ∧ Below w.heap.size w w' := by
  obtain ⟨ANS, hANS⟩ : ∃ ANS, s.data.toList.map Lx.smallB = ANS := ⟨_, rfl⟩
  rw [hANS]
  have hlen : s.data.toList.length = s.size := by simp
  have HLOW : Hid (∀ p, p < s.size → (s.data.toList.getD p 0).toNat < 128) := fun p hp => hlow _ (by
    rw [List.getD, List.getElem?_eq_getElem (by omega)]
    exact List.getElem_mem _)
  clear hlow
  go_enter Tryd.func23, Tryd.ntmps23
  go_wp2
  go_loopg [1] s.size (fun gk s1 wx => s1 = .string s ∧ ∃ pos : Nat, wx.heap[w.heap.size]? = some (.cells #[.pointer none, .slice none 0 0] 51 (0, 0)) ∧ wx.heap[w.heap.size + 1]? = some (.stringIter s pos) ∧ Below w.heap.size w wx ∧
    Hid (s.data.toList.take pos ++ (s.data.toList.drop pos).map Lx.smallB = ANS) ∧ s.size = pos + gk)
  case atStart =>
    refine ⟨rfl, 0, ?_, ?_, below2 w _ _, (by show _ = _; simpa using hANS), by omega⟩
    · have h1 := heap_alloc_new w (.cells #[.pointer none, .slice none 0 0] 51)
      exact (Below.heap_alloc _ _ _ (by simp)).trans h1
    · have := World.iter_heap (w.alloc (.cells #[.pointer none, .slice none 0 0] 51)) s 0
      simpa using this
  case round =>
    obtain ⟨rfl, pos, hfr, hit, hbw, hsp, hfu⟩ := hrel
    by_cases hlt : pos < s.size
    · obtain ⟨g', rfl⟩ : ∃ g', gk = g' + 1 := ⟨gk - 1, by omega⟩
      have hnx : ∀ ty, (Instr.next (.pointer (some ⟨w.heap.size + 1, 0, none⟩)) true ty).run Tryd.prog wr = _ := fun ty => Lib.run_next_any_at wr (w.heap.size + 1) s pos ty hit hlt
      have hx128 := HLOW.out pos hlt
      have hcons := drop_at' s pos hlt
      have hsm := smallB_val (s.data.toList.getD pos 0) hx128
      rw [Lx.low_one s pos hlt hx128] at hnx
      obtain ⟨x, hx⟩ : ∃ x, s.data.toList.getD pos 0 = x := ⟨_, rfl⟩
      rw [hx] at hnx hx128 hcons hsm
      have htake : s.data.toList.take (pos + 1) = s.data.toList.take pos ++ [x] := by
        rw [List.take_succ_eq_append_getElem (by omega), ← hx]
        simp [List.getD, hlt]
      have hit2 := Lib.iterAt_heap wr (w.heap.size + 1) s pos (pos + 1) hit
      have hbw2 := Lib.below_iterAt hbw (k := w.heap.size + 1) (by omega) s (pos + 1)
      have hfr2 : (wr.iterAt (w.heap.size + 1) s (pos + 1)).heap[w.heap.size]? = _ := (Lib.iterAt_other wr (w.heap.size + 1) w.heap.size s (pos + 1) (by omega)).trans hfr
      obtain ⟨W, hWd⟩ : ∃ W, wr.iterAt (w.heap.size + 1) s (pos + 1) = W := ⟨_, rfl⟩
      rw [show (((x.toNat, 1) : Nat × Nat).1) = x.toNat from rfl, show (((x.toNat, 1) : Nat × Nat).2) = 1 from rfl] at hnx
      rw [hWd] at hnx hit2 hbw2 hfr2
      have cS := smallOf_any (x.toNat : Int) W (by omega) (by omega)
      rw [← hsm] at cS
      have hyb := (Lx.smallB x).toNat_lt
      have hsp2 : Hid (s.data.toList.take pos ++ Lx.smallB x :: (s.data.toList.drop (pos + 1)).map Lx.smallB = ANS) := by
        show _ = _
        rw [← hsp.out, hcons, List.map_cons]
      have hy128 : (Lx.smallB x).toNat < 128 := by
        have : Lx.small (x.toNat : Int) < 128 := by unfold Lx.small; split <;> omega
        omega
      obtain ⟨y, hy⟩ : ∃ y, Lx.smallB x = y := ⟨_, rfl⟩
      rw [hy] at cS hsp2 hy128
      have hszW : w.heap.size + 1 < W.heap.size := (Array.getElem?_eq_some_iff.1 hit2).1
      clear hit hbw hfr hWd hsm hyb hcons hsp
      have hx3 : ¬ ((x.toNat : Int) = 65533) := by omega
      by_cases hxy : y = x
      · subst hxy
        have hsp3 : Hid (s.data.toList.take (pos + 1) ++ (s.data.toList.drop (pos + 1)).map Lx.smallB = ANS) := by
          show _ = _
          rw [htake, ← hsp2.out, List.append_assoc]
          rfl
        clear htake hx hy hy128 hsp2
        go_wp2_with (go_at_call 24; go_must (refine cS.mono ?_; rintro e W' ⟨rfl, rfl⟩))
        go_roundg g'
        case measure => omega
        case rel => exact ⟨rfl, pos + 1, hfr2, hit2, hbw2, hsp3, by omega⟩
      · have hxy1 : ¬ ((y.toNat : Int) = (x.toNat : Int)) := by
          intro h
          exact hxy (UInt8.toNat.inj (by omega))
        clear htake hx hy
        have hxyb : ((y.toNat : Int) == (x.toNat : Int)) = false := by simpa using hxy1
        have cR := Tryd.utf8_RuneLen (x.toNat : Int) W
        rw [show Lib.runeLen (x.toNat : Int) = 1 from by unfold Lib.runeLen; rw [if_neg (by omega), if_pos (by omega)]] at cR
        obtain ⟨n4, hn4⟩ : ∃ n, s.size + 4 = n := ⟨_, rfl⟩
        have hs4 : (s.size : Int) + 4 = (n4 : Int) := by omega
        have hn4b : (n4 : Int) ≤ 10000 := by omega
        have cG := Tryd.Builder_Grow_fresh w.heap.size w.heap.size n4 W (Nat.le_refl _) hfr2 hbw2.size (by omega)
        clear hn4
        obtain ⟨t1, t2, ht1, ht2, HX, HZ⟩ := map_parts s pos hlt
        have hpk := (map_nums pos s.size hlt hs).1
        have hpn := (map_nums pos s.size hlt hs).2.1
        have hp1 := (map_nums pos s.size hlt hs).2.2
        have hy0 : 0 ≤ (y.toNat : Int) := Int.natCast_nonneg _
        have HFU : Hid (s.size = pos + (g' + 1)) := hfu
        clear hfu
        go_wp2_with (first
          | (go_at_call 24; go_must (refine cS.mono ?_; rintro e W' ⟨rfl, rfl⟩))
          | (go_at_call 30; go_must (refine cR.mono ?_; rintro e W' ⟨rfl, rfl⟩))
          | (go_at_call 31; go_must (refine cG.mono ?_; rintro e W4 ⟨rfl, h4, b4⟩)))
        have HB4 : Hid (Below w.heap.size w W4) := hbw2.trans b4
        have hB4 : w.heap.size ≤ W4.heap.size := Nat.le_trans hbw2.size b4.size
        have cW := Tryd.Builder_WriteString_k w.heap.size w.heap.size [] t1 W4 (Lib.IsBuilderF.of (Or.inr h4)) (by have := HX.out.1; simp; omega) hB4
        clear cS cR cG hnx hit2 hfr2 hbw2 b4 h4
        go_wp2_with (first
          | (go_at_call 32; go_must (refine cW.mono ?_; rintro e W5 ⟨rfl, h5w, b5, -⟩)))
        have cU := Tryd.Builder_WriteRune_k w.heap.size w.heap.size _ (y.toNat : Int) (by omega) (by omega) W5 (Or.inr h5w) (by have := HX.out.1; simp [Lib.strCells_length]; omega) (Nat.le_trans hB4 b5.size)
        refine cU.mono ?_
        rintro e W6 ⟨rfl, h6w, b6, -⟩
        rw [map_cells t1 s pos y HX.out.2 hy128] at h6w
        have HB6 : Hid (Below w.heap.size w W6) := (HB4.out.trans b5).trans b6
        have hB6 : w.heap.size ≤ W6.heap.size := Nat.le_trans (Nat.le_trans hB4 b5.size) b6.size
        obtain ⟨g6, cap6, hc6, hcap6⟩ := map_cap h6w (by rw [Lib.byteCells_length, List.length_append]; simp)
        have hcapb : ((cap6 : Int) == 0) = false := by simp; omega
        have hcapz : ¬ ((cap6 : Int) = 0) := by omega
        have H6 : Hid (Lib.BuilderAtF 51 5 w.heap.size w.heap.size (.pointer (some ⟨w.heap.size, 0, none⟩)) (Lib.byteCells (s.data.toList.take pos ++ [y])) W6) := h6w
        have cC := cap_cell w.heap.size _ _ cap6 W6 hc6
        have hlt6 : Hid (w.heap.size < W6.heap.size) := h6w.lt
        clear cU cW h5w b5 b6 h6w hc6 HB4 hB4
        go_wp2_with (go_at_call 34; go_must (refine cC.mono ?_; rintro e W' ⟨rfl, rfl⟩))
        have hns2 : Hid (s.data.toList.take pos ++ [y] ++ t2.data.toList.map Lx.smallB = ANS) := by
          show _ = _
          rw [← hsp2.out, HZ.out.2, List.append_assoc]
          rfl
        have hlen1 : Hid ((s.data.toList.take pos ++ [y]).length ≤ 8193) := by
          show _ ≤ _
          rw [List.length_append, List.length_take]
          simp
          omega
        have hlow2 : Hid (∀ p, p < t2.size → (t2.data.toList.getD p 0).toNat < 128) := by
          intro p hp
          rw [HZ.out.2]
          rw [HZ.out.1] at hp
          rw [List.getD, List.getElem?_drop]
          exact HLOW.out (pos + 1 + p) (by omega)
        have ht2s : Hid (t2.size ≤ 8192) := by show _ ≤ _; rw [HZ.out.1]; omega
        clear HX HZ HFU hsp2 HLOW ht1 ht2 hpk hpn hp1 hs4 hn4b hxyb hxy1 hx3 hy0 hx128 hy128
        go_loopg [] t2.size (fun gk wx => ∃ (p2 : Nat) (acc : List UInt8), Lib.IsBuilderF 51 5 w.heap.size w.heap.size (Lib.byteCells acc) wx ∧ wx.heap[W'.heap.size]? = some (.stringIter t2 p2) ∧ Below w.heap.size w wx ∧
          Hid (acc ++ (t2.data.toList.drop p2).map Lx.smallB = ANS ∧ acc.length ≤ 8193 + p2) ∧ t2.size = p2 + gk)
        case atStart =>
          refine ⟨0, s.data.toList.take pos ++ [y], Lib.IsBuilderF.alloc (Or.inr H6.out) _, World.iter_heap W' t2 0, HB6.out.alloc hB6 _, ?_, by omega⟩
          show _ ∧ _
          exact ⟨by rw [List.drop_zero]; exact hns2.out, hlen1.out⟩
        case round =>
          obtain ⟨p2, acc, hI, hit, hbw, hacc, hfu2⟩ := hrel
          have hl6 : w.heap.size < W'.heap.size := hlt6.out
          by_cases hlt2 : p2 < t2.size
          · obtain ⟨g2, rfl⟩ : ∃ g2, gk = g2 + 1 := ⟨gk - 1, by omega⟩
            have hnx : ∀ ty, (Instr.next (.pointer (some ⟨W'.heap.size, 0, none⟩)) true ty).run Tryd.prog wr = _ := fun ty => Lib.run_next_any_at wr W'.heap.size t2 p2 ty hit hlt2
            have hx128 := hlow2.out p2 hlt2
            have hcons := drop_at' t2 p2 hlt2
            have hsm := smallB_val (t2.data.toList.getD p2 0) hx128
            rw [Lx.low_one t2 p2 hlt2 hx128] at hnx
            obtain ⟨z, hz⟩ : ∃ z, t2.data.toList.getD p2 0 = z := ⟨_, rfl⟩
            rw [hz] at hnx hx128 hcons hsm
            have hI2 := hI.iterAt hit (p2 + 1)
            have hit2 := Lib.iterAt_heap wr W'.heap.size t2 p2 (p2 + 1) hit
            have hbw2 := Lib.below_iterAt hbw (k := W'.heap.size) hB6 t2 (p2 + 1)
            have hsz2 : w.heap.size ≤ (wr.iterAt W'.heap.size t2 (p2 + 1)).heap.size := hbw2.size
            obtain ⟨Wa, hWa⟩ : ∃ Wa, wr.iterAt W'.heap.size t2 (p2 + 1) = Wa := ⟨_, rfl⟩
            rw [show (((z.toNat, 1) : Nat × Nat).1) = z.toNat from rfl, show (((z.toNat, 1) : Nat × Nat).2) = 1 from rfl] at hnx
            rw [hWa] at hnx hI2 hit2 hbw2 hsz2
            have cS := smallOf_any (z.toNat : Int) Wa (by omega) (by omega)
            rw [← hsm] at cS
            have hq128 : (Lx.smallB z).toNat < 128 := by
              have : Lx.small (z.toNat : Int) < 128 := by unfold Lx.small; split <;> omega
              omega
            have hacc2 : Hid (acc ++ [Lx.smallB z] ++ (t2.data.toList.drop (p2 + 1)).map Lx.smallB = ANS ∧ (acc ++ [Lx.smallB z]).length ≤ 8193 + (p2 + 1)) := by
              obtain ⟨a1, a2⟩ := hacc.out
              rw [hcons, List.map_cons] at a1
              exact ⟨by rw [← a1, List.append_assoc]; rfl, by rw [List.length_append, List.length_singleton]; omega⟩
            have hal : acc.length ≤ 100000 := by have := hacc.out.2; have := ht2s.out; omega
            obtain ⟨q, hq⟩ : ∃ q, Lx.smallB z = q := ⟨_, rfl⟩
            rw [hq] at cS hq128 hacc2
            have hq0 : 0 ≤ (q.toNat : Int) := Int.natCast_nonneg _
            have hq1 : (q.toNat : Int) < 128 := by omega
            have cB := Tryd.Builder_WriteByte_k w.heap.size w.heap.size _ (q.toNat : Int) Wa hI2 (by rw [Lib.byteCells_length]; omega) hsz2
            have HIT : Hid (Wa.heap[W'.heap.size]? = some (.stringIter t2 (p2 + 1))) := hit2
            have HBW : Hid (Below w.heap.size w Wa) := hbw2
            have HFU2 : Hid (t2.size = p2 + (g2 + 1)) := hfu2
            clear hit hbw hI hWa hacc hcons hsm hz hq hI2 hit2 hbw2 hal hfu2
            go_wp2_with (first
              | (go_at_call 24; go_must (refine cS.mono ?_; rintro e W7 ⟨rfl, rfl⟩))
              | (go_at_call 35; go_must (refine cB.mono ?_; rintro e W7 ⟨rfl, h7, b7, k7⟩)))
            go_roundg g2
            case measure => omega
            case rel =>
              refine ⟨p2 + 1, acc ++ [q], Or.inr ?_, k7.iter HIT.out (by omega), HBW.out.trans b7, hacc2, by have := HFU2.out; omega⟩
              rw [Lib.byteCells_append]
              exact h7
          · obtain rfl : p2 = t2.size := by omega
            have hnx : ∀ ty, (Instr.next (.pointer (some ⟨W'.heap.size, 0, none⟩)) true ty).run Tryd.prog wr = _ := fun ty => Lib.run_next_end_at wr W'.heap.size t2 t2.size ty hit hlt2
            have cT := Tryd.Builder_String_any_f w.heap.size w.heap.size acc wr hI (Nat.le_trans hB6 (Nat.le_of_lt (Array.getElem?_eq_some_iff.1 hit).1))
            have hans : acc = ANS := by
              have := hacc.out.1
              rw [drop_nil_of t2 t2.size hlt2] at this
              simpa using this
            have HBW : Hid (Below w.heap.size w wr) := hbw
            clear hI hit hbw hacc
            go_wp2_with (go_at_call 36; go_must (refine cT.mono ?_; rintro e W8 ⟨rfl, _, b8⟩))
            go_ret
            exact ⟨rfl, HBW.out.trans b8⟩
    · obtain rfl : pos = s.size := by omega
      have hnx : ∀ ty, (Instr.next (.pointer (some ⟨w.heap.size + 1, 0, none⟩)) true ty).run Tryd.prog wr = _ := fun ty => Lib.run_next_end_at wr (w.heap.size + 1) s s.size ty hit hlt
      have cC := cap_cell w.heap.size none 0 0 wr (by rw [Lib.cell_of_heap hfr]; rfl)
      have hans : ANS = s.data.toList := by
        have := hsp.out
        rw [← hlen, List.drop_length, List.take_length] at this
        simpa using this.symm
      clear hsp hANS
      subst hans
      go_wp2_with (go_at_call 34; go_must (refine cC.mono ?_; rintro e W' ⟨rfl, rfl⟩))
      go_ret
      exact ⟨rfl, hbw⟩
end Go.Proofs.YtepmncfgkmpccaaDoor
