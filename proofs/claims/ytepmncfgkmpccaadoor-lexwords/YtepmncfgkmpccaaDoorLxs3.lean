/- Layer 8: wordOf, varOf, numberOf. -/
import Derived.Test.YtepmncfgkmpccaaDoorLxMap
import Derived.Test.YtepmncfgkmpccaaDoorRefLx3
namespace Go.Proofs.YtepmncfgkmpccaaDoor
open Go.RowKit
set_option linter.unusedVariables false
set_option linter.unusedSimpArgs false

theorem letter_const (r : Int) (h : 128 ≤ r) : Lx.letter r = Lx.letter 128 := by
  have : Lx.letter r = false := by simp [Lx.letter]; omega
  rw [this]; rfl
theorem digit_const (r : Int) (h : 128 ≤ r) : Lx.digit r = Lx.digit 128 := by
  have : Lx.digit r = false := by simp [Lx.digit]; omega
  rw [this]; rfl
theorem ofWord_const (r : Int) (h : 128 ≤ r) : Lx.ofWord r = Lx.ofWord 128 := by
  unfold Lx.ofWord
  rw [letter_const r h, digit_const r h]
theorem inLine_const (r : Int) (h : 128 ≤ r) : Lx.inLine r = Lx.inLine 128 := by
  have : Lx.inLine r = true := by simp [Lx.inLine]; omega
  rw [this]; rfl
set_option maxHeartbeats 1000000 in
theorem wordOf_any (s : ByteArray) (w : World) (hs : s.size ≤ 8192) :
    Calls Tryd.prog 14 #[.string s] w fun e w' => e = .returned (.tuple #[.string ⟨(Lx.wordP s.data.toList).1.toArray⟩, .int .i64 ((Lx.wordP s.data.toList).2 : Int)]) ∧ Below w.heap.size w w' := by
  have hlen : s.data.toList.length = s.size := by simp
  have hsm : s.size ≤ maxLen := by unfold maxLen; omega
  have c1 := frontOf_any fits_ofWord s w hsm ofWord_const
  have hle := Lx.front_le Lx.ofWord s.data.toList
  rw [hlen] at hle
  obtain ⟨R, hR⟩ : ∃ R, Lx.wordP s.data.toList = R := ⟨_, rfl⟩
  obtain ⟨b, hb⟩ : ∃ b, Lx.begins Lx.letter s.data.toList = b := ⟨_, rfl⟩
  obtain ⟨n, hn⟩ : ∃ n, (Lx.front Lx.ofWord s.data.toList).length = n := ⟨_, rfl⟩
  have HP : Hid (∀ x ∈ (s.extract 0 n).data.toList, x.toNat < 128) := by
    show ∀ _, _
    rw [(extract_to s n (by omega)).2, ← hn, Lx.front_take]
    exact fun x hx => Lx.ofWord_low x (Lx.front_all _ _ x hx)
  have HM : Hid ((s.extract 0 n).data.toList.map Lx.smallB = (Lx.front Lx.ofWord s.data.toList).map Lx.smallB) := by
    show _ = _
    rw [(extract_to s n (by omega)).2, ← hn, Lx.front_take]
  have hz : (s.extract 0 n).size ≤ 8192 := by rw [(extract_to s n (by omega)).1]; omega
  rw [hR]
  rw [hn] at c1 hle
  go_enter Tryd.func14, Tryd.ntmps14
  go_wp2_with (go_at_call 9; go_must (refine c1.mono ?_; rintro e w1 ⟨rfl, b1⟩))
  have HB1 : Hid (Below w.heap.size w w1) := b1
  have c2 := begins_any fits_letter s w1 hsm
  rw [hb] at c2
  clear c1 b1
  cases b with
  | false =>
    rw [wordP_no _ hb] at hR
    subst hR
    clear hb hn
    go_wp2_with (go_at_call 22; go_must (refine c2.mono ?_; rintro e w2 ⟨rfl, rfl⟩))
    go_ret2
    exact ⟨rfl, HB1.out⟩
  | true =>
    by_cases h20 : n ≤ 20
    · have hR2 : R = ((s.extract 0 n).data.toList.map Lx.smallB, n) := by
        rw [← hR, wordP_yes _ hb (by omega), HM.out, hn]
      have h20' : (n : Int) ≤ 20 := by omega
      have hle' : (n : Int) ≤ (s.size : Int) := by omega
      clear hR hb hn HM
      subst hR2
      have c3 := fun u => map_small (s.extract 0 n) u hz HP.out
      go_wp2_with (first
        | (go_at_call 22; go_must (refine c2.mono ?_; rintro e w2 ⟨rfl, rfl⟩))
        | (go_at_call 23; go_must (refine (c3 _).mono ?_; rintro e w3 ⟨rfl, b3⟩)))
      go_ret2
      exact ⟨rfl, below_after HB1.out b3⟩
    · rw [wordP_long _ (by omega)] at hR
      subst hR
      have h20' : 20 < (n : Int) := by omega
      clear hb hn
      go_wp2_with (go_at_call 22; go_must (refine c2.mono ?_; rintro e w2 ⟨rfl, rfl⟩))
      go_ret2
      exact ⟨rfl, HB1.out⟩
set_option maxHeartbeats 1000000 in
theorem varOf_any (c : UInt8) (s : ByteArray) (w : World) (hs : s.size ≤ 8192) (hc : s.data.toList = c :: s.data.toList.drop 1) :
    Calls Tryd.prog 17 #[.string s] w fun e w' => e = .returned (.tuple #[.string ⟨(Lx.varP s.data.toList).1.toArray⟩, .int .i64 ((Lx.varP s.data.toList).2 : Int)]) ∧ Below w.heap.size w w' := by
  have hlen : s.data.toList.length = s.size := by simp
  have h1 : 1 ≤ s.size := by rw [← hlen, hc]; simp
  have h1' : (1 : Int) ≤ (s.size : Int) := by omega
  obtain ⟨hz, hd⟩ := extract_from s 1 h1
  obtain ⟨t, ht⟩ : ∃ t, s.extract 1 s.size = t := ⟨_, rfl⟩
  rw [ht] at hz hd
  have c1 := wordOf_any t w (by omega)
  rw [hc, Lx.varP_cons, ← hd]
  have hlow := (Lx.wordP_low t.data.toList).1
  have hl2 : t.data.toList.length = t.size := by simp
  obtain ⟨R, hR⟩ : ∃ R, Lx.wordP t.data.toList = R := ⟨_, rfl⟩
  rw [hR] at c1 hlow ⊢
  have h2 : (R.2 : Int) ≤ 8192 := by omega
  clear hz hd hc hR hlow hl2
  go_enter Tryd.func17, Tryd.ntmps17
  by_cases h0 : R.2 = 0
  · rw [if_pos h0]
    have h0' : (R.2 : Int) = 0 := by omega
    go_wp2_with (go_at_call 14; go_must (refine c1.mono ?_; rintro e w1 ⟨rfl, b1⟩))
    go_ret2
    exact ⟨rfl, b1⟩
  · rw [if_neg h0]
    have h0' : ¬ ((R.2 : Int) = 0) := by omega
    have h3 : wrap64 (1 + (R.2 : Int)) = ((R.2 + 1 : Nat) : Int) := by simp [wrap64]; omega
    obtain ⟨m, hm⟩ : ∃ m, R.2 + 1 = m := ⟨_, rfl⟩
    rw [hm] at h3 ⊢
    go_wp2_with (go_at_call 14; go_must (refine c1.mono ?_; rintro e w1 ⟨rfl, b1⟩))
    go_ret2
    exact ⟨by first | rfl | (simp [h3]; omega), b1⟩
theorem numP_bad (l : List UInt8) (h : Lx.begins Lx.letter (l.drop (Lx.front Lx.digit l).length) = true ∨ 999999999999 < Lx.val (Lx.front Lx.digit l)) : Lx.numP l = (0, 0) := by
  unfold Lx.numP
  rw [if_pos h]
theorem numP_good (l : List UInt8) (h : Lx.begins Lx.letter (l.drop (Lx.front Lx.digit l).length) = false) (h2 : ¬ 999999999999 < Lx.val (Lx.front Lx.digit l)) : Lx.numP l = (Lx.val (Lx.front Lx.digit l), (Lx.front Lx.digit l).length) := by
  unfold Lx.numP
  rw [if_neg (by rw [h]; rintro (h | h); cases h; exact h2 h)]
theorem val_mono (l m : List UInt8) : Lx.val l ≤ Lx.val (l ++ m) := by
  induction m generalizing l with
  | nil => simp
  | cons x m ih =>
    have h1 := ih (l ++ [x])
    rw [val_snoc, List.append_assoc] at h1
    have : [x] ++ m = x :: m := rfl
    rw [this] at h1
    omega
theorem digit_nums (V x V2 : Nat) (h : V ≤ 999999999999) (h1 : 48 ≤ x) (h2 : x ≤ 57) (h3 : V * 10 + (x - 48) = V2) :
    wrap64 ((V : Int) * 10) = (V : Int) * 10 ∧ wrap32 ((x : Int) - 48) = (x : Int) - 48 ∧ wrap64 ((x : Int) - 48) = (x : Int) - 48 ∧ wrap64 ((V : Int) * 10 + ((x : Int) - 48)) = (V2 : Int) := by
  refine ⟨by simp [wrap64]; omega, by simp [wrap32]; omega, by simp [wrap64]; omega, by simp [wrap64]; omega⟩
set_option maxHeartbeats 1000000 in
set_option maxRecDepth 100000 in
theorem numberOf_any (s : ByteArray) (w : World) (hs : s.size ≤ 8192) :
    Calls Tryd.prog 16 #[.string s] w fun e w' => e = .returned (.tuple #[.int .i64 ((Lx.numP s.data.toList).1 : Int), .int .i64 ((Lx.numP s.data.toList).2 : Int)]) ∧ Below w.heap.size w w' := by
  have hlen : s.data.toList.length = s.size := by simp
  have hsm : s.size ≤ maxLen := by unfold maxLen; omega
  have c1 := frontOf_any fits_digit s w hsm digit_const
  have hle := Lx.front_le Lx.digit s.data.toList
  rw [hlen] at hle
  obtain ⟨R, hR⟩ : ∃ R, Lx.numP s.data.toList = R := ⟨_, rfl⟩
  obtain ⟨F, hF⟩ : ∃ F, Lx.front Lx.digit s.data.toList = F := ⟨_, rfl⟩
  obtain ⟨n, hn⟩ : ∃ n, F.length = n := ⟨_, rfl⟩
  have hall : ∀ x ∈ F, Lx.bt Lx.digit x = true := by rw [← hF]; exact Lx.front_all _ _
  have htk : s.data.toList.take n = F := by rw [← hn, ← hF, Lx.front_take]
  rw [hR]
  rw [hF, hn] at c1
  rw [hF, hn] at hle
  obtain ⟨hx1, hx2⟩ := extract_to s n hle
  obtain ⟨hy1, hy2⟩ := extract_from s n hle
  obtain ⟨t, ht⟩ : ∃ t, s.extract 0 n = t := ⟨_, rfl⟩
  obtain ⟨u, hu⟩ : ∃ u, s.extract n s.size = u := ⟨_, rfl⟩
  rw [ht] at hx1 hx2
  rw [hu] at hy1 hy2
  rw [htk] at hx2
  have hle' : (n : Int) ≤ (s.size : Int) := by omega
  have hum : u.size ≤ maxLen := by unfold maxLen; omega
  obtain ⟨b, hb⟩ : ∃ b, Lx.begins Lx.letter u.data.toList = b := ⟨_, rfl⟩
  have c2 := fun v => begins_any fits_letter u v hum
  rw [hb] at c2
  rw [hy2] at hb
  go_enter Tryd.func16, Tryd.ntmps16
  cases b with
  | true =>
    rw [numP_bad _ (Or.inl (by rw [hF, hn]; exact hb))] at hR
    subst hR
    clear hb hx1 hx2 hy1 hy2 htk hF hn hall
    go_wp2_with (first
      | (go_at_call 9; go_must (refine c1.mono ?_; rintro e w1 ⟨rfl, b1⟩))
      | (go_at_call 22; go_must (refine (c2 _).mono ?_; rintro e w2 ⟨rfl, rfl⟩)))
    go_ret2
    exact ⟨rfl, b1⟩
  | false =>
    have HN : Hid (∀ k : Nat, R = (if 999999999999 < Lx.val F then (0, 0) else (Lx.val F, F.length))) := by
      intro _
      rw [← hR]
      by_cases hv : 999999999999 < Lx.val F
      · rw [if_pos hv, numP_bad _ (Or.inr (by rw [hF]; exact hv))]
      · rw [if_neg hv, numP_good _ (by rw [hF, hn]; exact hb) (by rw [hF]; exact hv), hF]
    have hx2' : Hid (t.data.toList = F) := hx2
    have hall' : Hid (∀ x ∈ F, Lx.bt Lx.digit x = true) := hall
    have hFn : Hid (F.length = n) := hn
    clear hb hx2 hy1 hy2 htk hF hn hall hR
    go_wp2_with (first
      | (go_at_call 9; go_must (refine c1.mono ?_; rintro e w1 ⟨rfl, b1⟩))
      | (go_at_call 22; go_must (refine (c2 _).mono ?_; rintro e w2 ⟨rfl, rfl⟩)))
    clear c1 c2
    rename World => W1
    have HB1 : Hid (Below w.heap.size w W1) := b1
    have hB1 : w.heap.size ≤ W1.heap.size := b1.size
    clear b1 hle' hum hu ht hsm hlen
    go_loopg [5] n (fun gk v wx => ∃ pos V : Nat, v = .int .i64 (V : Int) ∧ wx.heap[W1.heap.size]? = some (.stringIter t pos) ∧ Below w.heap.size w wx ∧ Hid (Lx.val (F.take pos) = V) ∧ V ≤ 999999999999 ∧ n = pos + gk)
    case atStart =>
      exact ⟨0, 0, rfl, World.iter_heap W1 t 0, HB1.out.alloc hB1 _, (by show Lx.val (F.take 0) = 0; rfl), by omega, by omega⟩
    case round =>
      obtain ⟨pos, V, rfl, hit, hbw, hV, hVb, hfu⟩ := hrel
      by_cases hlt : pos < t.size
      · obtain ⟨g', rfl⟩ : ∃ g', gk = g' + 1 := ⟨gk - 1, by omega⟩
        have hnx : ∀ ty, (Instr.next (.pointer (some ⟨W1.heap.size, 0, none⟩)) true ty).run Tryd.prog wr = _ := fun ty => Lib.run_next_any_at wr W1.heap.size t pos ty hit hlt
        have hpF : pos < F.length := by rw [hFn.out]; omega
        have hxe : t.data.toList.getD pos 0 = F[pos] := by rw [hx2'.out]; simp [List.getD, hpF]
        have hxd := hall'.out F[pos] (List.getElem_mem _)
        obtain ⟨x, hx⟩ : ∃ x, F[pos] = x := ⟨_, rfl⟩
        have hstep : Lx.val (F.take (pos + 1)) = V * 10 + (x.toNat - 48) := by
          rw [List.take_succ_eq_append_getElem hpF, val_snoc, hV.out, hx]
        rw [hx] at hxe hxd
        have hx48 : 48 ≤ x.toNat ∧ x.toNat ≤ 57 := by simp [Lx.bt, Lx.digit] at hxd; omega
        rw [Lx.low_one t pos hlt (by rw [hxe]; omega), hxe] at hnx
        rw [show (((x.toNat, 1) : Nat × Nat).1) = x.toNat from rfl, show (((x.toNat, 1) : Nat × Nat).2) = 1 from rfl] at hnx
        have hit2 := Lib.iterAt_heap wr W1.heap.size t pos (pos + 1) hit
        have hbw2 := Lib.below_iterAt hbw (k := W1.heap.size) hB1 t (pos + 1)
        obtain ⟨W, hWd⟩ : ∃ W, wr.iterAt W1.heap.size t (pos + 1) = W := ⟨_, rfl⟩
        rw [hWd] at hnx hit2 hbw2
        obtain ⟨V2, hV2⟩ : ∃ V2, V * 10 + (x.toNat - 48) = V2 := ⟨_, rfl⟩
        rw [hV2] at hstep
        obtain ⟨q1, q2, q3, q4⟩ := digit_nums V x.toNat V2 hVb hx48.1 hx48.2 hV2
        have hmono : Lx.val (F.take (pos + 1)) ≤ Lx.val F := by
          have := val_mono (F.take (pos + 1)) (F.drop (pos + 1))
          rwa [List.take_append_drop] at this
        have HS : Hid (Lx.val (F.take (pos + 1)) = V2) := hstep
        have HM : Hid (V2 ≤ Lx.val F) := by show _ ≤ _; omega
        have HFU : Hid (n = pos + (g' + 1)) := hfu
        have HIT : Hid (W.heap[W1.heap.size]? = some (.stringIter t (pos + 1))) := hit2
        have HBW : Hid (Below w.heap.size w W) := hbw2
        clear hit hbw hWd hstep hmono hxe hxd hx48 hx hV hV2 hpF hit2 hbw2 hfu hx1
        by_cases hbig : (V2 : Int) ≤ 999999999999
        · go_wp2
          go_roundg g'
          case measure => omega
          case rel => exact ⟨pos + 1, V2, by rw [q4], HIT.out, HBW.out, HS, by omega, by have := HFU.out; omega⟩
        · have hbig' : 999999999999 < (V2 : Int) := by omega
          have hR : R = (0, 0) := by
            have := HN.out 0
            rw [if_pos (by have := HM.out; omega)] at this
            exact this
          subst hR
          go_wp2
          go_ret2
          exact ⟨rfl, HBW.out⟩
      · obtain rfl : pos = t.size := by omega
        have hnx : ∀ ty, (Instr.next (.pointer (some ⟨W1.heap.size, 0, none⟩)) true ty).run Tryd.prog wr = _ := fun ty => Lib.run_next_end_at wr W1.heap.size t t.size ty hit hlt
        have hR : R = (V, n) := by
          have h1 := HN.out 0
          have h2 := hV.out
          rw [hx1, ← hFn.out, List.take_length] at h2
          rw [if_neg (by omega), h2, hFn.out] at h1
          exact h1
        subst hR
        have HBW : Hid (Below w.heap.size w wr) := hbw
        clear hit hbw hV HN hfu hx1
        go_wp2
        go_ret2
        exact ⟨rfl, HBW.out⟩
end Go.Proofs.YtepmncfgkmpccaaDoor
