/- The reference of layer 8: sign. -/
import Derived.Test.YtihgifhkjiollaaDoorRefLx5
import Derived.Test.YtihgifhkjiollaaDoorLxSide
namespace Go.Proofs.YtihgifhkjiollaaDoor
open Go.RowKit
set_option linter.unusedVariables false
set_option linter.unusedSimpArgs false

theorem signsT_in : ∀ k, k < 12 → Lx.oneSign ((signsT.data.toList.getD k 0).toNat : Int) = true := by decide
set_option maxRecDepth 100000 in
theorem signsT_out0 : ∀ c : Fin 256, (∀ j : Fin 12, signsT.data.toList.getD j.val 0 ≠ UInt8.ofNat c.val) → Lx.oneSign (c.val : Int) = false := by decide
theorem signsT_out (x : UInt8) (h : ∀ j, j < 12 → signsT.data.toList.getD j 0 ≠ x) : Lx.bt Lx.oneSign x = false := by
  have := signsT_out0 ⟨x.toNat, x.toNat_lt⟩ (fun j => by
    have e : UInt8.ofNat x.toNat = x := by simp
    simp only [e]
    exact h j.val j.isLt)
  exact this
theorem signP_two (l : List UInt8) (h : l.take 2 = [45, 62] ∨ l.take 2 = [60, 62]) : Lx.signP l = l.take 2 := by rw [Lx.signP, if_pos h]
theorem signP_far (x : UInt8) (l : List UInt8) (h : ¬ ((x :: l).take 2 = [45, 62] ∨ (x :: l).take 2 = [60, 62])) : Lx.signP (x :: l) = if Lx.bt Lx.oneSign x = true then [x] else [] := by
  rw [Lx.signP, if_neg h]
  rfl
set_option maxHeartbeats 4000000 in
set_option maxRecDepth 100000 in
theorem rSign (s : ByteArray) (i : Nat) (w : World) (hs : s.size ≤ 8192) (hi : i < s.size) :
    Calls Tryd.prog 31 #[.string s, .int .i64 (i : Int)] w fun e w' => e = .returned (.string ⟨(Lx.signP (s.data.toList.drop i)).toArray⟩) ∧ Below w.heap.size w w' := by
  have hlen : s.data.toList.length = s.size := by simp
  obtain ⟨A, hA⟩ : ∃ A : ByteArray, (⟨(Lx.signP (s.data.toList.drop i)).toArray⟩ : ByteArray) = A := ⟨_, rfl⟩
  rw [hA]
  obtain ⟨p1, hp1⟩ : ∃ p, i + 1 = p := ⟨_, rfl⟩
  obtain ⟨p2, hp2⟩ : ∃ p, i + 2 = p := ⟨_, rfl⟩
  have hp1i : (i : Int) + 1 = (p1 : Int) := by omega
  have hp2i : (i : Int) + 2 = (p2 : Int) := by omega
  have hp1b : (p1 : Int) ≤ 8193 := by omega
  have hp2b : (p2 : Int) ≤ 8194 := by omega
  have hp1s : (p1 : Int) ≤ (s.size : Int) := by omega
  have hip1 : (i : Int) ≤ (p1 : Int) := by omega
  have hii : (i : Int) < (s.size : Int) := by omega
  have hcons := drop_at' s i hi
  have hbyte := getD_at s i hi
  obtain ⟨hxs, hxl⟩ := extract_one s i p1 hi hp1
  obtain ⟨x1, hx1⟩ : ∃ t, s.extract i p1 = t := ⟨_, rfl⟩
  rw [hx1] at hxs hxl
  rw [hbyte] at hcons hxl
  obtain ⟨x, hxd⟩ : ∃ x, s[i]'hi = x := ⟨_, rfl⟩
  rw [hxd] at hcons hxl
  have hx1A : x1 = ⟨[x].toArray⟩ := by rw [ba_of x1, hxl]
  by_cases hl2 : p2 ≤ s.size
  · have hm1 : (p2 : Int) ≤ (s.size : Int) := by omega
    have hm2 : ¬ ((s.size : Int) < (p2 : Int)) := by omega
    have hm3 : min (p2 : Int) (s.size : Int) = (p2 : Int) := by omega
    have hip2 : (i : Int) ≤ (p2 : Int) := by omega
    have hTl : (s.extract i p2).data.toList = (s.data.toList.drop i).take 2 := by
      rw [Lib.extract_data, show p2 - i = 2 from by omega]
    obtain ⟨T, hT⟩ : ∃ t, s.extract i p2 = t := ⟨_, rfl⟩
    rw [hT] at hTl
    by_cases ha : (s.data.toList.drop i).take 2 = [45, 62]
    · rw [signP_two _ (Or.inl ha)] at hA
      have hc1 : (T.toList == [45, 62]) = true := by rw [toList_data, hTl, ha]; rfl
      have hR : Hid (T = A) := by show _ = _; rw [← hA, ba_of T, hTl]
      clear hcons hbyte hp1 hp2 hxs hxl hTl ha hx1A hA
      go_enter Tryd.func31, Tryd.ntmps31
      go_wp2
      go_ret
      rw [← hR.out]
      exact ⟨rfl, Below.refl _ _⟩
    · have hc1 : (T.toList == [45, 62]) = false := by rw [toList_data, hTl]; simpa using ha
      by_cases hb : (s.data.toList.drop i).take 2 = [60, 62]
      · rw [signP_two _ (Or.inr hb)] at hA
        have hc2 : (T.toList == [60, 62]) = true := by rw [toList_data, hTl, hb]; rfl
        have hR : Hid (T = A) := by show _ = _; rw [← hA, ba_of T, hTl]
        clear hcons hbyte hp1 hp2 hxs hxl hTl ha hb hx1A hA
        go_enter Tryd.func31, Tryd.ntmps31
        go_wp2
        go_ret
        rw [← hR.out]
        exact ⟨rfl, Below.refl _ _⟩
      have hc2 : (T.toList == [60, 62]) = false := by rw [toList_data, hTl]; simpa using hb
      have hfar := signP_far x (s.data.toList.drop (i + 1)) (by rw [← hcons]; rintro (h | h); exact ha h; exact hb h)
      rw [hcons] at hA
      clear hcons hbyte hp1 hp2 hxs hxl hTl ha hb
      go_enter Tryd.func31, Tryd.ntmps31
      go_wp2
      go_loopg [6] 12 (fun gk v wx => ∃ k : Nat, v = .int .i64 (k : Int) ∧ Below w.heap.size w wx ∧ 12 = k + gk ∧ Hid (∀ j, j < k → signsT.data.toList.getD j 0 ≠ x))
      case atStart => exact ⟨0, rfl, Below.refl _ _, rfl, fun j h => absurd h (Nat.not_lt_zero _)⟩
      case round =>
        obtain ⟨k, rfl, hbw, hgk, hno⟩ := hrel
        have HBW : Hid (Below w.heap.size w wr) := hbw
        clear hbw
        by_cases hk : k < 12
        · obtain ⟨g', rfl⟩ : ∃ g', gk = g' + 1 := ⟨gk - 1, by omega⟩
          have hki : (k : Int) < 12 := by omega
          have hkb : (k : Int) ≤ 12 := by omega
          have HGK : Hid (12 = k + (g' + 1)) := hgk
          obtain ⟨c, hc⟩ : ∃ c, signsT[k]'hk = c := ⟨_, rfl⟩
          have hcg : signsT.data.toList.getD k 0 = c := by rw [← hc]; exact getD_at signsT k hk
          have hcc := hc
          unfold signsT at hcc
          by_cases hx : c = x
          · have hcx : ((c.toNat : Int) == (x.toNat : Int)) = true := by rw [hx]; simp
            have hR : Hid (x1 = A) := by
              show _ = _
              rw [hfar, if_pos (by show Lx.oneSign (x.toNat : Int) = true; rw [← hx, ← hcg]; exact signsT_in k hk)] at hA
              rw [← hA]; exact hx1A
            clear hc hcg hx hgk hno hA hx1A hfar
            go_wp2
            go_quiet (fail)
            go_wp2
            go_ret
            rw [← hR.out]
            exact ⟨rfl, bel_drewN HBW.out _⟩
          · have hcx : ((c.toNat : Int) == (x.toNat : Int)) = false := by
              have : c.toNat ≠ x.toNat := fun h => hx (UInt8.toNat_inj.1 h)
              simp; omega
            have HNO : Hid (∀ j, j < k + 1 → signsT.data.toList.getD j 0 ≠ x) := by
              intro j hj
              by_cases h : j = k
              · subst h; rw [hcg]; exact hx
              · exact hno.out j (by omega)
            clear hc hcg hx hgk hno hA hx1A hfar
            go_wp2
            go_quiet (fail)
            go_wp2
            go_roundg g'
            case measure => omega
            case rel => exact ⟨k + 1, by go_num, bel_drewN HBW.out _, by have := HGK.out; omega, HNO⟩
        · have hki : ¬ ((k : Int) < 12) := by omega
          have hR : Hid ((⟨#[]⟩ : ByteArray) = A) := by
            show _ = _
            obtain rfl : k = 12 := by omega
            rw [hfar, if_neg (by rw [signsT_out x hno.out]; simp)] at hA
            rw [← hA]
          clear hgk hno hA hx1A hfar
          go_wp2
          go_ret
          rw [← hR.out]
          exact ⟨rfl, HBW.out⟩
  · have hm1 : ¬ ((p2 : Int) ≤ (s.size : Int)) := by omega
    have hm2 : (s.size : Int) < (p2 : Int) := by omega
    have hm3 : min (p2 : Int) (s.size : Int) = (s.size : Int) := by omega
    have hip2 : (i : Int) ≤ (s.size : Int) := by omega
    have hTl : (s.extract i s.size).data.toList = s.data.toList.drop i := (extract_from s i (by omega)).2
    have hlen2 : (s.data.toList.drop i).length ≤ 1 := by rw [List.length_drop]; omega
    obtain ⟨T, hT⟩ : ∃ t, s.extract i s.size = t := ⟨_, rfl⟩
    rw [hT] at hTl
    have ha : (s.data.toList.drop i).take 2 ≠ [45, 62] := fun h => by
      have := congrArg List.length h
      rw [List.length_take] at this
      simp only [List.length_cons, List.length_nil] at this
      omega
    have hb : (s.data.toList.drop i).take 2 ≠ [60, 62] := fun h => by
      have := congrArg List.length h
      rw [List.length_take] at this
      simp only [List.length_cons, List.length_nil] at this
      omega
    have htk : (s.data.toList.drop i).take 2 = s.data.toList.drop i := List.take_of_length_le (by omega)
    · have hc1 : (T.toList == [45, 62]) = false := by rw [toList_data, hTl]; rw [htk] at ha; simpa using ha
      have hc2 : (T.toList == [60, 62]) = false := by rw [toList_data, hTl]; rw [htk] at hb; simpa using hb
      have hfar := signP_far x (s.data.toList.drop (i + 1)) (by rw [← hcons]; rintro (h | h); exact ha h; exact hb h)
      rw [hcons] at hA
      clear hcons hbyte hp1 hp2 hxs hxl hTl ha hb htk hlen2
      go_enter Tryd.func31, Tryd.ntmps31
      go_wp2
      go_loopg [6] 12 (fun gk v wx => ∃ k : Nat, v = .int .i64 (k : Int) ∧ Below w.heap.size w wx ∧ 12 = k + gk ∧ Hid (∀ j, j < k → signsT.data.toList.getD j 0 ≠ x))
      case atStart => exact ⟨0, rfl, Below.refl _ _, rfl, fun j h => absurd h (Nat.not_lt_zero _)⟩
      case round =>
        obtain ⟨k, rfl, hbw, hgk, hno⟩ := hrel
        have HBW : Hid (Below w.heap.size w wr) := hbw
        clear hbw
        by_cases hk : k < 12
        · obtain ⟨g', rfl⟩ : ∃ g', gk = g' + 1 := ⟨gk - 1, by omega⟩
          have hki : (k : Int) < 12 := by omega
          have hkb : (k : Int) ≤ 12 := by omega
          have HGK : Hid (12 = k + (g' + 1)) := hgk
          obtain ⟨c, hc⟩ : ∃ c, signsT[k]'hk = c := ⟨_, rfl⟩
          have hcg : signsT.data.toList.getD k 0 = c := by rw [← hc]; exact getD_at signsT k hk
          have hcc := hc
          unfold signsT at hcc
          by_cases hx : c = x
          · have hcx : ((c.toNat : Int) == (x.toNat : Int)) = true := by rw [hx]; simp
            have hR : Hid (x1 = A) := by
              show _ = _
              rw [hfar, if_pos (by show Lx.oneSign (x.toNat : Int) = true; rw [← hx, ← hcg]; exact signsT_in k hk)] at hA
              rw [← hA]; exact hx1A
            clear hc hcg hx hgk hno hA hx1A hfar
            go_wp2
            go_quiet (fail)
            go_wp2
            go_ret
            rw [← hR.out]
            exact ⟨rfl, bel_drewN HBW.out _⟩
          · have hcx : ((c.toNat : Int) == (x.toNat : Int)) = false := by
              have : c.toNat ≠ x.toNat := fun h => hx (UInt8.toNat_inj.1 h)
              simp; omega
            have HNO : Hid (∀ j, j < k + 1 → signsT.data.toList.getD j 0 ≠ x) := by
              intro j hj
              by_cases h : j = k
              · subst h; rw [hcg]; exact hx
              · exact hno.out j (by omega)
            clear hc hcg hx hgk hno hA hx1A hfar
            go_wp2
            go_quiet (fail)
            go_wp2
            go_roundg g'
            case measure => omega
            case rel => exact ⟨k + 1, by go_num, bel_drewN HBW.out _, by have := HGK.out; omega, HNO⟩
        · have hki : ¬ ((k : Int) < 12) := by omega
          have hR : Hid ((⟨#[]⟩ : ByteArray) = A) := by
            show _ = _
            obtain rfl : k = 12 := by omega
            rw [hfar, if_neg (by rw [signsT_out x hno.out]; simp)] at hA
            rw [← hA]
          clear hgk hno hA hx1A hfar
          go_wp2
          go_ret
          rw [← hR.out]
          exact ⟨rfl, HBW.out⟩
end Go.Proofs.YtihgifhkjiollaaDoor
