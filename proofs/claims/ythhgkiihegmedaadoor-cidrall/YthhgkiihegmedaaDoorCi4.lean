/- Layer 9 as landed: a clean set. -/
import Derived.Test.YthhgkiihegmedaaDoorCi3
import Derived.Test.YthhgkiihegmedaaDoorCiMid
import Derived.Deep.CutRange
import Derived.Deep.DeepCutAuto
import Derived.Deep.LoopGhost
namespace Go.Proofs.YthhgkiihegmedaaDoor
open Go.RowKit
set_option linter.unusedVariables false
set_option maxRecDepth 20000
theorem cleanUpto_len (L : List Nt) : ∀ k, (cleanUpto L k).length ≤ k
  | 0 => Nat.le_refl _
  | k + 1 => by
    have := cleanUpto_len L k
    unfold cleanUpto
    rw [List.length_append]
    split <;> simp <;> omega
theorem two_set {x : World} {B : Nat} {a b : Value} (h0 : x.cell? ⟨B, 0, none⟩ = some a) (h1 : x.cell? ⟨B, 1, none⟩ = some b) (u v : Value) :
    (x.setCell ⟨B, 0, none⟩ u).cell? ⟨B, 0, none⟩ = some u ∧ ((x.setCell ⟨B, 0, none⟩ u).setCell ⟨B, 1, none⟩ v).cell? ⟨B, 1, none⟩ = some v := by
  refine ⟨World.cell?_setCell_same' x ⟨B, 0, none⟩ u (by rw [h0]; rfl), World.cell?_setCell_same' _ ⟨B, 1, none⟩ v ?_⟩
  rw [World.cell?_setCell_other (w := x) (a := ⟨B, 0, none⟩) (b := ⟨B, 1, none⟩) (v := u) (by simp), h1]
  rfl
set_option maxHeartbeats 2000000 in
theorem ciClean (no : Bool) (p : Option Addr) (c : Nat) (L : List Nt) (w : World) (hM : Mks w) (h : Nets w p c L) (h20 : L.length ≤ 20) :
    Calls Tryd.prog 8 #[.agg (setC no p L.length c)] w fun e w' => ∃ p' c', e = .returned (.agg (setC (checkL L && no) p' (cleanL L).length c')) ∧ Nets w' p' c' (cleanL L) ∧ Below w.heap.size w w' := by
  have hb := ((Below.refl w.heap.size w).alloc (Nat.le_refl _) (.cells (setC no p L.length c) 24)).alloc (by simp) (.cells #[.bool false, .slice none 0 0] 24)
  have hck := ciCheck no p c L _ (h.below hb) h20
  by_cases hc : checkL L = true
  · rw [hc] at hck ⊢
    have HCL := hidB (show cleanL L = cleanUpto L L.length by unfold cleanL; rw [if_pos hc])
    have h4 := checkL_len hc
    obtain ⟨M, rfl⟩ := vn_of (checkL_ok hc)
    have HL := (show (M.map Vn.nt).length = M.length by rw [List.length_map])
    rw [HL] at hck hb h20 h4 HCL ⊢
    obtain ⟨n, hn⟩ : ∃ n : Nat, n = M.length := ⟨_, rfl⟩
    rw [← hn] at hck hb h20 h4 HCL ⊢
    have HH := hidB h
    have HM := hidB hM
    have HB := hidB hb
    have HLn := hidB hn
    clear h hM hb hc HL hn
    go_enter Tryd.func8, Tryd.ntmps8
    go_wp2_with (fail)
    refine hck.mono ?_
    rintro e w2 ⟨rfl, hb2⟩
    have HB2 := hidB (HB.out.trans (hb2.mono HB.out.size))
    have hz : w.heap.size + 1 < w2.heap.size := Nat.lt_of_lt_of_le (by simp) hb2.size
    have z0 : w.heap.size < ((w.alloc (.cells (setC no p n c) 24)).alloc (.cells #[.bool false, .slice none 0 0] 24)).heap.size := by simp; omega
    have z1 : w.heap.size + 1 < ((w.alloc (.cells (setC no p n c) 24)).alloc (.cells #[.bool false, .slice none 0 0] 24)).heap.size := by simp
    have d0 : w2.cell? ⟨w.heap.size, 0, none⟩ = some (.bool no) := (hb2.cell (p := ⟨w.heap.size, 0, none⟩) z0).trans (by simp)
    have d1 : w2.cell? ⟨w.heap.size, 1, none⟩ = some (.slice p n c) := (hb2.cell (p := ⟨w.heap.size, 1, none⟩) z0).trans (by simp)
    have d2 : w2.cell? ⟨w.heap.size + 1, 0, none⟩ = some (.bool false) := (hb2.cell (p := ⟨w.heap.size + 1, 0, none⟩) z1).trans (by simp)
    have d3 : w2.cell? ⟨w.heap.size + 1, 1, none⟩ = some (.slice none 0 0) := (hb2.cell (p := ⟨w.heap.size + 1, 1, none⟩) z1).trans (by simp)
    have d4 : ∀ o, w2.frozen? ⟨w.heap.size + 1, o, none⟩ = false := fun o => (hb2.frozen (p := ⟨w.heap.size + 1, o, none⟩) z1).trans (by simp)
    have HMid := hidB (show Mid w (w2.alloc (.cells #[.bool no, .slice none 0 0] 24)) w.heap.size (w.heap.size + 1) w2.heap.size (w2.heap.size + 1) no (.slice p n c) (.slice none 0 0) from by
      have q := below_more (Below.refl w2.heap.size w2) (Nat.le_refl _) (.cells #[.bool no, .slice none 0 0] 24)
      refine ⟨below_more HB2.out (Nat.le_refl _) _, Nat.le_refl _, by omega, by omega, by omega, by simp, (q.cell (p := ⟨w.heap.size, 0, none⟩) (by simp; omega)).trans d0, (q.cell (p := ⟨w.heap.size, 1, none⟩) (by simp; omega)).trans d1, (q.cell (p := ⟨w.heap.size + 1, 0, none⟩) (by simp; omega)).trans d2, (q.cell (p := ⟨w.heap.size + 1, 1, none⟩) (by simp; omega)).trans d3, by simp, by simp, fun o => (q.frozen (p := ⟨w.heap.size + 1, o, none⟩) (by simp; omega)).trans (d4 o), by simp⟩)
    clear hck hb2 z0 z1 d2 d3 d4 HB
    have e11 := HMid.out.c11
    have hrow0 : Hid ((w2.alloc (.cells #[.bool no, .slice none 0 0] 24)).ownsRow (w2.heap.size + 1) 34 2 (.slice none 0 0) 0 []) := World.ownsRow_nil _ _ _ _
    go_wp2
    generalize w2.heap.size + 1 = base at HMid hrow0
    generalize w2.alloc (.cells #[.bool no, .slice none 0 0] 24) = w3 at HMid hrow0 ⊢
    have hB12 := HMid.out.l12
    have hB23 := HMid.out.l23
    have hB3 := HMid.out.l3
    generalize hB3e : w2.heap.size = B3 at HMid hB23 hB3 ⊢
    clear HB2 hz d0 d1 e11 hB3e
    go_loopg [16] n (fun g s16 wr => ∃ (k : Nat) (v : Value), k ≤ n ∧ n - k ≤ g ∧ s16 = .int .i64 (k : Int) ∧ Hid (Mid w wr w.heap.size (w.heap.size + 1) B3 base no (.slice p n c) v) ∧ Hid (wr.ownsRow base 34 2 v (cleanUpto (M.map Vn.nt) k).length ((cleanUpto (M.map Vn.nt) k).flatMap ntC)))
    case atStart => exact ⟨0, _, Nat.zero_le _, by omega, rfl, HMid, hrow0⟩
    case round =>
      obtain ⟨k, v, hkn, hg, rfl, HMd, HR⟩ := hrel
      by_cases hlt : k < n
      · have hlz : (k : Int) < (n : Int) := by omega
        obtain ⟨x, hx⟩ : ∃ x, M[k]? = some x := ⟨_, List.getElem?_eq_getElem (by rw [← HLn.out]; exact hlt)⟩
        have hN := HH.out.below HMd.out.bel
        have hcp : n ≤ c := by have := hN.1; rw [List.length_map, ← HLn.out] at this; exact this
        rcases hN.2 with h3 | ⟨b, o, rfl, hbl, hcs⟩
        · have := vn_at hx; rw [h3] at this; cases this
        · obtain ⟨c0, c1⟩ := hcs k x.nt (vn_at hx)
          have hal := below_more (Below.refl wr.heap.size wr) (Nat.le_refl _) (.cells (ntC x.nt).toArray 34)
          have Md1 := HMd.out.below hal
          have e11 := Md1.c11
          have hcall := ciNeedless M b o c k x hx _ ((HM.out.below HMd.out.bel).below hal) (hN.below hal) (by rw [← HLn.out]; exact h20)
          rw [← HLn.out] at hcall
          have hstep : cleanUpto (M.map Vn.nt) (k + 1) = cleanUpto (M.map Vn.nt) k ++ (if needless (M.map Vn.nt) k x.nt then [] else [cutN x.nt]) := by
            show cleanUpto (M.map Vn.nt) k ++ _ = _
            rw [show (M.map Vn.nt).getD k default = x.nt by rw [List.getD_eq_getElem?_getD, vn_at hx]; rfl]
          have HST := hidB hstep
          have HX := hidB hx
          have HNx := hidB hN
          generalize needless (M.map Vn.nt) k x.nt = r at hcall HST
          have HMd1 := hidB Md1
          have HC := hidB (And.intro c0 c1)
          obtain ⟨x1, ⟨xk, hxk⟩⟩ := x
          simp only [ntC, Vn.nt] at hcall c0 c1 e11 HMd1 HST
          clear hstep hx hN hcs hal Md1
          go_wp2_with (fail)
          refine hcall.mono ?_
          rintro e w4 ⟨rfl, hb4⟩
          have mid4 := HMd1.out.below hb4
          have hsz : wr.heap.size < (wr.alloc (.cells #[.int .u32 (x1.toNat : Int), .int .i64 (xk : Int)] 34)).heap.size := by simp
          have e0 : w4.cell? ⟨wr.heap.size, 0, none⟩ = some (.int .u32 (x1.toNat : Int)) := (hb4.cell (p := ⟨wr.heap.size, 0, none⟩) hsz).trans (by simp)
          have e1 : w4.cell? ⟨wr.heap.size, 1, none⟩ = some (.int .i64 (xk : Int)) := (hb4.cell (p := ⟨wr.heap.size, 1, none⟩) hsz).trans (by simp)
          have hal := below_more (Below.refl wr.heap.size wr) (Nat.le_refl _) (.cells #[.int .u32 (x1.toNat : Int), .int .i64 (xk : Int)] 34)
          have hr4 := ciRow_below (ciRow_below HR.out hal) hb4
          have hown : ∀ q, v.ownBlock = some q → base ≤ q ∧ q ≠ wr.heap.size := fun q hq => ⟨(HR.out.lt q hq).1, by have := (HR.out.lt q hq).2; omega⟩
          cases r with
          | true =>
            have HS : Hid (∃ v', Mid w w4 w.heap.size (w.heap.size + 1) B3 base no (.slice (some ⟨b, o, none⟩) n c) v' ∧ w4.ownsRow base 34 2 v' (cleanUpto (M.map Vn.nt) (k + 1)).length ((cleanUpto (M.map Vn.nt) (k + 1)).flatMap ntC)) := by
              rw [HST.out, if_pos rfl, List.append_nil]
              exact ⟨v, mid4, hr4⟩
            clear mid4 hsz e0 e1 hal hr4 hown hb4 hcall
            go_wp2
            go_roundg (n - (k + 1))
            case measure => omega
            case rel =>
              obtain ⟨v', h1, h2⟩ := HS.out
              exact ⟨k + 1, v', by omega, by omega, by go_num, h1, h2⟩
          | false =>
            have hRd : Rd9 w w4 w.heap.size (w.heap.size + 1) B3 base no (.slice (some ⟨b, o, none⟩) n c) v wr.heap.size (x1.toNat : Int) (xk : Int) := ⟨mid4, e0, e1⟩
            obtain ⟨A, hA⟩ : ∃ A : Nat, A = (x1 &&& msk xk).toNat := ⟨_, rfl⟩
            have hand : bits .and .u32 (x1.toNat : Int) ((msk xk).toNat : Int) = (A : Int) := by rw [and_u32, hA]
            have HA := hidB hA
            have HRd := hidB hRd
            have Hr4 := hidB hr4
            have Hown := hidB hown
            have hmk : ∀ y, Rd9 w y w.heap.size (w.heap.size + 1) B3 base no (.slice (some ⟨b, o, none⟩) n c) v wr.heap.size (x1.toNat : Int) (xk : Int) → y.cell? ⟨0, xk, none⟩ = some (.int .u32 ((msk xk).toNat : Int)) := fun y hy => (HM.out.below hy.mid.bel).2 xk hxk
            have HMK := hidB hmk
            generalize x1.toNat = a at *
            generalize (msk xk).toNat = mk at *
            clear mid4 hsz e0 e1 hal hr4 hown hb4 hcall hRd hA hmk
            go_upto_region 8 with fail
            have hxk0 : (0 : Int) ≤ (xk : Int) := by omega
            have hxk1 : (xk : Int) < 33 := by omega
            have HR4 := HRd.out.grown (grown_of (Below.refl w4.heap.size w4).drew) (fun _ e => by cases e)
            clear c0 c1 e11
            refine wp_region_spineM [true, true, true, true, true, true, true, true, true, true, true, true] [false, false, false, false, false, false, false, false, false, false, false, false, true, true] 14 (A := ?A) (fun x => Rd9 w x w.heap.size (w.heap.size + 1) B3 base no (.slice (some ⟨b, o, none⟩) n c) v wr.heap.size (a : Int) (xk : Int)) (by kernel_rfl) (by kernel_rfl) (by rfl) HR4 ?walk ?tail
            case walk =>
              intro y hy
              have c31 := hy.mid.c31
              have y0 := hy.e0
              have y1 := hy.e1
              have ym := HMK.out y hy
              clear hy
              simp only [pickM]
              repeat (go_big_quiet_step (fail))
              refine wpQuiet_nil ?_
              rfl
            case tail =>
              simp only [pickM]
              obtain ⟨i0, hi, hz0, hz1, hz2⟩ := info_parts infoN
              refine goD_slice rfl 22 (.tmp 37) rfl _ _ _ rfl (lit_net w4.drew (A : Int) (xk : Int)) ?_
              obtain ⟨w5, hw5⟩ : ∃ w5, w5 = w4.drew.alloc (.cells #[.int .u32 (A : Int), .int .i64 (xk : Int)] 34) := ⟨_, rfl⟩
              have hnw := alloc_news w4.drew [.int .u32 (A : Int), .int .i64 (xk : Int)] 34
              rw [show ([Value.int .u32 (A : Int), .int .i64 (xk : Int)]).toArray = (#[.int .u32 (A : Int), .int .i64 (xk : Int)] : Array Value) from rfl, ← hw5] at hnw
              have hb5 : Below w4.heap.size w4 w5 := by rw [hw5]; exact (Below.refl _ _).drew.alloc (Nat.le_refl _) _
              have ho5 := ciRow_below Hr4.out hb5
              have d5 := HRd.out.grown (grown_of hb5) (fun _ e => by cases e)
              rw [← hw5]
              clear hw5
              refine ⟨d5, ?_⟩
              have hlen := cleanUpto_len (M.map Vn.nt) k
              refine goD_append2 rfl (.tmp 27) (.tmp 38) 22 rfl base 34 i0 _ 2 16 Tryd.underlying22 hi hz0 hz1 hz2 rfl (by decide) v _ _ rfl ho5 ⟨w4.heap.size, 0, none⟩ 1 1 [.int .u32 (A : Int), .int .i64 (xk : Int)] rfl rfl hnw (by intro u hu; simp at hu; rcases hu with rfl | rfl <;> rfl) (by simp only [maxLen]; omega) (by omega) d5.mid.lb ?_
              intro v3 w6 ho6 hg6 hv6
              have d6 := d5.grown hg6 Hown.out
              refine ⟨d6, ?_⟩
              have HS : Hid (∃ v', Mid w (w6.setCell ⟨B3, 1, none⟩ v3) w.heap.size (w.heap.size + 1) B3 base no (.slice (some ⟨b, o, none⟩) n c) v' ∧ (w6.setCell ⟨B3, 1, none⟩ v3).ownsRow base 34 2 v' (cleanUpto (M.map Vn.nt) (k + 1)).length ((cleanUpto (M.map Vn.nt) (k + 1)).flatMap ntC)) := by
                refine ⟨v3, d6.mid.set v3, ciRow_set ?_ hB3 _ _⟩
                rw [HST.out, if_neg (by simp), List.length_append, List.flatMap_append]
                have e9 : [cutN (x1, (xk : Int))].flatMap ntC = [.int .u32 (A : Int), .int .i64 (xk : Int)] := by
                  simp only [List.flatMap_cons, List.flatMap_nil, List.append_nil, ntC, cutN]
                  rw [HA.out]
                  rfl
                rw [e9]
                exact ho6
              have c31 := d6.mid.c31
              have f3 := d6.mid.f3 1
              obtain ⟨a3, c3', hv3⟩ := own_slice ho6
              subst hv3
              obtain ⟨a4, c4', hv4⟩ := own_slice Hr4.out
              subst hv4
              clear d6 hv6 hg6 ho6 d5 ho5 hb5 hnw hz0 hz1 hz2 hi
              unfold goD
              simp only [List.drop_succ_cons, List.drop_zero, Act.put]
              go_wp2_with fail
              go_roundg (n - (k + 1))
              case measure => omega
              case rel =>
                obtain ⟨v', h1, h2⟩ := HS.out
                exact ⟨k + 1, v', by omega, by omega, by go_num, h1, h2⟩
      · have hlz : ¬ (k : Int) < (n : Int) := by omega
        have hkn' : k = n := by omega
        subst hkn'
        rw [← HCL.out] at HR
        have c20 := HMd.out.c20
        have c21 := HMd.out.c21
        have c30 := HMd.out.c30
        have c31 := HMd.out.c31
        have f2 := HMd.out.f2
        obtain ⟨pv, cv, rfl, _⟩ := row_nets HR.out
        have HE := hidB (show ∀ u1 u2, (∃ p' c', Value.slice pv (cleanL (M.map Vn.nt)).length cv = .slice p' (cleanL (M.map Vn.nt)).length c' ∧ Nets ((wr.setCell ⟨w.heap.size + 1, 0, none⟩ u1).setCell ⟨w.heap.size + 1, 1, none⟩ u2) p' c' (cleanL (M.map Vn.nt))) ∧ Below w.heap.size w ((wr.setCell ⟨w.heap.size + 1, 0, none⟩ u1).setCell ⟨w.heap.size + 1, 1, none⟩ u2) from fun u1 u2 =>
          ⟨row_nets (ciRow_set (ciRow_set HR.out (by omega) _ _) (by omega) _ _), (HMd.out.bel.setCell (p := ⟨w.heap.size + 1, 0, none⟩) (by show w.heap.size ≤ w.heap.size + 1; omega) u1).setCell (p := ⟨w.heap.size + 1, 1, none⟩) (by show w.heap.size ≤ w.heap.size + 1; omega) u2⟩)
        clear HMd HR HMid hrow0 hB12 hB23 hB3
        go_wp2
        (try simp only [Exit.inBlock, Exit.then])
        have g0 := two_set c20 c21 (.bool no) (.slice pv (cleanL (M.map Vn.nt)).length cv)
        refine bodyPost_ret (v := .agg #[.bool no, .slice pv (cleanL (M.map Vn.nt)).length cv]) (by simp [results, Tryd.results8, go_sem, g0.1, g0.2]) rfl ?_
        obtain ⟨⟨p', c', h1, h2⟩, h3⟩ := HE.out (.bool no) (.slice pv (cleanL (M.map Vn.nt)).length cv)
        refine ⟨p', c', ?_, h2, h3⟩
        rw [h1]
  · have hc : checkL L = false := by simpa using hc
    have HF := hidB (show cleanL L = [] by unfold cleanL; rw [if_neg (by rw [hc]; simp)])
    have HB := hidB hb
    rw [hc] at hck ⊢
    clear hb
    go_enter Tryd.func8, Tryd.ntmps8
    go_wp2_with (fail)
    refine hck.mono ?_
    rintro e w2 ⟨rfl, hb2⟩
    have z1 : w.heap.size + 1 < ((w.alloc (.cells (setC no p L.length c) 24)).alloc (.cells #[.bool false, .slice none 0 0] 24)).heap.size := by simp
    have d2 : w2.cell? ⟨w.heap.size + 1, 0, none⟩ = some (.bool false) := (hb2.cell (p := ⟨w.heap.size + 1, 0, none⟩) z1).trans (by simp)
    have d3 : w2.cell? ⟨w.heap.size + 1, 1, none⟩ = some (.slice none 0 0) := (hb2.cell (p := ⟨w.heap.size + 1, 1, none⟩) z1).trans (by simp)
    have d4 : ∀ o, w2.frozen? ⟨w.heap.size + 1, o, none⟩ = false := fun o => (hb2.frozen (p := ⟨w.heap.size + 1, o, none⟩) z1).trans (by simp)
    have HB2 := hidB (HB.out.trans (hb2.mono HB.out.size))
    clear hck hb2 z1 HB
    go_wp2
    (try simp only [Exit.inBlock, Exit.then])
    have g0 := two_set d2 d3 (.bool false) (.slice none 0 0)
    refine bodyPost_ret (v := .agg #[.bool false, .slice none 0 0]) (by simp [results, Tryd.results8, go_sem, g0.1, g0.2]) rfl ?_
    refine ⟨none, 0, by rw [HF.out]; rfl, ⟨by rw [HF.out]; exact Nat.le_refl _, .inl HF.out⟩, ?_⟩
    exact (HB2.out.setCell (p := ⟨w.heap.size + 1, 0, none⟩) (by show w.heap.size ≤ w.heap.size + 1; omega) _).setCell (p := ⟨w.heap.size + 1, 1, none⟩) (by show w.heap.size ≤ w.heap.size + 1; omega) _
end Go.Proofs.YthhgkiihegmedaaDoor
