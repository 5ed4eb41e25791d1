/- Layer 9 as landed: nets as a text. -/
import Derived.Test.YthhgkiihegmedaaDoorCi4
import Derived.Test.YthhgkiihegmedaaDoorCi5
import Derived.Test.YthhgkiihegmedaaDoorMix
namespace Go.Proofs.YthhgkiihegmedaaDoor
open Go.RowKit
set_option linter.unusedVariables false
set_option maxRecDepth 20000
def netT (n : Nt) : List UInt8 := dotA n.1 ++ [47] ++ Lib.decDigits n.2.toNat
def listT : List Nt → List UInt8
  | [] => [97, 110, 121]
  | [n] => netT n
  | n :: m :: R => [91] ++ Lib.join ((n :: m :: R).map netT) [44] ++ [93]
theorem netT_len (n : Nt) (h : n.2 ≤ 32) : (netT n).length ≤ 19 := by
  have h1 := dotA_len n.1
  have h2 := dec_le3 n.2.toNat (by omega)
  unfold netT
  simp only [List.length_append, List.length_cons, List.length_nil]
  omega
theorem join_le (xs : List (List UInt8)) (h : ∀ x ∈ xs, x.length ≤ 19) : (Lib.join xs [44]).length ≤ 20 * xs.length := by
  cases xs with
  | nil => simp [Lib.join_nil]
  | cons x r =>
    rw [Lib.join_cons, List.length_append]
    have h1 := h x (List.mem_cons_self ..)
    have h2 : ∀ r : List (List UInt8), (∀ x ∈ r, x.length ≤ 19) → (Lib.joinTail [44] r).length ≤ 20 * r.length := by
      intro r
      induction r with
      | nil => intro _; simp [Lib.joinTail]
      | cons y r ih =>
        intro hr
        have a := hr y (List.mem_cons_self ..)
        have b := ih (fun z hz => hr z (List.mem_cons_of_mem _ hz))
        unfold Lib.joinTail at b ⊢
        simp only [List.map_cons, List.flatten_cons, List.length_append, List.length_cons, List.length_nil] at b ⊢
        omega
    have := h2 r (fun z hz => h z (List.mem_cons_of_mem _ hz))
    simp only [List.length_cons]
    omega
def strC (n : Nt) : Value := .string (sL (netT n))
theorem infoS : (Tryd.prog.info? 9).map (fun i => (i.zero, i.size, i.bytes)) = some (some (.string ⟨#[]⟩), 1, 16) := by kernel_rfl
theorem lit_str (w : World) (s : ByteArray) : (Instr.buildSlice 47 1 #[(0, .string s)]).run Tryd.prog w = .ok (.slice (some ⟨w.heap.size, 0, none⟩) 1 1) (w.alloc (.cells #[.string s] 9)) := by
  obtain ⟨i0, hi, hz0, hz1, hz2⟩ := info_parts infoS
  refine run_buildSlice w _ _ 1 _ _ i0 _ Tryd.underlying47 hi hz0 (by rw [hz1]; decide) (by rw [hz1]; decide) ?_
  rw [hz1]
  kernel_rfl
set_option maxHeartbeats 2000000 in
theorem ciTextOf (p : Option Addr) (c : Nat) (R : List Nt) (w : World) (hT : Tb w) (h : Nets w p c R) (hok : ∀ n ∈ R, 0 ≤ n.2 ∧ n.2 ≤ 32) (h20 : R.length ≤ 20) :
    Calls Tryd.prog 25 #[.slice p R.length c] w fun e w' => e = .returned (.string (sL (listT R))) ∧ Below w.heap.size w w' := by
  obtain ⟨n, hn⟩ : ∃ n : Nat, n = R.length := ⟨_, rfl⟩
  rw [← hn] at h20 ⊢
  have HLn := hidB hn
  have HH := hidB h
  have HT := hidB hT
  have HOK := hidB hok
  clear h hT hok hn
  go_enter Tryd.func25, Tryd.ntmps25
  go_wp2
  go_loopg [3, 8] n (fun g s3 s8 wr => ∃ (k : Nat) (v : Value), k ≤ n ∧ n - k ≤ g ∧ s8 = .int .i64 (k : Int) ∧ s3 = v ∧ Hid (Below w.heap.size w wr) ∧ Hid (wr.ownsRow w.heap.size 9 1 v k ((R.take k).map strC)))
  case atStart => exact ⟨0, _, Nat.zero_le _, by omega, rfl, rfl, Below.refl _ _, World.ownsRow_nil _ _ _ _⟩
  case round =>
    obtain ⟨k, v, hkn, hg, rfl, rfl, HB, HR⟩ := hrel
    by_cases hlt : k < n
    · have hlz : (k : Int) < (n : Int) := by omega
      obtain ⟨x, hx⟩ : ∃ x, R[k]? = some x := ⟨_, List.getElem?_eq_getElem (by rw [← HLn.out]; exact hlt)⟩
      have hN := HH.out.below HB.out
      have hcp : n ≤ c := by have := hN.1; rw [← HLn.out] at this; exact this
      have hxok := HOK.out x (List.mem_of_getElem? hx)
      rcases hN.2 with h3 | ⟨b, o, rfl, hbl, hcs⟩
      · rw [h3] at hx; cases hx
      · obtain ⟨c0, c1⟩ := hcs k x hx
        have hstep : (R.take (k + 1)).map strC = (R.take k).map strC ++ [strC x] := by
          obtain ⟨hk, rfl⟩ := List.getElem?_eq_some_iff.1 hx
          rw [List.take_succ_eq_append_getElem hk, List.map_append]
          rfl
        have HST := hidB hstep
        obtain ⟨x1, xb⟩ := x
        obtain ⟨q, hq⟩ : ∃ q : Nat, xb = (q : Int) := ⟨xb.toNat, by have := hxok.1; simp only at this; omega⟩
        subst hq
        have hq32 : q ≤ 32 := by have := hxok.2; simp only at this; omega
        have hal := below_more (Below.refl wr.heap.size wr) (Nat.le_refl _) (.cells #[.int .u32 (x1.toNat : Int), .int .i64 (q : Int)] 34)
        have hr4 := ciRow_below HR.out hal
        have hb4 := HB.out.trans (hal.mono HB.out.size)
        have ht4 := HT.out.below hb4
        have e0 : (wr.alloc (.cells #[.int .u32 (x1.toNat : Int), .int .i64 (q : Int)] 34)).cell? ⟨wr.heap.size, 0, none⟩ = some (.int .u32 (x1.toNat : Int)) := by simp
        have e1 : (wr.alloc (.cells #[.int .u32 (x1.toNat : Int), .int .i64 (q : Int)] 34)).cell? ⟨wr.heap.size, 1, none⟩ = some (.int .i64 (q : Int)) := by simp
        have HR4 := hidB hr4
        have HB4 := hidB hb4
        have HT4 := hidB ht4
        obtain ⟨D, hD⟩ : ∃ D, dotA x1 = D := ⟨_, rfl⟩
        obtain ⟨E, hE⟩ : ∃ E, Lib.decDigits q = E := ⟨_, rfl⟩
        have lD := dotA_len x1
        have lE := dec_le3 q (by omega)
        rw [hD] at lD
        rw [hE] at lE
        have hSx : strC (x1, (q : Int)) = .string (sL (D ++ [47] ++ E)) := by
          unfold strC netT
          simp only [Int.toNat_natCast, hD, hE]
        rw [hSx] at HST
        have ad1 := fun w => addL (P := Tryd.prog) D [47] (by omega) (by simp) w
        have ad2 := fun w => addL (P := Tryd.prog) (D ++ [47]) E (by simp; omega) (by omega) w
        rw [show sL [47] = ⟨#[47]⟩ from rfl] at ad1
        have HX := hidB (And.intro hD hE)
        clear hx hN hcs hal hr4 hb4 ht4 hD hE lD lE hSx hstep hxok
        generalize hT1 : D ++ [47] = T1 at ad1 ad2 HST
        generalize hT2 : T1 ++ E = T2 at ad2 HST
        clear hT1 hT2
        go_upto_region 5 with fail
        generalize hw4 : wr.alloc (.cells #[.int .u32 (x1.toNat : Int), .int .i64 (q : Int)] 34) = w4 at HR4 HB4 HT4 e0 e1 ⊢
        have hz4 : wr.heap.size < w4.heap.size := by rw [← hw4]; simp
        generalize hB5 : wr.heap.size = B5 at e0 e1 hz4 ⊢
        clear hw4 hB5 c0 c1
        refine wp_region_mix [true, true, true, false, false, true, true] [(false, 3), (true, 4), (false, 7), (true, 8), (false, 9)] 10 (A := ?A) (fun x => Below w4.heap.size w4 x) (by kernel_rfl) (by kernel_rfl) (by rfl) (Below.refl w4.heap.size w4).drew ?walk ?tail
        case walk =>
          intro y hy
          have y0 := (hy.cell (p := ⟨B5, 0, none⟩) hz4).trans e0
          have y1 := (hy.cell (p := ⟨B5, 1, none⟩) hz4).trans e1
          clear hy
          simp only [pickM]
          repeat (go_big_quiet_step (fail))
          refine wpQuiet_nil ?_
          rfl
        case tail =>
          have hd0 := (Below.refl w4.heap.size w4).drew
          refine mixE_of _ (by simp) _ _ ?_
          simp only [pickX, List.getElem?_cons_succ, List.getElem?_cons_zero, List.cons_append, List.nil_append, List.append_nil]
          refine mix_call rfl 15 #[.int .u32 (x1.toNat : Int)] (fun u w' => u = .string (sL D) ∧ Below w4.heap.size w4 w') (by kernel_rfl) ((ciDotted x1 w4.drew (HT4.out.below hd0)).mono (by rintro e w' ⟨rfl, hb⟩; exact ⟨_, rfl, by rw [HX.out.1], hd0.trans (hb.mono hd0.size)⟩)) ?_
          rintro _ w5 ⟨rfl, hb5⟩
          refine ⟨hb5, ?_⟩
          refine mix_pure rfl (.string (sL T1)) (fun x => by have h := ad1 x; simp [execOp, Go.binOp, eqGuard, Act.eval, Act.put, h]) ?_
          refine mix_call rfl 27 #[.int .i64 (q : Int)] (fun u w' => u = .string (sL E) ∧ Below w4.heap.size w4 w') (by kernel_rfl) ((ciItoa q (by omega) w5 (HT4.out.below hb5)).mono (by rintro e w' ⟨rfl, hb⟩; exact ⟨_, rfl, by rw [HX.out.2], hb5.trans (hb.mono hb5.size)⟩)) ?_
          rintro _ w6 ⟨rfl, hb6⟩
          refine ⟨hb6, ?_⟩
          refine mix_pure rfl (.string (sL T2)) (fun x => by have h := ad2 x; simp [execOp, Go.binOp, eqGuard, Act.eval, Act.put, h]) ?_
          have hl6 := lit_str w6 (sL T2)
          refine mix_does rfl (.slice (some ⟨w6.heap.size, 0, none⟩) 1 1) (w6.alloc (.cells #[.string (sL T2)] 9)) (by simp [execOp, Act.eval, Act.put, hl6]) ?_
          have hb7 := below_more hb6 (Nat.le_refl _) (.cells #[.string (sL T2)] 9)
          refine ⟨hb7, ?_⟩
          have hr7 := ciRow_below HR4.out hb7
          obtain ⟨i0, hi, hz0, hz1, hz2⟩ := info_parts infoS
          unfold mixF
          simp only [List.drop_succ_cons, List.drop_zero]
          have hcl : w6.heap.size < (w6.alloc (.cells #[.string (sL T2)] 9)).heap.size := by simp
          have hnw := alloc_news w6 [.string (sL T2)] 9
          generalize hw7 : w6.alloc (.cells #[.string (sL T2)] 9) = w7 at hb7 hr7 hcl ⊢
          rw [show ([Value.string (sL T2)]).toArray = (#[.string (sL T2)] : Array Value) from rfl, hw7] at hnw
          refine wpList_append_own2 rfl (.tmp 12) (.tmp 21) 47 rfl w.heap.size 9 i0 _ 1 16 Tryd.underlying47 hi hz0 hz1 hz2 rfl (by decide) _ k _ rfl hr7 ⟨w6.heap.size, 0, none⟩ 1 1 [.string (sL T2)] rfl rfl hnw (by intro u hu; simp at hu; rw [hu]; rfl) (by simp only [maxLen]; omega) (by omega) (Nat.le_trans HB4.out.size hb7.size) ?_
          intro v3 w8 ho8 hg8 hv8
          have HB8 := hidB (show Below w.heap.size w w8 from (HB4.out.trans (hb7.mono HB4.out.size)).grown hg8 (Nat.le_trans HB4.out.size hb7.size) (fun q hq => (hr7.lt q hq).1))
          have HO8 := hidB ho8
          rw [← HST.out] at HO8
          clear hr7 hi hz0 hz1 hz2 hcl hnw hw7 ho8 hg8 hv8 hb7 hb6 hb5 hd0 hl6 e0 e1 ad1 ad2
          simp only [Act.put]
          go_wp2_with fail
          go_roundg (n - (k + 1))
          case measure => omega
          case rel => exact ⟨k + 1, v3, by omega, by omega, by go_num, rfl, HB8, HO8⟩
    · have hlz : ¬ (k : Int) < (n : Int) := by omega
      have hkn' : k = n := by omega
      subst hkn'
      have hr := HR.out
      rw [List.take_of_length_le (by rw [← HLn.out]; exact Nat.le_refl _)] at hr
      have hfin := HB
      clear HB HR
      have hcase : R = [] ∨ (∃ x, R = [x]) ∨ ∃ x y R', R = x :: y :: R' := by
        rcases R with _ | ⟨x, _ | ⟨y, R'⟩⟩
        · exact .inl rfl
        · exact .inr (.inl ⟨x, rfl⟩)
        · exact .inr (.inr ⟨x, y, R', rfl⟩)
      rcases hcase with hR | ⟨x, hR⟩ | ⟨x, y, R', hR⟩
      · have HF := hidB (show listT R = [97, 110, 121] by rw [hR]; rfl)
        have hk0 : k = 0 := by rw [HLn.out, hR]; rfl
        subst hk0
        obtain ⟨a, cp, rfl⟩ := own_slice hr
        clear hr hR
        go_wp2
        go_ret
        exact ⟨by rw [HF.out]; rfl, hfin.out⟩
      · have HF := hidB (show listT R = netT x by rw [hR]; rfl)
        have hk0 : k = 1 := by rw [HLn.out, hR]; rfl
        subst hk0
        rw [hR] at hr
        obtain ⟨g, cp, rfl, _, _, hc⟩ := own_some hr (by omega)
        have h0 : wr.cell? ⟨g, 0, none⟩ = some (.string (sL (netT x))) := hc 0 _ rfl
        clear hr hc hR
        generalize netT x = T at h0 HF
        go_wp2
        go_ret
        exact ⟨by rw [HF.out]; rfl, hfin.out⟩
      · have HF := hidB (show listT R = [91] ++ Lib.join (R.map netT) [44] ++ [93] by rw [hR]; rfl)
        have hk2 : 2 ≤ k := by rw [HLn.out, hR]; simp
        obtain ⟨g, cp, rfl, hgl, _, hc⟩ := own_some hr (by omega)
        have hcp : k ≤ cp := by
          rcases hr.2 with ⟨h1, _⟩ | ⟨_, _, _, h1, _, _, h4, _⟩
          · cases h1
          · cases h1; exact h4
        have hlen := join_le (R.map netT) (fun z hz => by
          obtain ⟨u, hu, rfl⟩ := List.mem_map.1 hz
          exact netT_len u (HOK.out u hu).2)
        rw [List.length_map, ← HLn.out] at hlen
        have e1 : ((R.map (fun n => sL (netT n))).map (·.data.toList)) = R.map netT := by
          rw [List.map_map]
          rfl
        have hJ := Any.strings_Join Tryd.lays156 Tryd.Builder_Extra_156 g 0 cp (R.map (fun n => sL (netT n))) ⟨#[44]⟩ wr
          (fun j z hj => by
            rw [List.getElem?_map] at hj
            cases hRj : R[j]? with
            | none => rw [hRj] at hj; cases hj
            | some u =>
              rw [hRj] at hj
              cases hj
              rw [Nat.zero_add]
              exact hc j _ (by rw [List.getElem?_map, hRj]; rfl)) hgl (by simp; rw [← HLn.out]; omega) (by simp; rw [← HLn.out]; exact hcp) (by rw [e1]; show (Lib.join (R.map netT) [44]).length ≤ _; omega)
        rw [e1, List.length_map, ← HLn.out] at hJ
        rw [show (⟨(Lib.join (R.map netT) (⟨#[44]⟩ : ByteArray).data.toList).toArray⟩ : ByteArray) = sL (Lib.join (R.map netT) [44]) from rfl] at hJ
        generalize hJJ : Lib.join (R.map netT) [44] = J at hJ HF hlen
        have ad1 := fun w => addL (P := Tryd.prog) [91] J (by simp) (by omega) w
        have ad2 := fun w => addL (P := Tryd.prog) ([91] ++ J) [93] (by simp; omega) (by simp) w
        generalize [91] ++ J ++ [93] = J2 at ad2 HF
        generalize [91] ++ J = J1 at ad1 ad2
        rw [show sL [91] = ⟨#[91]⟩ from rfl] at ad1
        rw [show sL [93] = ⟨#[93]⟩ from rfl] at ad2
        have b0 : ((k : Int) == 0) = false := by simp; omega
        have b1 : ((k : Int) == 1) = false := by simp; omega
        clear hr hc hR hJJ hlen hcp hgl e1
        go_wp2_with (fail)
        refine hJ.mono ?_
        rintro e w5 ⟨rfl, hb5⟩
        have HB5 := hidB (hfin.out.trans (hb5.mono hfin.out.size))
        clear hb5 hJ
        go_wp2_with (fail)
        go_ret
        exact ⟨by rw [HF.out]; rfl, HB5.out⟩
end Go.Proofs.YthhgkiihegmedaaDoor
