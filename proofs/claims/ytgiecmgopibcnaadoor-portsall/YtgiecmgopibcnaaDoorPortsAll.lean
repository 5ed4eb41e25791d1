/- PortsAll: for any set and any number, ports answers as chapter 10's own answer; no condition. -/
import Derived.Test.YtgiecmgopibcnaaDoorLiftTab10
import Derived.Test.YtgiecmgopibcnaaDoorLiftPt
import Derived.Test.YtgiecmgopibcnaaDoorMix2
import Derived.Test.YtgiecmgopibcnaaDoorPtAwake
import Derived.Test.YtgiecmgopibcnaaDoorLoads
import Derived.Test.YtgiecmgopibcnaaDoorLift
import Derived.Test.YtgiecmgopibcnaaDoorTie
import Derived.Test.YtgiecmgopibcnaaDoorCards
import Derived.LaidMore
import Derived.Lay
import Derived.SevenTiedAt
import Derived.Stop.Joined
namespace Go.Proofs.YtgiecmgopibcnaaDoor.portsAll
open Go.ChangeShapes Go.WideShapes Go.ChangeAt Go.RowKit
set_option linter.unusedVariables false
set_option maxRecDepth 20000
set_option maxHeartbeats 4000000 in
theorem walk (no : Bool) (p : Option Addr) (c : Nat) (L : List Sp) (a : Int) (hwf : (Lit.int .i64 a).wf = true) (w : World) (hT : Tb w) (h : Spans w p c L) (hm : L.length ≤ maxLen) :
    Calls Tryd.prog 3 #[.agg (ptC no p L.length c), .int .i64 a] w fun e w' => e = .returned (.bool true) ∧ Below w.heap.size w w' := by
  have hb0 := below_more (Below.refl w.heap.size w) (Nat.le_refl _) (.cells (ptC no p L.length c) 24)
  have h0 := h.below hb0
  have HT := hidB (hT.below hb0)
  have HB0 := hidB hb0
  by_cases h20 : 20 < L.length
  · have h20' : (20 : Int) < (L.length : Int) := by omega
    have hA := ptAwake _ HT.out
    generalize L.length = n at *
    clear h hm hb0 h0 hT
    go_enter Tryd.func3, Tryd.ntmps3
    go_wp2_with (fail)
    refine hA.mono ?_
    rintro e w2 ⟨rfl, hb2⟩
    have H2 := hidB (HB0.out.trans (hb2.mono HB0.out.size))
    clear hb2 hA
    go_wp2_with (fail)
    go_ret
    exact ⟨rfl, H2.out⟩
  · have h20n : ¬ (20 : Int) < (L.length : Int) := by omega
    have k1 := fun (W : World) (hN : Spans W p c L) => ptCheck no p c L W hN (by omega)
    have k2 := fun (W : World) (hN : Spans W p c L) => rpCheck no p c L W hN (by omega)
    have k3 := fun (W : World) (hN : Spans W p c L) => ptCopy no p c L W hN (by omega)
    have k4 := fun (p1 : Option Addr) (c1 : Nat) (W : World) (hN : Spans W p1 c1 L) => ptClean no p1 c1 L W hN (by omega)
    have k5 := fun (W : World) (hN : Spans W p c L) => rpClean no p c L W hN (by omega)
    have hl4 := cleanS_len L
    have k6 := fun (p2 p3 : Option Addr) (c2 c3 : Nat) (W : World) (hN : Spans W p2 c2 (cleanS L)) (hN2 : Spans W p3 c3 (cleanS L)) => rpSame (checkS L && no) p2 p3 c2 c3 (cleanS L) W hN hN2 (by omega)
    have k7 := fun (W : World) (hN : Spans W p c L) => ptHas no p c L a W hN (by omega)
    have k8 := fun (W : World) (hN : Spans W p c L) => rpHas no p c L a W hN (by omega)
    have k9 := fun (W : World) (hT : Tb W) (hN : Spans W p c L) => ptText no p c L W hT hN (by omega)
    have k10 := fun (W : World) (hN : Spans W p c L) => rpText no p c L W hN (by omega)
    generalize hasS no L a = HV at k7 k8
    generalize sL (textS no L) = TX at k9 k10
    generalize (checkS L && no) = CN at k4 k5 k6
    generalize checkS L = CK at k1 k2
    generalize cleanS L = R at k4 k5 k6 hl4
    generalize R.length = m at k4 k5 k6 hl4
    have H0 := hidB h0
    clear hm hT hl4 h h0
    generalize hn : L.length = n at *
    clear hn h20
    go_enter Tryd.func3, Tryd.ntmps3
    go_upto_region 3 with fail
    generalize hW0 : w.alloc (.cells (ptC no p n c) 24) = W0 at HT HB0 H0 ⊢
    have z0 : w.heap.size < W0.heap.size := by rw [← hW0]; simp
    have e0 : W0.cell? ⟨w.heap.size, 0, none⟩ = some (.bool no) := by rw [← hW0]; simp
    have e1 : W0.cell? ⟨w.heap.size, 1, none⟩ = some (.slice p n c) := by rw [← hW0]; simp
    clear hW0 hb0
    have ld : ∀ x, Below W0.heap.size W0 x → (Instr.loadAt 24 (.pointer (some ⟨w.heap.size, 0, none⟩))).run Tryd.prog x = .ok (.agg #[.bool no, .slice p n c]) x := fun x hx => by
      refine run_loadAt_list x _ _ [.bool no, .slice p n c] _ (fun j u hj => ?_) Tryd.underlying24 rfl (by kernel_rfl)
      match j, hj with
      | 0, hj => cases hj; exact (hx.cell (p := ⟨w.heap.size, 0, none⟩) z0).trans e0
      | 1, hj => cases hj; exact (hx.cell (p := ⟨w.heap.size, 1, none⟩) z0).trans e1
    refine wp_region_mix [true, false, true] [(false, 1), (false, 3), (true, 4), (true, 5), (true, 6), (true, 9), (false, 7), (false, 8), (false, 10), (false, 11), (true, 12), (true, 13), (true, 14), (true, 15), (true, 17), (true, 18), (false, 16), (false, 19), (true, 20), (true, 21), (true, 22), (true, 23), (true, 25), (false, 24), (false, 26), (true, 27), (true, 28), (true, 29), (false, 30)] 31 (A := ?A) (fun x => Below W0.heap.size W0 x) (by kernel_rfl) (by kernel_rfl) (by rfl) (Below.refl W0.heap.size W0).drew ?walk ?tail
    case walk =>
      intro y hy
      have y0 := (hy.cell (p := ⟨w.heap.size, 0, none⟩) z0).trans e0
      have y1 := (hy.cell (p := ⟨w.heap.size, 1, none⟩) z0).trans e1
      clear hy
      simp only [pickM]
      repeat (go_big_quiet_step (fail))
      refine wpQuiet_nil ?_
      rfl
    case tail =>
      have b0 := (Below.refl W0.heap.size W0).drew
      refine mixE_of _ (by simp) _ _ ?_
      simp only [pickX, List.getElem?_cons_succ, List.getElem?_cons_zero, List.cons_append, List.nil_append, List.append_nil]
      refine mixw_call (by rfl) 8 #[.agg (ptC no p n c)] (fun u w' => u = .bool CK ∧ Below W0.heap.size W0 w') (by kernel_rfl) ((k1 W0.drew (H0.out.below b0)).mono (by rintro e w' ⟨rfl, hb⟩; exact ⟨_, rfl, rfl, b0.trans (hb.mono b0.size)⟩)) ?_
      rintro _ w1 ⟨rfl, b1⟩
      refine ⟨b1, ?_⟩
      simp only [Act.put, List.setIfInBounds_toArray, List.set_cons_succ, List.set_cons_zero]
      refine mixw_call (by rfl) 9 #[.agg (ptC no p n c)] (fun u w' => u = .bool CK ∧ Below W0.heap.size W0 w') (by kernel_rfl) ((k2 w1 (H0.out.below b1)).mono (by rintro e w' ⟨rfl, hb⟩; exact ⟨_, rfl, rfl, b1.trans (hb.mono b1.size)⟩)) ?_
      rintro _ w2 ⟨rfl, b2⟩
      refine ⟨b2, ?_⟩
      simp only [Act.put, List.setIfInBounds_toArray, List.set_cons_succ, List.set_cons_zero]
      refine mixw_eqb1 _ _ _ _ rfl Tryd.underlying4 (by rfl) CK rfl rfl ?_
      simp only [Act.put, List.setIfInBounds_toArray, List.set_cons_succ, List.set_cons_zero]
      first | refine mixw_move _ rfl (by rfl) (.bool true) rfl ?_ | refine mixw_pick _ _ _ rfl (by rfl) true (.bool true) rfl rfl ?_
      simp only [Act.put, List.setIfInBounds_toArray, List.set_cons_succ, List.set_cons_zero]
      refine mixw_load _ _ rfl (by rfl) _ (.agg #[.bool no, .slice p n c]) rfl ld ?_
      simp only [Act.put, List.setIfInBounds_toArray, List.set_cons_succ, List.set_cons_zero]
      refine mixw_load _ _ rfl (by rfl) _ (.agg #[.bool no, .slice p n c]) rfl ld ?_
      simp only [Act.put, List.setIfInBounds_toArray, List.set_cons_succ, List.set_cons_zero]
      refine mixw_call (by rfl) 12 #[.agg (ptC no p n c)] (fun u w' => ∃ p1 c1, u = .agg (ptC no p1 n c1) ∧ Spans w' p1 c1 L ∧ Below W0.heap.size W0 w') (by kernel_rfl) ((k3 w2 (H0.out.below b2)).mono (by rintro e w' ⟨p1, c1, rfl, hN, hb⟩; exact ⟨_, rfl, p1, c1, rfl, hN, b2.trans (hb.mono b2.size)⟩)) ?_
      rintro _ w3 ⟨p1, c1, rfl, hN1, b3⟩
      refine ⟨b3, ?_⟩
      simp only [Act.put, List.setIfInBounds_toArray, List.set_cons_succ, List.set_cons_zero]
      refine mixw_call (by rfl) 11 #[.agg (ptC no p1 n c1)] (fun u w' => ∃ p2 c2, u = .agg (ptC CN p2 m c2) ∧ Spans w' p2 c2 R ∧ Below W0.heap.size W0 w') (by kernel_rfl) ((k4 p1 c1 w3 hN1).mono (by rintro e w' ⟨p2, c2, rfl, hN, hb⟩; exact ⟨_, rfl, p2, c2, rfl, hN, b3.trans (hb.mono b3.size)⟩)) ?_
      rintro _ w4 ⟨p2, c2, rfl, hN2, b4⟩
      refine ⟨b4, ?_⟩
      simp only [Act.put, List.setIfInBounds_toArray, List.set_cons_succ, List.set_cons_zero]
      refine mixw_call (by rfl) 13 #[.agg (ptC no p n c)] (fun u w' => ∃ p3 c3, u = .agg (ptC CN p3 m c3) ∧ Spans w' p3 c3 R ∧ Below W0.heap.size W0 w' ∧ Spans w' p2 c2 R) (by kernel_rfl) ((k5 w4 (H0.out.below b4)).mono (by rintro e w' ⟨p3, c3, rfl, hN, hb⟩; exact ⟨_, rfl, p3, c3, rfl, hN, b4.trans (hb.mono b4.size), hN2.below hb⟩)) ?_
      rintro _ w5 ⟨p3, c3, rfl, hN3, b5, hN22⟩
      refine ⟨b5, ?_⟩
      simp only [Act.put, List.setIfInBounds_toArray, List.set_cons_succ, List.set_cons_zero]
      refine mixw_call (by rfl) 10 #[.agg (ptC CN p2 m c2), .agg (ptC CN p3 m c3)] (fun u w' => u = .bool true ∧ Below W0.heap.size W0 w') (by kernel_rfl) ((k6 p2 p3 c2 c3 w5 hN22 hN3).mono (by rintro e w' ⟨rfl, hb⟩; exact ⟨_, rfl, rfl, b5.trans (hb.mono b5.size)⟩)) ?_
      rintro _ w6 ⟨rfl, b6⟩
      refine ⟨b6, ?_⟩
      simp only [Act.put, List.setIfInBounds_toArray, List.set_cons_succ, List.set_cons_zero]
      first | refine mixw_move _ rfl (by rfl) (.bool true) rfl ?_ | refine mixw_pick _ _ _ rfl (by rfl) true (.bool true) rfl rfl ?_
      simp only [Act.put, List.setIfInBounds_toArray, List.set_cons_succ, List.set_cons_zero]
      first | refine mixw_move _ rfl (by rfl) (.bool true) rfl ?_ | refine mixw_pick _ _ _ rfl (by rfl) true (.bool true) rfl rfl ?_
      simp only [Act.put, List.setIfInBounds_toArray, List.set_cons_succ, List.set_cons_zero]
      refine mixw_load _ _ rfl (by rfl) _ (.agg #[.bool no, .slice p n c]) rfl ld ?_
      simp only [Act.put, List.setIfInBounds_toArray, List.set_cons_succ, List.set_cons_zero]
      refine mixw_move _ rfl (by rfl) (.int .i64 a) rfl ?_
      simp only [Act.put, List.setIfInBounds_toArray, List.set_cons_succ, List.set_cons_zero]
      refine mixw_load _ _ rfl (by rfl) _ (.agg #[.bool no, .slice p n c]) rfl ld ?_
      simp only [Act.put, List.setIfInBounds_toArray, List.set_cons_succ, List.set_cons_zero]
      refine mixw_move _ rfl (by rfl) (.int .i64 a) rfl ?_
      simp only [Act.put, List.setIfInBounds_toArray, List.set_cons_succ, List.set_cons_zero]
      refine mixw_call (by rfl) 14 #[.agg (ptC no p n c), .int .i64 a] (fun u w' => u = .bool HV ∧ Below W0.heap.size W0 w') (by kernel_rfl) ((k7 w6 (H0.out.below b6)).mono (by rintro e w' ⟨rfl, hb⟩; exact ⟨_, rfl, rfl, b6.trans (hb.mono b6.size)⟩)) ?_
      rintro _ w7 ⟨rfl, b7⟩
      refine ⟨b7, ?_⟩
      simp only [Act.put, List.setIfInBounds_toArray, List.set_cons_succ, List.set_cons_zero]
      refine mixw_call (by rfl) 15 #[.agg (ptC no p n c), .int .i64 a] (fun u w' => u = .bool HV ∧ Below W0.heap.size W0 w') (by kernel_rfl) ((k8 w7 (H0.out.below b7)).mono (by rintro e w' ⟨rfl, hb⟩; exact ⟨_, rfl, rfl, b7.trans (hb.mono b7.size)⟩)) ?_
      rintro _ w8 ⟨rfl, b8⟩
      refine ⟨b8, ?_⟩
      simp only [Act.put, List.setIfInBounds_toArray, List.set_cons_succ, List.set_cons_zero]
      refine mixw_eqb1 _ _ _ _ rfl Tryd.underlying4 (by rfl) HV rfl rfl ?_
      simp only [Act.put, List.setIfInBounds_toArray, List.set_cons_succ, List.set_cons_zero]
      first | refine mixw_move _ rfl (by rfl) (.bool true) rfl ?_ | refine mixw_pick _ _ _ rfl (by rfl) true (.bool true) rfl rfl ?_
      simp only [Act.put, List.setIfInBounds_toArray, List.set_cons_succ, List.set_cons_zero]
      first | refine mixw_move _ rfl (by rfl) (.bool true) rfl ?_ | refine mixw_pick _ _ _ rfl (by rfl) true (.bool true) rfl rfl ?_
      simp only [Act.put, List.setIfInBounds_toArray, List.set_cons_succ, List.set_cons_zero]
      refine mixw_load _ _ rfl (by rfl) _ (.agg #[.bool no, .slice p n c]) rfl ld ?_
      simp only [Act.put, List.setIfInBounds_toArray, List.set_cons_succ, List.set_cons_zero]
      refine mixw_load _ _ rfl (by rfl) _ (.agg #[.bool no, .slice p n c]) rfl ld ?_
      simp only [Act.put, List.setIfInBounds_toArray, List.set_cons_succ, List.set_cons_zero]
      refine mixw_call (by rfl) 16 #[.agg (ptC no p n c)] (fun u w' => u = .string TX ∧ Below W0.heap.size W0 w') (by kernel_rfl) ((k9 w8 (HT.out.below b8) (H0.out.below b8)).mono (by rintro e w' ⟨rfl, hb⟩; exact ⟨_, rfl, rfl, b8.trans (hb.mono b8.size)⟩)) ?_
      rintro _ w9 ⟨rfl, b9⟩
      refine ⟨b9, ?_⟩
      simp only [Act.put, List.setIfInBounds_toArray, List.set_cons_succ, List.set_cons_zero]
      refine mixw_call (by rfl) 17 #[.agg (ptC no p n c)] (fun u w' => u = .string TX ∧ Below W0.heap.size W0 w') (by kernel_rfl) ((k10 w9 (H0.out.below b9)).mono (by rintro e w' ⟨rfl, hb⟩; exact ⟨_, rfl, rfl, b9.trans (hb.mono b9.size)⟩)) ?_
      rintro _ w10 ⟨rfl, b10⟩
      refine ⟨b10, ?_⟩
      simp only [Act.put, List.setIfInBounds_toArray, List.set_cons_succ, List.set_cons_zero]
      refine mixw_eqs1 _ _ _ _ rfl (by rfl) TX rfl rfl ?_
      simp only [Act.put, List.setIfInBounds_toArray, List.set_cons_succ, List.set_cons_zero]
      first | refine mixw_move _ rfl (by rfl) (.bool true) rfl ?_ | refine mixw_pick _ _ _ rfl (by rfl) true (.bool true) rfl rfl ?_
      simp only [Act.put, List.setIfInBounds_toArray, List.set_cons_succ, List.set_cons_zero]
      first | refine mixw_move _ rfl (by rfl) (.bool true) rfl ?_ | refine mixw_pick _ _ _ rfl (by rfl) true (.bool true) rfl rfl ?_
      simp only [Act.put, List.setIfInBounds_toArray, List.set_cons_succ, List.set_cons_zero]
      refine mixw_call (by rfl) 7 #[] (fun u w' => u = .bool true ∧ Below W0.heap.size W0 w') (by kernel_rfl) ((ptAwake w10 (HT.out.below b10)).mono (by rintro e w' ⟨rfl, hb⟩; exact ⟨_, rfl, rfl, b10.trans (hb.mono b10.size)⟩)) ?_
      rintro _ w13 ⟨rfl, b13⟩
      refine ⟨b13, ?_⟩
      simp only [Act.put, List.setIfInBounds_toArray, List.set_cons_succ, List.set_cons_zero]
      unfold mixF
      simp only [List.drop_succ_cons, List.drop_zero]
      go_wp2_with fail
      go_ret
      exact ⟨rfl, HB0.out.trans (b13.mono HB0.out.size)⟩
/-! ### THE ROW's STEP: variables laid, a tied card -/
set_option maxRecDepth 100000 in
theorem lifted (os : Os) (started : os.Started) (H : Type) (enc : TypeId × Value → H) :
    ReturnsInHanded {} Tryd.checked os 3 .any (fun w args => (Rows.portsAllSpec.pre enc Tryd.prog Tryd.f3 Rows.portsAllRow.domain false w args ∧ laidMetH Tryd.prog Rows.portsAllRow.laid w) ∧ sizedMet enc Tryd.prog Tryd.f3 (OpenSpec.ofChange Rows.portsAllSpec) false w args)
      (Rows.portsAllSpec.post enc Tryd.prog Tryd.f3 false true false false) := by
  refine returnsInHanded_of_change_and (C := Tryd.checked) (X := fun w _ => laidMetH Tryd.prog Rows.portsAllRow.laid w) (fun _ _ _ hh h => h.of_heap hh) own started (by kernel_rfl) Tryd.func3
    (ChangeSpec.witness_shaped (enc := enc) (C := Tryd.checked) (os := os) (X := fun w _ => laidMetH Tryd.prog Rows.portsAllRow.laid w) false (World.laidAll Tryd.prog os Rows.portsAllRow.laid) #[.agg #[.bool false, .slice none 0 0], .int .i64 0] 8 (World.laidAll_os _ _ _)
      (World.shaped_of_ZipB (by kernel_rfl) (by kernel_rfl)) (by kernel_rfl) (by kernel_rfl) (by kernel_rfl)
      (by rw [MakeChecks.laidMetH_plain _ _ _ (by kernel_rfl)]; exact laidMet_laidAll _ (by kernel_rfl) (by kernel_rfl))) ?_
  intro W base args ds gs before hval0 hW _ _ hL _
  have hval : ∀ (j : Nat) t v, Tryd.f3.params[j]? = some t → args[j]? = some v → Value.okWide Tryd.prog W .any base t v := hval0
  have hW' := hW
  obtain ⟨p, q, hA0, hV, rfl, hfz, hnd⟩ := hW
  have hA : DataW.TrodAll enc Tryd.prog W 0 (fun _ => true) true Tryd.f3.params.toList args.toList ds p := hA0
  have hB := fun (W' : World) (bel : Below W.heap.size W W') => below_trodAll_of laidOut bel _ (by kernel_rfl) hA
  rw [Tryd.params3] at hA hval
  obtain ⟨v0, vs0, d0, ds0, p0, q0, hargs, rfl, rfl, h0, r0⟩ := trodAll_cons hA
  obtain ⟨v1, vs1, d1, ds1, p1, q1, rfl, rfl, rfl, h1, r1⟩ := trodAll_cons r0
  obtain ⟨rfl, rfl, rfl⟩ := trodAll_nil r1
  obtain rfl : args = #[v0, v1] := by cases args; simp_all
  obtain ⟨rfl, rfl⟩ := trodVars_none hV
  obtain ⟨no0, pa0, ca0, L0, rfl, wn0, wl0⟩ := open_ports (hval 0 24 v0 rfl rfl) h0
  obtain ⟨a1, rfl, rfl, rfl, w1⟩ := open_int Tryd.underlying3 (hval 1 3 v1 rfl rfl) h1
  clear hA0 hval0
  refine (walk no0 pa0 ca0 L0 a1 w1 W (tab_pow10 hL) wn0 wl0).mono fun e W' ⟨he, bel⟩ => ?_
  subst he
  exact ⟨_, rfl, _, _, _, [], _, [], hW', trodAll_mk1 (shut_bool Tryd.underlying4 _), hB W' bel, rfl, bel.frame _, fun h => by cases h⟩

theorem over : Rows.PortsAllSaid :=
  OpenClaim.holds_of_wide 3 Tryd.f3 rfl rfl rfl rfl rfl rfl rfl ⟨rfl, rfl, rfl, rfl, rfl⟩ rfl rfl rfl rfl rfl (by kernel_rfl) Tryd.func3 (by kernel_rfl)
    (of_decide_eq_true (by kernel_rfl)) (by unfold Func.isWrapper; first | (rw [if_pos (by decide +kernel)]; kernel_rfl) | (rw [if_neg (by decide +kernel)]; exact ⟨rfl, rfl⟩))
    (fun os started H enc _ => lifted os started H enc)

/-- THE STATEMENT: the card -/
theorem proved : Rows.PortsAllCardSaid :=
  Claim7.holds_tied_plain_at .later [] [.data, .data, .data] true (true, "8f90354d35c42e9b57447291d953c5ed6eaefff3abf76116990a3b0ce82ff6be") false over (fun _ h => by cases h) (by kernel_rfl) (fun _ h => by cases h) portsAll_row_tie rfl ⟨rfl, rfl⟩ (by kernel_rfl) rfl
    (fun f fn hf hfn => by
      obtain rfl : f = 3 := Option.some.inj ((show Tryd.prog.funcNamed "rampart/rampartlaw10.PortsAll" = some 3 by kernel_rfl).symm.trans hf) |>.symm
      obtain rfl : fn = Tryd.f3 := (Option.some.inj (Tryd.func3.symm.trans hfn)).symm
      exact ⟨by kernel_rfl, fun j t ht => by
        rw [Tryd.params3] at ht
        have hm : t ∈ [24, 3] := by simpa using Array.mem_of_getElem? ht
        have hall : ([24, 3].all fun u => !Tryd.prog.wantsStandIn u) = true := by kernel_rfl
        exact (show Tryd.prog.wantsStandIn t = false by simpa using List.all_eq_true.1 hall t hm)⟩)
    (by kernel_rfl)
#print axioms proved
end Go.Proofs.YtgiecmgopibcnaaDoor.portsAll
