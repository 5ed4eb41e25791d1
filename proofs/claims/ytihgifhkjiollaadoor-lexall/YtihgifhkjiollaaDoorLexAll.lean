/- LexAll: any text is turned into tokens as chapter 8 says; no condition. -/
import Derived.Test.YtihgifhkjiollaaDoorLxSide
import Derived.Test.YtihgifhkjiollaaDoorRefLx8
import Derived.Test.YtihgifhkjiollaaDoorLxAw
import Derived.Test.YtihgifhkjiollaaDoorLift
import Derived.Test.YtihgifhkjiollaaDoorTie
import Derived.Test.YtihgifhkjiollaaDoorCards
import Derived.LaidMore
import Derived.Lay
import Derived.SevenTiedAt
import Derived.Stop.Joined
namespace Go.Proofs.YtihgifhkjiollaaDoor.lexAll
open Go.ChangeShapes Go.WideShapes Go.ChangeAt Go.RowKit
open Go.ChangeMaps (open_string shut_string)
set_option linter.unusedVariables false
set_option maxRecDepth 20000

set_option maxHeartbeats 4000000 in
set_option maxRecDepth 100000 in
theorem walk (s : ByteArray) (hsm : s.size ≤ maxLen) (w : World) :
    Calls Tryd.prog 3 #[.string s] w fun e w' => e = .returned (.bool true) ∧ Below w.heap.size w w' := by
  have c1 := fun u => lexAll_any s u hsm
  have c2 := fun u => rAll s u hsm
  have cA := fun u => awake_any u
  obtain ⟨⟨ts, ln, er⟩, hP⟩ : ∃ P, Lx.allP s.data.toList = P := ⟨_, rfl⟩
  rw [hP] at c1 c2
  simp only at c1 c2
  clear hP hsm
  go_enter Tryd.func3, Tryd.ntmps3
  go_wp2_with (first
    | (go_at_call 8; go_must (refine (c1 _).mono ?_; rintro e wq ⟨⟨v1, rfl, ho1⟩, hb1⟩; have HO1 : Hid (OwnT 30 wq w.heap.size v1 ts) := ho1; clear ho1))
    | (go_at_call 9; go_must (refine (c2 _).mono ?_; rintro e w2 ⟨⟨v2, rfl, ho2⟩, hb2⟩; obtain ⟨p1, cc1, rfl⟩ := HO1.out.form; obtain ⟨p2, cc2, rfl⟩ := ho2.form)))
  obtain ⟨wo, hwo⟩ : ∃ wo, wo = w2 := ⟨_, rfl⟩
  subst hwo
  have HB1 : Hid (Below w.heap.size w wq) := hb1
  have HB2 : Hid (Below wq.heap.size wq wo) := hb2
  have HO2 : Hid (OwnT 31 wo wq.heap.size (.slice p2 ts.length cc2) ts) := ho2
  clear hb1 hb2 ho2 c1 c2
  go_loopg [9] ts.length (fun gk iv wx => Below wo.heap.size wo wx ∧ ∃ i : Nat, iv = .int .i64 (i : Int) ∧ ts.length = i + gk)
  case atStart => exact ⟨Below.refl _ _, 0, by first | rfl | (go_num), by omega⟩
  case round =>
    obtain ⟨hbx, i, rfl, hi⟩ := hrel
    by_cases hlt : i < ts.length
    · obtain ⟨g', rfl⟩ : ∃ g', gk = g' + 1 := ⟨gk - 1, by omega⟩
      have hne : ts ≠ [] := fun h => by rw [h] at hlt; simp at hlt
      obtain ⟨g1, e1, hv1, hc1⟩ := elem_cells HO1.out (HB2.out.trans (hbx.mono HB2.out.size)) hne
      obtain ⟨g2, e2, hv2, hc2⟩ := elem_cells HO2.out hbx hne
      obtain ⟨rfl, rfl⟩ : p1 = some ⟨g1, 0, none⟩ ∧ cc1 = e1 := by injection hv1 with h1 h2 h3; exact ⟨h1, h3⟩
      obtain ⟨rfl, rfl⟩ : p2 = some ⟨g2, 0, none⟩ ∧ cc2 = e2 := by injection hv2 with h1 h2 h3; exact ⟨h1, h3⟩
      obtain ⟨a0, a1, a2, a3⟩ := hc1.out i hlt
      obtain ⟨b0, b1, b2, b3⟩ := hc2.out i hlt
      obtain ⟨t, ht⟩ : ∃ t, ts[i] = t := ⟨_, rfl⟩
      rw [ht] at a0 a1 a2 a3 b0 b1 b2 b3
      obtain ⟨tk, tsx, tn, tl⟩ := t
      simp only at a0 a1 a2 a3 b0 b1 b2 b3
      have HI : Hid (ts.length = i + (g' + 1)) := hi
      have hltI : (i : Int) < (ts.length : Int) := by omega
      have HX : Hid (Below wo.heap.size wo wr) := hbx
      have hib : (i : Int) + 1 ≤ 9223372036854775807 := by have := own_max HO1.out; unfold maxLen at this; omega
      clear hv1 hv2 hc1 hc2 ht hi hbx hne
      go_wp2
      go_quiet (fail)
      go_wp2
      go_roundg g'
      case measure => omega
      case rel => exact ⟨bel_drewN HX.out _, i + 1, by go_num, by have := HI.out; omega⟩
    · have hltI : ¬ ((i : Int) < (ts.length : Int)) := by omega
      clear hi
      go_wp2_with (go_at_call 10; go_must (refine (cA _).mono ?_; rintro e w3 ⟨rfl, hb3⟩))
      go_ret
      exact ⟨rfl, below_after (below_after HB1.out (below_after HB2.out hbx)) hb3⟩
/-! ### THE ROW's STEP: variables laid, a tied card -/
set_option maxRecDepth 100000 in
theorem lifted (os : Os) (started : os.Started) (H : Type) (enc : TypeId × Value → H) :
    ReturnsInHanded {} Tryd.checked os 3 .any (fun w args => (Rows.lexAllSpec.pre enc Tryd.prog Tryd.f3 Rows.lexAllRow.domain false w args ∧ laidMetH Tryd.prog Rows.lexAllRow.laid w) ∧ sizedMet enc Tryd.prog Tryd.f3 (OpenSpec.ofChange Rows.lexAllSpec) false w args)
      (Rows.lexAllSpec.post enc Tryd.prog Tryd.f3 false true false false) := by
  refine returnsInHanded_of_change_and (C := Tryd.checked) (X := fun w _ => laidMetH Tryd.prog Rows.lexAllRow.laid w) (fun _ _ _ hh h => h.of_heap hh) own started (by kernel_rfl) Tryd.func3
    (ChangeSpec.witness_shaped (enc := enc) (C := Tryd.checked) (os := os) (X := fun w _ => laidMetH Tryd.prog Rows.lexAllRow.laid w) false (World.laidAll Tryd.prog os Rows.lexAllRow.laid) #[.string ByteArray.empty] 8 (World.laidAll_os _ _ _)
      (World.shaped_of_ZipB (by kernel_rfl) (by kernel_rfl)) (by kernel_rfl) (by kernel_rfl) (by kernel_rfl)
      (by rw [MakeChecks.laidMetH_plain _ _ _ (by kernel_rfl)]; exact laidMet_laidAll _ (by kernel_rfl) (by kernel_rfl))) ?_
  intro W base args ds gs before hval0 hW _ _ hL _
  have hval : ∀ (j : Nat) t v, Tryd.f3.params[j]? = some t → args[j]? = some v → Value.okWide Tryd.prog W .any base t v := hval0
  have hW' := hW
  obtain ⟨p, q, hA0, hV, rfl, hfz, hnd⟩ := hW
  have hA : DataW.TrodAll enc Tryd.prog W 0 (fun _ => true) true Tryd.f3.params.toList args.toList ds p := hA0
  have hB := fun (W' : World) (bel : Below W.heap.size W W') => below_trodAll_of laidOut bel _ (by kernel_rfl) hA
  rw [Tryd.params3] at hA hval
  obtain ⟨v0, vs0, d0, ds0, p0, q0, hargs, rfl, rfl, h0, r0⟩ := trodAll_cons hA
  obtain ⟨rfl, rfl, rfl⟩ := trodAll_nil r0
  obtain rfl : args = #[v0] := by cases args; simp_all
  obtain ⟨rfl, rfl⟩ := trodVars_none hV
  obtain ⟨a0, rfl, rfl, rfl, w0⟩ := open_string Tryd.underlying9 (hval 0 9 v0 rfl rfl) h0
  clear hA0 hval0
  refine (walk a0 w0 W).mono fun e W' ⟨he, bel⟩ => ?_
  subst he
  exact ⟨_, rfl, _, _, _, [], _, [], hW', trodAll_mk1 (shut_bool Tryd.underlying4 _), hB W' bel, rfl, bel.frame _, fun h => by cases h⟩

theorem over : Rows.LexAllSaid :=
  OpenClaim.holds_of_wide 3 Tryd.f3 rfl rfl rfl rfl rfl rfl rfl ⟨rfl, rfl, rfl, rfl, rfl⟩ rfl rfl rfl rfl rfl (by kernel_rfl) Tryd.func3 (by kernel_rfl)
    (of_decide_eq_true (by kernel_rfl)) (by unfold Func.isWrapper; first | (rw [if_pos (by decide +kernel)]; kernel_rfl) | (rw [if_neg (by decide +kernel)]; exact ⟨rfl, rfl⟩))
    (fun os started H enc _ => lifted os started H enc)

/-- THE STATEMENT: the card -/
theorem proved : Rows.LexAllCardSaid :=
  Claim7.holds_tied_plain_at .later [] [.data, .pinned] true (true, "3e81c1bc683b3bdff90136a3b9451abcfa47785cfadcb66dfc063d9bc2a3244d") false over (fun _ h => by cases h) (by kernel_rfl) (fun _ h => by cases h) lexAll_row_tie rfl ⟨rfl, rfl⟩ (by kernel_rfl) rfl
    (fun f fn hf hfn => by
      obtain rfl : f = 3 := Option.some.inj ((show Tryd.prog.funcNamed "rampart/rampartlaw08.LexAll" = some 3 by kernel_rfl).symm.trans hf) |>.symm
      obtain rfl : fn = Tryd.f3 := (Option.some.inj (Tryd.func3.symm.trans hfn)).symm
      exact ⟨by kernel_rfl, fun j t ht => by
        rw [Tryd.params3] at ht
        have hm : t ∈ [9] := by simpa using Array.mem_of_getElem? ht
        have hall : ([9].all fun u => !Tryd.prog.wantsStandIn u) = true := by kernel_rfl
        exact (show Tryd.prog.wantsStandIn t = false by simpa using List.all_eq_true.1 hall t hm)⟩)
    (by kernel_rfl)
#print axioms proved
end Go.Proofs.YtihgifhkjiollaaDoor.lexAll
