/- Layer 7's own answer: contracts of New and Tick. -/
import Derived.Test.YtkfgapljphhmcaaRfs4
namespace Go.Proofs.Ytkfgapljphhmcaa
open Go.RowKit Go.Maps
set_option linter.unusedVariables false
set_option maxRecDepth 20000
theorem ref_new {w W : World} {most ticks : Int} (hm : 1 ≤ most ∧ most ≤ 32) (ht : 1 ≤ ticks ∧ ticks ≤ 100000) (hW : W = w.alloc (.cells #[.int .i64 most, .int .i64 ticks, .int .i64 0, .slice none 0 0] 37)) :
    Ref W (fun b => b = w.heap.size) w.heap.size (.slice none 0 0) most ticks 0 [] := by
  have hc : ∀ o, W.cell? ⟨w.heap.size, o, none⟩ = (#[.int .i64 most, .int .i64 ticks, .int .i64 0, .slice none 0 0] : Array Value)[o]? := fun o => by
    rw [hW, World.cell?_alloc_new]
  refine ⟨by rw [hc]; rfl, by rw [hc]; rfl, by rw [hc]; rfl, by rw [hc]; rfl, fun o => ?_, World.ownsRow_nil _ _ _ _, fun x hx => absurd hx List.not_mem_nil, List.Pairwise.nil, fun x hx => absurd hx List.not_mem_nil, (fun e => nomatch e), fun x hx => absurd hx List.not_mem_nil, rfl, (fun b e => nomatch e), fun x hx => absurd hx List.not_mem_nil, fun b hb => ?_, ⟨by simp, fun x hx => absurd hx List.not_mem_nil, hm, ht⟩⟩
  · rw [hW]; exact World.frozen?_alloc_new _ _ _ _
  · rw [hW, hb]; simp
set_option maxHeartbeats 1000000 in
theorem refNew_any (most ticks : Int) (w : World) :
    Calls Try.prog 9 #[.int .i64 most, .int .i64 ticks] w fun r w' => r = .returned (.pointer (some ⟨w.heap.size, 0, none⟩)) ∧ Below w.heap.size w w' ∧
      Ref w' (fun b => b = w.heap.size) w.heap.size (.slice none 0 0) (max 1 (min most 32)) (max 1 (min ticks 100000)) 0 [] := by
  have H : Hid (∀ a b, a = max 1 (min most 32) → b = max 1 (min ticks 100000) → Ref (w.alloc (.cells #[.int .i64 a, .int .i64 b, .int .i64 0, .slice none 0 0] 37)) (fun b => b = w.heap.size) w.heap.size (.slice none 0 0) (max 1 (min most 32)) (max 1 (min ticks 100000)) 0 []) := by
    rintro a b rfl rfl
    exact ref_new (by omega) (by omega) rfl
  have HB := fun A => below1 w A
  go_enter Try.func9, Try.ntmps9
  go_wp2_with fail
  all_goals go_ret
  all_goals exact ⟨rfl, HB _, H.out _ _ (by omega) (by omega)⟩
/-- the clock -/
theorem Ref.setNow {w : World} {G : Nat → Prop} {rt : Nat} {vL : Value} {most ticks now : Int} {L : List (RE × Value)} (h : Ref w G rt vL most ticks now L) (m : Int) : RefK G w rt most ticks m L (w.setCell ⟨rt, 2, none⟩ (.int .i64 m)) := by
  have hg := grown_set w rt 2 (.int .i64 m)
  have hb : ∀ b, b < w.heap.size → b ≠ rt → (w.setCell ⟨rt, 2, none⟩ (.int .i64 m)).heap[b]? = w.heap[b]? := fun b hb hne => hg.1.block b hb (by simp [hne])
  have c : ∀ o, o ≠ 2 → (w.setCell ⟨rt, 2, none⟩ (.int .i64 m)).cell? ⟨rt, o, none⟩ = w.cell? ⟨rt, o, none⟩ := fun o ho => World.cell?_setCell_other _ _ _ _ (neA (fun x => ho x.symm))
  refine ⟨G, vL, Kept.of_grown hg.1 h.gr, ?_⟩
  refine ⟨by rw [c 0 (by omega), h.c0], by rw [c 1 (by omega), h.c1], by rw [World.cell?_setCell_same _ _ _ h.c2], by rw [c 3 (by omega), h.c3], fun o => by rw [World.frozen?_setCell]; exact h.fz o, ownsRow_block h.row (fun b e => hb b (h.lt b (h.gL b e)) (fun x => h.rtL (by rw [e, x]))), fun x hx => ownsRow_block (h.parts x hx) (fun b e => hb b (h.lt b (h.gP x hx b e)) (fun y => h.rtP x hx (by rw [e, y]))), h.apart, h.rowAp, h.rtL, h.rtP, h.gr, h.gL, h.gP, fun b hG => by rw [hg.2]; exact h.lt b hG, h.few⟩
def aliveR (m ticks : Int) (x : RE × Value) : Bool := decide (m - x.1.at_ < ticks)
/-- those behind k are looked through -/
def sieve (m ticks : Int) (L : List (RE × Value)) (k : Nat) : List (RE × Value) := L.take k ++ (L.drop k).filter (aliveR m ticks)
theorem sieve_full (m ticks : Int) (L : List (RE × Value)) : sieve m ticks L L.length = L := by simp [sieve]
theorem sieve_zero (m ticks : Int) (L : List (RE × Value)) : sieve m ticks L 0 = L.filter (aliveR m ticks) := by simp [sieve]
theorem sieve_at (m ticks : Int) {L : List (RE × Value)} {k : Nat} {x : RE × Value} (h : L[k]? = some x) : (sieve m ticks L (k + 1))[k]? = some x := by
  have hk := (List.getElem?_eq_some_iff.1 h).1
  unfold sieve
  rw [List.getElem?_append_left (by rw [List.length_take]; omega), List.getElem?_take, if_pos (by omega), h]
theorem sieve_len (m ticks : Int) (L : List (RE × Value)) (k : Nat) : (sieve m ticks L k).length ≤ L.length := by
  unfold sieve
  have := List.length_filter_le (aliveR m ticks) (L.drop k)
  have e : (L.take k).length + (L.drop k).length = L.length := by rw [← List.length_append, List.take_append_drop]
  rw [List.length_append]
  omega
theorem sieve_keep (m ticks : Int) {L : List (RE × Value)} {k : Nat} {x : RE × Value} (h : L[k]? = some x) (ha : aliveR m ticks x = true) : sieve m ticks L k = sieve m ticks L (k + 1) := by
  have hk := (List.getElem?_eq_some_iff.1 h).1
  unfold sieve
  rw [List.take_add_one, h, List.drop_eq_getElem_cons hk, List.filter_cons]
  have e : L[k] = x := by rw [List.getElem?_eq_getElem hk] at h; exact Option.some.inj h
  rw [e, if_pos ha]
  simp
theorem sieve_drop (m ticks : Int) {L : List (RE × Value)} {k : Nat} {x : RE × Value} (h : L[k]? = some x) (ha : aliveR m ticks x = false) : sieve m ticks L k = (sieve m ticks L (k + 1)).take k ++ (sieve m ticks L (k + 1)).drop (k + 1) := by
  have hk := (List.getElem?_eq_some_iff.1 h).1
  have e : L[k] = x := by rw [List.getElem?_eq_getElem hk] at h; exact Option.some.inj h
  have hl : (L.take (k + 1)).length = k + 1 := by rw [List.length_take]; omega
  unfold sieve
  rw [List.take_append_of_le_length (by omega), List.take_take, Nat.min_eq_left (by omega), List.drop_append_of_le_length (by omega), List.drop_of_length_le (l := L.take (k + 1)) (by omega), List.nil_append]
  congr 1
  rw [List.drop_eq_getElem_cons hk, List.filter_cons, e, ha]
  simp
set_option maxHeartbeats 4000000 in
theorem tickR_any {w : World} {G : Nat → Prop} {rt : Nat} {vL : Value} {most ticks now : Int} {L : List (RE × Value)} (h : Ref w G rt vL most ticks now L) (n : Int) (hnow : 0 ≤ now ∧ now ≤ 1000000000000) (hat : ∀ x ∈ L, 0 ≤ x.1.at_ ∧ x.1.at_ ≤ 1000000000000) (m : Int) (hm : m = now + max 0 (min n 100000)) :
    Calls Try.prog 13 #[.pointer (some ⟨rt, 0, none⟩), .int .i64 n] w fun r w' => r = .returned (.int .i64 ((L.length : Int) - ((L.filter (aliveR m ticks)).length : Int))) ∧ RefK G w rt most ticks m (L.filter (aliveR m ticks)) w' := by
  obtain ⟨av, cv, hvL⟩ := own_slice h.row
  have hn32 := h.few.1
  have c2 := h.c2
  have c3 := h.c3
  rw [hvL] at c3
  have hf2 := h.fz 2
  have hrt := h.lt rt h.gr
  have htk := h.few.2.2.2
  have H0 : Hid (RefK G w rt most ticks m L (w.setCell ⟨rt, 2, none⟩ (.int .i64 m))) := h.setNow m
  have hmb : 0 ≤ m ∧ m ≤ 1000000100000 := by omega
  have HAT := (show Hid _ from hat)
  obtain ⟨R, hR⟩ : ∃ R : Int, R = (L.length : Int) - ((L.filter (aliveR m ticks)).length : Int) := ⟨_, rfl⟩
  have HR := (show Hid _ from hR)
  rw [← hR]
  obtain ⟨FL, hFL⟩ : ∃ FL, FL = L.filter (aliveR m ticks) := ⟨_, rfl⟩
  rw [← hFL] at HR ⊢
  have HFL := (show Hid _ from hFL)
  clear hFL hR h hat hvL
  go_enter Try.func13, Try.ntmps13
  go_upto_region 2 with fail
  have he : (now + if 100000 < (if n < 0 then 0 else n) then 100000 else (if n < 0 then 0 else n)) = m := by omega
  rw [he]
  clear he
  generalize (if 100000 < (if n < 0 then (0 : Int) else n) then (100000 : Int) else (if n < 0 then 0 else n)) = q2
  generalize (if n < 0 then (0 : Int) else n) = q1
  obtain ⟨w1, hw1⟩ : ∃ w1, w1 = w.setCell ⟨rt, 2, none⟩ (.int .i64 m) := ⟨_, rfl⟩
  rw [← hw1] at H0 ⊢
  obtain ⟨G1, v1, k1, h1⟩ := H0.out
  obtain ⟨a1, e1, hv1⟩ := own_slice h1.row
  have d3 := h1.c3
  rw [hv1] at d3
  have hrt1 := h1.lt rt h1.gr
  clear c2 c3 hf2 hrt hw1 h1 k1 hv1 hm hnow
  go_wp2_with fail
  go_loopw [6] (fun t wr => ∃ k : Nat, k ≤ L.length ∧ ∃ t' : Int, t = .int .i64 t' ∧ t' = (k : Int) - 1 ∧ Hid (RefK G w rt most ticks m (sieve m ticks L k) wr)) (fun t _ => (intOf t + 1).toNat)
  case atStart => exact ⟨L.length, Nat.le_refl _, _, rfl, by first | rfl | omega, by show RefK _ _ _ _ _ _ _ _; rw [sieve_full]; exact H0.out⟩
  case round =>
    obtain ⟨k, hk, t', rfl, ht', HK⟩ := hrel
    clear d3 hrt1 H0
    obtain ⟨G2, v2, k2, h2⟩ := HK.out
    obtain ⟨a2, e2, hv2⟩ := own_slice h2.row
    have d3 := h2.c3
    rw [hv2] at d3
    have hrt2 := h2.lt rt h2.gr
    have hsl := sieve_len m ticks L k
    rcases Nat.eq_zero_or_pos k with e | e
    · subst e
      rw [sieve_zero, ← HFL.out] at d3 hsl HK
      obtain rfl : t' = -1 := by omega
      clear ht'
      have hrR := HR.out
      clear h2 k2 hv2
      go_wp2_with fail
      go_ret
      exact ⟨ret_int (by omega), HK.out⟩
    · obtain ⟨j, rfl⟩ : ∃ j, k = j + 1 := ⟨k - 1, by omega⟩
      obtain rfl : t' = (j : Int) := by omega
      clear ht'
      obtain ⟨x, hx⟩ : ∃ x, L[j]? = some x := ⟨L[j]'(by omega), by simp⟩
      have hxs := sieve_at m ticks hx
      have hjl := (List.getElem?_eq_some_iff.1 hxs).1
      have hxa := HAT.out x (List.mem_of_getElem? hx)
      have d2 := h2.c2
      have d1 := h2.c1
      obtain ⟨g, cap, hv, hg, hfz, hent⟩ := h2.ent (by omega)
      rw [hv2] at hv
      injection hv with hv1 _ hv3
      subst hv1 hv3
      have e6 := (hent j x hxs).e6
      have H2 := (show Hid _ from And.intro k2 h2)
      have HX := (show Hid _ from hx)
      obtain ⟨sl, hsl2⟩ : ∃ sl, sl = (sieve m ticks L (j + 1)).length := ⟨_, rfl⟩
      rw [← hsl2] at d3 hsl hjl
      have HSL := (show Hid _ from hsl2)
      clear h2 k2 hv2 hent hfz hx hxs hsl2
      have hcl := Cls.cell (w := wr)
      by_cases hold : ticks ≤ m - x.1.at_
      · have hd : decide (ticks ≤ m - x.1.at_) = true := by simp [hold]
        have HA : Hid (aliveR m ticks x = false) := by show _ = _; unfold aliveR; simp; omega
        go_upto_region 6 with fail
        refine wp_region_calm (by kernel_rfl) (by kernel_rfl) (fun hne => ?_)
        repeat (go_big_quiet_step (fail))
        refine wpQuiet_nil ?_
        rintro _ ⟨y, rfl⟩
        have H3 := (show Hid _ from And.intro (H2.out.1.trans (Kept.of_below G2 y.bel)) (H2.out.2.below y.bel))
        generalize y.val = w2 at *
        clear hne hcl H2 d1 d2 d3 e6 hrt2
        have hdr := drop_any H3.out.2 j (by rw [← HSL.out]; exact hjl)
        rw [← sieve_drop m ticks HX.out HA.out] at hdr
        go_wp2_with fail
        refine hdr.mono ?_
        rintro r w3 ⟨rfl, G3, v3, k3, h3⟩
        have HF : Hid (RefK G w rt most ticks m (sieve m ticks L j) w3) := ⟨G3, v3, H3.out.1.trans k3, h3⟩
        clear hdr k3 h3
        go_wp2_with fail
        go_roundw
        case rel => exact ⟨j, by omega, _, rfl, by first | rfl | omega, HF⟩
        case measure => simp [intOf]
      · have hd : decide (ticks ≤ m - x.1.at_) = false := by simp; omega
        have HA : Hid (aliveR m ticks x = true) := by show _ = _; unfold aliveR; simp; omega
        go_upto_region 6 with fail
        refine wp_region_calm (by kernel_rfl) (by kernel_rfl) (fun hne => ?_)
        repeat (go_big_quiet_step (fail))
        refine wpQuiet_nil ?_
        rintro _ ⟨y, rfl⟩
        have H3 : Hid (RefK G w rt most ticks m (sieve m ticks L j) y.val) := by
          show RefK _ _ _ _ _ _ _ _
          rw [sieve_keep m ticks HX.out HA.out]
          exact ⟨G2, v2, H2.out.1.trans (Kept.of_below G2 y.bel), H2.out.2.below y.bel⟩
        generalize y.val = w2 at *
        clear hne hcl H2 d1 d2 d3 e6 hrt2
        go_wp2_with fail
        go_roundw
        case rel => exact ⟨j, by omega, _, rfl, by first | rfl | omega, H3⟩
        case measure => simp [intOf]
end Go.Proofs.Ytkfgapljphhmcaa
