/- Layer 7's own answer: contracts of has and Bytes. -/
import Derived.Test.YtkfgapljphhmcaaRfs
namespace Go.Proofs.Ytkfgapljphhmcaa
open Go.RowKit Go.Maps
set_option linter.unusedVariables false
set_option maxRecDepth 20000
/-- the cells of a row of parts -/
theorem parts_at {w : World} {e : Nat} {v : Value} {ps : List (Nat × UInt8)} (h : w.ownsRow 0 e 2 v ps.length (rowP ps)) (hn : 0 < ps.length) : ∃ g cap, v = .slice (some ⟨g, 0, none⟩) ps.length cap ∧ g < w.heap.size ∧ (∀ o, w.frozen? ⟨g, o, none⟩ = false) ∧ ∀ j p, ps[j]? = some p → w.cell? ⟨g, j * 2, none⟩ = some (.int .i64 (p.1 : Int)) ∧ w.cell? ⟨g, j * 2 + 1, none⟩ = some (bv p.2) := by
  obtain ⟨g, cap, h1, h2, h3, h4⟩ := own_some h hn
  refine ⟨g, cap, h1, h2, h3, fun j p hp => ?_⟩
  have hf := fun o ho => flat_at parV 2 (fun _ => rfl) ps j p hp o ho
  exact ⟨h4 _ _ (hf 0 (by omega)), h4 _ _ (hf 1 (by omega))⟩
/-- does a byte lie at a place? -/
def hasAt (ps : List (Nat × UInt8)) (v : Int) : Bool := ps.any fun p => decide ((p.1 : Int) = v)
set_option maxHeartbeats 2000000 in
theorem has_any {w : World} {g q : Nat} {e : RE} {v : Value} (hg : g < w.heap.size) (hc : w.cell? ⟨g, q + 4, none⟩ = some v) (hp : w.ownsRow 0 73 2 v e.ps.length (rowP e.ps)) (hn : e.ps.length ≤ 2000) (v0 : Int) :
    Calls Try.prog 28 #[.pointer (some ⟨g, q, none⟩), .int .i64 v0] w fun r w' => (∃ x, r = .returned (.tuple #[x, .bool (hasAt e.ps v0)])) ∧ w = w' := by
  obtain ⟨av, cv, hvL⟩ := own_slice hp
  subst hvL
  obtain ⟨B, hB⟩ : ∃ B, B = hasAt e.ps v0 := ⟨_, rfl⟩
  rw [← hB]
  have HBv := (show Hid _ from hB)
  have HP := (show Hid _ from hp)
  clear hp hB
  go_enter Try.func28, Try.ntmps28
  go_wp2_with fail
  go_loop [6] (fun t => ∃ k : Nat, k ≤ e.ps.length ∧ t = .int .i64 (k : Int) ∧ Hid (∀ j p, j < k → e.ps[j]? = some p → ¬ (p.1 : Int) = v0)) (fun t => e.ps.length - (intOf t).toNat)
  case atStart => exact ⟨0, by omega, rfl, show Hid _ from fun j p hj => absurd hj (Nat.not_lt_zero _)⟩
  case round =>
    obtain ⟨k, hk, rfl, HN⟩ := hrel
    by_cases hkl : k < e.ps.length
    · obtain ⟨gp, cap, hv, hgp, hfz, hpt⟩ := parts_at HP.out (by omega)
      injection hv with hv1 _ hv3
      subst hv1 hv3
      obtain ⟨p, hpk⟩ : ∃ p, e.ps[k]? = some p := ⟨e.ps[k], by simp [hkl]⟩
      obtain ⟨t1, t2⟩ := hpt k p hpk
      have HPK := (show Hid _ from hpk)
      clear hpt hpk hfz
      by_cases he : (p.1 : Int) = v0
      · have d1 : ((p.1 : Int) == v0) = true := by simp [he]
        have HE := (show Hid _ from he)
        clear he
        go_wp2_with fail
        have hB2 : B = true := by
          rw [HBv.out]
          exact List.any_eq_true.2 ⟨p, List.mem_of_getElem? HPK.out, by simp [HE.out]⟩
        exact bodyPost_ret (v := .tuple #[bv p.2, .bool true]) (results_tmp2 Try.results28 _ _ _) rfl ⟨⟨bv p.2, by rw [hB2]⟩, rfl⟩
      · have d1 : ((p.1 : Int) == v0) = false := by simp [he]
        have HE := (show Hid _ from he)
        clear he
        go_wp2_with fail
        go_round
        case rel => exact ⟨k + 1, by omega, by go_num, show Hid _ from fun j p' hj hp' => by
          by_cases e' : j = k
          · subst e'; rw [HPK.out] at hp'; cases hp'; exact HE.out
          · exact HN.out j p' (by omega) hp'⟩
        case measure => simp [intOf]; omega
    · obtain rfl : k = e.ps.length := by omega
      go_wp2_with fail
      have hB2 : B = false := by
        rw [HBv.out]
        exact List.any_eq_false.2 (fun p hp => by
          obtain ⟨j, hj, rfl⟩ := List.mem_iff_getElem.1 hp
          have := HN.out j _ hj (List.getElem?_eq_getElem hj)
          simpa using this)
      exact bodyPost_ret (v := .tuple #[.int .u8 0, .bool false]) (results_tmp2 Try.results28 _ _ _) rfl ⟨⟨.int .u8 0, by rw [hB2]⟩, rfl⟩
def bytesR (L : List (RE × Value)) : Nat := (L.map fun x => x.1.ps.length).sum
theorem bytesR_take (L : List (RE × Value)) (k : Nat) (x : RE × Value) (h : L[k]? = some x) : bytesR (L.take (k + 1)) = bytesR (L.take k) + x.1.ps.length := by
  unfold bytesR
  rw [List.take_add_one, h]
  simp
theorem bytesR_le (L : List (RE × Value)) (h : ∀ x ∈ L, x.1.ps.length ≤ 2000) : bytesR L ≤ 2000 * L.length := by
  unfold bytesR
  induction L with
  | nil => simp
  | cons y L ih =>
    have h1 := h y (by simp)
    have h2 := ih (fun x hx => h x (by simp [hx]))
    simp only [List.map_cons, List.sum_cons, List.length_cons]
    omega
set_option maxHeartbeats 2000000 in
theorem bytesR_any {w : World} {G : Nat → Prop} {rt : Nat} {vL : Value} {most ticks now : Int} {L : List (RE × Value)} (h : Ref w G rt vL most ticks now L) :
    Calls Try.prog 19 #[.pointer (some ⟨rt, 0, none⟩)] w fun r w' => r = .returned (.int .i64 ((bytesR L : Nat) : Int)) ∧ w = w' := by
  obtain ⟨av, cv, hvL⟩ := own_slice h.row
  subst hvL
  have c3 := h.c3
  have hrt := h.lt rt h.gr
  have hn32 := h.few.1
  have H := (show Hid _ from h)
  clear h
  go_enter Try.func19, Try.ntmps19
  go_wp2_with fail
  go_loop [3, 4] (fun v t => ∃ k : Nat, k ≤ L.length ∧ t = .int .i64 (k : Int) ∧ ∃ n : Nat, v = .int .i64 (n : Int) ∧ n ≤ 2000 * k ∧ Hid (n = bytesR (L.take k))) (fun _ t => L.length - (intOf t).toNat)
  case atStart => exact ⟨0, by omega, rfl, 0, rfl, by omega, show Hid _ from rfl⟩
  case round =>
    obtain ⟨k, hk, rfl, n, rfl, hn, HN⟩ := hrel
    by_cases hkl : k < L.length
    · obtain ⟨g, cap, hv, hg, hfz, hent⟩ := H.out.ent (by omega)
      injection hv with hv1 _ hv3
      subst hv1 hv3
      obtain ⟨x, hx⟩ : ∃ x, L[k]? = some x := ⟨L[k], by simp [hkl]⟩
      have e4 := (hent k x hx).e4
      obtain ⟨xe, xv⟩ := x
      have hmem := List.mem_of_getElem? hx
      obtain ⟨ap, cp, hxv⟩ := own_slice (H.out.parts _ hmem)
      have hp2 := (H.out.few.2.1 _ hmem).1
      have HS := (show Hid _ from bytesR_take L k _ hx)
      simp only at hxv hp2 e4
      subst hxv
      clear hent hx hmem hfz
      go_wp2_with fail
      go_round
      case rel => exact ⟨k + 1, by omega, by go_num, n + xe.ps.length, by go_num, by omega, by show _ = _; rw [HS.out, HN.out]⟩
      case measure => simp [intOf]; omega
    · obtain rfl : k = L.length := by omega
      go_wp2_with fail
      go_ret
      exact ⟨ret_int (by rw [HN.out, List.take_length]), rfl⟩
end Go.Proofs.Ytkfgapljphhmcaa
