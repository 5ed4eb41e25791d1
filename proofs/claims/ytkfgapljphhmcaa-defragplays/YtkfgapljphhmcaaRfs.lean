/- Layer 7's own answer: contracts of find, has, Bytes. -/
import Derived.Test.YtkfgapljphhmcaaRfPl
namespace Go.Proofs.Ytkfgapljphhmcaa
open Go.RowKit Go.Maps
set_option linter.unusedVariables false
set_option maxRecDepth 20000
def RE.named (e : RE) (i : Ip) : Bool := decide (e.src = i.src) && decide (e.dst = i.dst) && decide (e.proto = i.proto) && decide (e.id = i.id)
theorem u32_eq (a b : UInt32) : ((a.toNat : Int) == (b.toNat : Int)) = decide (a = b) := by
  rw [Bool.eq_iff_iff, beq_iff_eq, decide_eq_true_iff, ← UInt32.toNat_inj]
  omega
/-- the place of a name; below 0: none -/
def Found (L : List (RE × Value)) (i : Ip) (v : Int) : Prop := (∃ k x, v = ((k : Nat) : Int) ∧ L[k]? = some x ∧ x.1.named i = true ∧ ∀ j y, j < k → L[j]? = some y → y.1.named i = false) ∨ (v = -1 ∧ ∀ y ∈ L, y.1.named i = false)
set_option maxHeartbeats 2000000 in
theorem find_any {w : World} {G : Nat → Prop} {rt : Nat} {vL : Value} {most ticks now : Int} {L : List (RE × Value)} (h : Ref w G rt vL most ticks now L) (i : Ip) :
    Calls Try.prog 27 #[.pointer (some ⟨rt, 0, none⟩), .agg (ipV i)] w fun r w' => (∃ v, r = .returned (.int .i64 v) ∧ Found L i v) ∧ Below w.heap.size w w' := by
  obtain ⟨av, cv, hvL⟩ := own_slice h.row
  subst hvL
  have H := (show Hid _ from h)
  have hn32 := h.few.1
  have hb0 := below1 w (.cells (ipV i) 29)
  obtain ⟨W0, hW0⟩ : ∃ W0, W0 = w.alloc (.cells (ipV i) 29) := ⟨_, rfl⟩
  have hq0 : ∀ o, W0.cell? ⟨w.heap.size, o, none⟩ = (ipV i)[o]? := fun o => by rw [hW0]; exact World.cell?_alloc_new _ _ _ _
  have hz0 : w.heap.size < W0.heap.size := by rw [hW0]; simp
  rw [← hW0] at hb0
  have HB0 := (show Hid _ from hb0)
  clear h hb0
  go_enter Try.func27, Try.ntmps27
  go_wp2_with fail
  rw [← hW0]
  clear hW0
  go_loopw [5] (fun t wr => ∃ k : Nat, k ≤ L.length ∧ t = .int .i64 (k : Int) ∧ Hid (∀ j y, j < k → L[j]? = some y → y.1.named i = false) ∧ Hid (Below W0.heap.size W0 wr)) (fun t _ => L.length - (intOf t).toNat)
  case atStart => exact ⟨0, by omega, rfl, show Hid _ from fun j y hj => absurd hj (Nat.not_lt_zero _), show Hid _ from Below.refl _ _⟩
  case round =>
    obtain ⟨k, hk, rfl, HN, HB⟩ := hrel
    have hbr : Below w.heap.size w wr := HB0.out.trans (HB.out.mono HB0.out.size)
    have hr := H.out.below hbr
    have c3 := hr.c3
    have hrt := hr.lt rt hr.gr
    by_cases hkl : k < L.length
    · obtain ⟨g, cap, hv, hg, hfz, hent⟩ := hr.ent (by omega)
      injection hv with hv1 _ hv3
      subst hv1 hv3
      obtain ⟨x, hx⟩ : ∃ x, L[k]? = some x := ⟨L[k], by simp [hkl]⟩
      have e := hent k x hx
      have HX := (show Hid _ from hx)
      have HBR := (show Hid _ from hbr)
      obtain ⟨e0, e1, e2, e3, e4, e5, e6⟩ := e
      obtain ⟨xe, xv⟩ := x
      obtain ⟨ap, cp, hxv⟩ := own_slice (hr.parts _ (List.mem_of_getElem? hx))
      simp only at hxv
      subst hxv
      have hqi : ∀ o, wr.cell? ⟨w.heap.size, o, none⟩ = (ipV i)[o]? := fun o => by rw [HB.out.cell (by exact hz0), hq0 o]
      have hzi : w.heap.size < wr.heap.size := Nat.lt_of_lt_of_le hz0 HB.out.size
      clear hent hr hbr hx hq0
      go_upto_region 5 with fail
      obtain ⟨W1, hW1⟩ : ∃ W1, W1 = wr.alloc (.cells #[.int .u32 (xe.src.toNat : Int), .int .u32 (xe.dst.toNat : Int), .int .i64 xe.proto, .int .i64 xe.id, .slice ap xe.ps.length cp, .int .i64 xe.all, .int .i64 xe.at_] 62) := ⟨_, rfl⟩
      have hq1 : ∀ o, W1.cell? ⟨wr.heap.size, o, none⟩ = (#[.int .u32 (xe.src.toNat : Int), .int .u32 (xe.dst.toNat : Int), .int .i64 xe.proto, .int .i64 xe.id, .slice ap xe.ps.length cp, .int .i64 xe.all, .int .i64 xe.at_] : Array Value)[o]? := fun o => by rw [hW1]; exact World.cell?_alloc_new _ _ _ _
      have hb1 : Below wr.heap.size wr W1 := by rw [hW1]; exact below1 _ _
      have hz1 : wr.heap.size < W1.heap.size := by rw [hW1]; simp
      have hqi1 : ∀ o, W1.cell? ⟨w.heap.size, o, none⟩ = (ipV i)[o]? := fun o => by rw [hb1.cell (by exact hzi), hqi o]
      have HB1 : Hid (Below W0.heap.size W0 W1) := HB.out.trans (hb1.mono HB.out.size)
      rw [← hW1]
      have HNa : Hid (xe.named i = (decide (xe.src = i.src) && decide (xe.dst = i.dst) && decide (xe.proto = i.proto) && decide (xe.id = i.id))) := rfl
      have d1 : ((xe.src.toNat : Int) == (i.src.toNat : Int)) = decide (xe.src = i.src) := u32_eq _ _
      have d2 : ((xe.dst.toNat : Int) == (i.dst.toNat : Int)) = decide (xe.dst = i.dst) := u32_eq _ _
      have d3 : (xe.proto == i.proto) = decide (xe.proto = i.proto) := by rw [Bool.eq_iff_iff]; simp
      have d4 : (xe.id == i.id) = decide (xe.id = i.id) := by rw [Bool.eq_iff_iff]; simp
      generalize decide (xe.src = i.src) = b1 at *
      generalize decide (xe.dst = i.dst) = b2 at *
      generalize decide (xe.proto = i.proto) = b3 at *
      generalize decide (xe.id = i.id) = b4 at *
      have HBW : Hid (Below w.heap.size w W1) := HB0.out.trans (HB1.out.mono HB0.out.size)
      clear hW1 hb1 hqi hzi e0 e1 e2 e3 e4 e5 e6 c3 hfz
      have hnext : xe.named i = false → ∀ j y, j < k + 1 → L[j]? = some y → y.1.named i = false := fun hf j y hj hy => by
        by_cases e : j = k
        · subst e
          rw [HX.out] at hy
          cases hy
          exact hf
        · exact HN.out j y (by omega) hy
      have HNX := (show Hid _ from hnext)
      clear hnext
      cases b1
      · go_wp2_with fail
        go_roundw
        case rel => exact ⟨k + 1, by omega, by go_num, HNX.out (by rw [HNa.out]; rfl), HB1⟩
        case measure => simp [intOf]; omega
      cases b2
      · go_wp2_with fail
        go_roundw
        case rel => exact ⟨k + 1, by omega, by go_num, HNX.out (by rw [HNa.out]; rfl), HB1⟩
        case measure => simp [intOf]; omega
      cases b3
      · go_wp2_with fail
        go_roundw
        case rel => exact ⟨k + 1, by omega, by go_num, HNX.out (by rw [HNa.out]; rfl), HB1⟩
        case measure => simp [intOf]; omega
      cases b4
      · go_wp2_with fail
        go_roundw
        case rel => exact ⟨k + 1, by omega, by go_num, HNX.out (by rw [HNa.out]; rfl), HB1⟩
        case measure => simp [intOf]; omega
      · go_wp2_with fail
        go_ret
        exact ⟨⟨_, rfl, .inl ⟨k, _, rfl, HX.out, by rw [HNa.out]; rfl, HN.out⟩⟩, HBW.out⟩
    · obtain rfl : k = L.length := by omega
      have HBR := (show Hid _ from hbr)
      clear hr hbr hq0
      go_wp2_with fail
      go_ret
      exact ⟨⟨_, rfl, .inr ⟨rfl, fun y hy => by obtain ⟨j, hj, rfl⟩ := List.mem_iff_getElem.1 hy; exact HN.out j _ hj (by simp)⟩⟩, HBR.out⟩
end Go.Proofs.Ytkfgapljphhmcaa
