/- Contracts of layer 3: ipv4's Get. -/
import Derived.Test.YthfncbcnokkmiaaIps4
import Derived.LoopN
import Derived.Laws.EntriesVeiled
namespace Go.Proofs.Ythfncbcnokkmiaa
open Go.RowKit
set_option linter.unusedVariables false
/-- what is known of two blocks that the call made first, block by block further on -/
structure Keep2 (w wk : World) (A F : Array Value) : Prop where
  q0 : ∀ o, wk.cell? ⟨w.heap.size, o, none⟩ = A[o]?
  f0 : ∀ o, wk.frozen? ⟨w.heap.size, o, none⟩ = false
  qf : ∀ o, wk.cell? ⟨w.heap.size + 1, o, none⟩ = F[o]?
  z : w.heap.size + 1 < wk.heap.size
  hb : Below w.heap.size w wk
theorem Keep2.start (w : World) (A F : Array Value) (s t : TypeId) : Keep2 w ((w.alloc (.cells A s)).alloc (.cells F t)) A F := by
  refine ⟨fun o => ?_, fun o => ?_, fun o => ?_, by simp, below2 _ _ _⟩
  · simp
  · simp
  · have := World.cell?_alloc_new (w.alloc (.cells A s)) F t o
    rw [show (w.alloc (.cells A s)).heap.size = w.heap.size + 1 from by simp] at this
    exact this
theorem Keep2.below {w wk wl : World} {A F : Array Value} (h : Keep2 w wk A F) (hb : Below wk.heap.size wk wl) : Keep2 w wl A F := by
  have hz := h.z
  have hs := hb.size
  refine ⟨fun o => ?_, fun o => ?_, fun o => ?_, by omega, h.hb.trans (hb.mono h.hb.size)⟩
  · rw [hb.cell (by show w.heap.size < _; omega)]; exact h.q0 o
  · rw [hb.frozen (by show w.heap.size < _; omega)]; exact h.f0 o
  · rw [hb.cell (by show w.heap.size + 1 < _; omega)]; exact h.qf o
theorem Keep2.drew {w wk : World} {A F : Array Value} (h : Keep2 w wk A F) : Keep2 w wk.drew A F := ⟨h.q0, h.f0, h.qf, h.z, h.hb.drew⟩
theorem Keep2.alloc {w wk : World} {A F : Array Value} (h : Keep2 w wk A F) (o : Obj) : Keep2 w (wk.alloc o) A F := h.below (below1 _ _)
/-- which error comes first -/
def firstErr (b1 b2 b3 b4 b5 b6 b7 b8 : Bool) : Int := if b1 = true then 2 else if b2 = true then 3 else if b3 = true then 2 else if b4 = true then 3 else if b5 = true then 2 else if b6 = true then 3 else if b7 = true then 5 else if b8 = true then 4 else 0
/-- what Get answers -/
def answer (c : Int) (V : Array Value) (D : ByteArray) : Value := if c = 0 then .tuple #[.agg V, .string D, .int .i64 0] else .tuple #[.agg ipZ, .string ⟨#[]⟩, .int .i64 c]
set_option maxHeartbeats 8000000 in
theorem get_walk (s : ByteArray) (H : Ip) (q r : Nat) (b1 b2 b3 b4 b5 b6 b7 b8 : Bool) (w : World)
    (c1 : ∀ w : World, Calls Try.prog 65 #[.string s] w fun e w' => e = .returned (.bool b1) ∧ w = w')
    (c2 : b1 = false → ∀ w : World, Calls Try.prog 66 #[.string s] w fun e w' => e = .returned (.bool b2) ∧ w = w')
    (c3 : b1 = false → b2 = false → ∀ w : World, Calls Try.prog 67 #[.string s] w fun e w' => e = .returned (.bool b3) ∧ w = w')
    (c4 : b1 = false → b2 = false → b3 = false → ∀ w : World, Calls Try.prog 68 #[.string s] w fun e w' => e = .returned (.bool b4) ∧ w = w')
    (c5 : b1 = false → b2 = false → b3 = false → b4 = false → ∀ w : World, Calls Try.prog 69 #[.string s] w fun e w' => e = .returned (.bool b5) ∧ w = w')
    (c6 : b1 = false → b2 = false → b3 = false → b4 = false → b5 = false → ∀ w : World, Calls Try.prog 70 #[.string s] w fun e w' => e = .returned (.bool b6) ∧ w = w')
    (c7 : b1 = false → b2 = false → b3 = false → b4 = false → b5 = false → b6 = false → ∀ w : World, Calls Try.prog 72 #[.string s] w fun e w' => e = .returned (.bool b7) ∧ w = w')
    (c8 : b1 = false → b2 = false → b3 = false → b4 = false → b5 = false → b6 = false → b7 = false → ∀ w : World, Calls Try.prog 73 #[.string s] w fun e w' => e = .returned (.bool b8) ∧ Below w.heap.size w w')
    (ch : b1 = false → b2 = false → b3 = false → b4 = false → b5 = false → b6 = false → b7 = false → b8 = false → ∀ w : World, Calls Try.prog 48 #[.string s] w fun e w' => e = .returned (.agg (ipV H)) ∧ Below w.heap.size w w')
    (cq : b1 = false → ∀ w : World, Calls Try.prog 49 #[.string s] w fun e w' => e = .returned (.int .i64 (q : Int)) ∧ w = w') (cr : b1 = false → ∀ w : World, Calls Try.prog 50 #[.string s] w fun e w' => e = .returned (.int .i64 (r : Int)) ∧ w = w') (hqr : b4 = false → q ≤ r) (hr : b5 = false → r ≤ s.size) :
    Calls Try.prog 24 #[.string s] w fun e w' => e = .returned (answer (firstErr b1 b2 b3 b4 b5 b6 b7 b8) (ipV H) (s.extract q r)) ∧ Below w.heap.size w w' := by
  go_enter Try.func24, Try.ntmps24
  go_wp2_with fail
  refine (faults_any _).mono ?_
  rintro e w1 ⟨rfl, rfl⟩
  have K0 := (show Hid _ from Keep2.start w ipZ faultsV 27 80)
  rw [show (w.alloc (.cells ipZ 27)).heap.size = w.heap.size + 1 from by simp]
  generalize (w.alloc (.cells ipZ 27)).alloc (.cells faultsV 80) = u0 at K0 ⊢
  go_wp2_with fail
  refine wp_loop_rounds 9 ?_
  rw [rounds_succ]
  have q0 := K0.out.q0
  have f0 := K0.out.f0
  have qf := K0.out.qf
  have z := K0.out.z
  have z0 : w.heap.size < u0.heap.size := by omega
  go_wp2_with fail
  refine (c1 _).mono ?_
  rintro e w' ⟨rfl, rfl⟩
  clear c1
  cases hb1 : b1 with
  | true =>
    have KX := (show Hid _ from K0.out.alloc (.cells #[.int .i64 2, .func (.func 65) #[] #[]] 80))
    have e0 : (u0.alloc (.cells #[.int .i64 2, .func (.func 65) #[] #[]] 80)).cell? ⟨u0.heap.size, 0, none⟩ = some (.int .i64 2) := by simp
    clear q0 f0 qf z
    generalize u0.alloc (.cells #[.int .i64 2, .func (.func 65) #[] #[]] 80) = ux at KX e0 ⊢
    have q0 := KX.out.q0
    have f0 := KX.out.f0
    obtain ⟨uy, huy, qy, HBy⟩ := set_row (vs := [.int .i64 0, .int .i64 0, .bool false, .bool false, .int .i64 0, .int .i64 0, .int .i64 0, .int .u32 0, .int .u32 0, .string ⟨#[]⟩]) q0 KX.out.hb rfl
    go_wp2_with fail
    go_region
    all_goals
      go_wp2_with fail
      change bodyPost _ _ _ _ _ (World.drew (World.setCells ux w.heap.size 0 [.int .i64 0, .int .i64 0, .bool false, .bool false, .int .i64 0, .int .i64 0, .int .i64 0, .int .u32 0, .int .u32 0, .string ⟨#[]⟩]))
      rw [huy]
      exact bodyPost_ret (v := .tuple #[.agg ipZ, .string ⟨#[]⟩, .int .i64 2]) (by simp [results, Try.results24, go_sem, qy]) rfl ⟨by simp [answer, firstErr, hb1], HBy.out.drew⟩
  | false =>
  go_wp2_with fail
  have K1 := (show Hid _ from K0.out.alloc (.cells #[.int .i64 2, .func (.func 65) #[] #[]] 80))
  clear q0 f0 qf z z0 K0
  generalize u0.alloc (.cells #[.int .i64 2, .func (.func 65) #[] #[]] 80) = u1 at K1 ⊢
  rw [rounds_succ]
  have q0 := K1.out.q0
  have f0 := K1.out.f0
  have qf := K1.out.qf
  have z := K1.out.z
  have z0 : w.heap.size < u1.heap.size := by omega
  go_wp2_with fail
  refine (c2 hb1 _).mono ?_
  rintro e w' ⟨rfl, rfl⟩
  clear c2
  cases hb2 : b2 with
  | true =>
    have KX := (show Hid _ from K1.out.alloc (.cells #[.int .i64 3, .func (.func 66) #[] #[]] 80))
    have e0 : (u1.alloc (.cells #[.int .i64 3, .func (.func 66) #[] #[]] 80)).cell? ⟨u1.heap.size, 0, none⟩ = some (.int .i64 3) := by simp
    clear q0 f0 qf z
    generalize u1.alloc (.cells #[.int .i64 3, .func (.func 66) #[] #[]] 80) = ux at KX e0 ⊢
    have q0 := KX.out.q0
    have f0 := KX.out.f0
    obtain ⟨uy, huy, qy, HBy⟩ := set_row (vs := [.int .i64 0, .int .i64 0, .bool false, .bool false, .int .i64 0, .int .i64 0, .int .i64 0, .int .u32 0, .int .u32 0, .string ⟨#[]⟩]) q0 KX.out.hb rfl
    go_wp2_with fail
    go_region
    all_goals
      go_wp2_with fail
      change bodyPost _ _ _ _ _ (World.drew (World.setCells ux w.heap.size 0 [.int .i64 0, .int .i64 0, .bool false, .bool false, .int .i64 0, .int .i64 0, .int .i64 0, .int .u32 0, .int .u32 0, .string ⟨#[]⟩]))
      rw [huy]
      exact bodyPost_ret (v := .tuple #[.agg ipZ, .string ⟨#[]⟩, .int .i64 3]) (by simp [results, Try.results24, go_sem, qy]) rfl ⟨by simp [answer, firstErr, hb1, hb2], HBy.out.drew⟩
  | false =>
  go_wp2_with fail
  have K2 := (show Hid _ from K1.out.alloc (.cells #[.int .i64 3, .func (.func 66) #[] #[]] 80))
  clear q0 f0 qf z z0 K1
  generalize u1.alloc (.cells #[.int .i64 3, .func (.func 66) #[] #[]] 80) = u2 at K2 ⊢
  rw [rounds_succ]
  have q0 := K2.out.q0
  have f0 := K2.out.f0
  have qf := K2.out.qf
  have z := K2.out.z
  have z0 : w.heap.size < u2.heap.size := by omega
  go_wp2_with fail
  refine (c3 hb1 hb2 _).mono ?_
  rintro e w' ⟨rfl, rfl⟩
  clear c3
  cases hb3 : b3 with
  | true =>
    have KX := (show Hid _ from K2.out.alloc (.cells #[.int .i64 2, .func (.func 67) #[] #[]] 80))
    have e0 : (u2.alloc (.cells #[.int .i64 2, .func (.func 67) #[] #[]] 80)).cell? ⟨u2.heap.size, 0, none⟩ = some (.int .i64 2) := by simp
    clear q0 f0 qf z
    generalize u2.alloc (.cells #[.int .i64 2, .func (.func 67) #[] #[]] 80) = ux at KX e0 ⊢
    have q0 := KX.out.q0
    have f0 := KX.out.f0
    obtain ⟨uy, huy, qy, HBy⟩ := set_row (vs := [.int .i64 0, .int .i64 0, .bool false, .bool false, .int .i64 0, .int .i64 0, .int .i64 0, .int .u32 0, .int .u32 0, .string ⟨#[]⟩]) q0 KX.out.hb rfl
    go_wp2_with fail
    go_region
    all_goals
      go_wp2_with fail
      change bodyPost _ _ _ _ _ (World.drew (World.setCells ux w.heap.size 0 [.int .i64 0, .int .i64 0, .bool false, .bool false, .int .i64 0, .int .i64 0, .int .i64 0, .int .u32 0, .int .u32 0, .string ⟨#[]⟩]))
      rw [huy]
      exact bodyPost_ret (v := .tuple #[.agg ipZ, .string ⟨#[]⟩, .int .i64 2]) (by simp [results, Try.results24, go_sem, qy]) rfl ⟨by simp [answer, firstErr, hb1, hb2, hb3], HBy.out.drew⟩
  | false =>
  go_wp2_with fail
  have K3 := (show Hid _ from K2.out.alloc (.cells #[.int .i64 2, .func (.func 67) #[] #[]] 80))
  clear q0 f0 qf z z0 K2
  generalize u2.alloc (.cells #[.int .i64 2, .func (.func 67) #[] #[]] 80) = u3 at K3 ⊢
  rw [rounds_succ]
  have q0 := K3.out.q0
  have f0 := K3.out.f0
  have qf := K3.out.qf
  have z := K3.out.z
  have z0 : w.heap.size < u3.heap.size := by omega
  go_wp2_with fail
  refine (c4 hb1 hb2 hb3 _).mono ?_
  rintro e w' ⟨rfl, rfl⟩
  clear c4
  cases hb4 : b4 with
  | true =>
    have KX := (show Hid _ from K3.out.alloc (.cells #[.int .i64 3, .func (.func 68) #[] #[]] 80))
    have e0 : (u3.alloc (.cells #[.int .i64 3, .func (.func 68) #[] #[]] 80)).cell? ⟨u3.heap.size, 0, none⟩ = some (.int .i64 3) := by simp
    clear q0 f0 qf z
    generalize u3.alloc (.cells #[.int .i64 3, .func (.func 68) #[] #[]] 80) = ux at KX e0 ⊢
    have q0 := KX.out.q0
    have f0 := KX.out.f0
    obtain ⟨uy, huy, qy, HBy⟩ := set_row (vs := [.int .i64 0, .int .i64 0, .bool false, .bool false, .int .i64 0, .int .i64 0, .int .i64 0, .int .u32 0, .int .u32 0, .string ⟨#[]⟩]) q0 KX.out.hb rfl
    go_wp2_with fail
    go_region
    all_goals
      go_wp2_with fail
      change bodyPost _ _ _ _ _ (World.drew (World.setCells ux w.heap.size 0 [.int .i64 0, .int .i64 0, .bool false, .bool false, .int .i64 0, .int .i64 0, .int .i64 0, .int .u32 0, .int .u32 0, .string ⟨#[]⟩]))
      rw [huy]
      exact bodyPost_ret (v := .tuple #[.agg ipZ, .string ⟨#[]⟩, .int .i64 3]) (by simp [results, Try.results24, go_sem, qy]) rfl ⟨by simp [answer, firstErr, hb1, hb2, hb3, hb4], HBy.out.drew⟩
  | false =>
  go_wp2_with fail
  have K4 := (show Hid _ from K3.out.alloc (.cells #[.int .i64 3, .func (.func 68) #[] #[]] 80))
  clear q0 f0 qf z z0 K3
  generalize u3.alloc (.cells #[.int .i64 3, .func (.func 68) #[] #[]] 80) = u4 at K4 ⊢
  rw [rounds_succ]
  have q0 := K4.out.q0
  have f0 := K4.out.f0
  have qf := K4.out.qf
  have z := K4.out.z
  have z0 : w.heap.size < u4.heap.size := by omega
  go_wp2_with fail
  refine (c5 hb1 hb2 hb3 hb4 _).mono ?_
  rintro e w' ⟨rfl, rfl⟩
  clear c5
  cases hb5 : b5 with
  | true =>
    have KX := (show Hid _ from K4.out.alloc (.cells #[.int .i64 2, .func (.func 69) #[] #[]] 80))
    have e0 : (u4.alloc (.cells #[.int .i64 2, .func (.func 69) #[] #[]] 80)).cell? ⟨u4.heap.size, 0, none⟩ = some (.int .i64 2) := by simp
    clear q0 f0 qf z
    generalize u4.alloc (.cells #[.int .i64 2, .func (.func 69) #[] #[]] 80) = ux at KX e0 ⊢
    have q0 := KX.out.q0
    have f0 := KX.out.f0
    obtain ⟨uy, huy, qy, HBy⟩ := set_row (vs := [.int .i64 0, .int .i64 0, .bool false, .bool false, .int .i64 0, .int .i64 0, .int .i64 0, .int .u32 0, .int .u32 0, .string ⟨#[]⟩]) q0 KX.out.hb rfl
    go_wp2_with fail
    go_region
    all_goals
      go_wp2_with fail
      change bodyPost _ _ _ _ _ (World.drew (World.setCells ux w.heap.size 0 [.int .i64 0, .int .i64 0, .bool false, .bool false, .int .i64 0, .int .i64 0, .int .i64 0, .int .u32 0, .int .u32 0, .string ⟨#[]⟩]))
      rw [huy]
      exact bodyPost_ret (v := .tuple #[.agg ipZ, .string ⟨#[]⟩, .int .i64 2]) (by simp [results, Try.results24, go_sem, qy]) rfl ⟨by simp [answer, firstErr, hb1, hb2, hb3, hb4, hb5], HBy.out.drew⟩
  | false =>
  go_wp2_with fail
  have K5 := (show Hid _ from K4.out.alloc (.cells #[.int .i64 2, .func (.func 69) #[] #[]] 80))
  clear q0 f0 qf z z0 K4
  generalize u4.alloc (.cells #[.int .i64 2, .func (.func 69) #[] #[]] 80) = u5 at K5 ⊢
  rw [rounds_succ]
  have q0 := K5.out.q0
  have f0 := K5.out.f0
  have qf := K5.out.qf
  have z := K5.out.z
  have z0 : w.heap.size < u5.heap.size := by omega
  go_wp2_with fail
  refine (c6 hb1 hb2 hb3 hb4 hb5 _).mono ?_
  rintro e w' ⟨rfl, rfl⟩
  clear c6
  cases hb6 : b6 with
  | true =>
    have KX := (show Hid _ from K5.out.alloc (.cells #[.int .i64 3, .func (.func 70) #[] #[]] 80))
    have e0 : (u5.alloc (.cells #[.int .i64 3, .func (.func 70) #[] #[]] 80)).cell? ⟨u5.heap.size, 0, none⟩ = some (.int .i64 3) := by simp
    clear q0 f0 qf z
    generalize u5.alloc (.cells #[.int .i64 3, .func (.func 70) #[] #[]] 80) = ux at KX e0 ⊢
    have q0 := KX.out.q0
    have f0 := KX.out.f0
    obtain ⟨uy, huy, qy, HBy⟩ := set_row (vs := [.int .i64 0, .int .i64 0, .bool false, .bool false, .int .i64 0, .int .i64 0, .int .i64 0, .int .u32 0, .int .u32 0, .string ⟨#[]⟩]) q0 KX.out.hb rfl
    go_wp2_with fail
    go_region
    all_goals
      go_wp2_with fail
      change bodyPost _ _ _ _ _ (World.drew (World.setCells ux w.heap.size 0 [.int .i64 0, .int .i64 0, .bool false, .bool false, .int .i64 0, .int .i64 0, .int .i64 0, .int .u32 0, .int .u32 0, .string ⟨#[]⟩]))
      rw [huy]
      exact bodyPost_ret (v := .tuple #[.agg ipZ, .string ⟨#[]⟩, .int .i64 3]) (by simp [results, Try.results24, go_sem, qy]) rfl ⟨by simp [answer, firstErr, hb1, hb2, hb3, hb4, hb5, hb6], HBy.out.drew⟩
  | false =>
  go_wp2_with fail
  have K6 := (show Hid _ from K5.out.alloc (.cells #[.int .i64 3, .func (.func 70) #[] #[]] 80))
  clear q0 f0 qf z z0 K5
  generalize u5.alloc (.cells #[.int .i64 3, .func (.func 70) #[] #[]] 80) = u6 at K6 ⊢
  rw [rounds_succ]
  have q0 := K6.out.q0
  have f0 := K6.out.f0
  have qf := K6.out.qf
  have z := K6.out.z
  have z0 : w.heap.size < u6.heap.size := by omega
  go_wp2_with fail
  refine (c7 hb1 hb2 hb3 hb4 hb5 hb6 _).mono ?_
  rintro e w' ⟨rfl, rfl⟩
  clear c7
  cases hb7 : b7 with
  | true =>
    have KX := (show Hid _ from K6.out.alloc (.cells #[.int .i64 5, .func (.func 72) #[] #[]] 80))
    have e0 : (u6.alloc (.cells #[.int .i64 5, .func (.func 72) #[] #[]] 80)).cell? ⟨u6.heap.size, 0, none⟩ = some (.int .i64 5) := by simp
    clear q0 f0 qf z
    generalize u6.alloc (.cells #[.int .i64 5, .func (.func 72) #[] #[]] 80) = ux at KX e0 ⊢
    have q0 := KX.out.q0
    have f0 := KX.out.f0
    obtain ⟨uy, huy, qy, HBy⟩ := set_row (vs := [.int .i64 0, .int .i64 0, .bool false, .bool false, .int .i64 0, .int .i64 0, .int .i64 0, .int .u32 0, .int .u32 0, .string ⟨#[]⟩]) q0 KX.out.hb rfl
    go_wp2_with fail
    go_region
    all_goals
      go_wp2_with fail
      change bodyPost _ _ _ _ _ (World.drew (World.setCells ux w.heap.size 0 [.int .i64 0, .int .i64 0, .bool false, .bool false, .int .i64 0, .int .i64 0, .int .i64 0, .int .u32 0, .int .u32 0, .string ⟨#[]⟩]))
      rw [huy]
      exact bodyPost_ret (v := .tuple #[.agg ipZ, .string ⟨#[]⟩, .int .i64 5]) (by simp [results, Try.results24, go_sem, qy]) rfl ⟨by simp [answer, firstErr, hb1, hb2, hb3, hb4, hb5, hb6, hb7], HBy.out.drew⟩
  | false =>
  go_wp2_with fail
  have K7 := (show Hid _ from K6.out.alloc (.cells #[.int .i64 5, .func (.func 72) #[] #[]] 80))
  clear q0 f0 qf z z0 K6
  generalize u6.alloc (.cells #[.int .i64 5, .func (.func 72) #[] #[]] 80) = u7 at K7 ⊢
  rw [rounds_succ]
  have q0 := K7.out.q0
  have f0 := K7.out.f0
  have qf := K7.out.qf
  have z := K7.out.z
  have z0 : w.heap.size < u7.heap.size := by omega
  go_wp2_with fail
  refine (c8 hb1 hb2 hb3 hb4 hb5 hb6 hb7 _).mono ?_
  rintro e w8 ⟨rfl, hb8⟩
  have K8 := (show Hid _ from (K7.out.alloc (.cells #[.int .i64 4, .func (.func 73) #[] #[]] 80)).below hb8)
  have e0 : w8.cell? ⟨u7.heap.size, 0, none⟩ = some (.int .i64 4) := by rw [hb8.cell (by simp)]; simp
  clear c8 q0 f0 qf z hb8
  have q0 := K8.out.q0
  have f0 := K8.out.f0
  cases hb8 : b8 with
  | true =>
    have KX := K8
    clear q0 f0
    generalize w8 = ux at KX e0 ⊢
    have q0 := KX.out.q0
    have f0 := KX.out.f0
    obtain ⟨uy, huy, qy, HBy⟩ := set_row (vs := [.int .i64 0, .int .i64 0, .bool false, .bool false, .int .i64 0, .int .i64 0, .int .i64 0, .int .u32 0, .int .u32 0, .string ⟨#[]⟩]) q0 KX.out.hb rfl
    go_wp2_with fail
    go_region
    all_goals
      go_wp2_with fail
      change bodyPost _ _ _ _ _ (World.drew (World.setCells ux w.heap.size 0 [.int .i64 0, .int .i64 0, .bool false, .bool false, .int .i64 0, .int .i64 0, .int .i64 0, .int .u32 0, .int .u32 0, .string ⟨#[]⟩]))
      rw [huy]
      exact bodyPost_ret (v := .tuple #[.agg ipZ, .string ⟨#[]⟩, .int .i64 4]) (by simp [results, Try.results24, go_sem, qy]) rfl ⟨by simp [answer, firstErr, hb1, hb2, hb3, hb4, hb5, hb6, hb7, hb8], HBy.out.drew⟩
  | false =>
  clear q0 f0 e0 z0
  go_wp2_with fail
  rw [rounds_succ]
  have q0 := K8.out.q0
  have f0 := K8.out.f0
  go_wp2_with fail
  have ch' := ch hb1 hb2 hb3 hb4 hb5 hb6 hb7 hb8
  have kq : (q : Int) ≤ (r : Int) := by have := hqr hb4; omega
  have kr : (r : Int) ≤ (s.size : Int) := by have := hr hb5; omega
  have cq' := cq hb1
  have cr' := cr hb1
  clear ch hqr hr q0 f0 cq cr
  go_cut [3, 4] (fun s3 s4 wx => s3 = .string (s.extract q r) ∧ s4 = .int .i64 0 ∧ ∃ w2 : World, Keep2 w w2 ipZ faultsV ∧ wx = w2.setCells w.heap.size 0 [.int .i64 H.tos, .int .i64 H.id, .bool H.more, .bool H.keep, .int .i64 H.off, .int .i64 H.ttl, .int .i64 H.proto, .int .u32 (H.src.toNat : Int), .int .u32 (H.dst.toNat : Int), .string H.opts])
  case first =>
    go_region_with (first | (go_at_call 48; refine (ch' _).mono ?_; rintro e w9 ⟨rfl, hb9⟩; have K9 := (show Hid _ from K8.out.drew.below hb9); have q9 := K9.out.q0; have f9 := K9.out.f0; clear hb9 K8) | (go_at_call 49; refine (cq' _).mono ?_; rintro e w' ⟨rfl, rfl⟩) | (go_at_call 50; refine (cr' _).mono ?_; rintro e w' ⟨rfl, rfl⟩))
    all_goals
      go_wp2_with fail
      go_meet
      exact ⟨rfl, rfl, w9, K9.out, rfl⟩
  case rest =>
    obtain ⟨rfl, rfl, w2, K9, rfl⟩ := hcut
    obtain ⟨uy, huy, qy, HBy⟩ := set_row (vs := [.int .i64 H.tos, .int .i64 H.id, .bool H.more, .bool H.keep, .int .i64 H.off, .int .i64 H.ttl, .int .i64 H.proto, .int .u32 (H.src.toNat : Int), .int .u32 (H.dst.toNat : Int), .string H.opts]) K9.q0 K9.hb rfl
    rw [huy]
    clear huy K9 K8
    go_wp2_with fail
    exact bodyPost_ret (v := .tuple #[.agg (ipV H), .string (s.extract q r), .int .i64 0]) (by simp [results, Try.results24, go_sem, qy]) rfl ⟨by simp [answer, firstErr, hb1, hb2, hb3, hb4, hb5, hb6, hb7, hb8], HBy.out⟩
theorem get_any (s : ByteArray) (w : World) (hs : s.size ≤ 1000000) :
    Calls Try.prog 24 #[.string s] w fun e w' => e = .returned (answer (badL s.data.toList) (ipV (gotIp s.data.toList)) (s.extract (hdL s.data.toList) (alL s.data.toList))) ∧ Below w.heap.size w w' := by
  have hl : s.data.toList.length = s.size := toList_length s
  have h20 : decide ((s.size : Int) < 20) = false → 20 ≤ s.size := fun h => by have := of_decide_eq_false h; omega
  have h := get_walk s (gotIp s.data.toList) (hdL s.data.toList) (alL s.data.toList) (decide ((s.size : Int) < 20)) (decide (byteAt s.data.toList 0 / 16 ≠ 4 ∨ hdL s.data.toList < 20)) (decide (s.size < hdL s.data.toList)) (decide (alL s.data.toList < hdL s.data.toList)) (decide (s.size < alL s.data.toList)) (decide (32768 ≤ cwL s.data.toList)) (decide ((2000 : Int) < ((alL s.data.toList : Nat) : Int) - ((hdL s.data.toList : Nat) : Int))) (sumL (s.data.toList.take (hdL s.data.toList)) != 0) w
    (fun w => f1_any s w _ rfl) (fun h1 w => f2_any s w _ (h20 h1) rfl) (fun h1 _ w => f3_any s w _ (h20 h1) rfl) (fun h1 _ _ w => f4_any s w _ (h20 h1) rfl) (fun h1 _ _ _ w => f5_any s w _ (h20 h1) rfl) (fun h1 _ _ _ _ w => f6_any s w _ (h20 h1) rfl) (fun h1 _ _ _ _ _ w => f7_any s w _ (h20 h1) rfl)
    (fun h1 _ h3 _ _ _ _ w => f8_any s w _ (h20 h1) hs (by have := of_decide_eq_false h3; omega) rfl)
    (fun h1 h2 h3 _ _ _ _ _ w => headOf_any s w (h20 h1) hs (by have := of_decide_eq_false h2; omega) (by have := of_decide_eq_false h3; omega))
    (fun h1 w => hd_any s w (by have := h20 h1; omega)) (fun h1 w => all_any s w (by have := h20 h1; omega)) (fun h4 => by have := of_decide_eq_false h4; omega) (fun h5 => by have := of_decide_eq_false h5; omega)
  have e : firstErr (decide ((s.size : Int) < 20)) (decide (byteAt s.data.toList 0 / 16 ≠ 4 ∨ hdL s.data.toList < 20)) (decide (s.size < hdL s.data.toList)) (decide (alL s.data.toList < hdL s.data.toList)) (decide (s.size < alL s.data.toList)) (decide (32768 ≤ cwL s.data.toList)) (decide ((2000 : Int) < ((alL s.data.toList : Nat) : Int) - ((hdL s.data.toList : Nat) : Int))) (sumL (s.data.toList.take (hdL s.data.toList)) != 0) = badL s.data.toList := by
    unfold firstErr badL
    rw [hl]
    simp only [decide_eq_true_eq, bne_iff_ne]
    have e1 : ((s.size : Int) < 20) ↔ s.size < 20 := by omega
    have e7 : ((2000 : Int) < ((alL s.data.toList : Nat) : Int) - ((hdL s.data.toList : Nat) : Int)) ↔ hdL s.data.toList + 2000 < alL s.data.toList := by omega
    simp only [e1, e7]
  rw [e] at h
  exact h
end Go.Proofs.Ythfncbcnokkmiaa
