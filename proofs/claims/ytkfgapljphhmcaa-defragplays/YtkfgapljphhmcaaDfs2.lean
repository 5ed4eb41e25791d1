/- Layer 7: contracts of what works on one entry: end, isWhole, count. -/
import Derived.Test.YtkfgapljphhmcaaDfs
namespace Go.Proofs.Ytkfgapljphhmcaa
open Go.RowKit
set_option linter.unusedVariables false
set_option maxRecDepth 20000
theorem grown_sets (B : Nat) : ∀ (vs : List Value) (o : Nat) (w : World), w.grownBy (w.setCells B o vs) (some B) ∧ (w.setCells B o vs).heap.size = w.heap.size
  | [], _, w => ⟨grown_refl w _, rfl⟩
  | v :: r, o, w => by
    have h1 := grown_set w B o v
    have h2 := grown_sets B r (o + 1) (w.setCell ⟨B, o, none⟩ v)
    exact ⟨h1.1.trans h2.1, h2.2.trans h1.2⟩
/-- where d.there[t:] begins -/
def zz (t : Nat) : Nat := if 2000 = t then 2000 else 2000 + t
theorem slice_l (B t : Nat) (ht : t ≤ 2000) (u : World) : (Instr.sliceAt 57 (.pointer (some ⟨B, 2000, none⟩)) (some (.int .i64 (t : Int))) none none).run Try.prog u = .ok (.slice (some ⟨B, zz t, none⟩) (2000 - t) (2000 - t)) u := by
  have ha : Try.prog.arrayLen 57 = 2000 := by kernel_rfl
  have hu : Try.prog.underlying 57 = some (.array (Try.prog.arrayLen 57) (Try.prog.elem 57)) := by kernel_rfl
  have hs : (sizeOf (Try.prog.elem 57)).run Try.prog u = .ok 1 u := by kernel_rfl
  rw [run_sliceAt_array_l u _ _ hu .i64 (t : Int) (by omega) (by rw [ha]; omega), hs, ha]
  simp only [Result.andThen, slicedAt, Addr.add, Int.toNat_natCast, Nat.mul_one, zz]
  split
  · rfl
  · by_cases e : t = 0
    · subst e; rfl
    · simp [e]
theorem slice_h (B t : Nat) (ht : t ≤ 2000) (u : World) : (Instr.sliceAt 57 (.pointer (some ⟨B, 2000, none⟩)) none (some (.int .i64 (t : Int))) none).run Try.prog u = .ok (.slice (some ⟨B, 2000, none⟩) t 2000) u := by
  have ha : Try.prog.arrayLen 57 = 2000 := by kernel_rfl
  have hu : Try.prog.underlying 57 = some (.array (Try.prog.arrayLen 57) (Try.prog.elem 57)) := by kernel_rfl
  have hs : (sizeOf (Try.prog.elem 57)).run Try.prog u = .ok 1 u := by kernel_rfl
  rw [run_sliceAt_array_h u _ _ hu .i64 (t : Int) (by omega) (by rw [ha]; omega), hs, ha]
  simp only [Result.andThen, slicedAt, Addr.add, Int.toNat_natCast, Nat.mul_one]
  rfl
theorem slice_b (B t : Nat) (ht : t ≤ 2000) (u : World) : (Instr.sliceAt 56 (.pointer (some ⟨B, 0, none⟩)) none (some (.int .i64 (t : Int))) none).run Try.prog u = .ok (.slice (some ⟨B, 0, none⟩) t 2000) u := by
  have ha : Try.prog.arrayLen 56 = 2000 := by kernel_rfl
  have hu : Try.prog.underlying 56 = some (.array (Try.prog.arrayLen 56) (Try.prog.elem 56)) := by kernel_rfl
  have hs : (sizeOf (Try.prog.elem 56)).run Try.prog u = .ok 1 u := by kernel_rfl
  rw [run_sliceAt_array_h u _ _ hu .i64 (t : Int) (by omega) (by rw [ha]; omega), hs, ha]
  simp only [Result.andThen, slicedAt, Addr.add, Int.toNat_natCast, Nat.mul_one]
  rfl
theorem zeroBool (w : World) : (zeroValue 4).run Try.prog w = .ok (.bool false) w := by kernel_rfl
theorem clear_ent {w : World} {B : Nat} {e : Ent} (h : EntAt w B e) (t : Nat) (ht : t ≤ 2000) : ∃ W, (∀ ty, (Builtin.clear_ #[44] ty #[.slice (some ⟨B, zz t, none⟩) (2000 - t) (2000 - t)]).run Try.prog w = .ok (.tuple #[]) W) ∧
    EntAt W B { e with th := fun p => e.th p && decide (p < t) } ∧ w.grownBy W (some B) ∧ W.heap.size = w.heap.size := by
  by_cases e0 : 2000 = t
  · subst e0
    refine ⟨w, fun ty => by simp [Builtin.clear_, run_underlying Try.underlying44], ⟨h.b, fun o ho => ?_, h.n, h.a, h.f, h.lt⟩, grown_refl _ _, rfl⟩
    rw [h.t o ho]
    simp [ho]
  · have ez : zz t = 2000 + t := by unfold zz; rw [if_neg e0]
    rw [ez]
    have hsome : ∀ j, j < 2000 - t → (w.cell? ⟨B, 2000 + t + j, none⟩).isSome = true := fun j hj => by
      rw [Nat.add_assoc, h.t (t + j) (by omega)]; rfl
    have hl : (List.replicate (2000 - t) (Value.bool false)).length = 2000 - t := List.length_replicate
    refine ⟨_, fun ty => Lib.run_clear_slice w 44 4 ty (.bool false) Try.underlying44 zeroBool rfl rfl B (2000 + t) (2000 - t) (2000 - t) (by omega) hsome (fun j _ => h.f _), ⟨fun o ho => ?_, fun o ho => ?_, ?_, ?_, fun o => ?_, ?_⟩, (grown_sets B _ _ _).1, (grown_sets B _ _ _).2⟩
    · rw [World.cell?_setCells_out B _ (2000 + t) w _ (fun _ _ => .inl (by show o < 2000 + t; omega)), h.b o ho]
    · by_cases ho2 : o < t
      · rw [World.cell?_setCells_out B _ (2000 + t) w _ (fun _ _ => .inl (by show 2000 + o < 2000 + t; omega)), h.t o ho]
        simp [ho2]
      · have := World.cell?_setCells_in B (List.replicate (2000 - t) (Value.bool false)) (2000 + t) w (fun j hj => hsome j (by omega)) (o - t) (by omega)
        rw [show 2000 + t + (o - t) = 2000 + o from by omega] at this
        rw [this]
        simp [ho2]
    · rw [World.cell?_setCells_out B _ (2000 + t) w _ (fun _ _ => .inr (by show 2000 + t + _ ≤ 4000; omega)), h.n]
    · rw [World.cell?_setCells_out B _ (2000 + t) w _ (fun _ _ => .inr (by show 2000 + t + _ ≤ 4001; omega)), h.a]
    · rw [World.frozen?_setCells]; exact h.f o
    · rw [(grown_sets B _ _ _).2]; exact h.lt
set_option maxHeartbeats 1000000 in
theorem end_any (w : World) (B : Nat) (e : Ent) (t : Nat) (h : EntAt w B e) (ht : t ≤ 2000) :
    Calls Try.prog 32 #[.pointer (some ⟨B, 0, none⟩), .int .i64 (t : Int)] w fun r w' => r = .returned (.tuple #[]) ∧ EntAt w' B (e.endAt t) ∧ w.grownBy w' (some B) ∧ w'.heap.size = w.heap.size := by
  have c2 := h.n
  have f2 := h.f 4000
  have hlt := h.lt
  have hsl := slice_l B t ht
  obtain ⟨W, hcl, hW, g, gs⟩ := clear_ent (h.setN t) t ht
  have g1 := grown_set w B 4000 (.int .i64 (t : Int))
  have H := (show Hid _ from (And.intro hW (And.intro (g1.1.trans g) (gs.trans g1.2))))
  clear h hW g gs g1
  go_enter Try.func32, Try.ntmps32
  go_wp2
  exact bodyPost_end (results_none Try.results32 _ _ _) rfl ⟨rfl, H.out⟩
set_option maxHeartbeats 1000000 in
theorem index_any (w : World) (B o n c : Nat) (x : Nat → Bool) (hn : n ≤ 2000) (h : ∀ j, j < n → w.cell? ⟨B, o + j, none⟩ = some (.bool (x j))) :
    Calls Try.prog 35 #[.slice (some ⟨B, o, none⟩) n c, .bool false] w fun r w' => (∃ v : Int, r = .returned (.int .i64 v) ∧ ((0 ≤ v) ↔ ∃ j, j < n ∧ x j = false)) ∧ w' = w := by
  go_enter Try.func35, Try.ntmps35
  go_wp2
  go_loop [8] (fun t => ∃ k : Nat, k ≤ n ∧ t = .int .i64 (k : Int) ∧ Hid (∀ j, j < k → x j = true)) (fun t => n - (intOf t).toNat)
  case atStart => exact ⟨0, by omega, rfl, show Hid _ from fun j hj => by omega⟩
  case round =>
    obtain ⟨k, hk, rfl, H⟩ := hrel
    by_cases hkn : k < n
    · have c1 := h k hkn
      have c1' := c1
      clear h
      obtain ⟨y, hy⟩ : ∃ y, y = x k := ⟨_, rfl⟩
      rw [← hy] at c1
      have HY := (show Hid _ from hy)
      clear hy c1'
      cases y
      · go_wp2
        go_ret
        exact ⟨⟨(k : Int), rfl, ⟨fun _ => ⟨k, hkn, HY.out.symm⟩, fun _ => by omega⟩⟩, rfl⟩
      · go_wp2
        go_round
        case rel => exact ⟨k + 1, by omega, by go_num, show Hid _ from fun j hj => by
          by_cases e : j = k
          · rw [e]; exact HY.out.symm
          · exact H.out j (by omega)⟩
        case measure => simp [intOf]; omega
    · clear h
      obtain rfl : k = n := by omega
      go_wp2
      go_ret
      exact ⟨⟨-1, rfl, ⟨fun h => by omega, fun ⟨j, hj, hx⟩ => by rw [H.out j hj] at hx; cases hx⟩⟩, rfl⟩
set_option maxHeartbeats 1000000 in
theorem contains_any (w : World) (B o n c : Nat) (x : Nat → Bool) (hn : n ≤ 2000) (h : ∀ j, j < n → w.cell? ⟨B, o + j, none⟩ = some (.bool (x j))) :
    Calls Try.prog 34 #[.slice (some ⟨B, o, none⟩) n c, .bool false] w fun r w' => r = .returned (.bool (!(List.range n).all x)) ∧ w = w' := by
  have hi := index_any w B o n c x hn h
  clear h
  go_enter Try.func34, Try.ntmps34
  go_wp2_with fail
  refine hi.mono ?_
  rintro r w1 ⟨⟨v, rfl, hv⟩, rfl⟩
  clear hi
  have HV := (show Hid _ from hv)
  clear hv
  go_wp2_with fail
  go_ret
  refine ⟨?_, rfl⟩
  have : decide (0 ≤ v) = !(List.range n).all x := by
    rw [Bool.eq_iff_iff]
    simp only [decide_eq_true_eq, Bool.not_eq_true', List.all_eq_false, List.mem_range]
    rw [HV.out]
    simp
  rw [← this]
  rfl
set_option maxHeartbeats 1000000 in
theorem isWhole_any (w : World) (B : Nat) (e : Ent) (h : EntAt w B e) (ht : e.tot ≤ 2000) :
    Calls Try.prog 26 #[.pointer (some ⟨B, 0, none⟩)] w fun r w' => r = .returned (.bool e.whole) ∧ Below w.heap.size w w' := by
  have hcl := Cls.cell (w := w)
  have c2 := h.n
  have hlt := h.lt
  have hsl := slice_h B e.tot ht
  have hco := fun (u : Cls w) => contains_any u.val B 2000 e.tot 2000 e.th ht (fun j hj => by rw [u.cell _ _ h.lt]; exact h.t j (by omega))
  have HW : Hid (e.whole = (decide (0 < e.tot) && (List.range e.tot).all e.th)) := rfl
  obtain ⟨v, hv⟩ : ∃ v, v = (List.range e.tot).all e.th := ⟨_, rfl⟩
  rw [← hv] at hco HW
  obtain ⟨n, hn⟩ : ∃ n : Nat, n = e.tot := ⟨_, rfl⟩
  rw [← hn] at hsl hco ht c2 HW
  clear h hv hn
  go_enter Try.func26, Try.ntmps26
  go_upto_region 1 with fail
  by_cases hn0 : 0 < n
  · have hd : decide (0 < (n : Int)) = true := by simp; omega
    refine wp_region_calm (by kernel_rfl) (by kernel_rfl) (fun hne => ?_)
    repeat (go_big_quiet_step (first | (go_at_call 34; exact calm_of_same (hco _))))
    refine wpQuiet_nil ?_
    rintro _ ⟨x, rfl⟩
    go_wp2
    go_ret
    exact ⟨by rw [HW.out]; simp [hn0], x.bel⟩
  · have hd : decide (0 < (n : Int)) = false := by simp; omega
    refine wp_region_calm (by kernel_rfl) (by kernel_rfl) (fun hne => ?_)
    repeat (go_big_quiet_step (first | (go_at_call 34; exact calm_of_same (hco _))))
    refine wpQuiet_nil ?_
    rintro _ ⟨x, rfl⟩
    go_wp2
    go_ret
    exact ⟨by rw [HW.out]; simp [hn0], x.bel⟩
end Go.Proofs.Ytkfgapljphhmcaa
