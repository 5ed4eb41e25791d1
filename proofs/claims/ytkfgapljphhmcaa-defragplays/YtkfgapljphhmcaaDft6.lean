/- Layer 7: contract of Add. -/
import Derived.Test.YtkfgapljphhmcaaDft5
import Derived.OwnWalk
namespace Go.Proofs.Ytkfgapljphhmcaa
open Go.RowKit Go.Maps
set_option linter.unusedVariables false
set_option maxRecDepth 20000
def partB (i : Ip) : Bool := i.more || decide (0 < i.off)
set_option maxHeartbeats 1000000 in
theorem add_none {w : World} (tb : Nat) (i : Ip) (s : ByteArray) (hp : partB i = false) :
    Calls Try.prog 15 #[.pointer (some ⟨tb, 0, none⟩), .agg (ipV i), .string s] w fun r w' => r = .returned (.tuple #[.string s, .bool true, .int .i64 0]) ∧ Below w.heap.size w w' := by
  have hpt := fun w => isPart_any i w
  unfold partB at hp
  rw [hp] at hpt
  clear hp
  have HB := (show Hid _ from below1 w (.cells (ipV i) 29))
  go_enter Try.func15, Try.ntmps15
  go_wp2_with fail
  refine (hpt _).mono ?_
  rintro r w1 ⟨rfl, hb1⟩
  have HB1 := (show Hid _ from HB.out.trans (hb1.mono HB.out.size))
  clear hpt hb1 HB
  go_wp2
  exact bodyPost_ret (v := .tuple #[.string s, .bool true, .int .i64 0]) (results_tmp3 Try.results15 _ _ _) rfl ⟨rfl, HB1.out⟩
/-- what the two boxes hold -/
theorem two_box {w w1 w2 : World} {A Z : Array Value} {s t : TypeId} (h1 : Below (w.alloc (.cells A s)).heap.size (w.alloc (.cells A s)) w1) (h2 : Below (w1.alloc (.cells Z t)).heap.size (w1.alloc (.cells Z t)) w2) :
    (∀ o, w2.cell? ⟨w.heap.size, o, none⟩ = A[o]?) ∧ w.heap.size < w2.heap.size ∧ (∀ o, w2.cell? ⟨w1.heap.size, o, none⟩ = Z[o]?) ∧ w1.heap.size < w2.heap.size ∧ Below w.heap.size w w2 := by
  have z0 : (w.alloc (.cells A s)).heap.size = w.heap.size + 1 := by simp
  have z1 : (w1.alloc (.cells Z t)).heap.size = w1.heap.size + 1 := by simp
  have s1 := h1.size
  have s2 := h2.size
  refine ⟨fun o => ?_, by omega, fun o => ?_, by omega, ?_⟩
  · rw [h2.cell (by show w.heap.size < _; omega), World.cell?_alloc_old _ _ _ (by show w.heap.size ≠ _; omega), h1.cell (by show w.heap.size < _; omega), World.cell?_alloc_new]
  · rw [h2.cell (by show w1.heap.size < _; omega), World.cell?_alloc_new]
  · exact ((below1 w _).trans (h1.mono (by omega))).trans (((below1 w1 _).mono (by omega)).trans (h2.mono (by omega)))
set_option maxHeartbeats 2000000 in
theorem add_fault {w : World} {F : Nat → Prop} {tb mb : Nat} {most ticks : Int} {blk : Lit → Option Nat} {T : Tbl} (h : TabT w F tb mb most ticks blk T) (i : Ip) (hk : keyOf Try.prog 54 (.agg (nmV i)) = some (nmL i)) (s : ByteArray) (hs : s.size ≤ 1000000000) (hio : i.off ≤ 9223372036854775807)
    (hp : partB i = true) (c : Int) (hc : faultC most (T.S (nmL i)).isSome T.n i s.size = c) (hc0 : c = 3 ∨ c = 10) :
    Calls Try.prog 15 #[.pointer (some ⟨tb, 0, none⟩), .agg (ipV i), .string s] w fun r w' => r = .returned (.tuple #[.string ⟨#[]⟩, .bool false, .int .i64 c]) ∧ Below w.heap.size w w' := by
  have hpt := fun w => isPart_any i w
  unfold partB at hp
  rw [hp] at hpt
  clear hp
  rw [h.same] at hc
  have hfo := fun (w' : World) (hb : Below w.heap.size w w') => faultOf_any (h.below hb) i hk s hs hio
  rw [hc] at hfo
  clear h hk hs hio hc
  go_enter Try.func15, Try.ntmps15
  go_wp2_with fail
  refine (hpt _).mono ?_
  rintro r w1 ⟨rfl, hb1⟩
  clear hpt
  obtain ⟨q1, _, z1⟩ := new_in (by simpa using hb1)
  have HB1 := (show Hid _ from hb1)
  have HA := (show Hid _ from hfo)
  clear hb1 hfo
  go_wp2_with fail
  have hb2 := (((below1 w (.cells (ipV i) 29)).trans (HB1.out.mono (by simp))).trans ((below1 w1 (.cells (nmV i) 54)).mono (Nat.le_of_lt z1)))
  refine (HA.out _ hb2).mono ?_
  rintro r w2 ⟨rfl, hb3⟩
  have HB2 := (show Hid _ from hb2.trans (hb3.mono hb2.size))
  clear hb2 hb3 HA
  rcases hc0 with rfl | rfl
  · go_wp2
    exact bodyPost_ret (v := .tuple #[.string ⟨#[]⟩, .bool false, .int .i64 3]) (results_tmp3 Try.results15 _ _ _) rfl ⟨rfl, HB2.out⟩
  · go_wp2
    exact bodyPost_ret (v := .tuple #[.string ⟨#[]⟩, .bool false, .int .i64 10]) (results_tmp3 Try.results15 _ _ _) rfl ⟨rfl, HB2.out⟩
/-- the map without a name, in whatever world -/
theorem Tab.drop {w : World} {F : Nat → Prop} {tb mb : Nat} {most ticks : Int} {blk : Lit → Option Nat} {T : Tbl} (h : TabT w F tb mb most ticks blk T) (kl : Lit) : ∃ D, w.ownsMap Try.prog 54 ptrR mb T.n D ∧
    ∀ w', w'.ownsMap Try.prog 54 ptrR mb T.n (D.del kl) → w.mapTurned w' mb → TabT w' F tb mb most ticks (upd blk kl none) (T.del kl) ∧ Kept F w F w' := by
  obtain ⟨D, ho, hz, hr⟩ := h.map
  exact ⟨D, ho, fun w' ho' ht => ⟨h.del kl ho hz hr ho' ht.grown, Kept.of_grown ht.grown h.fm⟩⟩
/-- a table in a later world -/
def TabK (F : Nat → Prop) (w : World) (tb mb : Nat) (most ticks : Int) (T : Tbl) (w' : World) : Prop := ∃ F' blk', Kept F w F' w' ∧ TabT w' F' tb mb most ticks blk' T
set_option maxHeartbeats 2000000 in
theorem add_big {w : World} {F : Nat → Prop} {tb mb : Nat} {most ticks : Int} {blk : Lit → Option Nat} {T : Tbl} (h : TabT w F tb mb most ticks blk T) (i : Ip) (hk : keyOf Try.prog 54 (.agg (nmV i)) = some (nmL i)) (s : ByteArray) (hs : s.size ≤ 1000000000) (hio : i.off ≤ 9223372036854775807)
    (hp : partB i = true) (hc : faultC most (T.S (nmL i)).isSome T.n i s.size = 5) :
    Calls Try.prog 15 #[.pointer (some ⟨tb, 0, none⟩), .agg (ipV i), .string s] w fun r w' => r = .returned (.tuple #[.string ⟨#[]⟩, .bool false, .int .i64 5]) ∧ TabK F w tb mb most ticks (T.del (nmL i)) w' := by
  have hpt := fun w => isPart_any i w
  unfold partB at hp
  rw [hp] at hpt
  clear hp
  rw [h.same] at hc
  have hfo := fun (w' : World) (hb : Below w.heap.size w w') => faultOf_any (h.below hb) i hk s hs hio
  rw [hc] at hfo
  have H := (show Hid _ from h)
  have HK := (show Hid _ from hk)
  clear h hk hs hio hc
  go_enter Try.func15, Try.ntmps15
  go_wp2_with fail
  refine (hpt _).mono ?_
  rintro r w1 ⟨rfl, hb1⟩
  clear hpt
  obtain ⟨q1, _, z1⟩ := new_in (by simpa using hb1)
  have HB1 := (show Hid _ from hb1)
  have HA := (show Hid _ from hfo)
  clear hb1 hfo
  go_wp2_with fail
  have hb2 := (((below1 w (.cells (ipV i) 29)).trans (HB1.out.mono (by simp))).trans ((below1 w1 (.cells (nmV i) 54)).mono (Nat.le_of_lt z1)))
  refine (HA.out _ hb2).mono ?_
  rintro r w2 ⟨rfl, hb3⟩
  have HB2 := (show Hid _ from hb2.trans (hb3.mono hb2.size))
  obtain ⟨_, _, q2, z2, _⟩ := two_box HB1.out hb3
  have h2 := H.out.below HB2.out
  have c2 := h2.c2
  have hlt := h2.lt tb h2.ft
  have hcl := Cls.cell (w := w2)
  have H2 := (show Hid _ from h2)
  clear hb2 hb3 HA h2 H HB1 q1
  go_upto_region 7 with fail
  refine wp_region_calm_tail 5 (by kernel_rfl) (by kernel_rfl) (fun hne => ?_)
  simp only [List.take_succ_cons, List.take_zero, List.drop_succ_cons, List.drop_zero]
  repeat (go_big_quiet_step (fail))
  refine wpQuiet_nil ?_
  rintro _ ⟨x, rfl⟩
  have H3 := (show Hid _ from H2.out.below x.bel)
  have HB3 := (show Hid _ from HB2.out.trans (x.bel.mono HB2.out.size))
  generalize x.val = w3 at *
  clear hne hcl H2 HB2 q2
  obtain ⟨D, ho, hdo⟩ := H3.out.drop (nmL i)
  have HD := (show Hid _ from hdo)
  clear hdo
  go_wp2_with (first | (at_delete; refine wpList_delete_own _ rfl _ _ 50 54 rfl 55 nmLaw Try.underlying50 _ mb T.n D rfl ho _ _ rfl HK.out ?_; intro w5 ho5 hg5) | go_in)
  obtain ⟨t5, k5⟩ := HD.out w5 ho5 hg5
  exact bodyPost_ret (v := .tuple #[.string ⟨#[]⟩, .bool false, .int .i64 5]) (results_tmp3 Try.results15 _ _ _) rfl ⟨rfl, F, _, (Kept.of_below F HB3.out).trans k5, t5⟩
end Go.Proofs.Ytkfgapljphhmcaa
