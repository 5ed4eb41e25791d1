/- DgramEdges: for any two numbers and a body, the head with each field at its last place is put; with two bytes of 0 for a sum it is got; with a field beyond its last place it is refused with the document's error; a body of more bytes is too big; for longer bodies the document's example holds; no condition. -/
import Derived.Test.YtecmaiodjcfekaaDgs5
import Derived.Test.YtecmaiodjcfekaaLift
namespace Go.Proofs.Ytecmaiodjcfekaa.dgramEdges
open Go.ChangeShapes Go.WideShapes Go.ChangeAt Go.RowKit
open Go.ChangeMaps (open_string shut_string)
set_option linter.unusedVariables false

/-- n bytes of 0, made and read as a text: letters for both -/
theorem made (n : Nat) (z : Int) (hz : z = (n : Int)) (hn : n ≤ 1000000) : ∃ (Z : ByteArray) (M : Array Value), Z.size = n ∧
    (∀ u : World, (Instr.makeSlice 36 (.int .i64 z) (.int .i64 z)).run Try.prog u = .ok (.slice (some ⟨u.heap.size, 0, none⟩) n n) (u.alloc (.cells M 5))) ∧
    (∀ u : World, (convert 36 9 (.slice (some ⟨u.heap.size, 0, none⟩) n n)).run Try.prog (u.alloc (.cells M 5)) = .ok (.string Z) (u.alloc (.cells M 5))) :=
  ⟨zs n, madeCells #[.int .u8 0] n, zs_size n, fun u => make_z n z hz hn u, fun u => conv_zs u n⟩
theorem own_one (w : World) (A : Array Value) (t : TypeId) : Own w (w.alloc (.cells A t)) w.heap.size A := ⟨fun o => World.cell?_alloc_new _ _ _ _, fun o => by simp, by simp, Nat.le_refl _, below1 _ _⟩
def hd (a b k c : Int) : Dg := ⟨a, b, k, c, 4294967295⟩
theorem u32max : ((4294967295 : UInt32).toNat : Int) = 4294967295 := by simp
theorem one : ((1 : UInt32).toNat : Int) = 1 := by simp
theorem two : ((2 : UInt32).toNat : Int) = 2 := by simp
theorem hd_v (a b k c : Int) : dgV (hd a b k c) = #[.int .i64 a, .int .i64 b, .int .i64 k, .int .i64 c, .int .u32 4294967295] := by
  unfold dgV hd
  simp only [u32max]
theorem hd_u (a b k c : Int) : (hd a b k c).MayU ↔ (0 ≤ a ∧ a ≤ 65535) ∧ (0 ≤ b ∧ b ≤ 65535) := Iff.rfl
theorem hd_i (a b k c : Int) : (hd a b k c).MayI ↔ (0 ≤ k ∧ k ≤ 255) ∧ (0 ≤ c ∧ c ≤ 255) := Iff.rfl
theorem eU : (hd 65535 65535 255 255).MayU := by rw [hd_u]; omega
theorem eI : (hd 65535 65535 255 255).MayI := by rw [hd_i]; omega
theorem zero_v : dgV dgN = #[.int .i64 0, .int .i64 0, .int .i64 0, .int .i64 0, .int .u32 0] := rfl
theorem bads (a b k c : Int) (body : ByteArray) (hu : ¬ (hd a b k c).MayU) (hi : ¬ (hd a b k c).MayI) :
    (∀ w : World, Calls Try.prog 8 #[.int .u32 1, .int .u32 2, .agg #[.int .i64 a, .int .i64 b, .int .i64 k, .int .i64 c, .int .u32 4294967295], .string body] w fun e w' => e = .returned (.tuple #[.string ⟨#[]⟩, .int .i64 1]) ∧ Below w.heap.size w w') ∧
    (∀ w : World, Calls Try.prog 10 #[.agg #[.int .i64 a, .int .i64 b, .int .i64 k, .int .i64 c, .int .u32 4294967295], .string body] w fun e w' => e = .returned (.tuple #[.string ⟨#[]⟩, .int .i64 1]) ∧ Below w.heap.size w w') := by
  have x := fun w => putUDP_of (hd a b k c) 1 2 body _ _ w (fun w => udPut_arg (hd a b k c) 1 2 body w hu)
  have y := fun w => putICMP_of (hd a b k c) body _ _ w (fun w => icPut_arg (hd a b k c) body w hi)
  rw [hd_v, one, two] at x
  rw [hd_v] at y
  exact ⟨x, y⟩
theorem case0 (k : Int) (body : ByteArray) (h : 1 ≤ k ∧ k ≤ 100) : ∃ x y, wrap64 (65535 + k) = x ∧ wrap64 (255 + k) = y ∧ (∀ w : World, Calls Try.prog 8 #[.int .u32 1, .int .u32 2, .agg #[.int .i64 x, .int .i64 65535, .int .i64 y, .int .i64 255, .int .u32 4294967295], .string body] w fun e w' => e = .returned (.tuple #[.string ⟨#[]⟩, .int .i64 1]) ∧ Below w.heap.size w w') ∧ (∀ w : World, Calls Try.prog 10 #[.agg #[.int .i64 x, .int .i64 65535, .int .i64 y, .int .i64 255, .int .u32 4294967295], .string body] w fun e w' => e = .returned (.tuple #[.string ⟨#[]⟩, .int .i64 1]) ∧ Below w.heap.size w w') :=
  ⟨65535 + k, 255 + k, by unfold wrap64; omega, by unfold wrap64; omega, bads _ _ _ _ _ (by rw [hd_u]; omega) (by rw [hd_i]; omega)⟩
theorem case1 (k : Int) (body : ByteArray) (h : 1 ≤ k ∧ k ≤ 100) : ∃ x, wrap64 (-k) = x ∧ (∀ w : World, Calls Try.prog 8 #[.int .u32 1, .int .u32 2, .agg #[.int .i64 65535, .int .i64 x, .int .i64 255, .int .i64 x, .int .u32 4294967295], .string body] w fun e w' => e = .returned (.tuple #[.string ⟨#[]⟩, .int .i64 1]) ∧ Below w.heap.size w w') ∧ (∀ w : World, Calls Try.prog 10 #[.agg #[.int .i64 65535, .int .i64 x, .int .i64 255, .int .i64 x, .int .u32 4294967295], .string body] w fun e w' => e = .returned (.tuple #[.string ⟨#[]⟩, .int .i64 1]) ∧ Below w.heap.size w w') :=
  ⟨-k, by unfold wrap64; omega, bads _ _ _ _ _ (by rw [hd_u]; omega) (by rw [hd_i]; omega)⟩
theorem case2 (k : Int) (body : ByteArray) (h : 1 ≤ k ∧ k ≤ 100) : ∃ x y, wrap64 (-k) = x ∧ wrap64 (255 + k) = y ∧ (∀ w : World, Calls Try.prog 8 #[.int .u32 1, .int .u32 2, .agg #[.int .i64 x, .int .i64 65535, .int .i64 255, .int .i64 y, .int .u32 4294967295], .string body] w fun e w' => e = .returned (.tuple #[.string ⟨#[]⟩, .int .i64 1]) ∧ Below w.heap.size w w') ∧ (∀ w : World, Calls Try.prog 10 #[.agg #[.int .i64 x, .int .i64 65535, .int .i64 255, .int .i64 y, .int .u32 4294967295], .string body] w fun e w' => e = .returned (.tuple #[.string ⟨#[]⟩, .int .i64 1]) ∧ Below w.heap.size w w') :=
  ⟨-k, 255 + k, by unfold wrap64; omega, by unfold wrap64; omega, bads _ _ _ _ _ (by rw [hd_u]; omega) (by rw [hd_i]; omega)⟩
theorem case3 (k : Int) (body : ByteArray) (h : 1 ≤ k ∧ k ≤ 100) : ∃ x y, wrap64 (65535 + k) = x ∧ wrap64 (-k) = y ∧ (∀ w : World, Calls Try.prog 8 #[.int .u32 1, .int .u32 2, .agg #[.int .i64 65535, .int .i64 x, .int .i64 y, .int .i64 255, .int .u32 4294967295], .string body] w fun e w' => e = .returned (.tuple #[.string ⟨#[]⟩, .int .i64 1]) ∧ Below w.heap.size w w') ∧ (∀ w : World, Calls Try.prog 10 #[.agg #[.int .i64 65535, .int .i64 x, .int .i64 y, .int .i64 255, .int .u32 4294967295], .string body] w fun e w' => e = .returned (.tuple #[.string ⟨#[]⟩, .int .i64 1]) ∧ Below w.heap.size w w') :=
  ⟨65535 + k, -k, by unfold wrap64; omega, by unfold wrap64; omega, bads _ _ _ _ _ (by rw [hd_u]; omega) (by rw [hd_i]; omega)⟩
theorem place_k (v : Int) : ∃ (K k m : Int) (n : Nat), (∀ w : World, Calls Try.prog 17 #[.int .i64 v, .int .i64 100] w fun e w' => e = .returned (.int .i64 K) ∧ w = w') ∧ k = (n : Int) ∧ 1 ≤ n ∧ n ≤ 100 ∧ wrap64 (1 + K) = k ∧ wrap64 (1992 + k) = m ∧ m = ((1992 + n : Nat) : Int) := by
  have h0 := Int.emod_nonneg v (show (100 : Int) ≠ 0 from by decide)
  have h1 := Int.emod_lt_of_pos v (show (0 : Int) < 100 from by decide)
  refine ⟨v % 100, 1 + v % 100, 1992 + (1 + v % 100), (1 + v % 100).toNat, fun w => place_any v 100 w (by decide) (by decide), by omega, by omega, by omega, by unfold wrap64; omega, by unfold wrap64; omega, by omega⟩
theorem place_four (v : Int) : ∃ r : Int, (∀ w : World, Calls Try.prog 17 #[.int .i64 v, .int .i64 4] w fun e w' => e = .returned (.int .i64 r) ∧ w = w') ∧ (r = 0 ∨ r = 1 ∨ r = 2 ∨ r = 3) := by
  have h0 := Int.emod_nonneg v (show (4 : Int) ≠ 0 from by decide)
  have h1 := Int.emod_lt_of_pos v (show (0 : Int) < 4 from by decide)
  exact ⟨v % 4, fun w => place_any v 4 w (by decide) (by decide), by omega⟩
theorem bigs (Y : ByteArray) (n : Nat) (hy : Y.size = 1992 + n) (h1 : 1 ≤ n) (h2 : n ≤ 100) : (∀ w : World, Calls Try.prog 8 #[.int .u32 1, .int .u32 2, .agg #[.int .i64 0, .int .i64 0, .int .i64 0, .int .i64 0, .int .u32 0], .string Y] w fun e w' => e = .returned (.tuple #[.string ⟨#[]⟩, .int .i64 5]) ∧ Below w.heap.size w w') ∧ (∀ w : World, Calls Try.prog 10 #[.agg #[.int .i64 0, .int .i64 0, .int .i64 0, .int .i64 0, .int .u32 0], .string Y] w fun e w' => e = .returned (.tuple #[.string ⟨#[]⟩, .int .i64 5]) ∧ Below w.heap.size w w') := by
  have x := fun w => putUDP_of dgN 1 2 Y _ _ w (fun w => udPut_big dgN 1 2 Y w ⟨⟨by decide, by decide⟩, ⟨by decide, by decide⟩⟩ (by omega) (by omega))
  have y := fun w => putICMP_of dgN Y _ _ w (fun w => icPut_big dgN Y w ⟨⟨by decide, by decide⟩, ⟨by decide, by decide⟩⟩ (by omega) (by omega))
  rw [one, two] at x
  exact ⟨x, y⟩
theorem puts (body : ByteArray) (hb : body.size ≤ 500) : ∃ p q : ByteArray, (∀ w : World, Calls Try.prog 8 #[.int .u32 1, .int .u32 2, .agg #[.int .i64 65535, .int .i64 65535, .int .i64 255, .int .i64 255, .int .u32 4294967295], .string body] w fun e w' => e = .returned (.tuple #[.string p, .int .i64 0]) ∧ Below w.heap.size w w') ∧ (∀ w : World, Calls Try.prog 10 #[.agg #[.int .i64 65535, .int .i64 65535, .int .i64 255, .int .i64 255, .int .u32 4294967295], .string body] w fun e w' => e = .returned (.tuple #[.string q, .int .i64 0]) ∧ Below w.heap.size w w') ∧ ((p.size : Int) != (q.size : Int)) = false ∧ (8 : Int) ≤ (p.size : Int) ∧ (p.size : Int) ≤ 508 ∧
    (∀ w : World, Calls Try.prog 12 #[.int .u32 1, .int .u32 2, .string ⟨((p.data.toList.set 6 0).set 7 0).toArray⟩] w fun e w' => e = .returned (.tuple #[.agg #[.int .i64 65535, .int .i64 65535, .int .i64 0, .int .i64 0, .int .u32 0], .string body, .int .i64 0]) ∧ Below w.heap.size w w') := by
  have x := fun w => putUDP_of (hd 65535 65535 255 255) 1 2 body _ _ w (fun w => udPut_ok (hd 65535 65535 255 255) 1 2 body w eU (by omega))
  have y := fun w => putICMP_of (hd 65535 65535 255 255) body _ _ w (fun w => icPut_ok (hd 65535 65535 255 255) body w eI (by omega))
  rw [hd_v, one, two] at x
  rw [hd_v] at y
  have s1 := udPut_size (hd 65535 65535 255 255) 1 2 body
  have s2 := icPut_size (hd 65535 65535 255 255) body
  obtain ⟨u1, u2, u3⟩ := udPut_unsummed (hd 65535 65535 255 255) 1 2 body eU (by omega)
  refine ⟨_, _, x, y, by rw [s1, s2]; simp, by omega, by omega, fun w => ?_⟩
  generalize (hd 65535 65535 255 255).putU 1 2 body = p at *
  have hl : (⟨((p.data.toList.set 6 0).set 7 0).toArray⟩ : ByteArray).size = 8 + body.size := by rw [← toList_length, ofL, List.length_set, List.length_set, toList_length, s1]
  have g := udGet_any ⟨((p.data.toList.set 6 0).set 7 0).toArray⟩ 1 2 w (by omega)
  have eb : (⟨((p.data.toList.set 6 0).set 7 0).toArray⟩ : ByteArray).extract 8 (⟨((p.data.toList.set 6 0).set 7 0).toArray⟩ : ByteArray).size = body := by
    apply ByteArray.ext
    apply Array.ext'
    rw [ext_list, hl, ofL, u3]
  rw [ofL] at g
  rw [u1, u2, if_pos rfl, if_pos rfl, eb, one, two] at g
  exact g
set_option maxRecDepth 100000 in
set_option maxHeartbeats 400000 in
theorem walk_long (how v : Int) (body : ByteArray) (w : World) (w2 : body.size ≤ 9223372036854775807) (hl : 500 < body.size) :
    Calls Try.prog 5 #[.int .i64 how, .int .i64 v, .string body] w fun e w' => e = .returned (.bool true) ∧ Below w.heap.size w w' := by
  go_enter Try.func5, Try.ntmps5
  go_wp2_with fail
  refine (dgAwake_any _).mono ?_
  rintro e w1 ⟨rfl, hb1⟩
  go_wp2_with fail
  go_ret
  exact ⟨rfl, hb1⟩
set_option maxRecDepth 100000 in
set_option maxHeartbeats 2000000 in
theorem walk_0 (how v : Int) (body : ByteArray) (w : World) (h2 : body.size ≤ 500) (c4 : ∀ w : World, Calls Try.prog 17 #[.int .i64 how, .int .i64 4] w fun e w' => e = .returned (.int .i64 0) ∧ w = w') :
    Calls Try.prog 5 #[.int .i64 how, .int .i64 v, .string body] w fun e w' => e = .returned (.bool true) ∧ Below w.heap.size w w' := by
  obtain ⟨K, k, m, n, cK, hkn, hn1, hn2, hwk, hwm, hmn⟩ := place_k v
  obtain ⟨Y, M, hY, mk, cv⟩ := made (1992 + n) m hmn (by omega)
  obtain ⟨b5, i5⟩ := bigs Y n hY hn1 hn2
  obtain ⟨p, q, cp, ci, hne, hp8, hp508, cg⟩ := puts body h2
  obtain ⟨x, y, hx, hy, xu, xi⟩ := case0 k body (by omega)
  clear hkn hn1 hn2 hY hmn
  go_enter Try.func5, Try.ntmps5
  go_wp2_with fail
  refine (cK _).mono ?_
  rintro e w' ⟨rfl, rfl⟩
  have O1 := (show Hid _ from own_one w #[.int .i64 65535, .int .i64 65535, .int .i64 255, .int .i64 255, .int .u32 4294967295] 24)
  go_wp2_with fail
  rw [hwk]
  refine (cp _).mono ?_
  rintro e w1 ⟨rfl, hb1⟩
  have O2 := (show Hid _ from O1.out.below hb1)
  have q2 := O2.out.q
  have z2 := O2.out.z
  clear hb1 O1 cp cK hwk
  go_wp2_with fail
  refine (ci _).mono ?_
  rintro e w2 ⟨rfl, hb2⟩
  have O3 := (show Hid _ from O2.out.below hb2)
  clear hb2 O2 q2 z2 ci
  obtain ⟨W4, cap, hconv, R, hb4, hz4⟩ := conv_row w2 p
  have O4 := (show Hid _ from O3.out.below hb4)
  have l6 : 6 < p.data.toList.length := by rw [toList_length]; omega
  have l7 : 7 < p.data.toList.length := by rw [toList_length]; omega
  obtain ⟨ck6, fk6⟩ := R.at l6
  obtain ⟨ck7, fk7⟩ := R.at l7
  have RF := (R.set 6 0).set 7 0
  have SF := RF.string (n := p.size) (c := cap) (by rw [List.length_set, List.length_set, toList_length])
  have e0 : bv 0 = .int .u8 0 := rfl
  have hlt : w.heap.size < w2.heap.size := O3.out.z
  have hB : w.heap.size ≠ w2.heap.size := by omega
  have OF : Own w ((W4.setCell ⟨w2.heap.size, 6, none⟩ (bv 0)).setCell ⟨w2.heap.size, 7, none⟩ (bv 0)) w.heap.size #[.int .i64 65535, .int .i64 65535, .int .i64 255, .int .i64 255, .int .u32 4294967295] :=
    ⟨fun o => by rw [World.cell?_setCell_other _ _ _ _ (by simp <;> omega), World.cell?_setCell_other _ _ _ _ (by simp <;> omega)]; exact O4.out.q o, fun o => by simpa using O4.out.f o, by simpa using O4.out.z, Nat.le_refl _, (O4.out.hb.setCell (p := ⟨w2.heap.size, 6, none⟩) (Nat.le_of_lt hlt) (bv 0)).setCell (p := ⟨w2.heap.size, 7, none⟩) (Nat.le_of_lt hlt) (bv 0)⟩
  rw [e0] at SF OF
  have HOF := (show Hid _ from OF)
  have i6 : (6 : Int) < (p.size : Int) := by omega
  have i7 : (7 : Int) < (p.size : Int) := by omega
  clear R RF O3 O4 l6 l7 hb4 hz4 OF e0 hlt hB
  generalize (p.data.toList.set 6 0).set 7 0 = tl at *
  generalize p.data.toList.getD 6 0 = g6 at *
  generalize p.data.toList.getD 7 0 = g7 at *
  go_wp2_with fail
  refine (cg _).mono ?_
  rintro e w5 ⟨rfl, hb5⟩
  have O5' := (show Hid _ from HOF.out.below hb5)
  have q4 := O5'.out.q
  have z4 := O5'.out.z
  clear hb5 HOF SF ck6 ck7 fk6 fk7 hconv cg i6 i7
  go_wp2_with fail
  refine (c4 _).mono ?_
  rintro e w' ⟨rfl, rfl⟩
  have O5 := (show Hid _ from O5'.out.alloc (.cells #[.int .i64 65535, .int .i64 65535, .int .i64 0, .int .i64 0, .int .u32 0] 24))
  clear q4 z4 O5'
  have q5 := O5.out.q
  have f5 := O5.out.f
  generalize w5.alloc _ = W5 at *
  have O6 := (show Hid _ from (O5.out.set 0 (.int .i64 x) (by decide)).set 2 (.int .i64 y) (by simp))
  clear hne hp8 hp508 c4 O5
  go_wp2_with fail
  refine (xu _).mono ?_
  rintro e w7 ⟨rfl, hb7⟩
  have O7 := (show Hid _ from O6.out.below hb7)
  have q7 := O7.out.q
  have z7 := O7.out.z
  clear hb7 O6 q5 f5 xu
  go_wp2_with fail
  refine (xi _).mono ?_
  rintro e w8 ⟨rfl, hb8⟩
  have B8 := (show Hid _ from (O7.out.below hb8).hb)
  clear hb8 O7 q7 z7 xi
  go_wp2_with fail
  refine (b5 _).mono ?_
  rintro e w9 ⟨rfl, hb9⟩
  have B9 := (show Hid _ from below_after (below_after B8.out (below1 w8 (.cells M 5))) hb9)
  clear hb9 B8 b5
  go_wp2_with fail
  refine (i5 _).mono ?_
  rintro e w10 ⟨rfl, hb10⟩
  have B10 := (show Hid _ from below_after (below_after B9.out (below1 w9 (.cells M 5))) hb10)
  clear hb10 B9 i5
  go_wp2_with fail
  refine (dgAwake_any _).mono ?_
  rintro e w11 ⟨rfl, hb11⟩
  have B11 := (show Hid _ from below_after B10.out hb11)
  clear hb11 B10
  go_wp2_with fail
  go_ret
  exact ⟨rfl, B11.out⟩
set_option maxRecDepth 100000 in
set_option maxHeartbeats 2000000 in
theorem walk_1 (how v : Int) (body : ByteArray) (w : World) (h2 : body.size ≤ 500) (c4 : ∀ w : World, Calls Try.prog 17 #[.int .i64 how, .int .i64 4] w fun e w' => e = .returned (.int .i64 1) ∧ w = w') :
    Calls Try.prog 5 #[.int .i64 how, .int .i64 v, .string body] w fun e w' => e = .returned (.bool true) ∧ Below w.heap.size w w' := by
  obtain ⟨K, k, m, n, cK, hkn, hn1, hn2, hwk, hwm, hmn⟩ := place_k v
  obtain ⟨Y, M, hY, mk, cv⟩ := made (1992 + n) m hmn (by omega)
  obtain ⟨b5, i5⟩ := bigs Y n hY hn1 hn2
  obtain ⟨p, q, cp, ci, hne, hp8, hp508, cg⟩ := puts body h2
  obtain ⟨x, hx, xu, xi⟩ := case1 k body (by omega)
  clear hkn hn1 hn2 hY hmn
  go_enter Try.func5, Try.ntmps5
  go_wp2_with fail
  refine (cK _).mono ?_
  rintro e w' ⟨rfl, rfl⟩
  have O1 := (show Hid _ from own_one w #[.int .i64 65535, .int .i64 65535, .int .i64 255, .int .i64 255, .int .u32 4294967295] 24)
  go_wp2_with fail
  rw [hwk]
  refine (cp _).mono ?_
  rintro e w1 ⟨rfl, hb1⟩
  have O2 := (show Hid _ from O1.out.below hb1)
  have q2 := O2.out.q
  have z2 := O2.out.z
  clear hb1 O1 cp cK hwk
  go_wp2_with fail
  refine (ci _).mono ?_
  rintro e w2 ⟨rfl, hb2⟩
  have O3 := (show Hid _ from O2.out.below hb2)
  clear hb2 O2 q2 z2 ci
  obtain ⟨W4, cap, hconv, R, hb4, hz4⟩ := conv_row w2 p
  have O4 := (show Hid _ from O3.out.below hb4)
  have l6 : 6 < p.data.toList.length := by rw [toList_length]; omega
  have l7 : 7 < p.data.toList.length := by rw [toList_length]; omega
  obtain ⟨ck6, fk6⟩ := R.at l6
  obtain ⟨ck7, fk7⟩ := R.at l7
  have RF := (R.set 6 0).set 7 0
  have SF := RF.string (n := p.size) (c := cap) (by rw [List.length_set, List.length_set, toList_length])
  have e0 : bv 0 = .int .u8 0 := rfl
  have hlt : w.heap.size < w2.heap.size := O3.out.z
  have hB : w.heap.size ≠ w2.heap.size := by omega
  have OF : Own w ((W4.setCell ⟨w2.heap.size, 6, none⟩ (bv 0)).setCell ⟨w2.heap.size, 7, none⟩ (bv 0)) w.heap.size #[.int .i64 65535, .int .i64 65535, .int .i64 255, .int .i64 255, .int .u32 4294967295] :=
    ⟨fun o => by rw [World.cell?_setCell_other _ _ _ _ (by simp <;> omega), World.cell?_setCell_other _ _ _ _ (by simp <;> omega)]; exact O4.out.q o, fun o => by simpa using O4.out.f o, by simpa using O4.out.z, Nat.le_refl _, (O4.out.hb.setCell (p := ⟨w2.heap.size, 6, none⟩) (Nat.le_of_lt hlt) (bv 0)).setCell (p := ⟨w2.heap.size, 7, none⟩) (Nat.le_of_lt hlt) (bv 0)⟩
  rw [e0] at SF OF
  have HOF := (show Hid _ from OF)
  have i6 : (6 : Int) < (p.size : Int) := by omega
  have i7 : (7 : Int) < (p.size : Int) := by omega
  clear R RF O3 O4 l6 l7 hb4 hz4 OF e0 hlt hB
  generalize (p.data.toList.set 6 0).set 7 0 = tl at *
  generalize p.data.toList.getD 6 0 = g6 at *
  generalize p.data.toList.getD 7 0 = g7 at *
  go_wp2_with fail
  refine (cg _).mono ?_
  rintro e w5 ⟨rfl, hb5⟩
  have O5' := (show Hid _ from HOF.out.below hb5)
  have q4 := O5'.out.q
  have z4 := O5'.out.z
  clear hb5 HOF SF ck6 ck7 fk6 fk7 hconv cg i6 i7
  go_wp2_with fail
  refine (c4 _).mono ?_
  rintro e w' ⟨rfl, rfl⟩
  have O5 := (show Hid _ from O5'.out.alloc (.cells #[.int .i64 65535, .int .i64 65535, .int .i64 0, .int .i64 0, .int .u32 0] 24))
  clear q4 z4 O5'
  have q5 := O5.out.q
  have f5 := O5.out.f
  generalize w5.alloc _ = W5 at *
  have O6 := (show Hid _ from (O5.out.set 1 (.int .i64 x) (by decide)).set 3 (.int .i64 x) (by simp))
  clear hne hp8 hp508 c4 O5
  go_wp2_with fail
  refine (xu _).mono ?_
  rintro e w7 ⟨rfl, hb7⟩
  have O7 := (show Hid _ from O6.out.below hb7)
  have q7 := O7.out.q
  have z7 := O7.out.z
  clear hb7 O6 q5 f5 xu
  go_wp2_with fail
  refine (xi _).mono ?_
  rintro e w8 ⟨rfl, hb8⟩
  have B8 := (show Hid _ from (O7.out.below hb8).hb)
  clear hb8 O7 q7 z7 xi
  go_wp2_with fail
  refine (b5 _).mono ?_
  rintro e w9 ⟨rfl, hb9⟩
  have B9 := (show Hid _ from below_after (below_after B8.out (below1 w8 (.cells M 5))) hb9)
  clear hb9 B8 b5
  go_wp2_with fail
  refine (i5 _).mono ?_
  rintro e w10 ⟨rfl, hb10⟩
  have B10 := (show Hid _ from below_after (below_after B9.out (below1 w9 (.cells M 5))) hb10)
  clear hb10 B9 i5
  go_wp2_with fail
  refine (dgAwake_any _).mono ?_
  rintro e w11 ⟨rfl, hb11⟩
  have B11 := (show Hid _ from below_after B10.out hb11)
  clear hb11 B10
  go_wp2_with fail
  go_ret
  exact ⟨rfl, B11.out⟩
set_option maxRecDepth 100000 in
set_option maxHeartbeats 2000000 in
theorem walk_2 (how v : Int) (body : ByteArray) (w : World) (h2 : body.size ≤ 500) (c4 : ∀ w : World, Calls Try.prog 17 #[.int .i64 how, .int .i64 4] w fun e w' => e = .returned (.int .i64 2) ∧ w = w') :
    Calls Try.prog 5 #[.int .i64 how, .int .i64 v, .string body] w fun e w' => e = .returned (.bool true) ∧ Below w.heap.size w w' := by
  obtain ⟨K, k, m, n, cK, hkn, hn1, hn2, hwk, hwm, hmn⟩ := place_k v
  obtain ⟨Y, M, hY, mk, cv⟩ := made (1992 + n) m hmn (by omega)
  obtain ⟨b5, i5⟩ := bigs Y n hY hn1 hn2
  obtain ⟨p, q, cp, ci, hne, hp8, hp508, cg⟩ := puts body h2
  obtain ⟨x, y, hx, hy, xu, xi⟩ := case2 k body (by omega)
  clear hkn hn1 hn2 hY hmn
  go_enter Try.func5, Try.ntmps5
  go_wp2_with fail
  refine (cK _).mono ?_
  rintro e w' ⟨rfl, rfl⟩
  have O1 := (show Hid _ from own_one w #[.int .i64 65535, .int .i64 65535, .int .i64 255, .int .i64 255, .int .u32 4294967295] 24)
  go_wp2_with fail
  rw [hwk]
  refine (cp _).mono ?_
  rintro e w1 ⟨rfl, hb1⟩
  have O2 := (show Hid _ from O1.out.below hb1)
  have q2 := O2.out.q
  have z2 := O2.out.z
  clear hb1 O1 cp cK hwk
  go_wp2_with fail
  refine (ci _).mono ?_
  rintro e w2 ⟨rfl, hb2⟩
  have O3 := (show Hid _ from O2.out.below hb2)
  clear hb2 O2 q2 z2 ci
  obtain ⟨W4, cap, hconv, R, hb4, hz4⟩ := conv_row w2 p
  have O4 := (show Hid _ from O3.out.below hb4)
  have l6 : 6 < p.data.toList.length := by rw [toList_length]; omega
  have l7 : 7 < p.data.toList.length := by rw [toList_length]; omega
  obtain ⟨ck6, fk6⟩ := R.at l6
  obtain ⟨ck7, fk7⟩ := R.at l7
  have RF := (R.set 6 0).set 7 0
  have SF := RF.string (n := p.size) (c := cap) (by rw [List.length_set, List.length_set, toList_length])
  have e0 : bv 0 = .int .u8 0 := rfl
  have hlt : w.heap.size < w2.heap.size := O3.out.z
  have hB : w.heap.size ≠ w2.heap.size := by omega
  have OF : Own w ((W4.setCell ⟨w2.heap.size, 6, none⟩ (bv 0)).setCell ⟨w2.heap.size, 7, none⟩ (bv 0)) w.heap.size #[.int .i64 65535, .int .i64 65535, .int .i64 255, .int .i64 255, .int .u32 4294967295] :=
    ⟨fun o => by rw [World.cell?_setCell_other _ _ _ _ (by simp <;> omega), World.cell?_setCell_other _ _ _ _ (by simp <;> omega)]; exact O4.out.q o, fun o => by simpa using O4.out.f o, by simpa using O4.out.z, Nat.le_refl _, (O4.out.hb.setCell (p := ⟨w2.heap.size, 6, none⟩) (Nat.le_of_lt hlt) (bv 0)).setCell (p := ⟨w2.heap.size, 7, none⟩) (Nat.le_of_lt hlt) (bv 0)⟩
  rw [e0] at SF OF
  have HOF := (show Hid _ from OF)
  have i6 : (6 : Int) < (p.size : Int) := by omega
  have i7 : (7 : Int) < (p.size : Int) := by omega
  clear R RF O3 O4 l6 l7 hb4 hz4 OF e0 hlt hB
  generalize (p.data.toList.set 6 0).set 7 0 = tl at *
  generalize p.data.toList.getD 6 0 = g6 at *
  generalize p.data.toList.getD 7 0 = g7 at *
  go_wp2_with fail
  refine (cg _).mono ?_
  rintro e w5 ⟨rfl, hb5⟩
  have O5' := (show Hid _ from HOF.out.below hb5)
  have q4 := O5'.out.q
  have z4 := O5'.out.z
  clear hb5 HOF SF ck6 ck7 fk6 fk7 hconv cg i6 i7
  go_wp2_with fail
  refine (c4 _).mono ?_
  rintro e w' ⟨rfl, rfl⟩
  have O5 := (show Hid _ from O5'.out.alloc (.cells #[.int .i64 65535, .int .i64 65535, .int .i64 0, .int .i64 0, .int .u32 0] 24))
  clear q4 z4 O5'
  have q5 := O5.out.q
  have f5 := O5.out.f
  generalize w5.alloc _ = W5 at *
  have O6 := (show Hid _ from (O5.out.set 0 (.int .i64 x) (by decide)).set 3 (.int .i64 y) (by simp))
  clear hne hp8 hp508 c4 O5
  go_wp2_with fail
  refine (xu _).mono ?_
  rintro e w7 ⟨rfl, hb7⟩
  have O7 := (show Hid _ from O6.out.below hb7)
  have q7 := O7.out.q
  have z7 := O7.out.z
  clear hb7 O6 q5 f5 xu
  go_wp2_with fail
  refine (xi _).mono ?_
  rintro e w8 ⟨rfl, hb8⟩
  have B8 := (show Hid _ from (O7.out.below hb8).hb)
  clear hb8 O7 q7 z7 xi
  go_wp2_with fail
  refine (b5 _).mono ?_
  rintro e w9 ⟨rfl, hb9⟩
  have B9 := (show Hid _ from below_after (below_after B8.out (below1 w8 (.cells M 5))) hb9)
  clear hb9 B8 b5
  go_wp2_with fail
  refine (i5 _).mono ?_
  rintro e w10 ⟨rfl, hb10⟩
  have B10 := (show Hid _ from below_after (below_after B9.out (below1 w9 (.cells M 5))) hb10)
  clear hb10 B9 i5
  go_wp2_with fail
  refine (dgAwake_any _).mono ?_
  rintro e w11 ⟨rfl, hb11⟩
  have B11 := (show Hid _ from below_after B10.out hb11)
  clear hb11 B10
  go_wp2_with fail
  go_ret
  exact ⟨rfl, B11.out⟩
set_option maxRecDepth 100000 in
set_option maxHeartbeats 2000000 in
theorem walk_3 (how v : Int) (body : ByteArray) (w : World) (h2 : body.size ≤ 500) (c4 : ∀ w : World, Calls Try.prog 17 #[.int .i64 how, .int .i64 4] w fun e w' => e = .returned (.int .i64 3) ∧ w = w') :
    Calls Try.prog 5 #[.int .i64 how, .int .i64 v, .string body] w fun e w' => e = .returned (.bool true) ∧ Below w.heap.size w w' := by
  obtain ⟨K, k, m, n, cK, hkn, hn1, hn2, hwk, hwm, hmn⟩ := place_k v
  obtain ⟨Y, M, hY, mk, cv⟩ := made (1992 + n) m hmn (by omega)
  obtain ⟨b5, i5⟩ := bigs Y n hY hn1 hn2
  obtain ⟨p, q, cp, ci, hne, hp8, hp508, cg⟩ := puts body h2
  obtain ⟨x, y, hx, hy, xu, xi⟩ := case3 k body (by omega)
  clear hkn hn1 hn2 hY hmn
  go_enter Try.func5, Try.ntmps5
  go_wp2_with fail
  refine (cK _).mono ?_
  rintro e w' ⟨rfl, rfl⟩
  have O1 := (show Hid _ from own_one w #[.int .i64 65535, .int .i64 65535, .int .i64 255, .int .i64 255, .int .u32 4294967295] 24)
  go_wp2_with fail
  rw [hwk]
  refine (cp _).mono ?_
  rintro e w1 ⟨rfl, hb1⟩
  have O2 := (show Hid _ from O1.out.below hb1)
  have q2 := O2.out.q
  have z2 := O2.out.z
  clear hb1 O1 cp cK hwk
  go_wp2_with fail
  refine (ci _).mono ?_
  rintro e w2 ⟨rfl, hb2⟩
  have O3 := (show Hid _ from O2.out.below hb2)
  clear hb2 O2 q2 z2 ci
  obtain ⟨W4, cap, hconv, R, hb4, hz4⟩ := conv_row w2 p
  have O4 := (show Hid _ from O3.out.below hb4)
  have l6 : 6 < p.data.toList.length := by rw [toList_length]; omega
  have l7 : 7 < p.data.toList.length := by rw [toList_length]; omega
  obtain ⟨ck6, fk6⟩ := R.at l6
  obtain ⟨ck7, fk7⟩ := R.at l7
  have RF := (R.set 6 0).set 7 0
  have SF := RF.string (n := p.size) (c := cap) (by rw [List.length_set, List.length_set, toList_length])
  have e0 : bv 0 = .int .u8 0 := rfl
  have hlt : w.heap.size < w2.heap.size := O3.out.z
  have hB : w.heap.size ≠ w2.heap.size := by omega
  have OF : Own w ((W4.setCell ⟨w2.heap.size, 6, none⟩ (bv 0)).setCell ⟨w2.heap.size, 7, none⟩ (bv 0)) w.heap.size #[.int .i64 65535, .int .i64 65535, .int .i64 255, .int .i64 255, .int .u32 4294967295] :=
    ⟨fun o => by rw [World.cell?_setCell_other _ _ _ _ (by simp <;> omega), World.cell?_setCell_other _ _ _ _ (by simp <;> omega)]; exact O4.out.q o, fun o => by simpa using O4.out.f o, by simpa using O4.out.z, Nat.le_refl _, (O4.out.hb.setCell (p := ⟨w2.heap.size, 6, none⟩) (Nat.le_of_lt hlt) (bv 0)).setCell (p := ⟨w2.heap.size, 7, none⟩) (Nat.le_of_lt hlt) (bv 0)⟩
  rw [e0] at SF OF
  have HOF := (show Hid _ from OF)
  have i6 : (6 : Int) < (p.size : Int) := by omega
  have i7 : (7 : Int) < (p.size : Int) := by omega
  clear R RF O3 O4 l6 l7 hb4 hz4 OF e0 hlt hB
  generalize (p.data.toList.set 6 0).set 7 0 = tl at *
  generalize p.data.toList.getD 6 0 = g6 at *
  generalize p.data.toList.getD 7 0 = g7 at *
  go_wp2_with fail
  refine (cg _).mono ?_
  rintro e w5 ⟨rfl, hb5⟩
  have O5' := (show Hid _ from HOF.out.below hb5)
  have q4 := O5'.out.q
  have z4 := O5'.out.z
  clear hb5 HOF SF ck6 ck7 fk6 fk7 hconv cg i6 i7
  go_wp2_with fail
  refine (c4 _).mono ?_
  rintro e w' ⟨rfl, rfl⟩
  have O5 := (show Hid _ from O5'.out.alloc (.cells #[.int .i64 65535, .int .i64 65535, .int .i64 0, .int .i64 0, .int .u32 0] 24))
  clear q4 z4 O5'
  have q5 := O5.out.q
  have f5 := O5.out.f
  generalize w5.alloc _ = W5 at *
  have O6 := (show Hid _ from (O5.out.set 1 (.int .i64 x) (by decide)).set 2 (.int .i64 y) (by simp))
  clear hne hp8 hp508 c4 O5
  go_wp2_with fail
  refine (xu _).mono ?_
  rintro e w7 ⟨rfl, hb7⟩
  have O7 := (show Hid _ from O6.out.below hb7)
  have q7 := O7.out.q
  have z7 := O7.out.z
  clear hb7 O6 q5 f5 xu
  go_wp2_with fail
  refine (xi _).mono ?_
  rintro e w8 ⟨rfl, hb8⟩
  have B8 := (show Hid _ from (O7.out.below hb8).hb)
  clear hb8 O7 q7 z7 xi
  go_wp2_with fail
  refine (b5 _).mono ?_
  rintro e w9 ⟨rfl, hb9⟩
  have B9 := (show Hid _ from below_after (below_after B8.out (below1 w8 (.cells M 5))) hb9)
  clear hb9 B8 b5
  go_wp2_with fail
  refine (i5 _).mono ?_
  rintro e w10 ⟨rfl, hb10⟩
  have B10 := (show Hid _ from below_after (below_after B9.out (below1 w9 (.cells M 5))) hb10)
  clear hb10 B9 i5
  go_wp2_with fail
  refine (dgAwake_any _).mono ?_
  rintro e w11 ⟨rfl, hb11⟩
  have B11 := (show Hid _ from below_after B10.out hb11)
  clear hb11 B10
  go_wp2_with fail
  go_ret
  exact ⟨rfl, B11.out⟩

theorem walk (how : Int) (w1 : (Lit.int .i64 how).wf = true) (v : Int) (w2 : (Lit.int .i64 v).wf = true) (body : ByteArray) (w3 : body.size ≤ maxLen) (w : World) :
    Calls Try.prog 5 #[.int .i64 how, .int .i64 v, .string body] w fun e w' => e = .returned (.bool true) ∧ Below w.heap.size w w' := by
  unfold maxLen at w3
  by_cases h2 : body.size ≤ 500
  case neg => exact walk_long how v body w (by omega) (by omega)
  obtain ⟨r, c4, hr⟩ := place_four how
  rcases hr with rfl | rfl | rfl | rfl
  · exact walk_0 how v body w h2 c4
  · exact walk_1 how v body w h2 c4
  · exact walk_2 how v body w h2 c4
  · exact walk_3 how v body w h2 c4

/-! ### THE ROW's STEP -/
set_option maxRecDepth 100000 in
theorem lifted (os : Os) (started : os.Started) (H : Type) (enc : TypeId × Value → H) :
    ReturnsInHanded {} Try.checked os 5 .any (Rows.dgramEdgesSpec.pre6 enc Try.prog Try.f5 Rows.dgramEdgesRow.domain false) (Rows.dgramEdgesSpec.post enc Try.prog Try.f5 false true false false) := by
  refine returnsInHanded_of_change (C := Try.checked) own started (by kernel_rfl) Try.func5
    (ChangeSpec.witness6 (enc := enc) (C := Try.checked) false ⟨#[], #[.int .i64 0, .int .i64 0, .string ByteArray.empty], []⟩ 8 (by kernel_rfl) (by kernel_rfl) (by kernel_rfl) (by kernel_rfl)) ?_
  intro W base args ds gs before hval0 hW hcnd _
  have hval : ∀ (j : Nat) t v, Try.f5.params[j]? = some t → args[j]? = some v → Value.okWide Try.prog W .any base t v := hval0
  have hW' := hW
  obtain ⟨p, q, hA0, hV, rfl, hfz, hnd⟩ := hW
  have hA : DataW.TrodAll enc Try.prog W 0 (fun _ => true) true Try.f5.params.toList args.toList ds p := hA0
  have hB := fun (W' : World) (bel : Below W.heap.size W W') => below_trodAll_of laidOut bel _ (by kernel_rfl) hA
  rw [Try.params5] at hA hval
  obtain ⟨v0, vs0, d0, ds0, p0, q0, hargs, rfl, rfl, h0, r0⟩ := trodAll_cons hA
  obtain ⟨v1, vs1, d1, ds1, p1, q1, rfl, rfl, rfl, h1, r1⟩ := trodAll_cons r0
  obtain ⟨v2, vs2, d2, ds2, p2, q2, rfl, rfl, rfl, h2, r2⟩ := trodAll_cons r1
  obtain ⟨rfl, rfl, rfl⟩ := trodAll_nil r2
  obtain rfl : args = #[v0, v1, v2] := by cases args; simp_all
  obtain ⟨rfl, rfl⟩ := trodVars_none hV
  obtain ⟨a0, rfl, rfl, rfl, w0⟩ := open_int Try.underlying3 (hval 0 3 v0 rfl rfl) h0
  obtain ⟨a1, rfl, rfl, rfl, w1⟩ := open_int Try.underlying3 (hval 1 3 v1 rfl rfl) h1
  obtain ⟨a2, rfl, rfl, rfl, w2⟩ := open_string Try.underlying9 (hval 2 9 v2 rfl rfl) h2
  clear hA0 hval0
  refine (walk a0 w0 a1 w1 a2 w2 W).mono fun e W' ⟨he, bel⟩ => ?_
  subst he
  exact ⟨_, rfl, _, _, _, [], _, [], hW', trodAll_mk1 (shut_bool Try.underlying4 _), hB W' bel, rfl, bel.frame _, fun h => by cases h⟩

theorem over : Rows.dgramEdgesRow.holds Try.pinned (OpenSpec.ofChange Rows.dgramEdgesSpec) :=
  OpenClaim.holds_of_wide 5 Try.f5 rfl rfl rfl rfl rfl rfl rfl ⟨rfl, rfl, rfl, rfl, rfl⟩ rfl rfl rfl rfl rfl (by kernel_rfl) Try.func5 (by kernel_rfl)
    (of_decide_eq_true (by kernel_rfl)) (by unfold Func.isWrapper; first | (rw [if_pos (by decide +kernel)]; kernel_rfl) | (rw [if_neg (by decide +kernel)]; exact ⟨rfl, rfl⟩))
    (fun os started H enc _ => lifted os started H enc)

/-- THE STATEMENT -/
theorem proved : Rows.DgramEdgesSaid := over
#print axioms proved
end Go.Proofs.Ytecmaiodjcfekaa.dgramEdges
