/- Ipv4Edges: for any two numbers, the head with each field at its last place, with a body of the most bytes, is put and got; with one field beyond its last place it may not be, and is refused with the document's error; a body of more bytes is too big; no condition. -/
import Derived.Test.YtgifggchdedpnaaIps6
import Derived.Test.YtgifggchdedpnaaRows2
import Derived.Test.YtgifggchdedpnaaLift
import Derived.Deep.RegionHeld
namespace Go.Proofs.Ytgifggchdedpnaa.ipv4Edges
open Go.ChangeShapes Go.WideShapes Go.ChangeAt Go.RowKit
open Go.ChangeMaps (open_string shut_string)
set_option linter.unusedVariables false

/-- n bytes of 0, made and read as a text: letters for both -/
theorem made (n : Nat) (z : Int) (hz : z = (n : Int)) (hn : n ≤ 1000000) : ∃ (Z : ByteArray) (M : Array Value), Z.size = n ∧
    (∀ u : World, (Instr.makeSlice 24 (.int .i64 z) (.int .i64 z)).run Try.prog u = .ok (.slice (some ⟨u.heap.size, 0, none⟩) n n) (u.alloc (.cells M 5))) ∧
    (∀ u : World, (convert 24 9 (.slice (some ⟨u.heap.size, 0, none⟩) n n)).run Try.prog (u.alloc (.cells M 5)) = .ok (.string Z) (u.alloc (.cells M 5))) ∧
    (∀ u : World, (convert 24 9 (.slice (some ⟨u.heap.size, 0, none⟩) n n)).run Try.prog (u.alloc (.cells M 5)).drew = .ok (.string Z) (u.alloc (.cells M 5)).drew) :=
  ⟨zs n, madeCells #[.int .u8 0] n, zs_size n, fun u => make_z n z hz hn u, fun u => conv_zs u n, fun u => conv_zs' u n⟩
theorem own_one (w : World) (A : Array Value) (t : TypeId) : Own w (w.alloc (.cells A t)) w.heap.size A := ⟨fun o => World.cell?_alloc_new _ _ _ _, fun o => by simp, by simp, Nat.le_refl _, below1 _ _⟩
/-- a head whose fields are letters -/
def hd (tos id off ttl proto : Int) (Z : ByteArray) : Ip := ⟨tos, id, true, true, off, ttl, proto, 4294967295, 4294967295, Z⟩
theorem u32max : ((4294967295 : UInt32).toNat : Int) = 4294967295 := by simp
theorem hd_v (tos id off ttl proto : Int) (Z : ByteArray) : ipV (hd tos id off ttl proto Z) = #[.int .i64 tos, .int .i64 id, .bool true, .bool true, .int .i64 off, .int .i64 ttl, .int .i64 proto, .int .u32 4294967295, .int .u32 4294967295, .string Z] := by
  unfold ipV hd
  simp only [u32max]
theorem hd_may (tos id off ttl proto : Int) (Z : ByteArray) : (hd tos id off ttl proto Z).May ↔ (0 ≤ tos ∧ tos ≤ 255) ∧ (0 ≤ ttl ∧ ttl ≤ 255) ∧ (0 ≤ proto ∧ proto ≤ 255) ∧ (0 ≤ id ∧ id ≤ 65535) ∧ (0 ≤ off ∧ off ≤ 65528) ∧ off % 8 = 0 ∧ Z.size ≤ 40 ∧ Z.size % 4 = 0 := Iff.rfl
theorem hE_may (Z : ByteArray) (h : Z.size = 40) : (hd 255 65535 65528 255 255 Z).May := by
  rw [hd_may]
  omega
theorem case0 (k : Int) (h : 1 ≤ k ∧ k ≤ 100) : ∃ a, wrap64 (255 + k) = a ∧ ∀ Z, ¬ (hd a 65535 65528 255 255 Z).May :=
  ⟨255 + k, by unfold wrap64; omega, fun Z => by rw [hd_may]; omega⟩
theorem case1 (k : Int) (h : 1 ≤ k ∧ k ≤ 100) : ∃ a, wrap64 (-k) = a ∧ ∀ Z, ¬ (hd 255 a 65528 255 255 Z).May :=
  ⟨-k, by unfold wrap64; omega, fun Z => by rw [hd_may]; omega⟩
theorem case2 (k : Int) (h : 1 ≤ k ∧ k ≤ 100) : ∃ b a, wrap64 (8 * k) = b ∧ wrap64 (65528 + b) = a ∧ ∀ Z, ¬ (hd 255 65535 a 255 255 Z).May :=
  ⟨8 * k, 65528 + 8 * k, by unfold wrap64; omega, by unfold wrap64; omega, fun Z => by rw [hd_may]; omega⟩
theorem case3 (k : Int) (h : 1 ≤ k ∧ k ≤ 100) : ∃ r a, k.tmod 7 = r ∧ wrap64 (1 + r) = a ∧ ∀ Z, ¬ (hd 255 65535 a 255 255 Z).May :=
  ⟨k % 7, 1 + k % 7, Int.tmod_eq_emod_of_nonneg (by omega), by unfold wrap64; omega, fun Z => by rw [hd_may]; omega⟩
theorem case4 (k : Int) (h : 1 ≤ k ∧ k ≤ 100) : ∃ a, wrap64 (-k) = a ∧ ∀ Z, ¬ (hd 255 65535 65528 a 255 Z).May :=
  ⟨-k, by unfold wrap64; omega, fun Z => by rw [hd_may]; omega⟩
theorem case5 (k : Int) (h : 1 ≤ k ∧ k ≤ 100) : ∃ a, wrap64 (255 + k) = a ∧ ∀ Z, ¬ (hd 255 65535 65528 255 a Z).May :=
  ⟨255 + k, by unfold wrap64; omega, fun Z => by rw [hd_may]; omega⟩
theorem case6 (Z : ByteArray) (h : Z.size = 40) : ∃ Y, Z ++ ⟨#[49, 50, 51, 52]⟩ = Y ∧ ¬ (hd 255 65535 65528 255 255 Y).May :=
  ⟨_, rfl, by rw [hd_may, ByteArray.size_append]; show ¬ (_ ∧ _ ∧ _ ∧ _ ∧ _ ∧ _ ∧ _ + 4 ≤ _ ∧ _); omega⟩
theorem case7 (k : Int) (h : 1 ≤ k ∧ k ≤ 100) : ∃ (r : Int) (q : Nat) (Y : ByteArray), k.tmod 3 = r ∧ wrap64 (1 + r) = (q : Int) ∧ (q : Int) ≤ 5 ∧ (⟨#[49, 50, 51, 52, 53]⟩ : ByteArray).extract 0 q = Y ∧ ¬ (hd 255 65535 65528 255 255 Y).May := by
  refine ⟨k % 3, (1 + k % 3).toNat, _, ?_, ?_, ?_, rfl, ?_⟩
  · exact Int.tmod_eq_emod_of_nonneg (by omega)
  · unfold wrap64
    omega
  · omega
  · rw [hd_may, ByteArray.size_extract]
    have e : (⟨#[49, 50, 51, 52, 53]⟩ : ByteArray).size = 5 := rfl
    rw [e]
    omega
theorem puts (Z Y : ByteArray) (h : Z.size = 40) (hy : Y.size = 2000) : ∃ P : ByteArray,
    (∀ w : World, Calls Try.prog 5 #[.agg #[.int .i64 255, .int .i64 65535, .bool true, .bool true, .int .i64 65528, .int .i64 255, .int .i64 255, .int .u32 4294967295, .int .u32 4294967295, .string Z], .string Y] w fun e w' => e = .returned (.tuple #[.string P, .int .i64 0]) ∧ Below w.heap.size w w') ∧
    (∀ w : World, Calls Try.prog 6 #[.string P] w fun e w' => e = .returned (.tuple #[.agg #[.int .i64 255, .int .i64 65535, .bool true, .bool true, .int .i64 65528, .int .i64 255, .int .i64 255, .int .u32 4294967295, .int .u32 4294967295, .string Z], .string Y, .int .i64 0]) ∧ Below w.heap.size w w') := by
  have a := fun w => put_ok (hd 255 65535 65528 255 255 Z) Y w (hE_may Z h) (by omega)
  have b := fun w => back_self (hd 255 65535 65528 255 255 Z) Y w (hE_may Z h) (by omega)
  rw [hd_v] at a b
  exact ⟨_, a, b⟩
/-- the head with none -/
def hZ : Ip := ⟨0, 0, false, false, 0, 0, 0, 0, 0, ⟨#[]⟩⟩
theorem hZ_may : hZ.May := by
  refine ⟨⟨by decide, by decide⟩, ⟨by decide, by decide⟩, ⟨by decide, by decide⟩, ⟨by decide, by decide⟩, ⟨by decide, by decide⟩, by decide, by decide, by decide⟩
theorem more (Y : ByteArray) (k : Nat) (hy : Y.size = 2000 + k) (h1 : 1 ≤ k) (h2 : k ≤ 100) (w : World) :
    Calls Try.prog 5 #[.agg ipZ, .string Y] w fun e w' => e = .returned (.tuple #[.string ⟨#[]⟩, .int .i64 5]) ∧ Below w.heap.size w w' :=
  put_big hZ Y w hZ_may (by omega) (by omega)
theorem bad (tos id off ttl proto : Int) (Z : ByteArray) (h : ¬ (hd tos id off ttl proto Z).May) :
    (∀ w : World, Calls Try.prog 5 #[.agg #[.int .i64 tos, .int .i64 id, .bool true, .bool true, .int .i64 off, .int .i64 ttl, .int .i64 proto, .int .u32 4294967295, .int .u32 4294967295, .string Z], .string ⟨#[]⟩] w fun e w' => e = .returned (.tuple #[.string ⟨#[]⟩, .int .i64 1]) ∧ Below w.heap.size w w') ∧
    (∀ w : World, Calls Try.prog 7 #[.agg #[.int .i64 tos, .int .i64 id, .bool true, .bool true, .int .i64 off, .int .i64 ttl, .int .i64 proto, .int .u32 4294967295, .int .u32 4294967295, .string Z]] w fun e w' => e = .returned (.bool false) ∧ Below w.heap.size w w') := by
  have x := fun w => put_arg (hd tos id off ttl proto Z) ⟨#[]⟩ w h
  have y := fun w => check_no (hd tos id off ttl proto Z) w h
  rw [hd_v] at x y
  exact ⟨x, y⟩
theorem place_k (v : Int) : ∃ (K k m : Int) (n : Nat), (∀ w : World, Calls Try.prog 4 #[.int .i64 v, .int .i64 100] w fun e w' => e = .returned (.int .i64 K) ∧ w = w') ∧ k = (n : Int) ∧ 1 ≤ n ∧ n ≤ 100 ∧ wrap64 (1 + K) = k ∧ wrap64 (2000 + k) = m ∧ m = ((2000 + n : Nat) : Int) := by
  have h0 := Int.emod_nonneg v (show (100 : Int) ≠ 0 from by omega)
  have h1 := Int.emod_lt_of_pos v (show 0 < (100 : Int) from by omega)
  obtain ⟨K, hK⟩ := Int.eq_ofNat_of_zero_le h0
  refine ⟨K, K + 1, 2000 + (K + 1), K + 1, fun w => ?_, by omega, by omega, by omega, by unfold wrap64; omega, by unfold wrap64; omega, by omega⟩
  have := place_any v 100 w (by omega) (by omega)
  rw [hK] at this
  exact this
theorem place_h (how k : Int) (h : how % 8 = k) (w : World) : Calls Try.prog 4 #[.int .i64 how, .int .i64 8] w fun e w' => e = .returned (.int .i64 k) ∧ w = w' := by
  have := place_any how 8 w (by omega) (by omega)
  rw [h] at this
  exact this
set_option maxRecDepth 100000 in
set_option maxHeartbeats 2000000 in
theorem walk0 (how v : Int) (w : World) (hh : how % 8 = 0) :
    Calls Try.prog 3 #[.int .i64 how, .int .i64 v] w fun e w' => e = .returned (.bool true) ∧ Below w.heap.size w w' := by
  obtain ⟨K, k, m, n, cK, hkn, hn1, hn2, hK2, hK3, hm⟩ := place_k v
  have hkb : 1 ≤ k ∧ k ≤ 100 := by omega
  have hK3' : IntKind.i64.wrap (2000 + k) = m := (IntWalk.i64_left _).trans hK3
  have cH := fun w => place_h how 0 hh w
  obtain ⟨Z4, M4, hz4, mk4, cv4, _⟩ := made 40 40 rfl (by decide)
  obtain ⟨Z2, M2, hz2, mk2, _, cv2⟩ := made 2000 2000 rfl (by decide)
  obtain ⟨Z3, M3, hz3, mk3, cv3, cv3'⟩ := made (2000 + n) m hm (by omega)
  obtain ⟨P, cp, cg⟩ := puts Z4 Z2 hz4 hz2
  have cm := fun w => more Z3 n hz3 hn1 hn2 w
  have hz4i : (Z4.size : Int) = 40 := by omega
  have hz2i : (Z2.size : Int) = 2000 := by omega
  obtain ⟨a, ha, hbad⟩ := case0 k hkb
  obtain ⟨cb, cc⟩ := bad _ _ _ _ _ Z4 (hbad Z4)
  clear hz4 hz2 hz3 hbad hkn hn1 hn2 hm hkb
  go_enter Try.func3, Try.ntmps3
  go_wp2_with fail
  refine (cK _).mono ?_
  rintro e w' ⟨rfl, rfl⟩
  go_wp2_with fail
  have O2 := (show Hid _ from Own.made w (.cells M4 5) #[.int .i64 255, .int .i64 65535, .bool true, .bool true, .int .i64 65528, .int .i64 255, .int .i64 255, .int .u32 4294967295, .int .u32 4294967295, .string Z4] 26)
  generalize (w.alloc (.cells M4 5)).alloc _ = W2 at O2 ⊢
  generalize w.heap.size + 1 = B at O2 ⊢
  have q2 := O2.out.q
  have z2 := O2.out.z
  rw [hK2]
  clear mk4 cv4 cK hK2
  go_cut [7, 8] (fun s7 s8 wx => s7 = .string P ∧ s8 = .int .i64 0 ∧ Own w wx B #[.int .i64 255, .int .i64 65535, .bool true, .bool true, .int .i64 65528, .int .i64 255, .int .i64 255, .int .u32 4294967295, .int .u32 4294967295, .string Z4])
  case first =>
    go_region_held (fun w' => ∀ o, w'.cell? ⟨B, o, none⟩ = (#[.int .i64 255, .int .i64 65535, .bool true, .bool true, .int .i64 65528, .int .i64 255, .int .i64 255, .int .u32 4294967295, .int .u32 4294967295, .string Z4] : Array Value)[o]?) (first | exact O3.out.q | exact O2.out.drew.q | exact (O2.out.alloc _).drew.q) ((go_at_call 5; refine (cp _).mono ?_; rintro e w3 ⟨rfl, hb3⟩; have O3 := (show Hid _ from (O2.out.alloc (.cells M2 5)).drew.below hb3); clear hb3))
    all_goals
      go_wp2_with fail
      go_meet
      exact ⟨rfl, rfl, O3.out⟩
  case rest =>
  obtain ⟨rfl, rfl, O4⟩ := hcut
  have HO4 := (show Hid _ from O4)
  clear O4 O2 q2 z2 mk2 cv2 cp
  go_wp2_with fail
  refine (cg _).mono ?_
  rintro e w5 ⟨rfl, hb5⟩
  have HO8 := (show Hid _ from (HO4.out.below hb5).alloc (.cells #[.int .i64 255, .int .i64 65535, .bool true, .bool true, .int .i64 65528, .int .i64 255, .int .i64 255, .int .u32 4294967295, .int .u32 4294967295, .string Z4] 26))
  have r8 := made_in w5 #[.int .i64 255, .int .i64 65535, .bool true, .bool true, .int .i64 65528, .int .i64 255, .int .i64 255, .int .u32 4294967295, .int .u32 4294967295, .string Z4] 26
  clear hb5 HO4 cg
  have q8 := HO8.out.q
  have f8 := HO8.out.f
  have z8 := HO8.out.z
  go_wp2_with fail
  refine (cH _).mono ?_
  rintro e w' ⟨rfl, rfl⟩
  clear r8
  generalize w5.alloc _ = W8 at HO8 q8 f8 z8 ⊢
  go_wp2_with fail
  have O9 := (show Hid _ from HO8.out.set 0 (.int .i64 a) (by simp))
  clear HO8 q8 f8 z8
  have O10 : Hid (Own w _ B #[.int .i64 a, .int .i64 65535, .bool true, .bool true, .int .i64 65528, .int .i64 255, .int .i64 255, .int .u32 4294967295, .int .u32 4294967295, .string Z4]) := O9.out
  clear O9
  generalize World.setCell _ _ _ = W9 at O10 ⊢
  refine (cb _).mono ?_
  rintro e w11 ⟨rfl, hb11⟩
  have O11 := (show Hid _ from O10.out.below hb11)
  clear hb11 O10 cb
  go_wp2_with fail
  have O12 := (show Hid _ from O11.out.alloc (.cells M3 5))
  refine (cm _).mono ?_
  rintro e w13 ⟨rfl, hb13⟩
  have O13 := (show Hid _ from O12.out.below hb13)
  have q13 := O13.out.q
  have z13 := O13.out.z
  clear hb13 O12 O11 cm
  go_wp2_with fail
  refine (cc _).mono ?_
  rintro e w14 ⟨rfl, hb14⟩
  have HB14 := (show Hid _ from (O13.out.below hb14).hb)
  clear hb14 O13 q13 z13 cc
  go_wp2_with fail
  refine (awake_any _).mono ?_
  rintro e w15 ⟨rfl, hb15⟩
  go_wp2_with fail
  go_ret
  exact ⟨rfl, below_after HB14.out hb15⟩
set_option maxRecDepth 100000 in
set_option maxHeartbeats 2000000 in
theorem walk1 (how v : Int) (w : World) (hh : how % 8 = 1) :
    Calls Try.prog 3 #[.int .i64 how, .int .i64 v] w fun e w' => e = .returned (.bool true) ∧ Below w.heap.size w w' := by
  obtain ⟨K, k, m, n, cK, hkn, hn1, hn2, hK2, hK3, hm⟩ := place_k v
  have hkb : 1 ≤ k ∧ k ≤ 100 := by omega
  have hK3' : IntKind.i64.wrap (2000 + k) = m := (IntWalk.i64_left _).trans hK3
  have cH := fun w => place_h how 1 hh w
  obtain ⟨Z4, M4, hz4, mk4, cv4, _⟩ := made 40 40 rfl (by decide)
  obtain ⟨Z2, M2, hz2, mk2, _, cv2⟩ := made 2000 2000 rfl (by decide)
  obtain ⟨Z3, M3, hz3, mk3, cv3, cv3'⟩ := made (2000 + n) m hm (by omega)
  obtain ⟨P, cp, cg⟩ := puts Z4 Z2 hz4 hz2
  have cm := fun w => more Z3 n hz3 hn1 hn2 w
  have hz4i : (Z4.size : Int) = 40 := by omega
  have hz2i : (Z2.size : Int) = 2000 := by omega
  obtain ⟨a, ha, hbad⟩ := case1 k hkb
  obtain ⟨cb, cc⟩ := bad _ _ _ _ _ Z4 (hbad Z4)
  clear hz4 hz2 hz3 hbad hkn hn1 hn2 hm hkb
  go_enter Try.func3, Try.ntmps3
  go_wp2_with fail
  refine (cK _).mono ?_
  rintro e w' ⟨rfl, rfl⟩
  go_wp2_with fail
  have O2 := (show Hid _ from Own.made w (.cells M4 5) #[.int .i64 255, .int .i64 65535, .bool true, .bool true, .int .i64 65528, .int .i64 255, .int .i64 255, .int .u32 4294967295, .int .u32 4294967295, .string Z4] 26)
  generalize (w.alloc (.cells M4 5)).alloc _ = W2 at O2 ⊢
  generalize w.heap.size + 1 = B at O2 ⊢
  have q2 := O2.out.q
  have z2 := O2.out.z
  rw [hK2]
  clear mk4 cv4 cK hK2
  go_cut [7, 8] (fun s7 s8 wx => s7 = .string P ∧ s8 = .int .i64 0 ∧ Own w wx B #[.int .i64 255, .int .i64 65535, .bool true, .bool true, .int .i64 65528, .int .i64 255, .int .i64 255, .int .u32 4294967295, .int .u32 4294967295, .string Z4])
  case first =>
    go_region_held (fun w' => ∀ o, w'.cell? ⟨B, o, none⟩ = (#[.int .i64 255, .int .i64 65535, .bool true, .bool true, .int .i64 65528, .int .i64 255, .int .i64 255, .int .u32 4294967295, .int .u32 4294967295, .string Z4] : Array Value)[o]?) (first | exact O3.out.q | exact O2.out.drew.q | exact (O2.out.alloc _).drew.q) ((go_at_call 5; refine (cp _).mono ?_; rintro e w3 ⟨rfl, hb3⟩; have O3 := (show Hid _ from (O2.out.alloc (.cells M2 5)).drew.below hb3); clear hb3))
    all_goals
      go_wp2_with fail
      go_meet
      exact ⟨rfl, rfl, O3.out⟩
  case rest =>
  obtain ⟨rfl, rfl, O4⟩ := hcut
  have HO4 := (show Hid _ from O4)
  clear O4 O2 q2 z2 mk2 cv2 cp
  go_wp2_with fail
  refine (cg _).mono ?_
  rintro e w5 ⟨rfl, hb5⟩
  have HO8 := (show Hid _ from (HO4.out.below hb5).alloc (.cells #[.int .i64 255, .int .i64 65535, .bool true, .bool true, .int .i64 65528, .int .i64 255, .int .i64 255, .int .u32 4294967295, .int .u32 4294967295, .string Z4] 26))
  have r8 := made_in w5 #[.int .i64 255, .int .i64 65535, .bool true, .bool true, .int .i64 65528, .int .i64 255, .int .i64 255, .int .u32 4294967295, .int .u32 4294967295, .string Z4] 26
  clear hb5 HO4 cg
  have q8 := HO8.out.q
  have f8 := HO8.out.f
  have z8 := HO8.out.z
  go_wp2_with fail
  refine (cH _).mono ?_
  rintro e w' ⟨rfl, rfl⟩
  clear r8
  generalize w5.alloc _ = W8 at HO8 q8 f8 z8 ⊢
  go_wp2_with fail
  have O9 := (show Hid _ from HO8.out.set 1 (.int .i64 a) (by simp))
  clear HO8 q8 f8 z8
  have O10 : Hid (Own w _ B #[.int .i64 255, .int .i64 a, .bool true, .bool true, .int .i64 65528, .int .i64 255, .int .i64 255, .int .u32 4294967295, .int .u32 4294967295, .string Z4]) := O9.out
  clear O9
  generalize World.setCell _ _ _ = W9 at O10 ⊢
  refine (cb _).mono ?_
  rintro e w11 ⟨rfl, hb11⟩
  have O11 := (show Hid _ from O10.out.below hb11)
  clear hb11 O10 cb
  go_wp2_with fail
  have O12 := (show Hid _ from O11.out.alloc (.cells M3 5))
  refine (cm _).mono ?_
  rintro e w13 ⟨rfl, hb13⟩
  have O13 := (show Hid _ from O12.out.below hb13)
  have q13 := O13.out.q
  have z13 := O13.out.z
  clear hb13 O12 O11 cm
  go_wp2_with fail
  refine (cc _).mono ?_
  rintro e w14 ⟨rfl, hb14⟩
  have HB14 := (show Hid _ from (O13.out.below hb14).hb)
  clear hb14 O13 q13 z13 cc
  go_wp2_with fail
  refine (awake_any _).mono ?_
  rintro e w15 ⟨rfl, hb15⟩
  go_wp2_with fail
  go_ret
  exact ⟨rfl, below_after HB14.out hb15⟩
set_option maxRecDepth 100000 in
set_option maxHeartbeats 2000000 in
theorem walk2 (how v : Int) (w : World) (hh : how % 8 = 2) :
    Calls Try.prog 3 #[.int .i64 how, .int .i64 v] w fun e w' => e = .returned (.bool true) ∧ Below w.heap.size w w' := by
  obtain ⟨K, k, m, n, cK, hkn, hn1, hn2, hK2, hK3, hm⟩ := place_k v
  have hkb : 1 ≤ k ∧ k ≤ 100 := by omega
  have hK3' : IntKind.i64.wrap (2000 + k) = m := (IntWalk.i64_left _).trans hK3
  have cH := fun w => place_h how 2 hh w
  obtain ⟨Z4, M4, hz4, mk4, cv4, _⟩ := made 40 40 rfl (by decide)
  obtain ⟨Z2, M2, hz2, mk2, _, cv2⟩ := made 2000 2000 rfl (by decide)
  obtain ⟨Z3, M3, hz3, mk3, cv3, cv3'⟩ := made (2000 + n) m hm (by omega)
  obtain ⟨P, cp, cg⟩ := puts Z4 Z2 hz4 hz2
  have cm := fun w => more Z3 n hz3 hn1 hn2 w
  have hz4i : (Z4.size : Int) = 40 := by omega
  have hz2i : (Z2.size : Int) = 2000 := by omega
  obtain ⟨r, a, hr, ha, hbad⟩ := case2 k hkb
  obtain ⟨cb, cc⟩ := bad _ _ _ _ _ Z4 (hbad Z4)
  clear hz4 hz2 hz3 hbad hkn hn1 hn2 hm hkb
  go_enter Try.func3, Try.ntmps3
  go_wp2_with fail
  refine (cK _).mono ?_
  rintro e w' ⟨rfl, rfl⟩
  go_wp2_with fail
  have O2 := (show Hid _ from Own.made w (.cells M4 5) #[.int .i64 255, .int .i64 65535, .bool true, .bool true, .int .i64 65528, .int .i64 255, .int .i64 255, .int .u32 4294967295, .int .u32 4294967295, .string Z4] 26)
  generalize (w.alloc (.cells M4 5)).alloc _ = W2 at O2 ⊢
  generalize w.heap.size + 1 = B at O2 ⊢
  have q2 := O2.out.q
  have z2 := O2.out.z
  rw [hK2]
  clear mk4 cv4 cK hK2
  go_cut [7, 8] (fun s7 s8 wx => s7 = .string P ∧ s8 = .int .i64 0 ∧ Own w wx B #[.int .i64 255, .int .i64 65535, .bool true, .bool true, .int .i64 65528, .int .i64 255, .int .i64 255, .int .u32 4294967295, .int .u32 4294967295, .string Z4])
  case first =>
    go_region_held (fun w' => ∀ o, w'.cell? ⟨B, o, none⟩ = (#[.int .i64 255, .int .i64 65535, .bool true, .bool true, .int .i64 65528, .int .i64 255, .int .i64 255, .int .u32 4294967295, .int .u32 4294967295, .string Z4] : Array Value)[o]?) (first | exact O3.out.q | exact O2.out.drew.q | exact (O2.out.alloc _).drew.q) ((go_at_call 5; refine (cp _).mono ?_; rintro e w3 ⟨rfl, hb3⟩; have O3 := (show Hid _ from (O2.out.alloc (.cells M2 5)).drew.below hb3); clear hb3))
    all_goals
      go_wp2_with fail
      go_meet
      exact ⟨rfl, rfl, O3.out⟩
  case rest =>
  obtain ⟨rfl, rfl, O4⟩ := hcut
  have HO4 := (show Hid _ from O4)
  clear O4 O2 q2 z2 mk2 cv2 cp
  go_wp2_with fail
  refine (cg _).mono ?_
  rintro e w5 ⟨rfl, hb5⟩
  have HO8 := (show Hid _ from (HO4.out.below hb5).alloc (.cells #[.int .i64 255, .int .i64 65535, .bool true, .bool true, .int .i64 65528, .int .i64 255, .int .i64 255, .int .u32 4294967295, .int .u32 4294967295, .string Z4] 26))
  have r8 := made_in w5 #[.int .i64 255, .int .i64 65535, .bool true, .bool true, .int .i64 65528, .int .i64 255, .int .i64 255, .int .u32 4294967295, .int .u32 4294967295, .string Z4] 26
  clear hb5 HO4 cg
  have q8 := HO8.out.q
  have f8 := HO8.out.f
  have z8 := HO8.out.z
  go_wp2_with fail
  refine (cH _).mono ?_
  rintro e w' ⟨rfl, rfl⟩
  clear r8
  generalize w5.alloc _ = W8 at HO8 q8 f8 z8 ⊢
  go_wp2_with fail
  have O9 := (show Hid _ from HO8.out.set 4 (.int .i64 a) (by simp))
  clear HO8 q8 f8 z8
  have O10 : Hid (Own w _ B #[.int .i64 255, .int .i64 65535, .bool true, .bool true, .int .i64 a, .int .i64 255, .int .i64 255, .int .u32 4294967295, .int .u32 4294967295, .string Z4]) := O9.out
  clear O9
  generalize World.setCell _ _ _ = W9 at O10 ⊢
  refine (cb _).mono ?_
  rintro e w11 ⟨rfl, hb11⟩
  have O11 := (show Hid _ from O10.out.below hb11)
  clear hb11 O10 cb
  go_wp2_with fail
  have O12 := (show Hid _ from O11.out.alloc (.cells M3 5))
  refine (cm _).mono ?_
  rintro e w13 ⟨rfl, hb13⟩
  have O13 := (show Hid _ from O12.out.below hb13)
  have q13 := O13.out.q
  have z13 := O13.out.z
  clear hb13 O12 O11 cm
  go_wp2_with fail
  refine (cc _).mono ?_
  rintro e w14 ⟨rfl, hb14⟩
  have HB14 := (show Hid _ from (O13.out.below hb14).hb)
  clear hb14 O13 q13 z13 cc
  go_wp2_with fail
  refine (awake_any _).mono ?_
  rintro e w15 ⟨rfl, hb15⟩
  go_wp2_with fail
  go_ret
  exact ⟨rfl, below_after HB14.out hb15⟩
set_option maxRecDepth 100000 in
set_option maxHeartbeats 2000000 in
theorem walk3 (how v : Int) (w : World) (hh : how % 8 = 3) :
    Calls Try.prog 3 #[.int .i64 how, .int .i64 v] w fun e w' => e = .returned (.bool true) ∧ Below w.heap.size w w' := by
  obtain ⟨K, k, m, n, cK, hkn, hn1, hn2, hK2, hK3, hm⟩ := place_k v
  have hkb : 1 ≤ k ∧ k ≤ 100 := by omega
  have hK3' : IntKind.i64.wrap (2000 + k) = m := (IntWalk.i64_left _).trans hK3
  have cH := fun w => place_h how 3 hh w
  obtain ⟨Z4, M4, hz4, mk4, cv4, _⟩ := made 40 40 rfl (by decide)
  obtain ⟨Z2, M2, hz2, mk2, _, cv2⟩ := made 2000 2000 rfl (by decide)
  obtain ⟨Z3, M3, hz3, mk3, cv3, cv3'⟩ := made (2000 + n) m hm (by omega)
  obtain ⟨P, cp, cg⟩ := puts Z4 Z2 hz4 hz2
  have cm := fun w => more Z3 n hz3 hn1 hn2 w
  have hz4i : (Z4.size : Int) = 40 := by omega
  have hz2i : (Z2.size : Int) = 2000 := by omega
  obtain ⟨r, a, hr, ha, hbad⟩ := case3 k hkb
  obtain ⟨cb, cc⟩ := bad _ _ _ _ _ Z4 (hbad Z4)
  clear hz4 hz2 hz3 hbad hkn hn1 hn2 hm hkb
  go_enter Try.func3, Try.ntmps3
  go_wp2_with fail
  refine (cK _).mono ?_
  rintro e w' ⟨rfl, rfl⟩
  go_wp2_with fail
  have O2 := (show Hid _ from Own.made w (.cells M4 5) #[.int .i64 255, .int .i64 65535, .bool true, .bool true, .int .i64 65528, .int .i64 255, .int .i64 255, .int .u32 4294967295, .int .u32 4294967295, .string Z4] 26)
  generalize (w.alloc (.cells M4 5)).alloc _ = W2 at O2 ⊢
  generalize w.heap.size + 1 = B at O2 ⊢
  have q2 := O2.out.q
  have z2 := O2.out.z
  rw [hK2]
  clear mk4 cv4 cK hK2
  go_cut [7, 8] (fun s7 s8 wx => s7 = .string P ∧ s8 = .int .i64 0 ∧ Own w wx B #[.int .i64 255, .int .i64 65535, .bool true, .bool true, .int .i64 65528, .int .i64 255, .int .i64 255, .int .u32 4294967295, .int .u32 4294967295, .string Z4])
  case first =>
    go_region_held (fun w' => ∀ o, w'.cell? ⟨B, o, none⟩ = (#[.int .i64 255, .int .i64 65535, .bool true, .bool true, .int .i64 65528, .int .i64 255, .int .i64 255, .int .u32 4294967295, .int .u32 4294967295, .string Z4] : Array Value)[o]?) (first | exact O3.out.q | exact O2.out.drew.q | exact (O2.out.alloc _).drew.q) ((go_at_call 5; refine (cp _).mono ?_; rintro e w3 ⟨rfl, hb3⟩; have O3 := (show Hid _ from (O2.out.alloc (.cells M2 5)).drew.below hb3); clear hb3))
    all_goals
      go_wp2_with fail
      go_meet
      exact ⟨rfl, rfl, O3.out⟩
  case rest =>
  obtain ⟨rfl, rfl, O4⟩ := hcut
  have HO4 := (show Hid _ from O4)
  clear O4 O2 q2 z2 mk2 cv2 cp
  go_wp2_with fail
  refine (cg _).mono ?_
  rintro e w5 ⟨rfl, hb5⟩
  have HO8 := (show Hid _ from (HO4.out.below hb5).alloc (.cells #[.int .i64 255, .int .i64 65535, .bool true, .bool true, .int .i64 65528, .int .i64 255, .int .i64 255, .int .u32 4294967295, .int .u32 4294967295, .string Z4] 26))
  have r8 := made_in w5 #[.int .i64 255, .int .i64 65535, .bool true, .bool true, .int .i64 65528, .int .i64 255, .int .i64 255, .int .u32 4294967295, .int .u32 4294967295, .string Z4] 26
  clear hb5 HO4 cg
  have q8 := HO8.out.q
  have f8 := HO8.out.f
  have z8 := HO8.out.z
  go_wp2_with fail
  refine (cH _).mono ?_
  rintro e w' ⟨rfl, rfl⟩
  clear r8
  generalize w5.alloc _ = W8 at HO8 q8 f8 z8 ⊢
  go_wp2_with fail
  have O9 := (show Hid _ from HO8.out.set 4 (.int .i64 a) (by simp))
  clear HO8 q8 f8 z8
  have O10 : Hid (Own w _ B #[.int .i64 255, .int .i64 65535, .bool true, .bool true, .int .i64 a, .int .i64 255, .int .i64 255, .int .u32 4294967295, .int .u32 4294967295, .string Z4]) := O9.out
  clear O9
  generalize World.setCell _ _ _ = W9 at O10 ⊢
  refine (cb _).mono ?_
  rintro e w11 ⟨rfl, hb11⟩
  have O11 := (show Hid _ from O10.out.below hb11)
  clear hb11 O10 cb
  go_wp2_with fail
  have O12 := (show Hid _ from O11.out.alloc (.cells M3 5))
  refine (cm _).mono ?_
  rintro e w13 ⟨rfl, hb13⟩
  have O13 := (show Hid _ from O12.out.below hb13)
  have q13 := O13.out.q
  have z13 := O13.out.z
  clear hb13 O12 O11 cm
  go_wp2_with fail
  refine (cc _).mono ?_
  rintro e w14 ⟨rfl, hb14⟩
  have HB14 := (show Hid _ from (O13.out.below hb14).hb)
  clear hb14 O13 q13 z13 cc
  go_wp2_with fail
  refine (awake_any _).mono ?_
  rintro e w15 ⟨rfl, hb15⟩
  go_wp2_with fail
  go_ret
  exact ⟨rfl, below_after HB14.out hb15⟩
set_option maxRecDepth 100000 in
set_option maxHeartbeats 2000000 in
theorem walk4 (how v : Int) (w : World) (hh : how % 8 = 4) :
    Calls Try.prog 3 #[.int .i64 how, .int .i64 v] w fun e w' => e = .returned (.bool true) ∧ Below w.heap.size w w' := by
  obtain ⟨K, k, m, n, cK, hkn, hn1, hn2, hK2, hK3, hm⟩ := place_k v
  have hkb : 1 ≤ k ∧ k ≤ 100 := by omega
  have hK3' : IntKind.i64.wrap (2000 + k) = m := (IntWalk.i64_left _).trans hK3
  have cH := fun w => place_h how 4 hh w
  obtain ⟨Z4, M4, hz4, mk4, cv4, _⟩ := made 40 40 rfl (by decide)
  obtain ⟨Z2, M2, hz2, mk2, _, cv2⟩ := made 2000 2000 rfl (by decide)
  obtain ⟨Z3, M3, hz3, mk3, cv3, cv3'⟩ := made (2000 + n) m hm (by omega)
  obtain ⟨P, cp, cg⟩ := puts Z4 Z2 hz4 hz2
  have cm := fun w => more Z3 n hz3 hn1 hn2 w
  have hz4i : (Z4.size : Int) = 40 := by omega
  have hz2i : (Z2.size : Int) = 2000 := by omega
  obtain ⟨a, ha, hbad⟩ := case4 k hkb
  obtain ⟨cb, cc⟩ := bad _ _ _ _ _ Z4 (hbad Z4)
  clear hz4 hz2 hz3 hbad hkn hn1 hn2 hm hkb
  go_enter Try.func3, Try.ntmps3
  go_wp2_with fail
  refine (cK _).mono ?_
  rintro e w' ⟨rfl, rfl⟩
  go_wp2_with fail
  have O2 := (show Hid _ from Own.made w (.cells M4 5) #[.int .i64 255, .int .i64 65535, .bool true, .bool true, .int .i64 65528, .int .i64 255, .int .i64 255, .int .u32 4294967295, .int .u32 4294967295, .string Z4] 26)
  generalize (w.alloc (.cells M4 5)).alloc _ = W2 at O2 ⊢
  generalize w.heap.size + 1 = B at O2 ⊢
  have q2 := O2.out.q
  have z2 := O2.out.z
  rw [hK2]
  clear mk4 cv4 cK hK2
  go_cut [7, 8] (fun s7 s8 wx => s7 = .string P ∧ s8 = .int .i64 0 ∧ Own w wx B #[.int .i64 255, .int .i64 65535, .bool true, .bool true, .int .i64 65528, .int .i64 255, .int .i64 255, .int .u32 4294967295, .int .u32 4294967295, .string Z4])
  case first =>
    go_region_held (fun w' => ∀ o, w'.cell? ⟨B, o, none⟩ = (#[.int .i64 255, .int .i64 65535, .bool true, .bool true, .int .i64 65528, .int .i64 255, .int .i64 255, .int .u32 4294967295, .int .u32 4294967295, .string Z4] : Array Value)[o]?) (first | exact O3.out.q | exact O2.out.drew.q | exact (O2.out.alloc _).drew.q) ((go_at_call 5; refine (cp _).mono ?_; rintro e w3 ⟨rfl, hb3⟩; have O3 := (show Hid _ from (O2.out.alloc (.cells M2 5)).drew.below hb3); clear hb3))
    all_goals
      go_wp2_with fail
      go_meet
      exact ⟨rfl, rfl, O3.out⟩
  case rest =>
  obtain ⟨rfl, rfl, O4⟩ := hcut
  have HO4 := (show Hid _ from O4)
  clear O4 O2 q2 z2 mk2 cv2 cp
  go_wp2_with fail
  refine (cg _).mono ?_
  rintro e w5 ⟨rfl, hb5⟩
  have HO8 := (show Hid _ from (HO4.out.below hb5).alloc (.cells #[.int .i64 255, .int .i64 65535, .bool true, .bool true, .int .i64 65528, .int .i64 255, .int .i64 255, .int .u32 4294967295, .int .u32 4294967295, .string Z4] 26))
  have r8 := made_in w5 #[.int .i64 255, .int .i64 65535, .bool true, .bool true, .int .i64 65528, .int .i64 255, .int .i64 255, .int .u32 4294967295, .int .u32 4294967295, .string Z4] 26
  clear hb5 HO4 cg
  have q8 := HO8.out.q
  have f8 := HO8.out.f
  have z8 := HO8.out.z
  go_wp2_with fail
  refine (cH _).mono ?_
  rintro e w' ⟨rfl, rfl⟩
  clear r8
  generalize w5.alloc _ = W8 at HO8 q8 f8 z8 ⊢
  go_wp2_with fail
  have O9 := (show Hid _ from HO8.out.set 5 (.int .i64 a) (by simp))
  clear HO8 q8 f8 z8
  have O10 : Hid (Own w _ B #[.int .i64 255, .int .i64 65535, .bool true, .bool true, .int .i64 65528, .int .i64 a, .int .i64 255, .int .u32 4294967295, .int .u32 4294967295, .string Z4]) := O9.out
  clear O9
  generalize World.setCell _ _ _ = W9 at O10 ⊢
  refine (cb _).mono ?_
  rintro e w11 ⟨rfl, hb11⟩
  have O11 := (show Hid _ from O10.out.below hb11)
  clear hb11 O10 cb
  go_wp2_with fail
  have O12 := (show Hid _ from O11.out.alloc (.cells M3 5))
  refine (cm _).mono ?_
  rintro e w13 ⟨rfl, hb13⟩
  have O13 := (show Hid _ from O12.out.below hb13)
  have q13 := O13.out.q
  have z13 := O13.out.z
  clear hb13 O12 O11 cm
  go_wp2_with fail
  refine (cc _).mono ?_
  rintro e w14 ⟨rfl, hb14⟩
  have HB14 := (show Hid _ from (O13.out.below hb14).hb)
  clear hb14 O13 q13 z13 cc
  go_wp2_with fail
  refine (awake_any _).mono ?_
  rintro e w15 ⟨rfl, hb15⟩
  go_wp2_with fail
  go_ret
  exact ⟨rfl, below_after HB14.out hb15⟩
set_option maxRecDepth 100000 in
set_option maxHeartbeats 2000000 in
theorem walk5 (how v : Int) (w : World) (hh : how % 8 = 5) :
    Calls Try.prog 3 #[.int .i64 how, .int .i64 v] w fun e w' => e = .returned (.bool true) ∧ Below w.heap.size w w' := by
  obtain ⟨K, k, m, n, cK, hkn, hn1, hn2, hK2, hK3, hm⟩ := place_k v
  have hkb : 1 ≤ k ∧ k ≤ 100 := by omega
  have hK3' : IntKind.i64.wrap (2000 + k) = m := (IntWalk.i64_left _).trans hK3
  have cH := fun w => place_h how 5 hh w
  obtain ⟨Z4, M4, hz4, mk4, cv4, _⟩ := made 40 40 rfl (by decide)
  obtain ⟨Z2, M2, hz2, mk2, _, cv2⟩ := made 2000 2000 rfl (by decide)
  obtain ⟨Z3, M3, hz3, mk3, cv3, cv3'⟩ := made (2000 + n) m hm (by omega)
  obtain ⟨P, cp, cg⟩ := puts Z4 Z2 hz4 hz2
  have cm := fun w => more Z3 n hz3 hn1 hn2 w
  have hz4i : (Z4.size : Int) = 40 := by omega
  have hz2i : (Z2.size : Int) = 2000 := by omega
  obtain ⟨a, ha, hbad⟩ := case5 k hkb
  obtain ⟨cb, cc⟩ := bad _ _ _ _ _ Z4 (hbad Z4)
  clear hz4 hz2 hz3 hbad hkn hn1 hn2 hm hkb
  go_enter Try.func3, Try.ntmps3
  go_wp2_with fail
  refine (cK _).mono ?_
  rintro e w' ⟨rfl, rfl⟩
  go_wp2_with fail
  have O2 := (show Hid _ from Own.made w (.cells M4 5) #[.int .i64 255, .int .i64 65535, .bool true, .bool true, .int .i64 65528, .int .i64 255, .int .i64 255, .int .u32 4294967295, .int .u32 4294967295, .string Z4] 26)
  generalize (w.alloc (.cells M4 5)).alloc _ = W2 at O2 ⊢
  generalize w.heap.size + 1 = B at O2 ⊢
  have q2 := O2.out.q
  have z2 := O2.out.z
  rw [hK2]
  clear mk4 cv4 cK hK2
  go_cut [7, 8] (fun s7 s8 wx => s7 = .string P ∧ s8 = .int .i64 0 ∧ Own w wx B #[.int .i64 255, .int .i64 65535, .bool true, .bool true, .int .i64 65528, .int .i64 255, .int .i64 255, .int .u32 4294967295, .int .u32 4294967295, .string Z4])
  case first =>
    go_region_held (fun w' => ∀ o, w'.cell? ⟨B, o, none⟩ = (#[.int .i64 255, .int .i64 65535, .bool true, .bool true, .int .i64 65528, .int .i64 255, .int .i64 255, .int .u32 4294967295, .int .u32 4294967295, .string Z4] : Array Value)[o]?) (first | exact O3.out.q | exact O2.out.drew.q | exact (O2.out.alloc _).drew.q) ((go_at_call 5; refine (cp _).mono ?_; rintro e w3 ⟨rfl, hb3⟩; have O3 := (show Hid _ from (O2.out.alloc (.cells M2 5)).drew.below hb3); clear hb3))
    all_goals
      go_wp2_with fail
      go_meet
      exact ⟨rfl, rfl, O3.out⟩
  case rest =>
  obtain ⟨rfl, rfl, O4⟩ := hcut
  have HO4 := (show Hid _ from O4)
  clear O4 O2 q2 z2 mk2 cv2 cp
  go_wp2_with fail
  refine (cg _).mono ?_
  rintro e w5 ⟨rfl, hb5⟩
  have HO8 := (show Hid _ from (HO4.out.below hb5).alloc (.cells #[.int .i64 255, .int .i64 65535, .bool true, .bool true, .int .i64 65528, .int .i64 255, .int .i64 255, .int .u32 4294967295, .int .u32 4294967295, .string Z4] 26))
  have r8 := made_in w5 #[.int .i64 255, .int .i64 65535, .bool true, .bool true, .int .i64 65528, .int .i64 255, .int .i64 255, .int .u32 4294967295, .int .u32 4294967295, .string Z4] 26
  clear hb5 HO4 cg
  have q8 := HO8.out.q
  have f8 := HO8.out.f
  have z8 := HO8.out.z
  go_wp2_with fail
  refine (cH _).mono ?_
  rintro e w' ⟨rfl, rfl⟩
  clear r8
  generalize w5.alloc _ = W8 at HO8 q8 f8 z8 ⊢
  go_wp2_with fail
  have O9 := (show Hid _ from HO8.out.set 6 (.int .i64 a) (by simp))
  clear HO8 q8 f8 z8
  have O10 : Hid (Own w _ B #[.int .i64 255, .int .i64 65535, .bool true, .bool true, .int .i64 65528, .int .i64 255, .int .i64 a, .int .u32 4294967295, .int .u32 4294967295, .string Z4]) := O9.out
  clear O9
  generalize World.setCell _ _ _ = W9 at O10 ⊢
  refine (cb _).mono ?_
  rintro e w11 ⟨rfl, hb11⟩
  have O11 := (show Hid _ from O10.out.below hb11)
  clear hb11 O10 cb
  go_wp2_with fail
  have O12 := (show Hid _ from O11.out.alloc (.cells M3 5))
  refine (cm _).mono ?_
  rintro e w13 ⟨rfl, hb13⟩
  have O13 := (show Hid _ from O12.out.below hb13)
  have q13 := O13.out.q
  have z13 := O13.out.z
  clear hb13 O12 O11 cm
  go_wp2_with fail
  refine (cc _).mono ?_
  rintro e w14 ⟨rfl, hb14⟩
  have HB14 := (show Hid _ from (O13.out.below hb14).hb)
  clear hb14 O13 q13 z13 cc
  go_wp2_with fail
  refine (awake_any _).mono ?_
  rintro e w15 ⟨rfl, hb15⟩
  go_wp2_with fail
  go_ret
  exact ⟨rfl, below_after HB14.out hb15⟩
set_option maxRecDepth 100000 in
set_option maxHeartbeats 2000000 in
theorem walk6 (how v : Int) (w : World) (hh : how % 8 = 6) :
    Calls Try.prog 3 #[.int .i64 how, .int .i64 v] w fun e w' => e = .returned (.bool true) ∧ Below w.heap.size w w' := by
  obtain ⟨K, k, m, n, cK, hkn, hn1, hn2, hK2, hK3, hm⟩ := place_k v
  have hkb : 1 ≤ k ∧ k ≤ 100 := by omega
  have hK3' : IntKind.i64.wrap (2000 + k) = m := (IntWalk.i64_left _).trans hK3
  have cH := fun w => place_h how 6 hh w
  obtain ⟨Z4, M4, hz4, mk4, cv4, _⟩ := made 40 40 rfl (by decide)
  obtain ⟨Z2, M2, hz2, mk2, _, cv2⟩ := made 2000 2000 rfl (by decide)
  obtain ⟨Z3, M3, hz3, mk3, cv3, cv3'⟩ := made (2000 + n) m hm (by omega)
  obtain ⟨P, cp, cg⟩ := puts Z4 Z2 hz4 hz2
  have cm := fun w => more Z3 n hz3 hn1 hn2 w
  have hz4i : (Z4.size : Int) = 40 := by omega
  have hz2i : (Z2.size : Int) = 2000 := by omega
  obtain ⟨a, ha, hbad⟩ := case6 Z4 hz4
  obtain ⟨cb, cc⟩ := bad _ _ _ _ _ a hbad
  clear hz4 hz2 hz3 hbad hkn hn1 hn2 hm hkb
  go_enter Try.func3, Try.ntmps3
  go_wp2_with fail
  refine (cK _).mono ?_
  rintro e w' ⟨rfl, rfl⟩
  go_wp2_with fail
  have O2 := (show Hid _ from Own.made w (.cells M4 5) #[.int .i64 255, .int .i64 65535, .bool true, .bool true, .int .i64 65528, .int .i64 255, .int .i64 255, .int .u32 4294967295, .int .u32 4294967295, .string Z4] 26)
  generalize (w.alloc (.cells M4 5)).alloc _ = W2 at O2 ⊢
  generalize w.heap.size + 1 = B at O2 ⊢
  have q2 := O2.out.q
  have z2 := O2.out.z
  rw [hK2]
  clear mk4 cv4 cK hK2
  go_cut [7, 8] (fun s7 s8 wx => s7 = .string P ∧ s8 = .int .i64 0 ∧ Own w wx B #[.int .i64 255, .int .i64 65535, .bool true, .bool true, .int .i64 65528, .int .i64 255, .int .i64 255, .int .u32 4294967295, .int .u32 4294967295, .string Z4])
  case first =>
    go_region_held (fun w' => ∀ o, w'.cell? ⟨B, o, none⟩ = (#[.int .i64 255, .int .i64 65535, .bool true, .bool true, .int .i64 65528, .int .i64 255, .int .i64 255, .int .u32 4294967295, .int .u32 4294967295, .string Z4] : Array Value)[o]?) (first | exact O3.out.q | exact O2.out.drew.q | exact (O2.out.alloc _).drew.q) ((go_at_call 5; refine (cp _).mono ?_; rintro e w3 ⟨rfl, hb3⟩; have O3 := (show Hid _ from (O2.out.alloc (.cells M2 5)).drew.below hb3); clear hb3))
    all_goals
      go_wp2_with fail
      go_meet
      exact ⟨rfl, rfl, O3.out⟩
  case rest =>
  obtain ⟨rfl, rfl, O4⟩ := hcut
  have HO4 := (show Hid _ from O4)
  clear O4 O2 q2 z2 mk2 cv2 cp
  go_wp2_with fail
  refine (cg _).mono ?_
  rintro e w5 ⟨rfl, hb5⟩
  have HO8 := (show Hid _ from (HO4.out.below hb5).alloc (.cells #[.int .i64 255, .int .i64 65535, .bool true, .bool true, .int .i64 65528, .int .i64 255, .int .i64 255, .int .u32 4294967295, .int .u32 4294967295, .string Z4] 26))
  have r8 := made_in w5 #[.int .i64 255, .int .i64 65535, .bool true, .bool true, .int .i64 65528, .int .i64 255, .int .i64 255, .int .u32 4294967295, .int .u32 4294967295, .string Z4] 26
  clear hb5 HO4 cg
  have q8 := HO8.out.q
  have f8 := HO8.out.f
  have z8 := HO8.out.z
  go_wp2_with fail
  refine (cH _).mono ?_
  rintro e w' ⟨rfl, rfl⟩
  clear r8
  generalize w5.alloc _ = W8 at HO8 q8 f8 z8 ⊢
  go_wp2_with fail
  have O9 := (show Hid _ from HO8.out.set 9 (.string a) (by simp))
  clear HO8 q8 f8 z8
  have O10 : Hid (Own w _ B #[.int .i64 255, .int .i64 65535, .bool true, .bool true, .int .i64 65528, .int .i64 255, .int .i64 255, .int .u32 4294967295, .int .u32 4294967295, .string a]) := O9.out
  clear O9
  generalize World.setCell _ _ _ = W9 at O10 ⊢
  refine (cb _).mono ?_
  rintro e w11 ⟨rfl, hb11⟩
  have O11 := (show Hid _ from O10.out.below hb11)
  clear hb11 O10 cb
  go_wp2_with fail
  have O12 := (show Hid _ from O11.out.alloc (.cells M3 5))
  refine (cm _).mono ?_
  rintro e w13 ⟨rfl, hb13⟩
  have O13 := (show Hid _ from O12.out.below hb13)
  have q13 := O13.out.q
  have z13 := O13.out.z
  clear hb13 O12 O11 cm
  go_wp2_with fail
  refine (cc _).mono ?_
  rintro e w14 ⟨rfl, hb14⟩
  have HB14 := (show Hid _ from (O13.out.below hb14).hb)
  clear hb14 O13 q13 z13 cc
  go_wp2_with fail
  refine (awake_any _).mono ?_
  rintro e w15 ⟨rfl, hb15⟩
  go_wp2_with fail
  go_ret
  exact ⟨rfl, below_after HB14.out hb15⟩
set_option maxRecDepth 100000 in
set_option maxHeartbeats 2000000 in
theorem walk7 (how v : Int) (w : World) (hh : how % 8 = 7) :
    Calls Try.prog 3 #[.int .i64 how, .int .i64 v] w fun e w' => e = .returned (.bool true) ∧ Below w.heap.size w w' := by
  obtain ⟨K, k, m, n, cK, hkn, hn1, hn2, hK2, hK3, hm⟩ := place_k v
  have hkb : 1 ≤ k ∧ k ≤ 100 := by omega
  have hK3' : IntKind.i64.wrap (2000 + k) = m := (IntWalk.i64_left _).trans hK3
  have cH := fun w => place_h how 7 hh w
  obtain ⟨Z4, M4, hz4, mk4, cv4, _⟩ := made 40 40 rfl (by decide)
  obtain ⟨Z2, M2, hz2, mk2, _, cv2⟩ := made 2000 2000 rfl (by decide)
  obtain ⟨Z3, M3, hz3, mk3, cv3, cv3'⟩ := made (2000 + n) m hm (by omega)
  obtain ⟨P, cp, cg⟩ := puts Z4 Z2 hz4 hz2
  have cm := fun w => more Z3 n hz3 hn1 hn2 w
  have hz4i : (Z4.size : Int) = 40 := by omega
  have hz2i : (Z2.size : Int) = 2000 := by omega
  obtain ⟨r, q, a, hr, hr1, hr2, ha, hbad⟩ := case7 k hkb
  obtain ⟨cb, cc⟩ := bad _ _ _ _ _ a hbad
  clear hz4 hz2 hz3 hbad hkn hn1 hn2 hm hkb
  go_enter Try.func3, Try.ntmps3
  go_wp2_with fail
  refine (cK _).mono ?_
  rintro e w' ⟨rfl, rfl⟩
  go_wp2_with fail
  have O2 := (show Hid _ from Own.made w (.cells M4 5) #[.int .i64 255, .int .i64 65535, .bool true, .bool true, .int .i64 65528, .int .i64 255, .int .i64 255, .int .u32 4294967295, .int .u32 4294967295, .string Z4] 26)
  generalize (w.alloc (.cells M4 5)).alloc _ = W2 at O2 ⊢
  generalize w.heap.size + 1 = B at O2 ⊢
  have q2 := O2.out.q
  have z2 := O2.out.z
  rw [hK2]
  clear mk4 cv4 cK hK2
  go_cut [7, 8] (fun s7 s8 wx => s7 = .string P ∧ s8 = .int .i64 0 ∧ Own w wx B #[.int .i64 255, .int .i64 65535, .bool true, .bool true, .int .i64 65528, .int .i64 255, .int .i64 255, .int .u32 4294967295, .int .u32 4294967295, .string Z4])
  case first =>
    go_region_held (fun w' => ∀ o, w'.cell? ⟨B, o, none⟩ = (#[.int .i64 255, .int .i64 65535, .bool true, .bool true, .int .i64 65528, .int .i64 255, .int .i64 255, .int .u32 4294967295, .int .u32 4294967295, .string Z4] : Array Value)[o]?) (first | exact O3.out.q | exact O2.out.drew.q | exact (O2.out.alloc _).drew.q) ((go_at_call 5; refine (cp _).mono ?_; rintro e w3 ⟨rfl, hb3⟩; have O3 := (show Hid _ from (O2.out.alloc (.cells M2 5)).drew.below hb3); clear hb3))
    all_goals
      go_wp2_with fail
      go_meet
      exact ⟨rfl, rfl, O3.out⟩
  case rest =>
  obtain ⟨rfl, rfl, O4⟩ := hcut
  have HO4 := (show Hid _ from O4)
  clear O4 O2 q2 z2 mk2 cv2 cp
  go_wp2_with fail
  refine (cg _).mono ?_
  rintro e w5 ⟨rfl, hb5⟩
  have HO8 := (show Hid _ from (HO4.out.below hb5).alloc (.cells #[.int .i64 255, .int .i64 65535, .bool true, .bool true, .int .i64 65528, .int .i64 255, .int .i64 255, .int .u32 4294967295, .int .u32 4294967295, .string Z4] 26))
  have r8 := made_in w5 #[.int .i64 255, .int .i64 65535, .bool true, .bool true, .int .i64 65528, .int .i64 255, .int .i64 255, .int .u32 4294967295, .int .u32 4294967295, .string Z4] 26
  clear hb5 HO4 cg
  have q8 := HO8.out.q
  have f8 := HO8.out.f
  have z8 := HO8.out.z
  go_wp2_with fail
  refine (cH _).mono ?_
  rintro e w' ⟨rfl, rfl⟩
  clear r8
  generalize w5.alloc _ = W8 at HO8 q8 f8 z8 ⊢
  go_wp2_with fail
  have O9 := (show Hid _ from HO8.out.set 9 (.string a) (by simp))
  clear HO8 q8 f8 z8
  have O10 : Hid (Own w _ B #[.int .i64 255, .int .i64 65535, .bool true, .bool true, .int .i64 65528, .int .i64 255, .int .i64 255, .int .u32 4294967295, .int .u32 4294967295, .string a]) := O9.out
  clear O9
  generalize World.setCell _ _ _ = W9 at O10 ⊢
  refine (cb _).mono ?_
  rintro e w11 ⟨rfl, hb11⟩
  have O11 := (show Hid _ from O10.out.below hb11)
  clear hb11 O10 cb
  go_wp2_with fail
  have O12 := (show Hid _ from O11.out.alloc (.cells M3 5))
  refine (cm _).mono ?_
  rintro e w13 ⟨rfl, hb13⟩
  have O13 := (show Hid _ from O12.out.below hb13)
  have q13 := O13.out.q
  have z13 := O13.out.z
  clear hb13 O12 O11 cm
  go_wp2_with fail
  refine (cc _).mono ?_
  rintro e w14 ⟨rfl, hb14⟩
  have HB14 := (show Hid _ from (O13.out.below hb14).hb)
  clear hb14 O13 q13 z13 cc
  go_wp2_with fail
  refine (awake_any _).mono ?_
  rintro e w15 ⟨rfl, hb15⟩
  go_wp2_with fail
  go_ret
  exact ⟨rfl, below_after HB14.out hb15⟩

theorem walk (how : Int) (w0 : (Lit.int .i64 how).wf = true) (v : Int) (w1 : (Lit.int .i64 v).wf = true) (w : World) :
    Calls Try.prog 3 #[.int .i64 how, .int .i64 v] w fun e w' => e = .returned (.bool true) ∧ Below w.heap.size w w' := by
  have h0 := Int.emod_nonneg how (show (8 : Int) ≠ 0 from by omega)
  have h1 := Int.emod_lt_of_pos how (show 0 < (8 : Int) from by omega)
  have hc : how % 8 = 0 ∨ how % 8 = 1 ∨ how % 8 = 2 ∨ how % 8 = 3 ∨ how % 8 = 4 ∨ how % 8 = 5 ∨ how % 8 = 6 ∨ how % 8 = 7 := by omega
  rcases hc with h | h | h | h | h | h | h | h
  · exact walk0 how v w h
  · exact walk1 how v w h
  · exact walk2 how v w h
  · exact walk3 how v w h
  · exact walk4 how v w h
  · exact walk5 how v w h
  · exact walk6 how v w h
  · exact walk7 how v w h

/-! ### THE ROW's STEP -/
set_option maxRecDepth 100000 in
theorem lifted (os : Os) (started : os.Started) (H : Type) (enc : TypeId × Value → H) :
    ReturnsInHanded {} Try.checked os 3 .any (Rows.ipv4EdgesSpec.pre6 enc Try.prog Try.f3 Rows.ipv4EdgesRow.domain false) (Rows.ipv4EdgesSpec.post enc Try.prog Try.f3 false true false false) := by
  refine returnsInHanded_of_change (C := Try.checked) own started (by kernel_rfl) Try.func3
    (ChangeSpec.witness6 (enc := enc) (C := Try.checked) false ⟨#[], #[.int .i64 0, .int .i64 0], []⟩ 8 (by kernel_rfl) (by kernel_rfl) (by kernel_rfl) (by kernel_rfl)) ?_
  intro W base args ds gs before hval0 hW hcnd _
  have hval : ∀ (j : Nat) t v, Try.f3.params[j]? = some t → args[j]? = some v → Value.okWide Try.prog W .any base t v := hval0
  have hW' := hW
  obtain ⟨p, q, hA0, hV, rfl, hfz, hnd⟩ := hW
  have hA : DataW.TrodAll enc Try.prog W 0 (fun _ => true) true Try.f3.params.toList args.toList ds p := hA0
  have hB := fun (W' : World) (bel : Below W.heap.size W W') => below_trodAll_of laidOut bel _ (by kernel_rfl) hA
  rw [Try.params3] at hA hval
  obtain ⟨v0, vs0, d0, ds0, p0, q0, hargs, rfl, rfl, h0, r0⟩ := trodAll_cons hA
  obtain ⟨v1, vs1, d1, ds1, p1, q1, rfl, rfl, rfl, h1, r1⟩ := trodAll_cons r0
  obtain ⟨rfl, rfl, rfl⟩ := trodAll_nil r1
  obtain rfl : args = #[v0, v1] := by cases args; simp_all
  obtain ⟨rfl, rfl⟩ := trodVars_none hV
  obtain ⟨a0, rfl, rfl, rfl, w0⟩ := open_int Try.underlying3 (hval 0 3 v0 rfl rfl) h0
  obtain ⟨a1, rfl, rfl, rfl, w1⟩ := open_int Try.underlying3 (hval 1 3 v1 rfl rfl) h1
  clear hA0 hval0
  refine (walk a0 w0 a1 w1 W).mono fun e W' ⟨he, bel⟩ => ?_
  subst he
  exact ⟨_, rfl, _, _, _, [], _, [], hW', trodAll_mk1 (shut_bool Try.underlying4 _), hB W' bel, rfl, bel.frame _, fun h => by cases h⟩

theorem over : Rows.ipv4EdgesRow.holds Try.pinned (OpenSpec.ofChange Rows.ipv4EdgesSpec) :=
  OpenClaim.holds_of_wide 3 Try.f3 rfl rfl rfl rfl rfl rfl rfl ⟨rfl, rfl, rfl, rfl, rfl⟩ rfl rfl rfl rfl rfl (by kernel_rfl) Try.func3 (by kernel_rfl)
    (of_decide_eq_true (by kernel_rfl)) (by unfold Func.isWrapper; first | (rw [if_pos (by decide +kernel)]; kernel_rfl) | (rw [if_neg (by decide +kernel)]; exact ⟨rfl, rfl⟩))
    (fun os started H enc _ => lifted os started H enc)

/-- THE STATEMENT -/
theorem proved : Rows.Ipv4EdgesSaid := over
#print axioms proved
end Go.Proofs.Ytgifggchdedpnaa.ipv4Edges
