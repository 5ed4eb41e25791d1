/- TcpEdges: for any two numbers, the head with each field at its last place, with a body of the most bytes, is put and got; with one field beyond its last place it may not be, and is refused with the document's error; a body of more bytes is too big; no condition. -/
import Derived.Test.YtpnnaibejgnahaaTcs4
import Derived.Test.YtpnnaibejgnahaaRows2
import Derived.Test.YtpnnaibejgnahaaLift
import Derived.Deep.RegionHeld
namespace Go.Proofs.Ytpnnaibejgnahaa.tcpEdges
open Go.ChangeShapes Go.WideShapes Go.ChangeAt Go.RowKit
open Go.ChangeMaps (open_string shut_string)
set_option linter.unusedVariables false

/-- n bytes of 0, made and read as a text: letters for both -/
theorem made (n : Nat) (z : Int) (hz : z = (n : Int)) (hn : n ≤ 1000000) : ∃ (Z : ByteArray) (M : Array Value), Z.size = n ∧
    (∀ u : World, (Instr.makeSlice 34 (.int .i64 z) (.int .i64 z)).run Try.prog u = .ok (.slice (some ⟨u.heap.size, 0, none⟩) n n) (u.alloc (.cells M 5))) ∧
    (∀ u : World, (convert 34 9 (.slice (some ⟨u.heap.size, 0, none⟩) n n)).run Try.prog (u.alloc (.cells M 5)) = .ok (.string Z) (u.alloc (.cells M 5))) ∧
    (∀ u : World, (convert 34 9 (.slice (some ⟨u.heap.size, 0, none⟩) n n)).run Try.prog (u.alloc (.cells M 5)).drew = .ok (.string Z) (u.alloc (.cells M 5)).drew) :=
  ⟨zs n, madeCells #[.int .u8 0] n, zs_size n, fun u => make_z n z hz hn u, fun u => conv_zs u n, fun u => conv_zs' u n⟩
theorem own_one (w : World) (A : Array Value) (t : TypeId) : Own w (w.alloc (.cells A t)) w.heap.size A := ⟨fun o => World.cell?_alloc_new _ _ _ _, fun o => by simp, by simp, Nat.le_refl _, below1 _ _⟩
/-- a head whose fields are letters -/
def hd (a b f v : Int) (Z : ByteArray) : Sg := ⟨a, b, 4294967295, 4294967295, f, v, Z⟩
theorem u32max : ((4294967295 : UInt32).toNat : Int) = 4294967295 := by simp
theorem hd_v (a b f v : Int) (Z : ByteArray) : sgV (hd a b f v Z) = #[.int .i64 a, .int .i64 b, .int .u32 4294967295, .int .u32 4294967295, .int .i64 f, .int .i64 v, .string Z] := by
  unfold sgV hd
  simp only [u32max]
theorem nine : ((9 : UInt32).toNat : Int) = 9 := by simp
theorem eight : ((8 : UInt32).toNat : Int) = 8 := by simp
theorem hd_may (a b f v : Int) (Z : ByteArray) : (hd a b f v Z).May ↔ (0 ≤ a ∧ a ≤ 65535) ∧ (0 ≤ b ∧ b ≤ 65535) ∧ (0 ≤ v ∧ v ≤ 65535) ∧ (0 ≤ f ∧ f ≤ 63) ∧ Z.size ≤ 40 ∧ Z.size % 4 = 0 := Iff.rfl
theorem hE_may (Z : ByteArray) (h : Z.size = 40) : (hd 65535 65535 63 65535 Z).May := by
  rw [hd_may]
  omega
theorem case0 (k : Int) (h : 1 ≤ k ∧ k ≤ 100) : ∃ a, wrap64 (65535 + k) = a ∧ ∀ Z, ¬ (hd a 65535 63 65535 Z).May :=
  ⟨65535 + k, by unfold wrap64; omega, fun Z => by rw [hd_may]; omega⟩
theorem case1 (k : Int) (h : 1 ≤ k ∧ k ≤ 100) : ∃ a, wrap64 (-k) = a ∧ ∀ Z, ¬ (hd 65535 a 63 65535 Z).May :=
  ⟨-k, by unfold wrap64; omega, fun Z => by rw [hd_may]; omega⟩
theorem case2 (k : Int) (h : 1 ≤ k ∧ k ≤ 100) : ∃ a, wrap64 (63 + k) = a ∧ ∀ Z, ¬ (hd 65535 65535 a 65535 Z).May :=
  ⟨63 + k, by unfold wrap64; omega, fun Z => by rw [hd_may]; omega⟩
theorem case3 (k : Int) (h : 1 ≤ k ∧ k ≤ 100) : ∃ a, wrap64 (65535 + k) = a ∧ ∀ Z, ¬ (hd 65535 65535 63 a Z).May :=
  ⟨65535 + k, by unfold wrap64; omega, fun Z => by rw [hd_may]; omega⟩
theorem case4 (Z : ByteArray) (h : Z.size = 40) : ∃ Y, Z ++ ⟨#[49, 50, 51, 52]⟩ = Y ∧ ¬ (hd 65535 65535 63 65535 Y).May :=
  ⟨_, rfl, by rw [hd_may, ByteArray.size_append]; show ¬ (_ ∧ _ ∧ _ ∧ _ ∧ _ + 4 ≤ _ ∧ _); omega⟩
theorem case5 (k : Int) (h : 1 ≤ k ∧ k ≤ 100) : ∃ (r : Int) (q : Nat) (Y : ByteArray), k.tmod 3 = r ∧ wrap64 (1 + r) = (q : Int) ∧ (q : Int) ≤ 5 ∧ (⟨#[49, 50, 51, 52, 53]⟩ : ByteArray).extract 0 q = Y ∧ ¬ (hd 65535 65535 63 65535 Y).May := by
  refine ⟨k % 3, (1 + k % 3).toNat, _, ?_, ?_, ?_, rfl, ?_⟩
  · exact Int.tmod_eq_emod_of_nonneg (by omega)
  · unfold wrap64
    omega
  · omega
  · rw [hd_may, ByteArray.size_extract]
    have e : (⟨#[49, 50, 51, 52, 53]⟩ : ByteArray).size = 5 := rfl
    rw [e]
    omega
theorem puts (Z Y : ByteArray) (h : Z.size = 40) (hy : Y.size = 1940) : ∃ P : ByteArray,
    (∀ w : World, Calls Try.prog 8 #[.int .u32 9, .int .u32 8, .agg #[.int .i64 65535, .int .i64 65535, .int .u32 4294967295, .int .u32 4294967295, .int .i64 63, .int .i64 65535, .string Z], .string Y] w fun e w' => e = .returned (.tuple #[.string P, .int .i64 0]) ∧ Below w.heap.size w w') ∧
    (∀ w : World, Calls Try.prog 10 #[.int .u32 9, .int .u32 8, .string P] w fun e w' => e = .returned (.tuple #[.agg #[.int .i64 65535, .int .i64 65535, .int .u32 4294967295, .int .u32 4294967295, .int .i64 63, .int .i64 65535, .string Z], .string Y, .int .i64 0]) ∧ Below w.heap.size w w') := by
  have hb : 20 + (hd 65535 65535 63 65535 Z).opts.size + Y.size ≤ 2000 := by show 20 + Z.size + Y.size ≤ 2000; omega
  have a := fun w => tcPut_ok (hd 65535 65535 63 65535 Z) 9 8 Y w (hE_may Z h) hb
  have b := fun w => tcGet_put (hd 65535 65535 63 65535 Z) 9 8 Y w (hE_may Z h) hb
  rw [hd_v, nine, eight] at a b
  exact ⟨_, a, b⟩
theorem more (Z Y : ByteArray) (k : Nat) (h : Z.size = 40) (hy : Y.size = 1940 + k) (h1 : 1 ≤ k) (h2 : k ≤ 100) (w : World) :
    Calls Try.prog 8 #[.int .u32 9, .int .u32 8, .agg #[.int .i64 65535, .int .i64 65535, .int .u32 4294967295, .int .u32 4294967295, .int .i64 63, .int .i64 65535, .string Z], .string Y] w fun e w' => e = .returned (.tuple #[.string ⟨#[]⟩, .int .i64 5]) ∧ Below w.heap.size w w' := by
  have a := tcPut_big (hd 65535 65535 63 65535 Z) 9 8 Y w (hE_may Z h) (by show 2000 < 20 + Z.size + Y.size; omega) (by omega)
  rw [hd_v, nine, eight] at a
  exact a
theorem bad (a b f v : Int) (Z : ByteArray) (h : ¬ (hd a b f v Z).May) :
    (∀ w : World, Calls Try.prog 8 #[.int .u32 9, .int .u32 8, .agg #[.int .i64 a, .int .i64 b, .int .u32 4294967295, .int .u32 4294967295, .int .i64 f, .int .i64 v, .string Z], .string ⟨#[]⟩] w fun e w' => e = .returned (.tuple #[.string ⟨#[]⟩, .int .i64 1]) ∧ Below w.heap.size w w') ∧
    (∀ w : World, Calls Try.prog 12 #[.agg #[.int .i64 a, .int .i64 b, .int .u32 4294967295, .int .u32 4294967295, .int .i64 f, .int .i64 v, .string Z]] w fun e w' => e = .returned (.bool false) ∧ Below w.heap.size w w') := by
  have x := fun w => tcPut_arg (hd a b f v Z) 9 8 ⟨#[]⟩ w h
  have y := fun w => tcCheck_no (hd a b f v Z) w h
  rw [hd_v, nine, eight] at x
  rw [hd_v] at y
  exact ⟨x, y⟩
theorem place_k (v : Int) : ∃ (K k m : Int) (n : Nat), (∀ w : World, Calls Try.prog 15 #[.int .i64 v, .int .i64 100] w fun e w' => e = .returned (.int .i64 K) ∧ w = w') ∧ k = (n : Int) ∧ 1 ≤ n ∧ n ≤ 100 ∧ wrap64 (1 + K) = k ∧ wrap64 (1940 + k) = m ∧ m = ((1940 + n : Nat) : Int) := by
  have h0 := Int.emod_nonneg v (show (100 : Int) ≠ 0 from by omega)
  have h1 := Int.emod_lt_of_pos v (show 0 < (100 : Int) from by omega)
  obtain ⟨K, hK⟩ := Int.eq_ofNat_of_zero_le h0
  refine ⟨K, K + 1, 1940 + (K + 1), K + 1, fun w => ?_, by omega, by omega, by omega, by unfold wrap64; omega, by unfold wrap64; omega, by omega⟩
  have := place_any v 100 w (by omega) (by omega)
  rw [hK] at this
  exact this
theorem place_h (how k : Int) (h : how % 6 = k) (w : World) : Calls Try.prog 15 #[.int .i64 how, .int .i64 6] w fun e w' => e = .returned (.int .i64 k) ∧ w = w' := by
  have := place_any how 6 w (by omega) (by omega)
  rw [h] at this
  exact this
set_option maxRecDepth 100000 in
set_option maxHeartbeats 2000000 in
theorem walk0 (how v : Int) (w : World) (hh : how % 6 = 0) :
    Calls Try.prog 5 #[.int .i64 how, .int .i64 v] w fun e w' => e = .returned (.bool true) ∧ Below w.heap.size w w' := by
  obtain ⟨K, k, m, n, cK, hkn, hn1, hn2, hK2, hK3, hm⟩ := place_k v
  have hkb : 1 ≤ k ∧ k ≤ 100 := by omega
  have hK3' : IntKind.i64.wrap (1940 + k) = m := (IntWalk.i64_left _).trans hK3
  have cH := fun w => place_h how 0 hh w
  obtain ⟨Z4, M4, hz4, mk4, cv4, _⟩ := made 40 40 rfl (by decide)
  obtain ⟨Z2, M2, hz2, mk2, _, cv2⟩ := made 1940 1940 rfl (by decide)
  obtain ⟨Z3, M3, hz3, mk3, _, cv3⟩ := made (1940 + n) m hm (by omega)
  obtain ⟨P, cp, cg⟩ := puts Z4 Z2 hz4 hz2
  have cm := fun w => more Z4 Z3 n hz4 hz3 (by omega) (by omega) w
  obtain ⟨a, ha, hbad⟩ := case0 k hkb
  obtain ⟨cb, cc⟩ := bad _ _ _ _ Z4 (hbad Z4)
  have hz4i : (Z4.size : Int) = 40 := by omega
  have hz2i : (Z2.size : Int) = 1940 := by omega
  clear hz4 hz2 hz3 hbad hkn hn1 hn2 hm hkb
  go_enter Try.func5, Try.ntmps5
  go_wp2_with fail
  refine (cK _).mono ?_
  rintro e w' ⟨rfl, rfl⟩
  go_wp2_with fail
  have O2 := (show Hid _ from Own.made w (.cells M4 5) #[.int .i64 65535, .int .i64 65535, .int .u32 4294967295, .int .u32 4294967295, .int .i64 63, .int .i64 65535, .string Z4] 24)
  generalize (w.alloc (.cells M4 5)).alloc _ = W2 at O2 ⊢
  generalize w.heap.size + 1 = B at O2 ⊢
  have q2 := O2.out.q
  have z2 := O2.out.z
  rw [hK2]
  clear mk4 cv4 cK hK2
  go_cut [7, 8] (fun s7 s8 wx => s7 = .string P ∧ s8 = .int .i64 0 ∧ Own w wx B #[.int .i64 65535, .int .i64 65535, .int .u32 4294967295, .int .u32 4294967295, .int .i64 63, .int .i64 65535, .string Z4])
  case first =>
    go_region_held (fun w' => ∀ o, w'.cell? ⟨B, o, none⟩ = (#[.int .i64 65535, .int .i64 65535, .int .u32 4294967295, .int .u32 4294967295, .int .i64 63, .int .i64 65535, .string Z4] : Array Value)[o]?) (first | exact O3.out.q | exact O2.out.drew.q | exact (O2.out.alloc _).drew.q) ((go_at_call 8; refine (cp _).mono ?_; rintro e w3 ⟨rfl, hb3⟩; have O3 := (show Hid _ from (O2.out.alloc (.cells M2 5)).drew.below hb3); clear hb3))
    all_goals
      go_wp2_with fail
      go_meet
      exact ⟨rfl, rfl, O3.out⟩
  case rest =>
  obtain ⟨rfl, rfl, O4⟩ := hcut
  have HO4 := (show Hid _ from O4)
  clear O4 O2 q2 z2 mk2 cv2 cp
  go_wp2_with fail
  refine (cg _).mono ?_
  rintro e w5 ⟨rfl, hb5⟩
  have O6 := (show Hid _ from (HO4.out.below hb5).alloc (.cells #[.int .i64 65535, .int .i64 65535, .int .u32 4294967295, .int .u32 4294967295, .int .i64 63, .int .i64 65535, .string Z4] 24))
  have q6' := made_in w5 #[.int .i64 65535, .int .i64 65535, .int .u32 4294967295, .int .u32 4294967295, .int .i64 63, .int .i64 65535, .string Z4] 24
  have G6 := (show Hid _ from own_one w5 #[.int .i64 65535, .int .i64 65535, .int .u32 4294967295, .int .u32 4294967295, .int .i64 63, .int .i64 65535, .string Z4] 24)
  clear hb5 HO4 cg
  go_wp2_with fail
  generalize w5.alloc _ = W6 at O6 G6 q6' ⊢
  generalize w5.heap.size = B5 at O6 G6 q6' ⊢
  have q6 := O6.out.q
  have z6 := O6.out.z
  go_cut [12, 13] (fun s12 s13 wx => s12 = .string ⟨#[]⟩ ∧ s13 = .int .i64 5 ∧ Own w wx B #[.int .i64 65535, .int .i64 65535, .int .u32 4294967295, .int .u32 4294967295, .int .i64 63, .int .i64 65535, .string Z4] ∧ Own w5 wx B5 #[.int .i64 65535, .int .i64 65535, .int .u32 4294967295, .int .u32 4294967295, .int .i64 63, .int .i64 65535, .string Z4])
  case first =>
    go_region_held (fun w' => ∀ o, w'.cell? ⟨B, o, none⟩ = (#[.int .i64 65535, .int .i64 65535, .int .u32 4294967295, .int .u32 4294967295, .int .i64 63, .int .i64 65535, .string Z4] : Array Value)[o]?) (first | exact O7.out.q | exact O6.out.drew.q | exact (O6.out.alloc _).drew.q) ((go_at_call 8; refine (cm _).mono ?_; rintro e w7 ⟨rfl, hb7⟩; have O7 := (show Hid _ from (O6.out.alloc (.cells M3 5)).drew.below hb7); have G7 := (show Hid _ from (G6.out.alloc (.cells M3 5)).drew.below hb7); clear hb7))
    all_goals
      go_wp2_with fail
      go_meet
      exact ⟨rfl, rfl, O7.out, G7.out⟩
  case rest =>
  obtain ⟨rfl, rfl, O8, G8⟩ := hcut
  have HO8 := (show Hid _ from O8)
  have q8 := O8.q
  have f8 := O8.f
  have z8 := O8.z
  have r8 := G8.q
  clear O8 G8 O6 G6 q6 q6' z6 mk3 cv3 cm
  go_wp2_with fail
  refine (cH _).mono ?_
  rintro e w' ⟨rfl, rfl⟩
  clear r8
  go_wp2_with fail
  have O9 := (show Hid _ from HO8.out.set 0 (.int .i64 a) (by simp))
  clear HO8 q8 f8 z8
  have O10 : Hid (Own w _ B #[.int .i64 a, .int .i64 65535, .int .u32 4294967295, .int .u32 4294967295, .int .i64 63, .int .i64 65535, .string Z4]) := O9.out
  clear O9
  generalize World.setCell _ _ _ = W9 at O10 ⊢
  refine (cb _).mono ?_
  rintro e w11 ⟨rfl, hb11⟩
  have O11 := (show Hid _ from O10.out.below hb11)
  have q11 := O11.out.q
  have z11 := O11.out.z
  clear hb11 O10 cb
  go_wp2_with fail
  refine (cc _).mono ?_
  rintro e w12 ⟨rfl, hb12⟩
  have HB12 := (show Hid _ from (O11.out.below hb12).hb)
  clear hb12 O11 q11 z11 cc
  go_wp2_with fail
  refine (tcAwake_any _).mono ?_
  rintro e w13 ⟨rfl, hb13⟩
  go_wp2_with fail
  go_ret
  exact ⟨rfl, below_after HB12.out hb13⟩
set_option maxRecDepth 100000 in
set_option maxHeartbeats 2000000 in
theorem walk1 (how v : Int) (w : World) (hh : how % 6 = 1) :
    Calls Try.prog 5 #[.int .i64 how, .int .i64 v] w fun e w' => e = .returned (.bool true) ∧ Below w.heap.size w w' := by
  obtain ⟨K, k, m, n, cK, hkn, hn1, hn2, hK2, hK3, hm⟩ := place_k v
  have hkb : 1 ≤ k ∧ k ≤ 100 := by omega
  have hK3' : IntKind.i64.wrap (1940 + k) = m := (IntWalk.i64_left _).trans hK3
  have cH := fun w => place_h how 1 hh w
  obtain ⟨Z4, M4, hz4, mk4, cv4, _⟩ := made 40 40 rfl (by decide)
  obtain ⟨Z2, M2, hz2, mk2, _, cv2⟩ := made 1940 1940 rfl (by decide)
  obtain ⟨Z3, M3, hz3, mk3, _, cv3⟩ := made (1940 + n) m hm (by omega)
  obtain ⟨P, cp, cg⟩ := puts Z4 Z2 hz4 hz2
  have cm := fun w => more Z4 Z3 n hz4 hz3 (by omega) (by omega) w
  obtain ⟨a, ha, hbad⟩ := case1 k hkb
  obtain ⟨cb, cc⟩ := bad _ _ _ _ Z4 (hbad Z4)
  have hz4i : (Z4.size : Int) = 40 := by omega
  have hz2i : (Z2.size : Int) = 1940 := by omega
  clear hz4 hz2 hz3 hbad hkn hn1 hn2 hm hkb
  go_enter Try.func5, Try.ntmps5
  go_wp2_with fail
  refine (cK _).mono ?_
  rintro e w' ⟨rfl, rfl⟩
  go_wp2_with fail
  have O2 := (show Hid _ from Own.made w (.cells M4 5) #[.int .i64 65535, .int .i64 65535, .int .u32 4294967295, .int .u32 4294967295, .int .i64 63, .int .i64 65535, .string Z4] 24)
  generalize (w.alloc (.cells M4 5)).alloc _ = W2 at O2 ⊢
  generalize w.heap.size + 1 = B at O2 ⊢
  have q2 := O2.out.q
  have z2 := O2.out.z
  rw [hK2]
  clear mk4 cv4 cK hK2
  go_cut [7, 8] (fun s7 s8 wx => s7 = .string P ∧ s8 = .int .i64 0 ∧ Own w wx B #[.int .i64 65535, .int .i64 65535, .int .u32 4294967295, .int .u32 4294967295, .int .i64 63, .int .i64 65535, .string Z4])
  case first =>
    go_region_held (fun w' => ∀ o, w'.cell? ⟨B, o, none⟩ = (#[.int .i64 65535, .int .i64 65535, .int .u32 4294967295, .int .u32 4294967295, .int .i64 63, .int .i64 65535, .string Z4] : Array Value)[o]?) (first | exact O3.out.q | exact O2.out.drew.q | exact (O2.out.alloc _).drew.q) ((go_at_call 8; refine (cp _).mono ?_; rintro e w3 ⟨rfl, hb3⟩; have O3 := (show Hid _ from (O2.out.alloc (.cells M2 5)).drew.below hb3); clear hb3))
    all_goals
      go_wp2_with fail
      go_meet
      exact ⟨rfl, rfl, O3.out⟩
  case rest =>
  obtain ⟨rfl, rfl, O4⟩ := hcut
  have HO4 := (show Hid _ from O4)
  clear O4 O2 q2 z2 mk2 cv2 cp
  go_wp2_with fail
  refine (cg _).mono ?_
  rintro e w5 ⟨rfl, hb5⟩
  have O6 := (show Hid _ from (HO4.out.below hb5).alloc (.cells #[.int .i64 65535, .int .i64 65535, .int .u32 4294967295, .int .u32 4294967295, .int .i64 63, .int .i64 65535, .string Z4] 24))
  have q6' := made_in w5 #[.int .i64 65535, .int .i64 65535, .int .u32 4294967295, .int .u32 4294967295, .int .i64 63, .int .i64 65535, .string Z4] 24
  have G6 := (show Hid _ from own_one w5 #[.int .i64 65535, .int .i64 65535, .int .u32 4294967295, .int .u32 4294967295, .int .i64 63, .int .i64 65535, .string Z4] 24)
  clear hb5 HO4 cg
  go_wp2_with fail
  generalize w5.alloc _ = W6 at O6 G6 q6' ⊢
  generalize w5.heap.size = B5 at O6 G6 q6' ⊢
  have q6 := O6.out.q
  have z6 := O6.out.z
  go_cut [12, 13] (fun s12 s13 wx => s12 = .string ⟨#[]⟩ ∧ s13 = .int .i64 5 ∧ Own w wx B #[.int .i64 65535, .int .i64 65535, .int .u32 4294967295, .int .u32 4294967295, .int .i64 63, .int .i64 65535, .string Z4] ∧ Own w5 wx B5 #[.int .i64 65535, .int .i64 65535, .int .u32 4294967295, .int .u32 4294967295, .int .i64 63, .int .i64 65535, .string Z4])
  case first =>
    go_region_held (fun w' => ∀ o, w'.cell? ⟨B, o, none⟩ = (#[.int .i64 65535, .int .i64 65535, .int .u32 4294967295, .int .u32 4294967295, .int .i64 63, .int .i64 65535, .string Z4] : Array Value)[o]?) (first | exact O7.out.q | exact O6.out.drew.q | exact (O6.out.alloc _).drew.q) ((go_at_call 8; refine (cm _).mono ?_; rintro e w7 ⟨rfl, hb7⟩; have O7 := (show Hid _ from (O6.out.alloc (.cells M3 5)).drew.below hb7); have G7 := (show Hid _ from (G6.out.alloc (.cells M3 5)).drew.below hb7); clear hb7))
    all_goals
      go_wp2_with fail
      go_meet
      exact ⟨rfl, rfl, O7.out, G7.out⟩
  case rest =>
  obtain ⟨rfl, rfl, O8, G8⟩ := hcut
  have HO8 := (show Hid _ from O8)
  have q8 := O8.q
  have f8 := O8.f
  have z8 := O8.z
  have r8 := G8.q
  clear O8 G8 O6 G6 q6 q6' z6 mk3 cv3 cm
  go_wp2_with fail
  refine (cH _).mono ?_
  rintro e w' ⟨rfl, rfl⟩
  clear r8
  go_wp2_with fail
  have O9 := (show Hid _ from HO8.out.set 1 (.int .i64 a) (by simp))
  clear HO8 q8 f8 z8
  have O10 : Hid (Own w _ B #[.int .i64 65535, .int .i64 a, .int .u32 4294967295, .int .u32 4294967295, .int .i64 63, .int .i64 65535, .string Z4]) := O9.out
  clear O9
  generalize World.setCell _ _ _ = W9 at O10 ⊢
  refine (cb _).mono ?_
  rintro e w11 ⟨rfl, hb11⟩
  have O11 := (show Hid _ from O10.out.below hb11)
  have q11 := O11.out.q
  have z11 := O11.out.z
  clear hb11 O10 cb
  go_wp2_with fail
  refine (cc _).mono ?_
  rintro e w12 ⟨rfl, hb12⟩
  have HB12 := (show Hid _ from (O11.out.below hb12).hb)
  clear hb12 O11 q11 z11 cc
  go_wp2_with fail
  refine (tcAwake_any _).mono ?_
  rintro e w13 ⟨rfl, hb13⟩
  go_wp2_with fail
  go_ret
  exact ⟨rfl, below_after HB12.out hb13⟩
set_option maxRecDepth 100000 in
set_option maxHeartbeats 2000000 in
theorem walk2 (how v : Int) (w : World) (hh : how % 6 = 2) :
    Calls Try.prog 5 #[.int .i64 how, .int .i64 v] w fun e w' => e = .returned (.bool true) ∧ Below w.heap.size w w' := by
  obtain ⟨K, k, m, n, cK, hkn, hn1, hn2, hK2, hK3, hm⟩ := place_k v
  have hkb : 1 ≤ k ∧ k ≤ 100 := by omega
  have hK3' : IntKind.i64.wrap (1940 + k) = m := (IntWalk.i64_left _).trans hK3
  have cH := fun w => place_h how 2 hh w
  obtain ⟨Z4, M4, hz4, mk4, cv4, _⟩ := made 40 40 rfl (by decide)
  obtain ⟨Z2, M2, hz2, mk2, _, cv2⟩ := made 1940 1940 rfl (by decide)
  obtain ⟨Z3, M3, hz3, mk3, _, cv3⟩ := made (1940 + n) m hm (by omega)
  obtain ⟨P, cp, cg⟩ := puts Z4 Z2 hz4 hz2
  have cm := fun w => more Z4 Z3 n hz4 hz3 (by omega) (by omega) w
  obtain ⟨a, ha, hbad⟩ := case2 k hkb
  obtain ⟨cb, cc⟩ := bad _ _ _ _ Z4 (hbad Z4)
  have hz4i : (Z4.size : Int) = 40 := by omega
  have hz2i : (Z2.size : Int) = 1940 := by omega
  clear hz4 hz2 hz3 hbad hkn hn1 hn2 hm hkb
  go_enter Try.func5, Try.ntmps5
  go_wp2_with fail
  refine (cK _).mono ?_
  rintro e w' ⟨rfl, rfl⟩
  go_wp2_with fail
  have O2 := (show Hid _ from Own.made w (.cells M4 5) #[.int .i64 65535, .int .i64 65535, .int .u32 4294967295, .int .u32 4294967295, .int .i64 63, .int .i64 65535, .string Z4] 24)
  generalize (w.alloc (.cells M4 5)).alloc _ = W2 at O2 ⊢
  generalize w.heap.size + 1 = B at O2 ⊢
  have q2 := O2.out.q
  have z2 := O2.out.z
  rw [hK2]
  clear mk4 cv4 cK hK2
  go_cut [7, 8] (fun s7 s8 wx => s7 = .string P ∧ s8 = .int .i64 0 ∧ Own w wx B #[.int .i64 65535, .int .i64 65535, .int .u32 4294967295, .int .u32 4294967295, .int .i64 63, .int .i64 65535, .string Z4])
  case first =>
    go_region_held (fun w' => ∀ o, w'.cell? ⟨B, o, none⟩ = (#[.int .i64 65535, .int .i64 65535, .int .u32 4294967295, .int .u32 4294967295, .int .i64 63, .int .i64 65535, .string Z4] : Array Value)[o]?) (first | exact O3.out.q | exact O2.out.drew.q | exact (O2.out.alloc _).drew.q) ((go_at_call 8; refine (cp _).mono ?_; rintro e w3 ⟨rfl, hb3⟩; have O3 := (show Hid _ from (O2.out.alloc (.cells M2 5)).drew.below hb3); clear hb3))
    all_goals
      go_wp2_with fail
      go_meet
      exact ⟨rfl, rfl, O3.out⟩
  case rest =>
  obtain ⟨rfl, rfl, O4⟩ := hcut
  have HO4 := (show Hid _ from O4)
  clear O4 O2 q2 z2 mk2 cv2 cp
  go_wp2_with fail
  refine (cg _).mono ?_
  rintro e w5 ⟨rfl, hb5⟩
  have O6 := (show Hid _ from (HO4.out.below hb5).alloc (.cells #[.int .i64 65535, .int .i64 65535, .int .u32 4294967295, .int .u32 4294967295, .int .i64 63, .int .i64 65535, .string Z4] 24))
  have q6' := made_in w5 #[.int .i64 65535, .int .i64 65535, .int .u32 4294967295, .int .u32 4294967295, .int .i64 63, .int .i64 65535, .string Z4] 24
  have G6 := (show Hid _ from own_one w5 #[.int .i64 65535, .int .i64 65535, .int .u32 4294967295, .int .u32 4294967295, .int .i64 63, .int .i64 65535, .string Z4] 24)
  clear hb5 HO4 cg
  go_wp2_with fail
  generalize w5.alloc _ = W6 at O6 G6 q6' ⊢
  generalize w5.heap.size = B5 at O6 G6 q6' ⊢
  have q6 := O6.out.q
  have z6 := O6.out.z
  go_cut [12, 13] (fun s12 s13 wx => s12 = .string ⟨#[]⟩ ∧ s13 = .int .i64 5 ∧ Own w wx B #[.int .i64 65535, .int .i64 65535, .int .u32 4294967295, .int .u32 4294967295, .int .i64 63, .int .i64 65535, .string Z4] ∧ Own w5 wx B5 #[.int .i64 65535, .int .i64 65535, .int .u32 4294967295, .int .u32 4294967295, .int .i64 63, .int .i64 65535, .string Z4])
  case first =>
    go_region_held (fun w' => ∀ o, w'.cell? ⟨B, o, none⟩ = (#[.int .i64 65535, .int .i64 65535, .int .u32 4294967295, .int .u32 4294967295, .int .i64 63, .int .i64 65535, .string Z4] : Array Value)[o]?) (first | exact O7.out.q | exact O6.out.drew.q | exact (O6.out.alloc _).drew.q) ((go_at_call 8; refine (cm _).mono ?_; rintro e w7 ⟨rfl, hb7⟩; have O7 := (show Hid _ from (O6.out.alloc (.cells M3 5)).drew.below hb7); have G7 := (show Hid _ from (G6.out.alloc (.cells M3 5)).drew.below hb7); clear hb7))
    all_goals
      go_wp2_with fail
      go_meet
      exact ⟨rfl, rfl, O7.out, G7.out⟩
  case rest =>
  obtain ⟨rfl, rfl, O8, G8⟩ := hcut
  have HO8 := (show Hid _ from O8)
  have q8 := O8.q
  have f8 := O8.f
  have z8 := O8.z
  have r8 := G8.q
  clear O8 G8 O6 G6 q6 q6' z6 mk3 cv3 cm
  go_wp2_with fail
  refine (cH _).mono ?_
  rintro e w' ⟨rfl, rfl⟩
  clear r8
  go_wp2_with fail
  have O9 := (show Hid _ from HO8.out.set 4 (.int .i64 a) (by simp))
  clear HO8 q8 f8 z8
  have O10 : Hid (Own w _ B #[.int .i64 65535, .int .i64 65535, .int .u32 4294967295, .int .u32 4294967295, .int .i64 a, .int .i64 65535, .string Z4]) := O9.out
  clear O9
  generalize World.setCell _ _ _ = W9 at O10 ⊢
  refine (cb _).mono ?_
  rintro e w11 ⟨rfl, hb11⟩
  have O11 := (show Hid _ from O10.out.below hb11)
  have q11 := O11.out.q
  have z11 := O11.out.z
  clear hb11 O10 cb
  go_wp2_with fail
  refine (cc _).mono ?_
  rintro e w12 ⟨rfl, hb12⟩
  have HB12 := (show Hid _ from (O11.out.below hb12).hb)
  clear hb12 O11 q11 z11 cc
  go_wp2_with fail
  refine (tcAwake_any _).mono ?_
  rintro e w13 ⟨rfl, hb13⟩
  go_wp2_with fail
  go_ret
  exact ⟨rfl, below_after HB12.out hb13⟩
set_option maxRecDepth 100000 in
set_option maxHeartbeats 2000000 in
theorem walk3 (how v : Int) (w : World) (hh : how % 6 = 3) :
    Calls Try.prog 5 #[.int .i64 how, .int .i64 v] w fun e w' => e = .returned (.bool true) ∧ Below w.heap.size w w' := by
  obtain ⟨K, k, m, n, cK, hkn, hn1, hn2, hK2, hK3, hm⟩ := place_k v
  have hkb : 1 ≤ k ∧ k ≤ 100 := by omega
  have hK3' : IntKind.i64.wrap (1940 + k) = m := (IntWalk.i64_left _).trans hK3
  have cH := fun w => place_h how 3 hh w
  obtain ⟨Z4, M4, hz4, mk4, cv4, _⟩ := made 40 40 rfl (by decide)
  obtain ⟨Z2, M2, hz2, mk2, _, cv2⟩ := made 1940 1940 rfl (by decide)
  obtain ⟨Z3, M3, hz3, mk3, _, cv3⟩ := made (1940 + n) m hm (by omega)
  obtain ⟨P, cp, cg⟩ := puts Z4 Z2 hz4 hz2
  have cm := fun w => more Z4 Z3 n hz4 hz3 (by omega) (by omega) w
  obtain ⟨a, ha, hbad⟩ := case3 k hkb
  obtain ⟨cb, cc⟩ := bad _ _ _ _ Z4 (hbad Z4)
  have hz4i : (Z4.size : Int) = 40 := by omega
  have hz2i : (Z2.size : Int) = 1940 := by omega
  clear hz4 hz2 hz3 hbad hkn hn1 hn2 hm hkb
  go_enter Try.func5, Try.ntmps5
  go_wp2_with fail
  refine (cK _).mono ?_
  rintro e w' ⟨rfl, rfl⟩
  go_wp2_with fail
  have O2 := (show Hid _ from Own.made w (.cells M4 5) #[.int .i64 65535, .int .i64 65535, .int .u32 4294967295, .int .u32 4294967295, .int .i64 63, .int .i64 65535, .string Z4] 24)
  generalize (w.alloc (.cells M4 5)).alloc _ = W2 at O2 ⊢
  generalize w.heap.size + 1 = B at O2 ⊢
  have q2 := O2.out.q
  have z2 := O2.out.z
  rw [hK2]
  clear mk4 cv4 cK hK2
  go_cut [7, 8] (fun s7 s8 wx => s7 = .string P ∧ s8 = .int .i64 0 ∧ Own w wx B #[.int .i64 65535, .int .i64 65535, .int .u32 4294967295, .int .u32 4294967295, .int .i64 63, .int .i64 65535, .string Z4])
  case first =>
    go_region_held (fun w' => ∀ o, w'.cell? ⟨B, o, none⟩ = (#[.int .i64 65535, .int .i64 65535, .int .u32 4294967295, .int .u32 4294967295, .int .i64 63, .int .i64 65535, .string Z4] : Array Value)[o]?) (first | exact O3.out.q | exact O2.out.drew.q | exact (O2.out.alloc _).drew.q) ((go_at_call 8; refine (cp _).mono ?_; rintro e w3 ⟨rfl, hb3⟩; have O3 := (show Hid _ from (O2.out.alloc (.cells M2 5)).drew.below hb3); clear hb3))
    all_goals
      go_wp2_with fail
      go_meet
      exact ⟨rfl, rfl, O3.out⟩
  case rest =>
  obtain ⟨rfl, rfl, O4⟩ := hcut
  have HO4 := (show Hid _ from O4)
  clear O4 O2 q2 z2 mk2 cv2 cp
  go_wp2_with fail
  refine (cg _).mono ?_
  rintro e w5 ⟨rfl, hb5⟩
  have O6 := (show Hid _ from (HO4.out.below hb5).alloc (.cells #[.int .i64 65535, .int .i64 65535, .int .u32 4294967295, .int .u32 4294967295, .int .i64 63, .int .i64 65535, .string Z4] 24))
  have q6' := made_in w5 #[.int .i64 65535, .int .i64 65535, .int .u32 4294967295, .int .u32 4294967295, .int .i64 63, .int .i64 65535, .string Z4] 24
  have G6 := (show Hid _ from own_one w5 #[.int .i64 65535, .int .i64 65535, .int .u32 4294967295, .int .u32 4294967295, .int .i64 63, .int .i64 65535, .string Z4] 24)
  clear hb5 HO4 cg
  go_wp2_with fail
  generalize w5.alloc _ = W6 at O6 G6 q6' ⊢
  generalize w5.heap.size = B5 at O6 G6 q6' ⊢
  have q6 := O6.out.q
  have z6 := O6.out.z
  go_cut [12, 13] (fun s12 s13 wx => s12 = .string ⟨#[]⟩ ∧ s13 = .int .i64 5 ∧ Own w wx B #[.int .i64 65535, .int .i64 65535, .int .u32 4294967295, .int .u32 4294967295, .int .i64 63, .int .i64 65535, .string Z4] ∧ Own w5 wx B5 #[.int .i64 65535, .int .i64 65535, .int .u32 4294967295, .int .u32 4294967295, .int .i64 63, .int .i64 65535, .string Z4])
  case first =>
    go_region_held (fun w' => ∀ o, w'.cell? ⟨B, o, none⟩ = (#[.int .i64 65535, .int .i64 65535, .int .u32 4294967295, .int .u32 4294967295, .int .i64 63, .int .i64 65535, .string Z4] : Array Value)[o]?) (first | exact O7.out.q | exact O6.out.drew.q | exact (O6.out.alloc _).drew.q) ((go_at_call 8; refine (cm _).mono ?_; rintro e w7 ⟨rfl, hb7⟩; have O7 := (show Hid _ from (O6.out.alloc (.cells M3 5)).drew.below hb7); have G7 := (show Hid _ from (G6.out.alloc (.cells M3 5)).drew.below hb7); clear hb7))
    all_goals
      go_wp2_with fail
      go_meet
      exact ⟨rfl, rfl, O7.out, G7.out⟩
  case rest =>
  obtain ⟨rfl, rfl, O8, G8⟩ := hcut
  have HO8 := (show Hid _ from O8)
  have q8 := O8.q
  have f8 := O8.f
  have z8 := O8.z
  have r8 := G8.q
  clear O8 G8 O6 G6 q6 q6' z6 mk3 cv3 cm
  go_wp2_with fail
  refine (cH _).mono ?_
  rintro e w' ⟨rfl, rfl⟩
  clear r8
  go_wp2_with fail
  have O9 := (show Hid _ from HO8.out.set 5 (.int .i64 a) (by simp))
  clear HO8 q8 f8 z8
  have O10 : Hid (Own w _ B #[.int .i64 65535, .int .i64 65535, .int .u32 4294967295, .int .u32 4294967295, .int .i64 63, .int .i64 a, .string Z4]) := O9.out
  clear O9
  generalize World.setCell _ _ _ = W9 at O10 ⊢
  refine (cb _).mono ?_
  rintro e w11 ⟨rfl, hb11⟩
  have O11 := (show Hid _ from O10.out.below hb11)
  have q11 := O11.out.q
  have z11 := O11.out.z
  clear hb11 O10 cb
  go_wp2_with fail
  refine (cc _).mono ?_
  rintro e w12 ⟨rfl, hb12⟩
  have HB12 := (show Hid _ from (O11.out.below hb12).hb)
  clear hb12 O11 q11 z11 cc
  go_wp2_with fail
  refine (tcAwake_any _).mono ?_
  rintro e w13 ⟨rfl, hb13⟩
  go_wp2_with fail
  go_ret
  exact ⟨rfl, below_after HB12.out hb13⟩
set_option maxRecDepth 100000 in
set_option maxHeartbeats 2000000 in
theorem walk4 (how v : Int) (w : World) (hh : how % 6 = 4) :
    Calls Try.prog 5 #[.int .i64 how, .int .i64 v] w fun e w' => e = .returned (.bool true) ∧ Below w.heap.size w w' := by
  obtain ⟨K, k, m, n, cK, hkn, hn1, hn2, hK2, hK3, hm⟩ := place_k v
  have hkb : 1 ≤ k ∧ k ≤ 100 := by omega
  have hK3' : IntKind.i64.wrap (1940 + k) = m := (IntWalk.i64_left _).trans hK3
  have cH := fun w => place_h how 4 hh w
  obtain ⟨Z4, M4, hz4, mk4, cv4, _⟩ := made 40 40 rfl (by decide)
  obtain ⟨Z2, M2, hz2, mk2, _, cv2⟩ := made 1940 1940 rfl (by decide)
  obtain ⟨Z3, M3, hz3, mk3, _, cv3⟩ := made (1940 + n) m hm (by omega)
  obtain ⟨P, cp, cg⟩ := puts Z4 Z2 hz4 hz2
  have cm := fun w => more Z4 Z3 n hz4 hz3 (by omega) (by omega) w
  obtain ⟨a, ha, hbad⟩ := case4 Z4 hz4
  obtain ⟨cb, cc⟩ := bad _ _ _ _ a hbad
  have hz4i : (Z4.size : Int) = 40 := by omega
  have hz2i : (Z2.size : Int) = 1940 := by omega
  clear hz4 hz2 hz3 hbad hkn hn1 hn2 hm hkb
  go_enter Try.func5, Try.ntmps5
  go_wp2_with fail
  refine (cK _).mono ?_
  rintro e w' ⟨rfl, rfl⟩
  go_wp2_with fail
  have O2 := (show Hid _ from Own.made w (.cells M4 5) #[.int .i64 65535, .int .i64 65535, .int .u32 4294967295, .int .u32 4294967295, .int .i64 63, .int .i64 65535, .string Z4] 24)
  generalize (w.alloc (.cells M4 5)).alloc _ = W2 at O2 ⊢
  generalize w.heap.size + 1 = B at O2 ⊢
  have q2 := O2.out.q
  have z2 := O2.out.z
  rw [hK2]
  clear mk4 cv4 cK hK2
  go_cut [7, 8] (fun s7 s8 wx => s7 = .string P ∧ s8 = .int .i64 0 ∧ Own w wx B #[.int .i64 65535, .int .i64 65535, .int .u32 4294967295, .int .u32 4294967295, .int .i64 63, .int .i64 65535, .string Z4])
  case first =>
    go_region_held (fun w' => ∀ o, w'.cell? ⟨B, o, none⟩ = (#[.int .i64 65535, .int .i64 65535, .int .u32 4294967295, .int .u32 4294967295, .int .i64 63, .int .i64 65535, .string Z4] : Array Value)[o]?) (first | exact O3.out.q | exact O2.out.drew.q | exact (O2.out.alloc _).drew.q) ((go_at_call 8; refine (cp _).mono ?_; rintro e w3 ⟨rfl, hb3⟩; have O3 := (show Hid _ from (O2.out.alloc (.cells M2 5)).drew.below hb3); clear hb3))
    all_goals
      go_wp2_with fail
      go_meet
      exact ⟨rfl, rfl, O3.out⟩
  case rest =>
  obtain ⟨rfl, rfl, O4⟩ := hcut
  have HO4 := (show Hid _ from O4)
  clear O4 O2 q2 z2 mk2 cv2 cp
  go_wp2_with fail
  refine (cg _).mono ?_
  rintro e w5 ⟨rfl, hb5⟩
  have O6 := (show Hid _ from (HO4.out.below hb5).alloc (.cells #[.int .i64 65535, .int .i64 65535, .int .u32 4294967295, .int .u32 4294967295, .int .i64 63, .int .i64 65535, .string Z4] 24))
  have q6' := made_in w5 #[.int .i64 65535, .int .i64 65535, .int .u32 4294967295, .int .u32 4294967295, .int .i64 63, .int .i64 65535, .string Z4] 24
  have G6 := (show Hid _ from own_one w5 #[.int .i64 65535, .int .i64 65535, .int .u32 4294967295, .int .u32 4294967295, .int .i64 63, .int .i64 65535, .string Z4] 24)
  clear hb5 HO4 cg
  go_wp2_with fail
  generalize w5.alloc _ = W6 at O6 G6 q6' ⊢
  generalize w5.heap.size = B5 at O6 G6 q6' ⊢
  have q6 := O6.out.q
  have z6 := O6.out.z
  go_cut [12, 13] (fun s12 s13 wx => s12 = .string ⟨#[]⟩ ∧ s13 = .int .i64 5 ∧ Own w wx B #[.int .i64 65535, .int .i64 65535, .int .u32 4294967295, .int .u32 4294967295, .int .i64 63, .int .i64 65535, .string Z4] ∧ Own w5 wx B5 #[.int .i64 65535, .int .i64 65535, .int .u32 4294967295, .int .u32 4294967295, .int .i64 63, .int .i64 65535, .string Z4])
  case first =>
    go_region_held (fun w' => ∀ o, w'.cell? ⟨B, o, none⟩ = (#[.int .i64 65535, .int .i64 65535, .int .u32 4294967295, .int .u32 4294967295, .int .i64 63, .int .i64 65535, .string Z4] : Array Value)[o]?) (first | exact O7.out.q | exact O6.out.drew.q | exact (O6.out.alloc _).drew.q) ((go_at_call 8; refine (cm _).mono ?_; rintro e w7 ⟨rfl, hb7⟩; have O7 := (show Hid _ from (O6.out.alloc (.cells M3 5)).drew.below hb7); have G7 := (show Hid _ from (G6.out.alloc (.cells M3 5)).drew.below hb7); clear hb7))
    all_goals
      go_wp2_with fail
      go_meet
      exact ⟨rfl, rfl, O7.out, G7.out⟩
  case rest =>
  obtain ⟨rfl, rfl, O8, G8⟩ := hcut
  have HO8 := (show Hid _ from O8)
  have q8 := O8.q
  have f8 := O8.f
  have z8 := O8.z
  have r8 := G8.q
  clear O8 G8 O6 G6 q6 q6' z6 mk3 cv3 cm
  go_wp2_with fail
  refine (cH _).mono ?_
  rintro e w' ⟨rfl, rfl⟩
  clear r8
  go_wp2_with fail
  have O9 := (show Hid _ from HO8.out.set 6 (.string a) (by simp))
  clear HO8 q8 f8 z8
  have O10 : Hid (Own w _ B #[.int .i64 65535, .int .i64 65535, .int .u32 4294967295, .int .u32 4294967295, .int .i64 63, .int .i64 65535, .string a]) := O9.out
  clear O9
  generalize World.setCell _ _ _ = W9 at O10 ⊢
  refine (cb _).mono ?_
  rintro e w11 ⟨rfl, hb11⟩
  have O11 := (show Hid _ from O10.out.below hb11)
  have q11 := O11.out.q
  have z11 := O11.out.z
  clear hb11 O10 cb
  go_wp2_with fail
  refine (cc _).mono ?_
  rintro e w12 ⟨rfl, hb12⟩
  have HB12 := (show Hid _ from (O11.out.below hb12).hb)
  clear hb12 O11 q11 z11 cc
  go_wp2_with fail
  refine (tcAwake_any _).mono ?_
  rintro e w13 ⟨rfl, hb13⟩
  go_wp2_with fail
  go_ret
  exact ⟨rfl, below_after HB12.out hb13⟩
set_option maxRecDepth 100000 in
set_option maxHeartbeats 2000000 in
theorem walk5 (how v : Int) (w : World) (hh : how % 6 = 5) :
    Calls Try.prog 5 #[.int .i64 how, .int .i64 v] w fun e w' => e = .returned (.bool true) ∧ Below w.heap.size w w' := by
  obtain ⟨K, k, m, n, cK, hkn, hn1, hn2, hK2, hK3, hm⟩ := place_k v
  have hkb : 1 ≤ k ∧ k ≤ 100 := by omega
  have hK3' : IntKind.i64.wrap (1940 + k) = m := (IntWalk.i64_left _).trans hK3
  have cH := fun w => place_h how 5 hh w
  obtain ⟨Z4, M4, hz4, mk4, cv4, _⟩ := made 40 40 rfl (by decide)
  obtain ⟨Z2, M2, hz2, mk2, _, cv2⟩ := made 1940 1940 rfl (by decide)
  obtain ⟨Z3, M3, hz3, mk3, _, cv3⟩ := made (1940 + n) m hm (by omega)
  obtain ⟨P, cp, cg⟩ := puts Z4 Z2 hz4 hz2
  have cm := fun w => more Z4 Z3 n hz4 hz3 (by omega) (by omega) w
  obtain ⟨r, q, a, hr, hr1, hr2, ha, hbad⟩ := case5 k hkb
  obtain ⟨cb, cc⟩ := bad _ _ _ _ a hbad
  have hz4i : (Z4.size : Int) = 40 := by omega
  have hz2i : (Z2.size : Int) = 1940 := by omega
  clear hz4 hz2 hz3 hbad hkn hn1 hn2 hm hkb
  go_enter Try.func5, Try.ntmps5
  go_wp2_with fail
  refine (cK _).mono ?_
  rintro e w' ⟨rfl, rfl⟩
  go_wp2_with fail
  have O2 := (show Hid _ from Own.made w (.cells M4 5) #[.int .i64 65535, .int .i64 65535, .int .u32 4294967295, .int .u32 4294967295, .int .i64 63, .int .i64 65535, .string Z4] 24)
  generalize (w.alloc (.cells M4 5)).alloc _ = W2 at O2 ⊢
  generalize w.heap.size + 1 = B at O2 ⊢
  have q2 := O2.out.q
  have z2 := O2.out.z
  rw [hK2]
  clear mk4 cv4 cK hK2
  go_cut [7, 8] (fun s7 s8 wx => s7 = .string P ∧ s8 = .int .i64 0 ∧ Own w wx B #[.int .i64 65535, .int .i64 65535, .int .u32 4294967295, .int .u32 4294967295, .int .i64 63, .int .i64 65535, .string Z4])
  case first =>
    go_region_held (fun w' => ∀ o, w'.cell? ⟨B, o, none⟩ = (#[.int .i64 65535, .int .i64 65535, .int .u32 4294967295, .int .u32 4294967295, .int .i64 63, .int .i64 65535, .string Z4] : Array Value)[o]?) (first | exact O3.out.q | exact O2.out.drew.q | exact (O2.out.alloc _).drew.q) ((go_at_call 8; refine (cp _).mono ?_; rintro e w3 ⟨rfl, hb3⟩; have O3 := (show Hid _ from (O2.out.alloc (.cells M2 5)).drew.below hb3); clear hb3))
    all_goals
      go_wp2_with fail
      go_meet
      exact ⟨rfl, rfl, O3.out⟩
  case rest =>
  obtain ⟨rfl, rfl, O4⟩ := hcut
  have HO4 := (show Hid _ from O4)
  clear O4 O2 q2 z2 mk2 cv2 cp
  go_wp2_with fail
  refine (cg _).mono ?_
  rintro e w5 ⟨rfl, hb5⟩
  have O6 := (show Hid _ from (HO4.out.below hb5).alloc (.cells #[.int .i64 65535, .int .i64 65535, .int .u32 4294967295, .int .u32 4294967295, .int .i64 63, .int .i64 65535, .string Z4] 24))
  have q6' := made_in w5 #[.int .i64 65535, .int .i64 65535, .int .u32 4294967295, .int .u32 4294967295, .int .i64 63, .int .i64 65535, .string Z4] 24
  have G6 := (show Hid _ from own_one w5 #[.int .i64 65535, .int .i64 65535, .int .u32 4294967295, .int .u32 4294967295, .int .i64 63, .int .i64 65535, .string Z4] 24)
  clear hb5 HO4 cg
  go_wp2_with fail
  generalize w5.alloc _ = W6 at O6 G6 q6' ⊢
  generalize w5.heap.size = B5 at O6 G6 q6' ⊢
  have q6 := O6.out.q
  have z6 := O6.out.z
  go_cut [12, 13] (fun s12 s13 wx => s12 = .string ⟨#[]⟩ ∧ s13 = .int .i64 5 ∧ Own w wx B #[.int .i64 65535, .int .i64 65535, .int .u32 4294967295, .int .u32 4294967295, .int .i64 63, .int .i64 65535, .string Z4] ∧ Own w5 wx B5 #[.int .i64 65535, .int .i64 65535, .int .u32 4294967295, .int .u32 4294967295, .int .i64 63, .int .i64 65535, .string Z4])
  case first =>
    go_region_held (fun w' => ∀ o, w'.cell? ⟨B, o, none⟩ = (#[.int .i64 65535, .int .i64 65535, .int .u32 4294967295, .int .u32 4294967295, .int .i64 63, .int .i64 65535, .string Z4] : Array Value)[o]?) (first | exact O7.out.q | exact O6.out.drew.q | exact (O6.out.alloc _).drew.q) ((go_at_call 8; refine (cm _).mono ?_; rintro e w7 ⟨rfl, hb7⟩; have O7 := (show Hid _ from (O6.out.alloc (.cells M3 5)).drew.below hb7); have G7 := (show Hid _ from (G6.out.alloc (.cells M3 5)).drew.below hb7); clear hb7))
    all_goals
      go_wp2_with fail
      go_meet
      exact ⟨rfl, rfl, O7.out, G7.out⟩
  case rest =>
  obtain ⟨rfl, rfl, O8, G8⟩ := hcut
  have HO8 := (show Hid _ from O8)
  have q8 := O8.q
  have f8 := O8.f
  have z8 := O8.z
  have r8 := G8.q
  clear O8 G8 O6 G6 q6 q6' z6 mk3 cv3 cm
  go_wp2_with fail
  refine (cH _).mono ?_
  rintro e w' ⟨rfl, rfl⟩
  clear r8
  go_wp2_with fail
  have O9 := (show Hid _ from HO8.out.set 6 (.string a) (by simp))
  clear HO8 q8 f8 z8
  have O10 : Hid (Own w _ B #[.int .i64 65535, .int .i64 65535, .int .u32 4294967295, .int .u32 4294967295, .int .i64 63, .int .i64 65535, .string a]) := O9.out
  clear O9
  generalize World.setCell _ _ _ = W9 at O10 ⊢
  refine (cb _).mono ?_
  rintro e w11 ⟨rfl, hb11⟩
  have O11 := (show Hid _ from O10.out.below hb11)
  have q11 := O11.out.q
  have z11 := O11.out.z
  clear hb11 O10 cb
  go_wp2_with fail
  refine (cc _).mono ?_
  rintro e w12 ⟨rfl, hb12⟩
  have HB12 := (show Hid _ from (O11.out.below hb12).hb)
  clear hb12 O11 q11 z11 cc
  go_wp2_with fail
  refine (tcAwake_any _).mono ?_
  rintro e w13 ⟨rfl, hb13⟩
  go_wp2_with fail
  go_ret
  exact ⟨rfl, below_after HB12.out hb13⟩

theorem walk (how : Int) (w0 : (Lit.int .i64 how).wf = true) (v : Int) (w1 : (Lit.int .i64 v).wf = true) (w : World) :
    Calls Try.prog 5 #[.int .i64 how, .int .i64 v] w fun e w' => e = .returned (.bool true) ∧ Below w.heap.size w w' := by
  have h0 := Int.emod_nonneg how (show (6 : Int) ≠ 0 from by omega)
  have h1 := Int.emod_lt_of_pos how (show 0 < (6 : Int) from by omega)
  have hc : how % 6 = 0 ∨ how % 6 = 1 ∨ how % 6 = 2 ∨ how % 6 = 3 ∨ how % 6 = 4 ∨ how % 6 = 5 := by omega
  rcases hc with h | h | h | h | h | h
  · exact walk0 how v w h
  · exact walk1 how v w h
  · exact walk2 how v w h
  · exact walk3 how v w h
  · exact walk4 how v w h
  · exact walk5 how v w h

/-! ### THE ROW's STEP -/
set_option maxRecDepth 100000 in
theorem lifted (os : Os) (started : os.Started) (H : Type) (enc : TypeId × Value → H) :
    ReturnsInHanded {} Try.checked os 5 .any (Rows.tcpEdgesSpec.pre6 enc Try.prog Try.f5 Rows.tcpEdgesRow.domain false) (Rows.tcpEdgesSpec.post enc Try.prog Try.f5 false true false false) := by
  refine returnsInHanded_of_change (C := Try.checked) own started (by kernel_rfl) Try.func5
    (ChangeSpec.witness6 (enc := enc) (C := Try.checked) false ⟨#[], #[.int .i64 0, .int .i64 0], []⟩ 8 (by kernel_rfl) (by kernel_rfl) (by kernel_rfl) (by kernel_rfl)) ?_
  intro W base args ds gs before hval0 hW hcnd _
  have hval : ∀ (j : Nat) t v, Try.f5.params[j]? = some t → args[j]? = some v → Value.okWide Try.prog W .any base t v := hval0
  have hW' := hW
  obtain ⟨p, q, hA0, hV, rfl, hfz, hnd⟩ := hW
  have hA : DataW.TrodAll enc Try.prog W 0 (fun _ => true) true Try.f5.params.toList args.toList ds p := hA0
  have hB := fun (W' : World) (bel : Below W.heap.size W W') => below_trodAll_of laidOut bel _ (by kernel_rfl) hA
  rw [Try.params5] at hA hval
  obtain ⟨v0, vs0, d0, ds0, p0, q0, hargs, rfl, rfl, h0, r0⟩ := trodAll_cons hA
  obtain ⟨v1, vs1, d1, ds1, p1, q1, rfl, rfl, rfl, h1, r1⟩ := trodAll_cons r0
  obtain ⟨rfl, rfl, rfl⟩ := trodAll_nil r1
  obtain rfl : args = #[v0, v1] := by cases args; simp_all
  obtain ⟨rfl, rfl⟩ := trodVars_none hV
  obtain ⟨a0, rfl, rfl, rfl, w0⟩ := open_int Try.underlying3 (hval 0 3 v0 rfl rfl) h0
  obtain ⟨a1, rfl, rfl, rfl, w1⟩ := open_int Try.underlying3 (hval 1 3 v1 rfl rfl) h1
  clear hA0 hval0
  refine (walk a0 w0 a1 w1 W).mono fun e W' ⟨he, bel⟩ => ?_
  subst he
  exact ⟨_, rfl, _, _, _, [], _, [], hW', trodAll_mk1 (shut_bool Try.underlying4 _), hB W' bel, rfl, bel.frame _, fun h => by cases h⟩

theorem over : Rows.tcpEdgesRow.holds Try.pinned (OpenSpec.ofChange Rows.tcpEdgesSpec) :=
  OpenClaim.holds_of_wide 5 Try.f5 rfl rfl rfl rfl rfl rfl rfl ⟨rfl, rfl, rfl, rfl, rfl⟩ rfl rfl rfl rfl rfl (by kernel_rfl) Try.func5 (by kernel_rfl)
    (of_decide_eq_true (by kernel_rfl)) (by unfold Func.isWrapper; first | (rw [if_pos (by decide +kernel)]; kernel_rfl) | (rw [if_neg (by decide +kernel)]; exact ⟨rfl, rfl⟩))
    (fun os started H enc _ => lifted os started H enc)

/-- THE STATEMENT -/
theorem proved : Rows.TcpEdgesSaid := over
#print axioms proved
end Go.Proofs.Ytpnnaibejgnahaa.tcpEdges
