/- CraftResets: for any port and numbers, a reset, on or back, has its ends, its numbers, its flags, no body and no options; no condition. -/
import Derived.Test.YthfncbcnokkmiaaCrGet
import Derived.Test.YthfncbcnokkmiaaCrOwn
import Derived.Test.YthfncbcnokkmiaaRows2
import Derived.Test.YthfncbcnokkmiaaLift
namespace Go.Proofs.Ythfncbcnokkmiaa.craftResets
open Go.ChangeShapes Go.WideShapes Go.ChangeAt Go.RowKit
open Go.ChangeMaps (open_string shut_string)
set_option linter.unusedVariables false
theorem made (n : Nat) (z : Int) (hz : z = (n : Int)) (hn : n ≤ 1000000) : ∃ (Z : ByteArray) (M : Array Value), Z.size = n ∧
    (∀ u : World, (Instr.makeSlice 51 (.int .i64 z) (.int .i64 z)).run Try.prog u = .ok (.slice (some ⟨u.heap.size, 0, none⟩) n n) (u.alloc (.cells M 5))) ∧
    (∀ u : World, (convert 51 9 (.slice (some ⟨u.heap.size, 0, none⟩) n n)).run Try.prog (u.alloc (.cells M 5)) = .ok (.string Z) (u.alloc (.cells M 5))) :=
  ⟨zs n, madeCells #[.int .u8 0] n, zs_size n, fun u => make_z n z hz hn u, fun u => conv_zs u n⟩
theorem s1 : ((167772161 : UInt32).toNat : Int) = 167772161 := by simp
theorem s2 : ((167772162 : UInt32).toNat : Int) = 167772162 := by simp
def ipz (Z : ByteArray) : Ip := ⟨0, 0, false, false, 0, 64, 6, 167772161, 167772162, Z⟩
def sgz (P : Int) (Z : ByteArray) : Sg := ⟨P, 80, 0, 0, 0, 0, Z⟩
theorem ip0_v : ipV (ip0 6) = #[.int .i64 0, .int .i64 0, .bool false, .bool false, .int .i64 0, .int .i64 64, .int .i64 6, .int .u32 167772161, .int .u32 167772162, .string ⟨#[]⟩] := by
  unfold ipV ip0
  rw [s1, s2]
theorem ipz_v (Z : ByteArray) : ipV (ipz Z) = #[.int .i64 0, .int .i64 0, .bool false, .bool false, .int .i64 0, .int .i64 64, .int .i64 6, .int .u32 167772161, .int .u32 167772162, .string Z] := by
  unfold ipV ipz
  rw [s1, s2]
theorem ipb_v (Z : ByteArray) : ipV (ipz Z).back = #[.int .i64 0, .int .i64 0, .bool false, .bool false, .int .i64 0, .int .i64 64, .int .i64 6, .int .u32 167772162, .int .u32 167772161, .string ⟨#[]⟩] := by
  unfold ipV ipz Ip.back
  rw [s1, s2]
theorem ipo_v (Z : ByteArray) : ipV (ipz Z).on = #[.int .i64 0, .int .i64 0, .bool false, .bool false, .int .i64 0, .int .i64 64, .int .i64 6, .int .u32 167772161, .int .u32 167772162, .string ⟨#[]⟩] := by
  unfold ipV ipz Ip.on
  rw [s1, s2]
theorem et0_v : etV et0 = #[.int .u8 0, .int .u8 0, .int .u8 0, .int .u8 0, .int .u8 0, .int .u8 2, .int .u8 0, .int .u8 0, .int .u8 0, .int .u8 0, .int .u8 0, .int .u8 1, .int .i64 2048] := rfl
theorem etb_v : etV et0.back = #[.int .u8 0, .int .u8 0, .int .u8 0, .int .u8 0, .int .u8 0, .int .u8 1, .int .u8 0, .int .u8 0, .int .u8 0, .int .u8 0, .int .u8 0, .int .u8 2, .int .i64 2048] := rfl
theorem sgz_v (P : Int) (Z : ByteArray) : sgV (sgz P Z) = #[.int .i64 P, .int .i64 80, .int .u32 0, .int .u32 0, .int .i64 0, .int .i64 0, .string Z] := rfl
theorem ipz_may (Z : ByteArray) (h1 : Z.size ≤ 40) (h2 : Z.size % 4 = 0) : (ipz Z).May := ⟨(ip0_may 6 (by omega)).1, (ip0_may 6 (by omega)).2.1, (ip0_may 6 (by omega)).2.2.1, (ip0_may 6 (by omega)).2.2.2.1, (ip0_may 6 (by omega)).2.2.2.2.1, (ip0_may 6 (by omega)).2.2.2.2.2.1, h1, h2⟩
theorem rb_may (P : Int) (Z : ByteArray) (seq ack : UInt32) (h : 0 ≤ P ∧ P ≤ 65535) : ((sgz P Z).reset true seq ack).May := ⟨⟨show (0 : Int) ≤ 80 from by decide, show (80 : Int) ≤ 65535 from by decide⟩, h, ⟨show (0 : Int) ≤ 0 from by decide, show (0 : Int) ≤ 65535 from by decide⟩, ⟨show (0 : Int) ≤ 20 from by decide, show (20 : Int) ≤ 63 from by decide⟩, show (0 : Nat) ≤ 40 from by decide, show (0 : Nat) % 4 = 0 from by decide⟩
theorem ro_may (P : Int) (Z : ByteArray) (seq ack : UInt32) (h : 0 ≤ P ∧ P ≤ 65535) : ((sgz P Z).reset false seq ack).May := ⟨h, ⟨show (0 : Int) ≤ 80 from by decide, show (80 : Int) ≤ 65535 from by decide⟩, ⟨show (0 : Int) ≤ 0 from by decide, show (0 : Int) ≤ 65535 from by decide⟩, ⟨show (0 : Int) ≤ 20 from by decide, show (20 : Int) ≤ 63 from by decide⟩, show (0 : Nat) ≤ 40 from by decide, show (0 : Nat) % 4 = 0 from by decide⟩
theorem sb_v (P : Int) (Z : ByteArray) (seq ack : UInt32) : sgV ((sgz P Z).reset true seq ack) = #[.int .i64 80, .int .i64 P, .int .u32 (seq.toNat : Int), .int .u32 (ack.toNat : Int), .int .i64 20, .int .i64 0, .string ⟨#[]⟩] := rfl
theorem so_v (P : Int) (Z : ByteArray) (seq ack : UInt32) : sgV ((sgz P Z).reset false seq ack) = #[.int .i64 P, .int .i64 80, .int .u32 (seq.toNat : Int), .int .u32 (ack.toNat : Int), .int .i64 20, .int .i64 0, .string ⟨#[]⟩] := rfl
theorem facts_true (P : Int) (Z : ByteArray) (seq ack : UInt32) (hP : 0 ≤ P ∧ P ≤ 65535) (h1 : Z.size ≤ 40) (h2 : Z.size % 4 = 0) : ∃ D q t : ByteArray,
    (∀ w : World, Calls Try.prog 17 #[.agg #[.int .u8 0, .int .u8 0, .int .u8 0, .int .u8 0, .int .u8 0, .int .u8 2, .int .u8 0, .int .u8 0, .int .u8 0, .int .u8 0, .int .u8 0, .int .u8 1, .int .i64 2048], .agg #[.int .i64 0, .int .i64 0, .bool false, .bool false, .int .i64 0, .int .i64 64, .int .i64 6, .int .u32 167772161, .int .u32 167772162, .string Z], .agg #[.int .i64 P, .int .i64 80, .int .u32 0, .int .u32 0, .int .i64 0, .int .i64 0, .string Z], .int .u32 (seq.toNat : Int), .int .u32 (ack.toNat : Int), .bool true] w fun r w' => r = .returned (.string D) ∧ Below w.heap.size w w') ∧
    (∀ w : World, Calls Try.prog 23 #[.string D] w fun r w' => r = .returned (.tuple #[.agg #[.int .u8 0, .int .u8 0, .int .u8 0, .int .u8 0, .int .u8 0, .int .u8 1, .int .u8 0, .int .u8 0, .int .u8 0, .int .u8 0, .int .u8 0, .int .u8 2, .int .i64 2048], .string q, .int .i64 0]) ∧ Below w.heap.size w w') ∧
    (∀ w : World, Calls Try.prog 24 #[.string q] w fun r w' => r = .returned (.tuple #[.agg #[.int .i64 0, .int .i64 0, .bool false, .bool false, .int .i64 0, .int .i64 64, .int .i64 6, .int .u32 167772162, .int .u32 167772161, .string ⟨#[]⟩], .string t, .int .i64 0]) ∧ Below w.heap.size w w') ∧
    (∀ w : World, Calls Try.prog 25 #[.int .u32 167772162, .int .u32 167772161, .string t] w fun r w' => r = .returned (.tuple #[.agg #[.int .i64 80, .int .i64 P, .int .u32 (seq.toNat : Int), .int .u32 (ack.toNat : Int), .int .i64 20, .int .i64 0, .string ⟨#[]⟩], .string ⟨#[]⟩, .int .i64 0]) ∧ Below w.heap.size w w') ∧ (D.size : Int) = 54 := by
  have hi := ipBack_may _ (ipz_may Z h1 h2)
  have hs := rb_may P Z seq ack hP
  have hx : Rese et0 (ipz Z) (sgz P Z) seq ack true _ := segm_ok et0.back (ipz Z).back ((sgz P Z).reset true seq ack) ⟨#[]⟩ hi hs (show 20 + 0 + 0 ≤ 2000 from by decide)
  have a := fun w => crRese hx w
  have b := fun w => crEth_get et0.back ((ipz Z).back.put (((sgz P Z).reset true seq ack).put (ipz Z).back.src (ipz Z).back.dst ⟨#[]⟩)) w (by decide) (by decide) (by rw [put_size, sgPut_size]; show 20 + 0 + (20 + 0 + 0) ≤ 2900; decide)
  have c := fun w => back_self (ipz Z).back (((sgz P Z).reset true seq ack).put (ipz Z).back.src (ipz Z).back.dst ⟨#[]⟩) w hi (by rw [sgPut_size]; show 20 + 0 + 0 ≤ 2000; decide)
  have d := fun w => tcGet_put ((sgz P Z).reset true seq ack) (ipz Z).back.src (ipz Z).back.dst ⟨#[]⟩ w hs (show 20 + 0 + 0 ≤ 2000 from by decide)
  have hD : (et0.back.put ((ipz Z).back.put (((sgz P Z).reset true seq ack).put (ipz Z).back.src (ipz Z).back.dst ⟨#[]⟩))).size = 54 := by
    rw [etPut_size, put_size, sgPut_size]
    rfl
  rw [et0_v, ipz_v, sgz_v] at a
  rw [etb_v] at b
  rw [ipb_v] at c
  have es : ((ipz Z).back.src.toNat : Int) = 167772162 := s2
  have ed : ((ipz Z).back.dst.toNat : Int) = 167772161 := s1
  rw [sb_v, es, ed] at d
  exact ⟨_, _, _, a, b, c, d, by rw [hD]; rfl⟩
theorem facts_false (P : Int) (Z : ByteArray) (seq ack : UInt32) (hP : 0 ≤ P ∧ P ≤ 65535) (h1 : Z.size ≤ 40) (h2 : Z.size % 4 = 0) : ∃ D q t : ByteArray,
    (∀ w : World, Calls Try.prog 17 #[.agg #[.int .u8 0, .int .u8 0, .int .u8 0, .int .u8 0, .int .u8 0, .int .u8 2, .int .u8 0, .int .u8 0, .int .u8 0, .int .u8 0, .int .u8 0, .int .u8 1, .int .i64 2048], .agg #[.int .i64 0, .int .i64 0, .bool false, .bool false, .int .i64 0, .int .i64 64, .int .i64 6, .int .u32 167772161, .int .u32 167772162, .string Z], .agg #[.int .i64 P, .int .i64 80, .int .u32 0, .int .u32 0, .int .i64 0, .int .i64 0, .string Z], .int .u32 (seq.toNat : Int), .int .u32 (ack.toNat : Int), .bool false] w fun r w' => r = .returned (.string D) ∧ Below w.heap.size w w') ∧
    (∀ w : World, Calls Try.prog 23 #[.string D] w fun r w' => r = .returned (.tuple #[.agg #[.int .u8 0, .int .u8 0, .int .u8 0, .int .u8 0, .int .u8 0, .int .u8 2, .int .u8 0, .int .u8 0, .int .u8 0, .int .u8 0, .int .u8 0, .int .u8 1, .int .i64 2048], .string q, .int .i64 0]) ∧ Below w.heap.size w w') ∧
    (∀ w : World, Calls Try.prog 24 #[.string q] w fun r w' => r = .returned (.tuple #[.agg #[.int .i64 0, .int .i64 0, .bool false, .bool false, .int .i64 0, .int .i64 64, .int .i64 6, .int .u32 167772161, .int .u32 167772162, .string ⟨#[]⟩], .string t, .int .i64 0]) ∧ Below w.heap.size w w') ∧
    (∀ w : World, Calls Try.prog 25 #[.int .u32 167772161, .int .u32 167772162, .string t] w fun r w' => r = .returned (.tuple #[.agg #[.int .i64 P, .int .i64 80, .int .u32 (seq.toNat : Int), .int .u32 (ack.toNat : Int), .int .i64 20, .int .i64 0, .string ⟨#[]⟩], .string ⟨#[]⟩, .int .i64 0]) ∧ Below w.heap.size w w') ∧ (D.size : Int) = 54 := by
  have hi := ipOn_may _ (ipz_may Z h1 h2)
  have hs := ro_may P Z seq ack hP
  have hx : Rese et0 (ipz Z) (sgz P Z) seq ack false _ := segm_ok et0 (ipz Z).on ((sgz P Z).reset false seq ack) ⟨#[]⟩ hi hs (show 20 + 0 + 0 ≤ 2000 from by decide)
  have a := fun w => crRese hx w
  have b := fun w => crEth_get et0 ((ipz Z).on.put (((sgz P Z).reset false seq ack).put (ipz Z).on.src (ipz Z).on.dst ⟨#[]⟩)) w (by decide) (by decide) (by rw [put_size, sgPut_size]; show 20 + 0 + (20 + 0 + 0) ≤ 2900; decide)
  have c := fun w => back_self (ipz Z).on (((sgz P Z).reset false seq ack).put (ipz Z).on.src (ipz Z).on.dst ⟨#[]⟩) w hi (by rw [sgPut_size]; show 20 + 0 + 0 ≤ 2000; decide)
  have d := fun w => tcGet_put ((sgz P Z).reset false seq ack) (ipz Z).on.src (ipz Z).on.dst ⟨#[]⟩ w hs (show 20 + 0 + 0 ≤ 2000 from by decide)
  have hD : (et0.put ((ipz Z).on.put (((sgz P Z).reset false seq ack).put (ipz Z).on.src (ipz Z).on.dst ⟨#[]⟩))).size = 54 := by
    rw [etPut_size, put_size, sgPut_size]
    rfl
  rw [et0_v, ipz_v, sgz_v] at a
  rw [et0_v] at b
  rw [ipo_v] at c
  have es : ((ipz Z).on.src.toNat : Int) = 167772161 := s1
  have ed : ((ipz Z).on.dst.toNat : Int) = 167772162 := s2
  rw [so_v, es, ed] at d
  exact ⟨_, _, _, a, b, c, d, by rw [hD]; rfl⟩
theorem place_k (v : Int) : ∃ (K m : Int) (n : Nat), (∀ w : World, Calls Try.prog 26 #[.int .i64 v, .int .i64 11] w fun r w' => r = .returned (.int .i64 K) ∧ w = w') ∧ wrap64 (4 * K) = m ∧ m = (n : Int) ∧ n ≤ 40 ∧ n % 4 = 0 := by
  have h0 := Int.emod_nonneg v (show (11 : Int) ≠ 0 from by decide)
  have h1 := Int.emod_lt_of_pos v (show (0 : Int) < 11 from by decide)
  refine ⟨v % 11, 4 * (v % 11), (4 * (v % 11)).toNat, fun w => place_any v 11 w (by decide) (by decide), by unfold wrap64; omega, by omega, by omega, by omega⟩
theorem place_p (v : Int) : ∃ P : Int, (∀ w : World, Calls Try.prog 26 #[.int .i64 v, .int .i64 65536] w fun r w' => r = .returned (.int .i64 P) ∧ w = w') ∧ 0 ≤ P ∧ P ≤ 65535 := by
  have h0 := Int.emod_nonneg v (show (65536 : Int) ≠ 0 from by decide)
  have h1 := Int.emod_lt_of_pos v (show (0 : Int) < 65536 from by decide)
  exact ⟨v % 65536, fun w => place_any v 65536 w (by decide) (by decide), h0, by omega⟩
set_option maxRecDepth 100000 in
set_option maxHeartbeats 4000000 in
theorem walk_true (port : Int) (seq ack : UInt32) (opts : Int) (w : World) :
    Calls Try.prog 5 #[.int .i64 port, .int .u32 (seq.toNat : Int), .int .u32 (ack.toNat : Int), .bool true, .int .i64 opts] w fun e w' => e = .returned (.bool true) ∧ Below w.heap.size w w' := by
  obtain ⟨K, m, k, cK, hm, hmk, hk1, hk2⟩ := place_k opts
  obtain ⟨P, cP, hP⟩ := place_p port
  obtain ⟨Z, M, hZ, mk, cv⟩ := made k m hmk (by omega)
  obtain ⟨D, q, t, cu, ce, ci, ct, hD⟩ := facts_true P Z seq ack hP (by omega) (by omega)
  have c0 := fun w => lawEth_0 w
  rw [et0_v] at c0
  have c1 := fun w => lawIP_0 6 w
  rw [ip0_v] at c1
  have ca := fun w => crAwake_any w
  clear hmk hk1 hk2 hZ hP
  go_enter Try.func5, Try.ntmps5
  go_wp2_with fail
  refine (cP _).mono ?_
  rintro e w' ⟨rfl, rfl⟩
  go_wp2_with fail
  refine (cK _).mono ?_
  rintro e w' ⟨rfl, rfl⟩
  have OS := Own.new (below1 w (.cells M 5)) #[.int .i64 P, .int .i64 80, .int .u32 0, .int .u32 0, .int .i64 0, .int .i64 0, .string Z] 29
  simp only [World.size_alloc] at OS
  have HOS := (show Hid _ from OS)
  clear OS cP cK
  go_wp2_with fail
  refine (c1 _).mono ?_
  rintro e w1 ⟨rfl, hb1⟩
  have S1 := (show Hid _ from HOS.out.below hb1)
  have q1 := S1.out.q
  have z1 := S1.out.z
  have S2 := (show Hid _ from S1.out.alloc (.cells #[.int .i64 0, .int .i64 0, .bool false, .bool false, .int .i64 0, .int .i64 64, .int .i64 6, .int .u32 167772161, .int .u32 167772162, .string Z] 27))
  have I2 := (show Hid _ from Own.new S1.out.hb #[.int .i64 0, .int .i64 0, .bool false, .bool false, .int .i64 0, .int .i64 64, .int .i64 6, .int .u32 167772161, .int .u32 167772162, .string Z] 27)
  clear hb1 c1 HOS mk cv S1
  go_upto_region 4 with fail
  generalize w1.alloc _ = W2 at *
  have q2 := S2.out.q
  have z2 := S2.out.z
  have r2 := I2.out.q
  have y2 := I2.out.z
  clear q1 z1
  have hcl := Cls.cell (w := W2)
  refine wp_region_calm (by kernel_rfl) (by kernel_rfl) (fun hne => ?_)
  repeat (go_big_quiet_step (first | (go_at_call 28; exact calm_of (c0 _)) | (go_at_call 17; exact calm_of (cu _))))
  refine wpQuiet_nil ?_
  rintro _ ⟨x, rfl⟩
  have S3 := (show Hid _ from S2.out.below x.bel)
  have I3 := (show Hid _ from I2.out.below x.bel)
  generalize x.val = W3 at *
  clear hne hcl q2 z2 r2 y2 S2 I2 c0 cu
  go_wp2_with fail
  refine (ce _).mono ?_
  rintro e w4 ⟨rfl, hb4⟩
  have S4 := (show Hid _ from (S3.out.below hb4).alloc (.cells #[.int .u8 0, .int .u8 0, .int .u8 0, .int .u8 0, .int .u8 0, .int .u8 1, .int .u8 0, .int .u8 0, .int .u8 0, .int .u8 0, .int .u8 0, .int .u8 2, .int .i64 2048] 24))
  have I4 := (show Hid _ from (I3.out.below hb4).alloc (.cells #[.int .u8 0, .int .u8 0, .int .u8 0, .int .u8 0, .int .u8 0, .int .u8 1, .int .u8 0, .int .u8 0, .int .u8 0, .int .u8 0, .int .u8 0, .int .u8 2, .int .i64 2048] 24))
  have E4 := (show Hid _ from Own.new (S3.out.below hb4).hb #[.int .u8 0, .int .u8 0, .int .u8 0, .int .u8 0, .int .u8 0, .int .u8 1, .int .u8 0, .int .u8 0, .int .u8 0, .int .u8 0, .int .u8 0, .int .u8 2, .int .i64 2048] 24)
  clear hb4 S3 I3 ce
  go_wp2_with fail
  refine (ci _).mono ?_
  rintro e w5 ⟨rfl, hb5⟩
  have S5 := (show Hid _ from (S4.out.below hb5).alloc (.cells #[.int .i64 0, .int .i64 0, .bool false, .bool false, .int .i64 0, .int .i64 64, .int .i64 6, .int .u32 167772162, .int .u32 167772161, .string ⟨#[]⟩] 27))
  have I5 := (show Hid _ from (I4.out.below hb5).alloc (.cells #[.int .i64 0, .int .i64 0, .bool false, .bool false, .int .i64 0, .int .i64 64, .int .i64 6, .int .u32 167772162, .int .u32 167772161, .string ⟨#[]⟩] 27))
  have E5 := (show Hid _ from (E4.out.below hb5).alloc (.cells #[.int .i64 0, .int .i64 0, .bool false, .bool false, .int .i64 0, .int .i64 64, .int .i64 6, .int .u32 167772162, .int .u32 167772161, .string ⟨#[]⟩] 27))
  have J5 := (show Hid _ from Own.new (S4.out.below hb5).hb #[.int .i64 0, .int .i64 0, .bool false, .bool false, .int .i64 0, .int .i64 64, .int .i64 6, .int .u32 167772162, .int .u32 167772161, .string ⟨#[]⟩] 27)
  clear hb5 S4 I4 E4 ci
  go_wp2_with fail
  refine (ct _).mono ?_
  rintro e w6 ⟨rfl, hb6⟩
  have S6 := S5.out.below hb6
  have I6 := I5.out.below hb6
  have E6 := E5.out.below hb6
  have J6 := J5.out.below hb6
  have qs := S6.q
  have zs := S6.z
  have qi := I6.q
  have zi := I6.z
  have qe := E6.q
  have ze := E6.z
  have qj := J6.q
  have zj := J6.z
  have B6 := (show Hid _ from below_after S6.hb (below1 w6 (.cells #[.int .i64 80, .int .i64 P, .int .u32 (seq.toNat : Int), .int .u32 (ack.toNat : Int), .int .i64 20, .int .i64 0, .string ⟨#[]⟩] 29)))
  clear hb6 S5 I5 E5 J5 S6 I6 E6 J6 ct
  go_wp2_with fail
  refine (ca _).mono ?_
  rintro e w8 ⟨rfl, hb8⟩
  have B8 := (show Hid _ from below_after B6.out hb8)
  clear hb8 B6 qs zs qi zi qe ze qj zj
  go_wp2_with fail
  go_ret
  exact ⟨rfl, B8.out⟩
set_option maxRecDepth 100000 in
set_option maxHeartbeats 4000000 in
theorem walk_false (port : Int) (seq ack : UInt32) (opts : Int) (w : World) :
    Calls Try.prog 5 #[.int .i64 port, .int .u32 (seq.toNat : Int), .int .u32 (ack.toNat : Int), .bool false, .int .i64 opts] w fun e w' => e = .returned (.bool true) ∧ Below w.heap.size w w' := by
  obtain ⟨K, m, k, cK, hm, hmk, hk1, hk2⟩ := place_k opts
  obtain ⟨P, cP, hP⟩ := place_p port
  obtain ⟨Z, M, hZ, mk, cv⟩ := made k m hmk (by omega)
  obtain ⟨D, q, t, cu, ce, ci, ct, hD⟩ := facts_false P Z seq ack hP (by omega) (by omega)
  have c0 := fun w => lawEth_0 w
  rw [et0_v] at c0
  have c1 := fun w => lawIP_0 6 w
  rw [ip0_v] at c1
  have ca := fun w => crAwake_any w
  clear hmk hk1 hk2 hZ hP
  go_enter Try.func5, Try.ntmps5
  go_wp2_with fail
  refine (cP _).mono ?_
  rintro e w' ⟨rfl, rfl⟩
  go_wp2_with fail
  refine (cK _).mono ?_
  rintro e w' ⟨rfl, rfl⟩
  have OS := Own.new (below1 w (.cells M 5)) #[.int .i64 P, .int .i64 80, .int .u32 0, .int .u32 0, .int .i64 0, .int .i64 0, .string Z] 29
  simp only [World.size_alloc] at OS
  have HOS := (show Hid _ from OS)
  clear OS cP cK
  go_wp2_with fail
  refine (c1 _).mono ?_
  rintro e w1 ⟨rfl, hb1⟩
  have S1 := (show Hid _ from HOS.out.below hb1)
  have q1 := S1.out.q
  have z1 := S1.out.z
  have S2 := (show Hid _ from S1.out.alloc (.cells #[.int .i64 0, .int .i64 0, .bool false, .bool false, .int .i64 0, .int .i64 64, .int .i64 6, .int .u32 167772161, .int .u32 167772162, .string Z] 27))
  have I2 := (show Hid _ from Own.new S1.out.hb #[.int .i64 0, .int .i64 0, .bool false, .bool false, .int .i64 0, .int .i64 64, .int .i64 6, .int .u32 167772161, .int .u32 167772162, .string Z] 27)
  clear hb1 c1 HOS mk cv S1
  go_upto_region 4 with fail
  generalize w1.alloc _ = W2 at *
  have q2 := S2.out.q
  have z2 := S2.out.z
  have r2 := I2.out.q
  have y2 := I2.out.z
  clear q1 z1
  have hcl := Cls.cell (w := W2)
  refine wp_region_calm (by kernel_rfl) (by kernel_rfl) (fun hne => ?_)
  repeat (go_big_quiet_step (first | (go_at_call 28; exact calm_of (c0 _)) | (go_at_call 17; exact calm_of (cu _))))
  refine wpQuiet_nil ?_
  rintro _ ⟨x, rfl⟩
  have S3 := (show Hid _ from S2.out.below x.bel)
  have I3 := (show Hid _ from I2.out.below x.bel)
  generalize x.val = W3 at *
  clear hne hcl q2 z2 r2 y2 S2 I2 c0 cu
  go_wp2_with fail
  refine (ce _).mono ?_
  rintro e w4 ⟨rfl, hb4⟩
  have S4 := (show Hid _ from (S3.out.below hb4).alloc (.cells #[.int .u8 0, .int .u8 0, .int .u8 0, .int .u8 0, .int .u8 0, .int .u8 2, .int .u8 0, .int .u8 0, .int .u8 0, .int .u8 0, .int .u8 0, .int .u8 1, .int .i64 2048] 24))
  have I4 := (show Hid _ from (I3.out.below hb4).alloc (.cells #[.int .u8 0, .int .u8 0, .int .u8 0, .int .u8 0, .int .u8 0, .int .u8 2, .int .u8 0, .int .u8 0, .int .u8 0, .int .u8 0, .int .u8 0, .int .u8 1, .int .i64 2048] 24))
  have E4 := (show Hid _ from Own.new (S3.out.below hb4).hb #[.int .u8 0, .int .u8 0, .int .u8 0, .int .u8 0, .int .u8 0, .int .u8 2, .int .u8 0, .int .u8 0, .int .u8 0, .int .u8 0, .int .u8 0, .int .u8 1, .int .i64 2048] 24)
  clear hb4 S3 I3 ce
  go_wp2_with fail
  refine (ci _).mono ?_
  rintro e w5 ⟨rfl, hb5⟩
  have S5 := (show Hid _ from (S4.out.below hb5).alloc (.cells #[.int .i64 0, .int .i64 0, .bool false, .bool false, .int .i64 0, .int .i64 64, .int .i64 6, .int .u32 167772161, .int .u32 167772162, .string ⟨#[]⟩] 27))
  have I5 := (show Hid _ from (I4.out.below hb5).alloc (.cells #[.int .i64 0, .int .i64 0, .bool false, .bool false, .int .i64 0, .int .i64 64, .int .i64 6, .int .u32 167772161, .int .u32 167772162, .string ⟨#[]⟩] 27))
  have E5 := (show Hid _ from (E4.out.below hb5).alloc (.cells #[.int .i64 0, .int .i64 0, .bool false, .bool false, .int .i64 0, .int .i64 64, .int .i64 6, .int .u32 167772161, .int .u32 167772162, .string ⟨#[]⟩] 27))
  have J5 := (show Hid _ from Own.new (S4.out.below hb5).hb #[.int .i64 0, .int .i64 0, .bool false, .bool false, .int .i64 0, .int .i64 64, .int .i64 6, .int .u32 167772161, .int .u32 167772162, .string ⟨#[]⟩] 27)
  clear hb5 S4 I4 E4 ci
  go_wp2_with fail
  refine (ct _).mono ?_
  rintro e w6 ⟨rfl, hb6⟩
  have S6 := S5.out.below hb6
  have I6 := I5.out.below hb6
  have E6 := E5.out.below hb6
  have J6 := J5.out.below hb6
  have qs := S6.q
  have zs := S6.z
  have qi := I6.q
  have zi := I6.z
  have qe := E6.q
  have ze := E6.z
  have qj := J6.q
  have zj := J6.z
  have B6 := (show Hid _ from below_after S6.hb (below1 w6 (.cells #[.int .i64 P, .int .i64 80, .int .u32 (seq.toNat : Int), .int .u32 (ack.toNat : Int), .int .i64 20, .int .i64 0, .string ⟨#[]⟩] 29)))
  clear hb6 S5 I5 E5 J5 S6 I6 E6 J6 ct
  go_wp2_with fail
  refine (ca _).mono ?_
  rintro e w8 ⟨rfl, hb8⟩
  have B8 := (show Hid _ from below_after B6.out hb8)
  clear hb8 B6 qs zs qi zi qe ze qj zj
  go_wp2_with fail
  go_ret
  exact ⟨rfl, B8.out⟩

theorem walk (port : Int) (w1 : (Lit.int .i64 port).wf = true) (seq ack : UInt32) (back : Bool) (opts : Int) (w2 : (Lit.int .i64 opts).wf = true) (w : World) :
    Calls Try.prog 5 #[.int .i64 port, .int .u32 (seq.toNat : Int), .int .u32 (ack.toNat : Int), .bool back, .int .i64 opts] w fun e w' => e = .returned (.bool true) ∧ Below w.heap.size w w' := by
  cases back
  · exact walk_false port seq ack opts w
  · exact walk_true port seq ack opts w

/-! ### THE ROW's STEP -/
set_option maxRecDepth 100000 in
theorem lifted (os : Os) (started : os.Started) (H : Type) (enc : TypeId × Value → H) :
    ReturnsInHanded {} Try.checked os 5 .any (Rows.craftResetsSpec.pre6 enc Try.prog Try.f5 Rows.craftResetsRow.domain false) (Rows.craftResetsSpec.post enc Try.prog Try.f5 false true false false) := by
  refine returnsInHanded_of_change (C := Try.checked) own started (by kernel_rfl) Try.func5
    (ChangeSpec.witness6 (enc := enc) (C := Try.checked) false ⟨#[], #[.int .i64 0, .int .u32 0, .int .u32 0, .bool false, .int .i64 0], []⟩ 8 (by kernel_rfl) (by kernel_rfl) (by kernel_rfl) (by kernel_rfl)) ?_
  intro W base args ds gs before hval0 hW hcnd _
  have hval : ∀ (j : Nat) t v, Try.f5.params[j]? = some t → args[j]? = some v → Value.okWide Try.prog W .any base t v := hval0
  have hW' := hW
  obtain ⟨p, q, hA0, hV, rfl, hfz, hnd⟩ := hW
  have hA : DataW.TrodAll enc Try.prog W 0 (fun _ => true) true Try.f5.params.toList args.toList ds p := hA0
  have hB := fun (W' : World) (bel : Below W.heap.size W W') => below_trodAll_of laidOut bel _ (by kernel_rfl) hA
  rw [Try.params5] at hA hval
  obtain ⟨v0, vs0, d0, ds0, p0, q0, hargs, rfl, rfl, h0, r0⟩ := trodAll_cons hA
  obtain ⟨v1, vs1, d1, ds1, p1, q1, rfl, rfl, rfl, h1, r1⟩ := trodAll_cons r0
  obtain ⟨v2, vs2, d2, ds2, p2, q2, rfl, rfl, rfl, h2, r2⟩ := trodAll_cons r1
  obtain ⟨v3, vs3, d3, ds3, p3, q3, rfl, rfl, rfl, h3, r3⟩ := trodAll_cons r2
  obtain ⟨v4, vs4, d4, ds4, p4, q4, rfl, rfl, rfl, h4, r4⟩ := trodAll_cons r3
  obtain ⟨rfl, rfl, rfl⟩ := trodAll_nil r4
  obtain rfl : args = #[v0, v1, v2, v3, v4] := by cases args; simp_all
  obtain ⟨rfl, rfl⟩ := trodVars_none hV
  obtain ⟨a0, rfl, rfl, rfl, w0⟩ := open_int Try.underlying3 (hval 0 3 v0 rfl rfl) h0
  obtain ⟨a1, rfl, rfl, rfl, w1⟩ := open_int Try.underlying25 (hval 1 25 v1 rfl rfl) h1
  obtain ⟨x1, rfl⟩ := u32_lit w1
  obtain ⟨a2, rfl, rfl, rfl, w2⟩ := open_int Try.underlying25 (hval 2 25 v2 rfl rfl) h2
  obtain ⟨x2, rfl⟩ := u32_lit w2
  obtain ⟨a3, rfl, rfl, rfl⟩ := open_bool Try.underlying4 (hval 3 4 v3 rfl rfl) h3
  obtain ⟨a4, rfl, rfl, rfl, w4⟩ := open_int Try.underlying3 (hval 4 3 v4 rfl rfl) h4
  clear hA0 hval0
  refine (walk a0 w0 x1 x2 a3 a4 w4 W).mono fun e W' ⟨he, bel⟩ => ?_
  subst he
  exact ⟨_, rfl, _, _, _, [], _, [], hW', trodAll_mk1 (shut_bool Try.underlying4 _), hB W' bel, rfl, bel.frame _, fun h => by cases h⟩

theorem over : Rows.craftResetsRow.holds Try.pinned (OpenSpec.ofChange Rows.craftResetsSpec) :=
  OpenClaim.holds_of_wide 5 Try.f5 rfl rfl rfl rfl rfl rfl rfl ⟨rfl, rfl, rfl, rfl, rfl⟩ rfl rfl rfl rfl rfl (by kernel_rfl) Try.func5 (by kernel_rfl)
    (of_decide_eq_true (by kernel_rfl)) (by unfold Func.isWrapper; first | (rw [if_pos (by decide +kernel)]; kernel_rfl) | (rw [if_neg (by decide +kernel)]; exact ⟨rfl, rfl⟩))
    (fun os started H enc _ => lifted os started H enc)

/-- THE STATEMENT -/
theorem proved : Rows.CraftResetsSaid := over
#print axioms proved
end Go.Proofs.Ythfncbcnokkmiaa.craftResets
