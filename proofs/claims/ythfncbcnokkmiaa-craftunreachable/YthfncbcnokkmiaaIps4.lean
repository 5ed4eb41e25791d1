/- Contracts of layer 3: ipv4's faults and headOf. -/
import Derived.Test.YthfncbcnokkmiaaIps3
import Derived.Test.YthfncbcnokkmiaaTail
namespace Go.Proofs.Ythfncbcnokkmiaa
open Go.RowKit
set_option linter.unusedVariables false
/-- a head's fields, as Get reads them -/
theorem fields (s : ByteArray) (h : 20 ≤ s.size) : ∃ (a1 a8 a9 : UInt8) (t1 t2 t3 : ByteArray) (n1 n2 n3 z1 z2 z3 z4 S D : Int) (m k : Bool),
    s[1] = a1 ∧ s[8] = a8 ∧ s[9] = a9 ∧ s.extract 4 6 = t1 ∧ s.extract 12 16 = t2 ∧ s.extract 16 20 = t3 ∧
    bits .and .i64 ((cwL s.data.toList : Nat) : Int) 8192 = z1 ∧ (z1 != 0) = m ∧ bits .and .i64 ((cwL s.data.toList : Nat) : Int) 16384 = z2 ∧ (z2 != 0) = k ∧ bits .and .i64 ((cwL s.data.toList : Nat) : Int) 8191 = z3 ∧ wrap64 (z3 * 8) = z4 ∧
    (IntKind.u32.wrap n2 = S ∧ IntKind.u32.wrap n3 = D) ∧
    (Pl.numL (Pl.last7 t1.data.toList) = n1 ∧ Pl.numL (Pl.last7 t2.data.toList) = n2 ∧ Pl.numL (Pl.last7 t3.data.toList) = n3 ∧ t1.size = 2 ∧ t2.size = 4 ∧ t3.size = 4) ∧
    #[.int .i64 (a1.toNat : Int), .int .i64 n1, .bool m, .bool k, .int .i64 z4, .int .i64 (a8.toNat : Int), .int .i64 (a9.toNat : Int), .int .u32 S, .int .u32 D, .string (s.extract 20 (hdL s.data.toList))] = ipV (gotIp s.data.toList) := by
  have hlt := cw_bd s.data.toList
  obtain ⟨c4, c5, e4, g4, g5⟩ := bytes2 s 4 (by omega)
  obtain ⟨p0, p1, p2, p3, ep, r0, r1, r2, r3⟩ := bytes4 s 12 (by omega)
  obtain ⟨q0, q1, q2, q3, eq, v0, v1, v2, v3⟩ := bytes4 s 16 (by omega)
  have f := got_fields s.data.toList
  rw [at_eq s 1 (by omega), at_eq s 4 (by omega), at_eq s 5 (by omega), at_eq s 8 (by omega), at_eq s 9 (by omega), getD_eq s 12 (by omega), getD_eq s 13 (by omega), getD_eq s 14 (by omega), getD_eq s 15 (by omega),
    getD_eq s 16 (by omega), getD_eq s 17 (by omega), getD_eq s 18 (by omega), getD_eq s 19 (by omega), g4, g5, r0, r1, r2, r3, v0, v1, v2, v3] at f
  obtain ⟨f1, f2, f3, f4, f5, f6, f7, f8, f9, f10⟩ := f
  have b2 := num4_bd p0 p1 p2 p3
  have b3 := num4_bd q0 q1 q2 q3
  have a1 : bits .and .i64 ((cwL s.data.toList : Nat) : Int) 8192 = ((cwL s.data.toList / 8192 % 2 * 8192 : Nat) : Int) := and_bit _ 13 hlt (by decide)
  have a2 : bits .and .i64 ((cwL s.data.toList : Nat) : Int) 16384 = ((cwL s.data.toList / 16384 % 2 * 16384 : Nat) : Int) := and_bit _ 14 hlt (by decide)
  have a3 : bits .and .i64 ((cwL s.data.toList : Nat) : Int) 8191 = ((cwL s.data.toList : Nat) : Int) % 8192 := Pl.and_mask _ 13 (by decide)
  refine ⟨_, _, _, _, _, _, _, _, _, _, _, _, _, _, _, _, _, rfl, rfl, rfl, rfl, rfl, rfl, a1, rfl, a2, rfl, a3, rfl, ⟨rfl, rfl⟩, ⟨rfl, rfl, rfl, by rw [e4]; rfl, by rw [ep]; rfl, by rw [eq]; rfl⟩, ?_⟩
  unfold ipV
  rw [f1, f2, f3, f4, f5, f6, f7, f8, f9, f10, e4, ep, eq]
  rw [show (ByteArray.mk #[c4, c5]).data.toList = [c4, c5] from rfl, numL2, show (ByteArray.mk #[p0, p1, p2, p3]).data.toList = [p0, p1, p2, p3] from rfl, numL4, show (ByteArray.mk #[q0, q1, q2, q3]).data.toList = [q0, q1, q2, q3] from rfl, numL4]
  rw [u32_of _ b2.1 b2.2, u32_of _ b3.1 b3.2]
  have x1 : ∀ (n d : Nat), 0 < d → (((n % 2 * d : Nat) : Int) != 0) = decide (n % 2 = 1) := by
    intro n d hd
    have : n % 2 = 0 ∨ n % 2 = 1 := by omega
    rcases this with h | h
    · simp [h]
    · have : d ≠ 0 := by omega
      simp [h, this]
  rw [x1 _ _ (by decide), x1 _ _ (by decide)]
  have x3 : wrap64 (((cwL s.data.toList : Nat) : Int) % 8192 * 8) = ((cwL s.data.toList % 8192 * 8 : Nat) : Int) := by unfold wrap64; omega
  have x4 : (c4.toNat : Int) * 256 + (c5.toNat : Int) = ((c4.toNat * 256 + c5.toNat : Nat) : Int) := by omega
  have x5 : s.extract 20 (hdL s.data.toList) = ⟨((s.data.toList.take (hdL s.data.toList)).drop 20).toArray⟩ := by
    apply ByteArray.ext
    apply Array.ext'
    rw [ext_list]
  rw [x3, x4, x5]
abbrev faultsV : Array Value := #[.int .i64 2, .func (.func 65) #[] #[], .int .i64 3, .func (.func 66) #[] #[], .int .i64 2, .func (.func 67) #[] #[], .int .i64 3, .func (.func 68) #[] #[],
  .int .i64 2, .func (.func 69) #[] #[], .int .i64 3, .func (.func 70) #[] #[], .int .i64 5, .func (.func 72) #[] #[], .int .i64 4, .func (.func 73) #[] #[]]
set_option maxHeartbeats 400000 in
theorem faults_any (w : World) :
    Calls Try.prog 47 #[] w fun e w' => e = .returned (.slice (some ⟨w.heap.size, 0, none⟩) 8 8) ∧ w' = w.alloc (.cells faultsV 80) := by
  go_enter Try.func47, Try.ntmps47
  go_wp2
  go_ret
  exact ⟨rfl, rfl⟩
set_option maxHeartbeats 2000000 in
theorem headOf_any (s : ByteArray) (w : World) (h : 20 ≤ s.size) (hs : s.size ≤ 1000000) (h1 : 20 ≤ hdL s.data.toList) (h2 : hdL s.data.toList ≤ s.size) :
    Calls Try.prog 48 #[.string s] w fun e w' => e = .returned (.agg (ipV (gotIp s.data.toList))) ∧ Below w.heap.size w w' := by
  obtain ⟨a1, a8, a9, t1, t2, t3, n1, n2, n3, z1, z2, z3, z4, S, D, m, k, e1, e8, e9, x1, x2, x3, y1, y2, y3, y4, y5, y6, ⟨u1, u2⟩, ⟨v1, v2, v3, s1, s2, s3⟩, hV⟩ := fields s h
  rw [← hV]
  have c1 := fun w => cw_any s w (by omega)
  have c2 := fun w => hd_any s w (by omega)
  have c3 := fun w => num_any t1 w (by omega)
  have c4 := fun w => num_any t2 w (by omega)
  have c5 := fun w => num_any t3 w (by omega)
  rw [v1] at c3
  rw [v2] at c4
  rw [v3] at c5
  have l1 := cw_bd s.data.toList
  generalize cwL s.data.toList = c at *
  generalize hdL s.data.toList = q at *
  clear hV v1 v2 v3 s1 s2 s3
  have k6 : (6 : Int) ≤ (s.size : Int) := by omega
  have k16 : (16 : Int) ≤ (s.size : Int) := by omega
  have k20 : (20 : Int) ≤ (s.size : Int) := by omega
  have g1 : (1 : Int) < (s.size : Int) := by omega
  have g8 : (8 : Int) < (s.size : Int) := by omega
  have g9 : (9 : Int) < (s.size : Int) := by omega
  have kq : (q : Int) ≤ (s.size : Int) := by omega
  have kq2 : (20 : Int) ≤ (q : Int) := by omega
  have wa1 := u8_wrap a1
  have wa8 := u8_wrap a8
  have wa9 := u8_wrap a9
  go_enter Try.func48, Try.ntmps48
  go_wp2_with fail
  refine (c1 _).mono ?_
  rintro e w1 ⟨rfl, rfl⟩
  go_upto_region 2 with fail
  refine wp_region_calm_tail 34 (by kernel_rfl) (by kernel_rfl) (fun hne => ?_)
  simp only [List.take_succ_cons, List.take_zero, List.drop_succ_cons, List.drop_zero]
  repeat (go_big_quiet_step (first | (go_at_call_of 46 t1; exact calm_of_same (c3 _)) | (go_at_call_of 46 t2; exact calm_of_same (c4 _)) | (go_at_call_of 46 t3; exact calm_of_same (c5 _)) | (go_at_call 49; exact calm_of_same (c2 _))))
  refine wpQuiet_nil ?_
  rintro _ ⟨x, rfl⟩
  obtain ⟨hc2, hf2, zz2, HB2⟩ := cls_in x
  generalize x.val = w2 at *
  clear hne c1 c2 c3 c4 c5
  obtain ⟨wx, hwx, hr, HB⟩ := set_row (vs := [.int .i64 (a1.toNat : Int), .int .i64 n1, .bool m, .bool k, .int .i64 z4, .int .i64 (a8.toNat : Int), .int .i64 (a9.toNat : Int), .int .u32 S, .int .u32 D, .string (s.extract 20 q)]) hc2 HB2 rfl
  go_wp2_with fail
  change bodyPost _ _ _ _ _ (w2.setCells w.heap.size 0 [.int .i64 (a1.toNat : Int), .int .i64 n1, .bool m, .bool k, .int .i64 z4, .int .i64 (a8.toNat : Int), .int .i64 (a9.toNat : Int), .int .u32 S, .int .u32 D, .string (s.extract 20 q)])
  rw [hwx]
  exact bodyPost_ret (v := .agg #[.int .i64 (a1.toNat : Int), .int .i64 n1, .bool m, .bool k, .int .i64 z4, .int .i64 (a8.toNat : Int), .int .i64 (a9.toNat : Int), .int .u32 S, .int .u32 D, .string (s.extract 20 q)]) (by simp [results, Try.results48, go_sem, hr]) rfl ⟨rfl, HB.out⟩
end Go.Proofs.Ythfncbcnokkmiaa
