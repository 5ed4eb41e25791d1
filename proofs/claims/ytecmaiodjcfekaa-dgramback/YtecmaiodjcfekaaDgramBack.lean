/- DgramBack: for any two ends, head, body and bit, what is put as UDP and as ICMP is got; with one bit of the body turned it is none; for longer bodies the document's example holds; no condition. -/
import Derived.Test.YtecmaiodjcfekaaDgs5
import Derived.Test.YtecmaiodjcfekaaLiftDg
namespace Go.Proofs.Ytecmaiodjcfekaa.dgramBack
open Go.ChangeShapes Go.WideShapes Go.ChangeAt Go.RowKit
open Go.ChangeMaps (open_string shut_string)
set_option linter.unusedVariables false

theorem szs (b : Nat) : ∀ (vs : List Value) (o : Nat) (w : World), (w.setCells b o vs).heap.size = w.heap.size
  | [], _, _ => rfl
  | v :: r, o, w => by
    rw [World.setCells, szs b r (o + 1) _]
    simp
theorem own_row {w w2 : World} {A : Array Value} (vs : List Value) (q : ∀ o, w2.cell? ⟨w.heap.size, o, none⟩ = A[o]?) (f : ∀ o, w2.frozen? ⟨w.heap.size, o, none⟩ = false) (z : w.heap.size < w2.heap.size) (hb : Hid (Below w.heap.size w w2)) (hn : A.size = vs.length) :
    Own w (w2.setCells w.heap.size 0 vs) w.heap.size vs.toArray := by
  refine ⟨row_set q hn, fun o => by rw [frz]; exact f o, by rw [szs]; exact z, Nat.le_refl _, below_setCells (Nat.le_refl _) vs 0 w2 hb.out⟩
/-- the head that is put -/
def placed (h : Dg) : Dg := ⟨h.src % 65536, h.dst % 65536, h.kind % 256, h.code % 256, h.rest⟩
theorem placed_u (h : Dg) : (placed h).MayU := by
  unfold placed Dg.MayU
  refine ⟨⟨?_, ?_⟩, ⟨?_, ?_⟩⟩ <;> simp only [] <;> omega
theorem placed_i (h : Dg) : (placed h).MayI := by
  unfold placed Dg.MayI
  refine ⟨⟨?_, ?_⟩, ⟨?_, ?_⟩⟩ <;> simp only [] <;> omega
/-- the facts that the walk asks of a bit and of a place -/
theorem bit_facts (bit : Int) (p : Nat) (h0 : 1 ≤ p) (hp : p ≤ 2000) : ∃ j m K : Nat, bit % (8 * (p : Int)) = (K : Int) ∧ m < 8 ∧ j < p ∧ (K : Int).tdiv 8 = (j : Int) ∧ (K : Int).tmod 8 = (m : Int) := by
  have h0 := Int.emod_nonneg bit (show (8 * (p : Int)) ≠ 0 from by omega)
  have h1 := Int.emod_lt_of_pos bit (show 0 < 8 * (p : Int) from by omega)
  obtain ⟨K, hK⟩ := Int.eq_ofNat_of_zero_le h0
  refine ⟨K / 8, K % 8, K, hK, by omega, by omega, ?_, ?_⟩
  · rw [Int.tdiv_eq_ediv_of_nonneg (by omega)]; omega
  · rw [Int.tmod_eq_emod_of_nonneg (by omega)]; omega
theorem xor_turn (g : UInt8) (m : Nat) : bits .xor .u8 (g.toNat : Int) (2 ^ m % 256) = ((g ^^^ UInt8.ofNat (2 ^ m)).toNat : Int) := by
  have h := xor_u8 g (UInt8.ofNat (2 ^ m))
  rw [UInt8.toNat_ofNat'] at h
  have e : ((2 ^ m % 2 ^ 8 : Nat) : Int) = 2 ^ m % 256 := by simp
  rw [e] at h
  exact h
theorem sizes (p b : Nat) (hsz : p = 8 + b) (hb : b ≤ 1900) : wrap64 (8 + (b : Int)) = 8 + (b : Int) ∧ wrap64 (8 * (b : Int)) = 8 * (b : Int) ∧ ((p : Int) != 8 + (b : Int)) = false ∧ (p : Int) ≤ 2000 := by
  refine ⟨by unfold wrap64; omega, by unfold wrap64; omega, ?_, by omega⟩
  have e : (p : Int) = 8 + (b : Int) := by omega
  rw [e]
  simp
/-- the facts that the walk asks of a bit and of its place -/
theorem turn_facts (bit : Int) (b p q : Nat) (h0 : b ≠ 0) (hb : b ≤ 1900) (hp : p = 8 + b) (hq : q = 8 + b) : ∃ j m K J : Nat, (bit % (8 * (b : Int)) = (K : Int) ∧ (K : Int).tdiv 8 = (j : Int) ∧ (K : Int).tmod 8 = (m : Int) ∧ wrap64 (8 + (j : Int)) = (J : Int)) ∧
    (IntKind.i64.wrap (8 + (j : Int)) = (J : Int) ∧ wrap64 (j : Int) = (j : Int) ∧ IntKind.i64.wrap (j : Int) = (j : Int) ∧ (J : Int) < (p : Int) ∧ (J : Int) < (q : Int) ∧ (m : Int) < 8) ∧ (8 ≤ J ∧ J < 8 + b ∧ m < 8 ∧ J < p ∧ J < q) := by
  obtain ⟨j, m, K, hK, hm8, hj, hqd, hrm⟩ := bit_facts bit b (by omega) (by omega)
  refine ⟨j, m, K, 8 + j, ⟨hK, hqd, hrm, ?_⟩, ⟨?_, ?_, ?_, ?_, ?_, ?_⟩, ?_, ?_, hm8, ?_, ?_⟩
  all_goals clear hK hqd hrm
  · unfold wrap64; omega
  · have := Pl.wraps_i64 (8 + (j : Int)) (by omega) (by omega)
    rw [this]
    omega
  · unfold wrap64; omega
  · exact Pl.wraps_i64 (j : Int) (by omega) (by omega)
  all_goals omega
theorem set_size (p : ByteArray) (J : Nat) (x : UInt8) (h : (p.size : Int) ≤ 2000) : (⟨(p.data.toList.set J x).toArray⟩ : ByteArray).size ≤ 9223372036854775807 := by
  rw [← toList_length, ofL, List.length_set, toList_length]
  omega
/-- two texts as bytes, a bit turned in each, and back -/
theorem two_rows (w W5 : World) (a b : UInt32) (p q : ByteArray) (J m : Nat) (hw : Below w.heap.size w W5) (hp : (p.size : Int) ≤ 2000) (hq : (q.size : Int) ≤ 2000) (jp : J < p.size) (jq : J < q.size)
    (hT : badU a b (p.data.toList.set J (p.data.toList.getD J 0 ^^^ UInt8.ofNat (2 ^ m))) = 4) (hI : badI (q.data.toList.set J (q.data.toList.getD J 0 ^^^ UInt8.ofNat (2 ^ m))) = 4) :
    ∃ (W6 W7 : World) (cap1 cap2 : Nat) (g1 g2 x1 x2 : UInt8) (T1 T2 : ByteArray),
      (convert 9 36 (.string p)).run Try.prog W5 = .ok (.slice (some ⟨W5.heap.size, 0, none⟩) p.size cap1) W6 ∧
      (convert 9 36 (.string q)).run Try.prog W6 = .ok (.slice (some ⟨W6.heap.size, 0, none⟩) q.size cap2) W7 ∧
      W7.cell? ⟨W5.heap.size, J, none⟩ = some (bv g1) ∧ W7.frozen? ⟨W5.heap.size, J, none⟩ = false ∧
      (W7.setCell ⟨W5.heap.size, J, none⟩ (bv x1)).cell? ⟨W6.heap.size, J, none⟩ = some (bv g2) ∧ (W7.setCell ⟨W5.heap.size, J, none⟩ (bv x1)).frozen? ⟨W6.heap.size, J, none⟩ = false ∧
      bits .xor .u8 (g1.toNat : Int) (2 ^ m % 256) = (x1.toNat : Int) ∧ bits .xor .u8 (g2.toNat : Int) (2 ^ m % 256) = (x2.toNat : Int) ∧
      (convert 36 9 (.slice (some ⟨W5.heap.size, 0, none⟩) p.size cap1)).run Try.prog ((W7.setCell ⟨W5.heap.size, J, none⟩ (bv x1)).setCell ⟨W6.heap.size, J, none⟩ (bv x2)) = .ok (.string T1) ((W7.setCell ⟨W5.heap.size, J, none⟩ (bv x1)).setCell ⟨W6.heap.size, J, none⟩ (bv x2)) ∧
      Hid (∀ w8, Below ((W7.setCell ⟨W5.heap.size, J, none⟩ (bv x1)).setCell ⟨W6.heap.size, J, none⟩ (bv x2)).heap.size ((W7.setCell ⟨W5.heap.size, J, none⟩ (bv x1)).setCell ⟨W6.heap.size, J, none⟩ (bv x2)) w8 →
        (convert 36 9 (.slice (some ⟨W6.heap.size, 0, none⟩) q.size cap2)).run Try.prog w8 = .ok (.string T2) w8) ∧
      Hid (Below w.heap.size w ((W7.setCell ⟨W5.heap.size, J, none⟩ (bv x1)).setCell ⟨W6.heap.size, J, none⟩ (bv x2))) ∧
      (∀ w : World, Calls Try.prog 12 #[.int .u32 (a.toNat : Int), .int .u32 (b.toNat : Int), .string T1] w fun e w' => e = .returned (.tuple #[.agg dgZ, .string ⟨#[]⟩, .int .i64 4]) ∧ Below w.heap.size w w') ∧
      (∀ w : World, Calls Try.prog 14 #[.string T2] w fun e w' => e = .returned (.tuple #[.agg dgZ, .string ⟨#[]⟩, .int .i64 4]) ∧ Below w.heap.size w w') := by
  have jp' : J < p.data.toList.length := by rw [toList_length]; exact jp
  have jq' : J < q.data.toList.length := by rw [toList_length]; exact jq
  obtain ⟨W6, cap1, hconv1, R1, hb6, hz6⟩ := conv_row W5 p
  obtain ⟨W7, cap2, hconv2, R2, hb7, hz7⟩ := conv_row W6 q
  have R1' := R1.below hb7 hz6
  have hlo := hw.size
  have hne : W5.heap.size ≠ W6.heap.size := Nat.ne_of_lt hz6
  obtain ⟨ck1, fk1⟩ := R1'.at jp'
  obtain ⟨ck2, fk2⟩ := R2.at jq'
  refine ⟨W6, W7, cap1, cap2, p.data.toList.getD J 0, q.data.toList.getD J 0, _, _, _, _, hconv1, hconv2, ck1, fk1, ?_, ?_, xor_turn _ m, xor_turn _ m, ?_, ?_, ?_, fun w => udGet_wrong _ a b 4 w (set_size p J _ hp) (by rw [ofL]; exact hT) (by decide), fun w => icGet_wrong _ 4 w (set_size q J _ hq) (by rw [ofL]; exact hI) (by decide)⟩
  · rw [World.cell?_setCell_other _ _ _ _ (by simp <;> omega)]; exact ck2
  · simpa using fk2
  · exact ((R1'.set J _).other hne J _).string (by rw [List.length_set, toList_length])
  · intro w8 hb8
    exact (((R2.other (Ne.symm hne) J _).set J _).below hb8 (by simpa using hz7)).string (by rw [List.length_set, toList_length])
  · exact ((below_after (below_after hw hb6) hb7).setCell (p := ⟨W5.heap.size, J, none⟩) hlo _).setCell (p := ⟨W6.heap.size, J, none⟩) (Nat.le_trans hlo (Nat.le_of_lt hz6)) _
set_option maxRecDepth 100000 in
set_option maxHeartbeats 400000 in
theorem walk_long (a b : UInt32) (h : Dg) (body : ByteArray) (bit : Int) (w : World) (w2 : body.size ≤ 9223372036854775807) (hl : 1900 < body.size) :
    Calls Try.prog 4 #[.int .u32 (a.toNat : Int), .int .u32 (b.toNat : Int), .agg (dgV h), .string body, .int .i64 bit] w fun e w' => e = .returned (.bool true) ∧ Below w.heap.size w w' := by
  go_enter Try.func4, Try.ntmps4
  go_wp2_with fail
  refine (dgAwake_any _).mono ?_
  rintro e w1 ⟨rfl, hb1⟩
  go_wp2_with fail
  go_ret
  exact ⟨rfl, below_after (below1 _ _) hb1⟩
set_option maxRecDepth 100000 in
set_option maxHeartbeats 4000000 in
theorem walk_put (a b : UInt32) (h : Dg) (body : ByteArray) (bit : Int) (w : World) (h2 : body.size ≤ 1900) :
    Calls Try.prog 4 #[.int .u32 (a.toNat : Int), .int .u32 (b.toNat : Int), .agg (dgV h), .string body, .int .i64 bit] w fun e w' => e = .returned (.bool true) ∧ Below w.heap.size w w' := by
  have cp := fun w => putUDP_of (placed h) a b body _ _ w (fun w => udPut_ok (placed h) a b body w (placed_u h) (by omega))
  have ci := fun w => putICMP_of (placed h) body _ _ w (fun w => icPut_ok (placed h) body w (placed_i h) (by omega))
  have gp := fun w => udGet_put (placed h) a b body w (placed_u h) (by omega)
  have gi := fun w => icGet_put (placed h) body w (placed_i h) (by omega)
  have hsz := udPut_size (placed h) a b body
  have hsi := icPut_size (placed h) body
  have ht := fun j m h8 hj h8m => udPut_turned (placed h) a b body (placed_u h) (by omega) j m h8 hj h8m
  have hi := fun j m hj h8m => icPut_turned (placed h) body (by omega) j m hj h8m
  have c0 := fun w => place_any h.src 65536 w (by decide) (by decide)
  have c1 := fun w => place_any h.dst 65536 w (by decide) (by decide)
  have c2 := fun w => place_any h.kind 256 w (by decide) (by decide)
  have c3 := fun w => place_any h.code 256 w (by decide) (by decide)
  have eg : dgV (placed h) = #[.int .i64 (h.src % 65536), .int .i64 (h.dst % 65536), .int .i64 (h.kind % 256), .int .i64 (h.code % 256), .int .u32 (h.rest.toNat : Int)] := rfl
  obtain ⟨hw1, hw2, hne1, hp1⟩ := sizes _ _ hsz h2
  obtain ⟨_, _, hne2, hp2⟩ := sizes _ _ hsi h2
  generalize hp : (placed h).putU a b body = p at *
  generalize hq : (placed h).putI body = q at *
  have hcl := Cls.cell (w := w.alloc (.cells (dgV h) 24))
  go_enter Try.func4, Try.ntmps4
  go_upto_region 3 with fail
  go_cut [10] (fun s10 wx => s10 = .bool false ∧ Own w wx w.heap.size (dgV (placed h)))
  case first =>
    refine wp_region_calm_tail 15 (by kernel_rfl) (by kernel_rfl) (fun hne => ?_)
    simp only [List.take_succ_cons, List.take_zero, List.drop_succ_cons, List.drop_zero]
    repeat (go_big_quiet_step (first | (go_at_call_of 17 h.src; exact calm_of_same (c0 _)) | (go_at_call_of 17 h.dst; exact calm_of_same (c1 _)) | (go_at_call_of 17 h.kind; exact calm_of_same (c2 _)) | (go_at_call_of 17 h.code; exact calm_of_same (c3 _))))
    refine wpQuiet_nil ?_
    rintro _ ⟨x, rfl⟩
    obtain ⟨hc2, hf2, zz2, HB2⟩ := cls_in x
    generalize x.val = w2 at *
    have OW := (show Hid _ from own_row [.int .i64 (h.src % 65536), .int .i64 (h.dst % 65536), .int .i64 (h.kind % 256), .int .i64 (h.code % 256), .int .u32 (h.rest.toNat : Int)] hc2 hf2 zz2 HB2 rfl)
    clear hne hcl c0 c1 c2 c3 cp ci gp gi HB2
    go_wp2_with fail
    go_meet
    exact ⟨rfl, OW.out⟩
  case rest =>
  obtain ⟨rfl, O1'⟩ := hcut
  have O1 := (show Hid _ from O1')
  have q0 := O1'.q
  have z0 := O1'.z
  clear O1' hcl c0 c1 c2 c3 eg hp hq
  generalize placed h = g at *
  have eu : dgV g.udp = #[.int .i64 g.src, .int .i64 g.dst, .int .i64 0, .int .i64 0, .int .u32 0] := rfl
  have ei : dgV g.icmp = #[.int .i64 0, .int .i64 0, .int .i64 g.kind, .int .i64 g.code, .int .u32 (g.rest.toNat : Int)] := rfl
  rw [eu] at gp
  rw [ei] at gi
  have HT := (show Hid _ from ht)
  have HI := (show Hid _ from hi)
  have HS := (show Hid _ from hsz)
  have HSI := (show Hid _ from hsi)
  clear ht hi hsz hsi eu ei
  go_wp2_with fail
  refine (cp _).mono ?_
  rintro e w1 ⟨rfl, hb1⟩
  have O2 := (show Hid _ from O1.out.below hb1)
  have q2 := O2.out.q
  have z2 := O2.out.z
  clear hb1 O1 q0 z0 cp
  go_wp2_with fail
  refine (ci _).mono ?_
  rintro e w2 ⟨rfl, hb2⟩
  have O3 := (show Hid _ from O2.out.below hb2)
  clear hb2 O2 q2 z2 ci
  go_wp2_with fail
  refine (gp _).mono ?_
  rintro e w3 ⟨rfl, hb3⟩
  have O4 := (show Hid _ from (O3.out.below hb3).alloc (.cells #[.int .i64 g.src, .int .i64 g.dst, .int .i64 0, .int .i64 0, .int .u32 0] 24))
  have N4 := (show Hid _ from new_alloc w3 (.cells #[.int .i64 g.src, .int .i64 g.dst, .int .i64 0, .int .i64 0, .int .u32 0] 24))
  clear hb3 O3 gp
  go_wp2_with fail
  refine (gi _).mono ?_
  rintro e w4 ⟨rfl, hb4⟩
  have O5 := (show Hid _ from (O4.out.below hb4).alloc (.cells #[.int .i64 0, .int .i64 0, .int .i64 g.kind, .int .i64 g.code, .int .u32 (g.rest.toNat : Int)] 24))
  have n5 := below_more (below_call N4.out (size_alloc1 _ _) hb4) (size_alloc1 _ _) (.cells #[.int .i64 0, .int .i64 0, .int .i64 g.kind, .int .i64 g.code, .int .u32 (g.rest.toNat : Int)] 24)
  have m5 := new_alloc w4 (.cells #[.int .i64 0, .int .i64 0, .int .i64 g.kind, .int .i64 g.code, .int .u32 (g.rest.toNat : Int)] 24)
  have q5 := O5.out.q
  obtain ⟨r5, _, _⟩ := new_in n5
  obtain ⟨t5, _, _⟩ := new_in m5
  generalize hW5 : w4.alloc _ = W5 at q5 r5 t5 O5
  have hz5 : W5.heap.size = w4.heap.size + 1 := by rw [← hW5]; simp
  clear hb4 n5 m5 O4 N4 gi
  by_cases hbz : body.size = 0
  · have hb0 : ((body.size : Int) == 0) = true := by rw [hbz]; rfl
    clear hbz
    go_wp2_with fail
    refine (dgAwake_any _).mono ?_
    rintro e w6 ⟨rfl, hb6⟩
    clear q5 r5 t5
    go_wp2_with fail
    go_ret
    exact ⟨rfl, below_after O5.out.hb hb6⟩
  have hb0 : ((body.size : Int) == 0) = false := by simpa using hbz
  go_wp2_with fail
  refine (place_any _ _ _ (by omega) (by omega)).mono ?_
  rintro e w' ⟨rfl, rfl⟩
  clear q5 r5 t5 hne1 hne2 hw1 hw2 hb0
  obtain ⟨j, m, K, J, ⟨hK, hqd, hrm, hJ1⟩, ⟨hJ2, hj1, hj2, kJ, kJ', km⟩, e8, e9, em, jp, jq⟩ := turn_facts bit body.size p.size q.size hbz h2 HS.out HSI.out
  obtain ⟨W6, W7, cap1, cap2, g1, g2, x1, x2, T1, T2, hconv1, hconv2, ck1, fk1, ck2, fk2, hx1, hx2, S1, HS2, BF, cT, cI⟩ := two_rows w W5 a b p q J m O5.out.hb hp1 hp2 jp jq (HT.out J m e8 e9 em) (HI.out J m e9 em)
  rw [hK]
  clear hbz hp1 hp2 hW5 hz5 O5 HT HI HS HSI e8 e9 em jp jq hK
  go_wp2_with fail
  refine (cT _).mono ?_
  rintro e w8 ⟨rfl, hb8⟩
  have B8 := (show Hid _ from below_after (below_after BF.out hb8) (below1 w8 (.cells dgZ 24)))
  have S2 := HS2.out _ (below_after hb8 (below1 w8 (.cells dgZ 24)))
  clear hb8 BF HS2 S1 hx1 hx2 ck1 fk1 ck2 fk2 hconv1 hconv2 hqd hrm hJ1 hJ2 hj1 hj2 kJ kJ' km cT
  go_wp2_with fail
  refine (cI _).mono ?_
  rintro e w9 ⟨rfl, hb9⟩
  have B9 := (show Hid _ from below_after (below_after B8.out hb9) (below1 w9 (.cells dgZ 24)))
  clear hb9 B8 S2 cI
  go_wp2_with fail
  refine (dgAwake_any _).mono ?_
  rintro e w10 ⟨rfl, hb10⟩
  have B10 := (show Hid _ from below_after B9.out hb10)
  clear hb10 B9
  go_wp2_with fail
  go_ret
  exact ⟨rfl, B10.out⟩

theorem walk (a b : UInt32) (h : Dg) (hw : h.Wf) (body : ByteArray) (w1 : body.size ≤ maxLen) (bit : Int) (w3 : (Lit.int .i64 bit).wf = true) (w : World) :
    Calls Try.prog 4 #[.int .u32 (a.toNat : Int), .int .u32 (b.toNat : Int), .agg (dgV h), .string body, .int .i64 bit] w fun e w' => e = .returned (.bool true) ∧ Below w.heap.size w w' := by
  unfold maxLen at w1
  by_cases h2 : body.size ≤ 1900
  case neg => exact walk_long a b h body bit w (by omega) (by omega)
  exact walk_put a b h body bit w h2

/-! ### THE ROW's STEP -/
set_option maxRecDepth 100000 in
theorem lifted (os : Os) (started : os.Started) (H : Type) (enc : TypeId × Value → H) :
    ReturnsInHanded {} Try.checked os 4 .any (Rows.dgramBackSpec.pre6 enc Try.prog Try.f4 Rows.dgramBackRow.domain false) (Rows.dgramBackSpec.post enc Try.prog Try.f4 false true false false) := by
  refine returnsInHanded_of_change (C := Try.checked) own started (by kernel_rfl) Try.func4
    (ChangeSpec.witness6 (enc := enc) (C := Try.checked) false ⟨#[], #[.int .u32 0, .int .u32 0, .agg #[.int .i64 0, .int .i64 0, .int .i64 0, .int .i64 0, .int .u32 0], .string ByteArray.empty, .int .i64 0], []⟩ 8 (by kernel_rfl) (by kernel_rfl) (by kernel_rfl) (by kernel_rfl)) ?_
  intro W base args ds gs before hval0 hW hcnd _
  have hval : ∀ (j : Nat) t v, Try.f4.params[j]? = some t → args[j]? = some v → Value.okWide Try.prog W .any base t v := hval0
  have hW' := hW
  obtain ⟨p, q, hA0, hV, rfl, hfz, hnd⟩ := hW
  have hA : DataW.TrodAll enc Try.prog W 0 (fun _ => true) true Try.f4.params.toList args.toList ds p := hA0
  have hB := fun (W' : World) (bel : Below W.heap.size W W') => below_trodAll_of laidOut bel _ (by kernel_rfl) hA
  rw [Try.params4] at hA hval
  obtain ⟨v0, vs0, d0, ds0, p0, q0, hargs, rfl, rfl, h0, r0⟩ := trodAll_cons hA
  obtain ⟨v1, vs1, d1, ds1, p1, q1, rfl, rfl, rfl, h1, r1⟩ := trodAll_cons r0
  obtain ⟨v2, vs2, d2, ds2, p2, q2, rfl, rfl, rfl, h2, r2⟩ := trodAll_cons r1
  obtain ⟨v3, vs3, d3, ds3, p3, q3, rfl, rfl, rfl, h3, r3⟩ := trodAll_cons r2
  obtain ⟨v4, vs4, d4, ds4, p4, q4, rfl, rfl, rfl, h4, r4⟩ := trodAll_cons r3
  obtain ⟨rfl, rfl, rfl⟩ := trodAll_nil r4
  obtain rfl : args = #[v0, v1, v2, v3, v4] := by cases args; simp_all
  obtain ⟨rfl, rfl⟩ := trodVars_none hV
  obtain ⟨a0, rfl, rfl, rfl, w0⟩ := open_int Try.underlying22 (hval 0 22 v0 rfl rfl) h0
  obtain ⟨x0, rfl⟩ := u32_lit w0
  obtain ⟨a1, rfl, rfl, rfl, w1⟩ := open_int Try.underlying22 (hval 1 22 v1 rfl rfl) h1
  obtain ⟨x1, rfl⟩ := u32_lit w1
  obtain ⟨g2, w2, rfl⟩ := open_dg (hval 2 24 v2 rfl rfl) h2
  obtain ⟨a3, rfl, rfl, rfl, w3⟩ := open_string Try.underlying9 (hval 3 9 v3 rfl rfl) h3
  obtain ⟨a4, rfl, rfl, rfl, w4⟩ := open_int Try.underlying3 (hval 4 3 v4 rfl rfl) h4
  clear hA0 hval0
  refine (walk x0 x1 g2 w2 a3 w3 a4 w4 W).mono fun e W' ⟨he, bel⟩ => ?_
  subst he
  exact ⟨_, rfl, _, _, _, [], _, [], hW', trodAll_mk1 (shut_bool Try.underlying4 _), hB W' bel, rfl, bel.frame _, fun h => by cases h⟩

theorem over : Rows.dgramBackRow.holds Try.pinned (OpenSpec.ofChange Rows.dgramBackSpec) :=
  OpenClaim.holds_of_wide 4 Try.f4 rfl rfl rfl rfl rfl rfl rfl ⟨rfl, rfl, rfl, rfl, rfl⟩ rfl rfl rfl rfl rfl (by kernel_rfl) Try.func4 (by kernel_rfl)
    (of_decide_eq_true (by kernel_rfl)) (by unfold Func.isWrapper; first | (rw [if_pos (by decide +kernel)]; kernel_rfl) | (rw [if_neg (by decide +kernel)]; exact ⟨rfl, rfl⟩))
    (fun os started H enc _ => lifted os started H enc)

/-- THE STATEMENT -/
theorem proved : Rows.DgramBackSaid := over
#print axioms proved
end Go.Proofs.Ytecmaiodjcfekaa.dgramBack
