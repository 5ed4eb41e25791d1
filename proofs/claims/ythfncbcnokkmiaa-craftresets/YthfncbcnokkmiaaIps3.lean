/- Contracts of layer 3: what ipv4's Get asks of bytes. -/
import Derived.Test.YthfncbcnokkmiaaIps2
namespace Go.Proofs.Ythfncbcnokkmiaa
open Go.RowKit
set_option linter.unusedVariables false

theorem hd_bd (l : List UInt8) : hdL l ≤ 60 := by unfold hdL; omega
theorem al_bd (l : List UInt8) : alL l < 65536 := by
  have h1 := (l.getD 2 0).toNat_lt
  have h2 := (l.getD 3 0).toNat_lt
  unfold alL byteAt
  omega
theorem cw_bd (l : List UInt8) : cwL l < 65536 := by
  have h1 := (l.getD 6 0).toNat_lt
  have h2 := (l.getD 7 0).toNat_lt
  unfold cwL byteAt
  omega
theorem hd_any (s : ByteArray) (w : World) (h : 1 ≤ s.size) :
    Calls Try.prog 49 #[.string s] w fun e w' => e = .returned (.int .i64 (hdL s.data.toList : Nat)) ∧ w = w' := by
  have k0 : (0 : Int) < (s.size : Int) := by omega
  obtain ⟨a, ha⟩ : ∃ a, s[0] = a := ⟨_, rfl⟩
  have hl := and_low a
  have hr : hdL s.data.toList = a.toNat % 16 * 4 := by unfold hdL; rw [at_eq s 0 (by omega), ha]
  have hw : wrap64 ((a.toNat % 16 : Nat) : Int) = ((a.toNat % 16 : Nat) : Int) := by unfold wrap64; omega
  have hw2 : wrap64 (((a.toNat % 16 : Nat) : Int) * 4) = ((a.toNat % 16 * 4 : Nat) : Int) := by unfold wrap64; omega
  rw [hr]
  clear hr
  generalize a.toNat % 16 = q at *
  go_enter Try.func49, Try.ntmps49
  go_wp2
  go_ret
  exact ⟨ret_int (by omega), rfl⟩
theorem all_any (s : ByteArray) (w : World) (h : 4 ≤ s.size) :
    Calls Try.prog 50 #[.string s] w fun e w' => e = .returned (.int .i64 (alL s.data.toList : Nat)) ∧ w = w' := by
  have k0 : (4 : Int) ≤ (s.size : Int) := by omega
  obtain ⟨a, b, he, e0, e1⟩ := bytes2 s 2 (by omega)
  have hr : alL s.data.toList = a.toNat * 256 + b.toNat := by unfold alL; rw [at_eq s 2 (by omega), at_eq s 3 (by omega), e0, e1]
  rw [hr]
  clear hr e0 e1
  go_enter Try.func50, Try.ntmps50
  go_wp2_with fail
  refine (num2 a b _).mono ?_
  rintro e w' ⟨rfl, rfl⟩
  go_wp2_with fail
  go_ret
  exact ⟨ret_int (by omega), rfl⟩
theorem cw_any (s : ByteArray) (w : World) (h : 8 ≤ s.size) :
    Calls Try.prog 71 #[.string s] w fun e w' => e = .returned (.int .i64 (cwL s.data.toList : Nat)) ∧ w = w' := by
  have k0 : (8 : Int) ≤ (s.size : Int) := by omega
  obtain ⟨a, b, he, e0, e1⟩ := bytes2 s 6 (by omega)
  have hr : cwL s.data.toList = a.toNat * 256 + b.toNat := by unfold cwL; rw [at_eq s 6 (by omega), at_eq s 7 (by omega), e0, e1]
  rw [hr]
  clear hr e0 e1
  go_enter Try.func71, Try.ntmps71
  go_wp2_with fail
  refine (num2 a b _).mono ?_
  rintro e w' ⟨rfl, rfl⟩
  go_wp2_with fail
  go_ret
  exact ⟨ret_int (by omega), rfl⟩

/-! ### the eight faults -/
theorem f1_any (s : ByteArray) (w : World) (b : Bool) (hb : decide ((s.size : Int) < 20) = b) :
    Calls Try.prog 65 #[.string s] w fun e w' => e = .returned (.bool b) ∧ w = w' := by
  go_enter Try.func65, Try.ntmps65
  go_wp2
  go_ret
  exact ⟨rfl, rfl⟩
theorem f2_any (s : ByteArray) (w : World) (b : Bool) (h : 20 ≤ s.size) (hb : decide (byteAt s.data.toList 0 / 16 ≠ 4 ∨ hdL s.data.toList < 20) = b) :
    Calls Try.prog 66 #[.string s] w fun e w' => e = .returned (.bool b) ∧ w = w' := by
  have k0 : (0 : Int) < (s.size : Int) := by omega
  obtain ⟨a, ha⟩ : ∃ a, s[0] = a := ⟨_, rfl⟩
  have hl := and_low a
  have hr : byteAt s.data.toList 0 = a.toNat := by rw [at_eq s 0 (by omega), ha]
  unfold hdL at hb
  rw [hr] at hb
  have hlt := a.toNat_lt
  clear hr
  by_cases h4 : a.toNat / 16 = 4
  · have h4' : (a.toNat : Int) / 16 = 4 := by omega
    have h5 : decide (((a.toNat % 16 : Nat) : Int) < 5) = b := by
      rw [← hb]
      simp only [h4, ne_eq, not_true_eq_false, false_or]
      apply decide_eq_decide.2
      omega
    clear hb
    generalize a.toNat % 16 = q at *
    go_enter Try.func66, Try.ntmps66
    go_wp2
    go_ret
    exact ⟨by first | rfl | (rw [← h5]; rfl), rfl⟩
  · have h4' : ((a.toNat : Int) / 16 == 4) = false := by
      apply beq_eq_false_iff_ne.2
      omega
    have hb' : b = true := by rw [← hb]; simp [h4]
    subst hb'
    clear hb
    go_enter Try.func66, Try.ntmps66
    go_wp2
    go_ret
    exact ⟨rfl, rfl⟩
theorem f3_any (s : ByteArray) (w : World) (b : Bool) (h : 20 ≤ s.size) (hb : decide (s.size < hdL s.data.toList) = b) :
    Calls Try.prog 67 #[.string s] w fun e w' => e = .returned (.bool b) ∧ w = w' := by
  have c1 := fun w => hd_any s w (by omega)
  generalize hdL s.data.toList = q at *
  go_enter Try.func67, Try.ntmps67
  go_wp2_with fail
  refine (c1 _).mono ?_
  rintro e w' ⟨rfl, rfl⟩
  go_wp2_with fail
  go_ret
  exact ⟨by first | rfl | (rw [← hb]; rfl), rfl⟩
theorem f4_any (s : ByteArray) (w : World) (b : Bool) (h : 20 ≤ s.size) (hb : decide (alL s.data.toList < hdL s.data.toList) = b) :
    Calls Try.prog 68 #[.string s] w fun e w' => e = .returned (.bool b) ∧ w = w' := by
  have c1 := fun w => hd_any s w (by omega)
  have c2 := fun w => all_any s w (by omega)
  generalize hdL s.data.toList = q at *
  generalize alL s.data.toList = r at *
  go_enter Try.func68, Try.ntmps68
  go_wp2_with fail
  refine (c2 _).mono ?_
  rintro e w' ⟨rfl, rfl⟩
  go_wp2_with fail
  refine (c1 _).mono ?_
  rintro e w' ⟨rfl, rfl⟩
  go_wp2_with fail
  go_ret
  exact ⟨by first | rfl | (rw [← hb]; rfl), rfl⟩
theorem f5_any (s : ByteArray) (w : World) (b : Bool) (h : 20 ≤ s.size) (hb : decide (s.size < alL s.data.toList) = b) :
    Calls Try.prog 69 #[.string s] w fun e w' => e = .returned (.bool b) ∧ w = w' := by
  have c2 := fun w => all_any s w (by omega)
  generalize alL s.data.toList = r at *
  go_enter Try.func69, Try.ntmps69
  go_wp2_with fail
  refine (c2 _).mono ?_
  rintro e w' ⟨rfl, rfl⟩
  go_wp2_with fail
  go_ret
  exact ⟨by first | rfl | (rw [← hb]; rfl), rfl⟩
theorem f6_any (s : ByteArray) (w : World) (b : Bool) (h : 20 ≤ s.size) (hb : decide (32768 ≤ cwL s.data.toList) = b) :
    Calls Try.prog 70 #[.string s] w fun e w' => e = .returned (.bool b) ∧ w = w' := by
  have c2 := fun w => cw_any s w (by omega)
  have hlt := cw_bd s.data.toList
  generalize cwL s.data.toList = r at *
  have ha : bits .and .i64 (r : Int) 32768 = ((r / 32768 % 2 * 32768 : Nat) : Int) := and_bit r 15 hlt (by decide)
  have hz : (((r / 32768 % 2 * 32768 : Nat) : Int) != 0) = b := by
    rw [← hb]
    by_cases h3 : 32768 ≤ r
    · have : r / 32768 % 2 = 1 := by omega
      simp [h3, this]
    · have : r / 32768 % 2 = 0 := by omega
      simp [h3, this]
  generalize ((r / 32768 % 2 * 32768 : Nat) : Int) = z at *
  clear hb
  go_enter Try.func70, Try.ntmps70
  go_wp2_with fail
  refine (c2 _).mono ?_
  rintro e w' ⟨rfl, rfl⟩
  go_wp2_with fail
  go_ret
  exact ⟨by first | rfl | (rw [← hz]; rfl), rfl⟩
theorem f7_any (s : ByteArray) (w : World) (b : Bool) (h : 20 ≤ s.size) (hb : decide ((2000 : Int) < ((alL s.data.toList : Nat) : Int) - ((hdL s.data.toList : Nat) : Int)) = b) :
    Calls Try.prog 72 #[.string s] w fun e w' => e = .returned (.bool b) ∧ w = w' := by
  have c1 := fun w => hd_any s w (by omega)
  have c2 := fun w => all_any s w (by omega)
  have l1 := hd_bd s.data.toList
  have l2 := al_bd s.data.toList
  generalize hdL s.data.toList = q at *
  generalize alL s.data.toList = r at *
  have hw : wrap64 ((r : Int) - (q : Int)) = (r : Int) - (q : Int) := by unfold wrap64; omega
  go_enter Try.func72, Try.ntmps72
  go_wp2_with fail
  refine (c2 _).mono ?_
  rintro e w' ⟨rfl, rfl⟩
  go_wp2_with fail
  refine (c1 _).mono ?_
  rintro e w' ⟨rfl, rfl⟩
  go_wp2_with fail
  go_ret
  exact ⟨by first | rfl | (rw [← hb]; rfl), rfl⟩
theorem f8_any (s : ByteArray) (w : World) (b : Bool) (h : 20 ≤ s.size) (hs : s.size ≤ 1000000) (hq : hdL s.data.toList ≤ s.size) (hb : (sumL (s.data.toList.take (hdL s.data.toList)) != 0) = b) :
    Calls Try.prog 73 #[.string s] w fun e w' => e = .returned (.bool b) ∧ Below w.heap.size w w' := by
  have c1 := fun w => hd_any s w (by omega)
  have he : (s.extract 0 (hdL s.data.toList)).data.toList = s.data.toList.take (hdL s.data.toList) := by rw [ext_list]; rfl
  rw [← he] at hb
  clear he
  generalize hdL s.data.toList = q at *
  have k1 : (q : Int) ≤ (s.size : Int) := by omega
  have hof := fun (b : Nat) (w : World) => of_one b 1 (s.extract 0 q) w (by simp; omega)
  generalize het : s.extract 0 q = t at *
  generalize sumL t.data.toList = z at *
  go_enter Try.func73, Try.ntmps73
  go_wp2_with fail
  refine (c1 _).mono ?_
  rintro e w' ⟨rfl, rfl⟩
  go_wp2_with fail
  refine (hof _ _ (by simp)).mono ?_
  rintro e w' ⟨rfl, rfl⟩
  go_wp2_with fail
  go_ret
  exact ⟨by first | rfl | (rw [← hb]; rfl), below1 _ _⟩
end Go.Proofs.Ythfncbcnokkmiaa
