/- Contracts of both Ofs. -/
import Derived.Test.YthfncbcnokkmiaaLeafs
namespace Go.Proofs.Ythfncbcnokkmiaa
open Go.RowKit
set_option linter.unusedVariables false

theorem fld_le (ss : List ByteArray) (h : (Pl.cat ss).length ≤ 1000000) : 0 ≤ Pl.wt true (Pl.cat ss) ∧ Pl.wt true (Pl.cat ss) ≤ 65280000000 := by
  have := Pl.wt_bd true (Pl.cat ss)
  omega

set_option maxHeartbeats 400000 in
theorem of_nil (w : World) :
    Calls Try.prog 56 #[.slice none 0 0] w fun e w' => e = .returned (.int .i64 65535) ∧ w = w' := by
  go_enter Try.func56, Try.ntmps56
  go_wp2
  go_loop [3, 4, 10] (fun t s i => t = .int .i64 0 ∧ s = .int .i64 8 ∧ i = .int .i64 0) (fun _ _ _ => 0)
  case atStart => exact ⟨rfl, rfl, rfl⟩
  case round =>
    obtain ⟨rfl, rfl, rfl⟩ := hrel
    have hx := Pl.xor_word 0 (by decide) (by decide)
    have hf : Pl.fld 0 = 0 := rfl
    go_wp2_with (go_at_call 78; refine (fold_any _ _ (by omega) (by omega)).mono ?_; rintro e w' ⟨rfl, rfl⟩)
    go_ret
    exact ⟨rfl, rfl⟩
theorem val_int {k : IntKind} {a b : Int} (h : a = b) : Value.int k a = .int k b := by rw [h]
theorem st0 (T V : Int) (x : Nat) (h0 : 0 ≤ T + V) (h1 : T + V ≤ 1000000000000) (hx : x < 256) : wrap64 (T + V + (x : Int)) = T + (V + ((x : Int) + 0)) := by
  unfold wrap64
  omega
theorem st1 (T V : Int) (x : Nat) (h0 : 0 ≤ T + V) (h1 : T + V ≤ 1000000000000) (hx : x < 256) : wrap64 (T + V + wrap64 ((x : Int) * 256)) = T + (V + (256 * (x : Int) + 0)) := by
  unfold wrap64
  omega
def shv : Bool → Int
  | true => 8
  | false => 0

set_option maxHeartbeats 1000000 in
theorem of_any (b off cap : Nat) (ss : List ByteArray) (w : World) (hs : (Pl.cat ss).length ≤ 1000000) (hn : ss.length ≤ 1000000)
    (hcell : ∀ i, i < ss.length → w.cell? ⟨b, off + i, none⟩ = some (.string (ss.getD i ByteArray.empty))) :
    Calls Try.prog 56 #[.slice (some ⟨b, off, none⟩) ss.length cap] w fun e w' => e = .returned (.int .i64 (65535 - Pl.fld (Pl.wt true (Pl.cat ss)))) ∧ w = w' := by
  have HC := (show Hid (∀ i, i < ss.length → w.cell? ⟨b, off + i, none⟩ = some (.string (ss.getD i ByteArray.empty))) from hcell)
  clear hcell
  go_enter Try.func56, Try.ntmps56
  go_wp2
  go_loop [3, 4, 10] (fun t s i => ∃ k : Nat, k ≤ ss.length ∧ i = .int .i64 k ∧ t = .int .i64 (Pl.wt true (Pl.cat (ss.take k))) ∧ s = .int .i64 (shv (Pl.par true (Pl.cat (ss.take k))))) (fun _ _ i => ss.length - (intOf i).toNat)
  case atStart => exact ⟨0, Nat.zero_le _, rfl, rfl, rfl⟩
  case round =>
    obtain ⟨k, hk, rfl, rfl, rfl⟩ := hrel
    by_cases hlt : k < ss.length
    · have hc := HC.out k hlt
      have hl1 := Pl.cat_take_le ss k
      have hl2 := Pl.cat_take_le ss (k + 1)
      have hct := Pl.cat_take ss k hlt
      generalize hpt : ss.getD k ByteArray.empty = part at hc hct
      have hwb := Pl.wt_bd true (Pl.cat (ss.take k))
      have hlen : (Pl.cat (ss.take k)).length + part.size = (Pl.cat (ss.take (k + 1))).length := by rw [hct, List.length_append]; rfl
      have hAB : (Pl.cat (ss.take k)).length + part.size ≤ 1000000 := by omega
      clear hlen hl1 hl2
      have HCT : Hid (Pl.cat (ss.take (k + 1)) = Pl.cat (ss.take k) ++ part.data.toList) := hct
      clear hct hpt
      generalize hA : Pl.cat (ss.take k) = A at *
      generalize hB : Pl.cat (ss.take (k + 1)) = B at *
      have HB : Hid (Pl.cat (ss.take (k + 1)) = B) := hB
      clear hA hB
      generalize hT : Pl.wt true A = T at *
      generalize hP : Pl.par true A = P at *
      have HT : Hid (Pl.wt true A = T) := hT
      have HP : Hid (Pl.par true A = P) := hP
      clear hT hP
      obtain ⟨hwb1, hwb2⟩ := hwb
      go_wp2
      go_loop [3, 4, 7] (fun t s i => ∃ j : Nat, j ≤ part.size ∧ i = .int .i64 j ∧ t = .int .i64 (T + Pl.wt P (part.data.toList.take j)) ∧ s = .int .i64 (shv (Pl.par P (part.data.toList.take j)))) (fun _ _ i => part.size - (intOf i).toNat)
      case atStart => exact ⟨0, Nat.zero_le _, rfl, by simp [Pl.wt], rfl⟩
      case round =>
        obtain ⟨j, hj, rfl, rfl, rfl⟩ := hrel
        have hv := Pl.wt_bd P (part.data.toList.take j)
        have hvl : (part.data.toList.take j).length ≤ j := List.length_take_le _ _
        by_cases hjl : j < part.size
        · have HS : Hid (Pl.wt P (part.data.toList.take (j + 1)) = Pl.wt P (part.data.toList.take j) + Pl.wt (Pl.par P (part.data.toList.take j)) [part[j]]) := by
            show _ = _
            rw [Pl.take_snoc part j hjl, Pl.wt_append]
          have HQ : Hid (Pl.par P (part.data.toList.take (j + 1)) = !Pl.par P (part.data.toList.take j)) := by
            show _ = _
            rw [Pl.take_snoc part j hjl, Pl.par_append]
            rfl
          obtain ⟨hv1, hv2⟩ := hv
          have hwb : wrap64 (part[j].toNat : Int) = (part[j].toNat : Int) := IntWalk.wrap64_in _ (by have := part[j].toNat_lt; omega)
          generalize Pl.wt P (part.data.toList.take j) = V at *
          generalize Pl.par P (part.data.toList.take j) = q at *
          cases q
          · simp only [shv]
            go_wp2
            go_round
            case rel => exact ⟨j + 1, by omega, by go_num, by rw [HS.out]; exact val_int (st0 T V _ (by omega) (by omega) part[j].toNat_lt), by rw [HQ.out]; rfl⟩
            case measure => simp [intOf]; omega
          · simp only [shv]
            go_wp2
            go_round
            case rel => exact ⟨j + 1, by omega, by go_num, by rw [HS.out]; exact val_int (st1 T V _ (by omega) (by omega) part[j].toNat_lt), by rw [HQ.out]; rfl⟩
            case measure => simp [intOf]; omega
        · go_wp2
          go_round
          case rel => exact ⟨k + 1, by omega, by go_num, by rw [HB.out, HCT.out, Pl.wt_append, HT.out, HP.out, List.take_of_length_le (by simp; omega)], by rw [HB.out, HCT.out, Pl.par_append, HP.out, List.take_of_length_le (by simp; omega)]⟩
          case measure => simp [intOf]; omega
    · have hke : k = ss.length := by omega
      have hwb := fld_le ss hs
      have hfb := Pl.fld_bd (Pl.wt true (Pl.cat ss)) hwb.1
      have hx := Pl.xor_word (Pl.fld (Pl.wt true (Pl.cat ss))) hfb.1 hfb.2
      have htk : ss.take k = ss := List.take_of_length_le (by omega)
      rw [htk]
      clear htk hke
      obtain ⟨hwb1, hwb2⟩ := hwb
      go_wp2_with (go_at_call 78; refine (fold_any _ _ (by omega) (by omega)).mono ?_; rintro e w' ⟨rfl, rfl⟩)
      go_ret
      exact ⟨rfl, rfl⟩
theorem take_two (s : ByteArray) (k : Nat) (h : k + 1 < s.size) : s.data.toList.take (k + 2) = s.data.toList.take k ++ [s[k], s[k + 1]] := by
  rw [Pl.take_snoc s (k + 1) h, Pl.take_snoc s k (by omega)]
  simp
theorem take_last (s : ByteArray) (k : Nat) (h : k < s.size) (h2 : ¬ k + 1 < s.size) : s.data.toList.take (k + 2) = s.data.toList.take k ++ [s[k]] := by
  rw [← Pl.take_snoc s k h, List.take_of_length_le (by simp; omega), List.take_of_length_le (by simp; omega)]
theorem par_even (l : List UInt8) (h : l.length % 2 = 0) : Pl.par true l = true := by rw [Pl.par_length, if_pos h]
theorem sum_two (V : Int) (x y : Nat) (h0 : 0 ≤ V) (hx : x < 256) (hy : y < 256) : Pl.fld (Pl.fld V % 65536 + (wrap64 (wrap64 ((x : Int) * 256) + (y : Int))) % 65536) = Pl.fld (V + (256 * (x : Int) + ((y : Int) + 0))) := by
  have e : (wrap64 (wrap64 ((x : Int) * 256) + (y : Int))) % 65536 = 256 * (x : Int) + ((y : Int) + 0) := by unfold wrap64; omega
  have hb := Pl.fld_bd V h0
  rw [e, Int.emod_eq_of_lt hb.1 (by omega), Pl.fld_add V _ h0 (by omega)]
theorem sum_one (V : Int) (x : Nat) (h0 : 0 ≤ V) (hx : x < 256) : Pl.fld (Pl.fld V % 65536 + (wrap64 ((x : Int) * 256)) % 65536) = Pl.fld (V + (256 * (x : Int) + 0)) := by
  have e : (wrap64 ((x : Int) * 256)) % 65536 = 256 * (x : Int) + 0 := by unfold wrap64; omega
  have hb := Pl.fld_bd V h0
  rw [e, Int.emod_eq_of_lt hb.1 (by omega), Pl.fld_add V _ h0 (by omega)]

set_option maxHeartbeats 1000000 in
theorem refOf_any (s : ByteArray) (w : World) (hs : s.size ≤ 1000000) :
    Calls Try.prog 60 #[.string s] w fun e w' => e = .returned (.int .i64 (65535 - Pl.fld (Pl.wt true s.data.toList))) ∧ w = w' := by
  go_enter Try.func60, Try.ntmps60
  go_wp2
  go_loop [3, 4] (fun n i => ∃ k : Nat, k ≤ s.size + 1 ∧ Hid (k % 2 = 0) ∧ i = .int .i64 k ∧ n = .int .i64 (Pl.fld (Pl.wt true (s.data.toList.take k)))) (fun _ i => s.size + 1 - (intOf i).toNat)
  case atStart => exact ⟨0, Nat.zero_le _, rfl, rfl, rfl⟩
  case round =>
    obtain ⟨k, hk, he, rfl, rfl⟩ := hrel
    have hv := (Pl.wt_bd true (s.data.toList.take k)).1
    by_cases hlt : k < s.size
    · have hev : Hid (Pl.par true (s.data.toList.take k) = true) := par_even _ (by have := he.out; simp; omega)
      have hwb : wrap64 (s[k].toNat : Int) = (s[k].toNat : Int) := IntWalk.wrap64_in _ (by have := s[k].toNat_lt; omega)
      by_cases hl2 : k + 1 < s.size
      · have HS : Hid (Pl.wt true (s.data.toList.take (k + 2)) = Pl.wt true (s.data.toList.take k) + (256 * (s[k].toNat : Int) + ((s[k + 1].toNat : Int) + 0))) := by
          show _ = _
          rw [take_two s k hl2, Pl.wt_append, hev.out]
          rfl
        have hwc : wrap64 (s[k + 1].toNat : Int) = (s[k + 1].toNat : Int) := IntWalk.wrap64_in _ (by have := s[k + 1].toNat_lt; omega)
        generalize Pl.wt true (s.data.toList.take k) = V at *
        go_wp2_with (go_at_call 79; refine (refAdd_any _ _ _).mono ?_; rintro e w' ⟨rfl, rfl⟩)
        go_round
        case rel => exact ⟨k + 2, by omega, by have := he.out; show _ = _; omega, by go_num, by rw [HS.out]; exact val_int (sum_two V _ _ hv s[k].toNat_lt s[k + 1].toNat_lt)⟩
        case measure => simp [intOf]; omega
      · have HS : Hid (Pl.wt true (s.data.toList.take (k + 2)) = Pl.wt true (s.data.toList.take k) + (256 * (s[k].toNat : Int) + 0)) := by
          show _ = _
          rw [take_last s k hlt hl2, Pl.wt_append, hev.out]
          rfl
        generalize Pl.wt true (s.data.toList.take k) = V at *
        go_wp2_with (go_at_call 79; refine (refAdd_any _ _ _).mono ?_; rintro e w' ⟨rfl, rfl⟩)
        go_round
        case rel => exact ⟨k + 2, by omega, by have := he.out; show _ = _; omega, by go_num, by rw [HS.out]; exact val_int (sum_one V _ hv s[k].toNat_lt)⟩
        case measure => simp [intOf]; omega
    · have htk : s.data.toList.take k = s.data.toList := List.take_of_length_le (by simp; omega)
      rw [htk] at hv
      have hfb := Pl.fld_bd (Pl.wt true s.data.toList) hv
      rw [htk]
      clear htk
      obtain ⟨hf1, hf2⟩ := hfb
      go_wp2
      go_ret
      exact ⟨rfl, rfl⟩

end Go.Proofs.Ythfncbcnokkmiaa
