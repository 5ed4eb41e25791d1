/- Layer 9 as landed: dotted. -/
import Derived.Test.YthhgkiihegmedaaDoorCiSh
import Derived.Test.YthhgkiihegmedaaDoorRefCi4
import Derived.Sort.Grow
import Derived.Deep.LoopGhost
namespace Go.Proofs.YthhgkiihegmedaaDoor
open Go.RowKit
set_option linter.unusedVariables false
set_option maxRecDepth 20000
/-- the library's table of powers of ten lies in its variable -/
def Tb (w : World) : Prop := Lib.TabIs Tryd.prog w "internal/strconv.uint64pow10" .u64 Lib.pow10Tab
theorem Tb.below {w w' : World} (h : Tb w) (hb : Below w.heap.size w w') : Tb w' := by
  unfold Tb Lib.TabIs World.var? at *
  cases hg : (Tryd.prog).globalNamed "internal/strconv.uint64pow10" with
  | none => rw [hg] at h; simp at h
  | some g =>
    rw [hg] at h
    simp only [Option.bind_some] at h ⊢
    have hlt : g < w.heap.size := by
      rcases Nat.lt_or_ge g w.heap.size with h' | h'
      · exact h'
      · rw [Array.getElem?_eq_none h'] at h
        simp at h
    rw [hb.block g hlt]
    exact h
theorem ciGrow (w : World) (k : Nat) (os : Array Obj) : Below w.heap.size w (Sort.grow (w.drewN k) os) :=
  ⟨rfl, rfl, rfl, by rw [Sort.size_grow]; show w.heap.size ≤ w.heap.size + os.size; omega, fun i hi => Sort.heap_grow_old (w.drewN k) os hi⟩
theorem ciItoa (n : Nat) (hn : n ≤ 9223372036854775807) (w : World) (hT : Tb w) :
    Calls Tryd.prog 27 #[.int .i64 (n : Int)] w fun e w' => e = .returned (.string (sL (Lib.decDigits n))) ∧ Below w.heap.size w w' := by
  refine (Tryd.strconv_Itoa (n : Int) (by omega) (by omega) w hT).mono ?_
  rintro e w' ⟨rfl, k, os, rfl⟩
  refine ⟨?_, ciGrow w k os⟩
  have : Lib.itoa (n : Int) = Lib.decDigits n := by
    unfold Lib.itoa
    rw [if_neg (by omega)]
    rfl
  rw [this]
  rfl
/-- the byte's numbers of an address, in their order -/
def dotN (a : UInt32) (j : Nat) : List UInt8 := Lib.decDigits (a.toNat / 2 ^ (24 - 8 * j) % 256)
/-- the array, so far -/
structure Arr4 (w x : World) (a : UInt32) (k : Nat) : Prop where
  bel : Below w.heap.size w x
  lt : w.heap.size < x.heap.size
  c : ∀ j, j < 4 → ∃ s, x.cell? ⟨w.heap.size, j, none⟩ = some (.string s) ∧ (j < k → s = sL (dotN a j))
  f : ∀ o, x.frozen? ⟨w.heap.size, o, none⟩ = false
theorem Arr4.start (w : World) (a : UInt32) : Arr4 w (w.alloc (.cells #[.string ⟨#[]⟩, .string ⟨#[]⟩, .string ⟨#[]⟩, .string ⟨#[]⟩] 45)) a 0 := by
  refine ⟨below_more (Below.refl w.heap.size w) (Nat.le_refl _) _, by simp, fun j hj => ⟨⟨#[]⟩, ?_, fun h => absurd h (Nat.not_lt_zero _)⟩, by simp⟩
  have : j = 0 ∨ j = 1 ∨ j = 2 ∨ j = 3 := by omega
  rcases this with rfl | rfl | rfl | rfl <;> simp
theorem Arr4.put {w x y : World} {a : UInt32} {k : Nat} (h : Arr4 w x a k) (hb : Below x.heap.size x y) (hk : k < 4) : Arr4 w (y.setCell ⟨w.heap.size, k, none⟩ (.string (sL (dotN a k)))) a (k + 1) := by
  have hc : ∀ o, y.cell? ⟨w.heap.size, o, none⟩ = x.cell? ⟨w.heap.size, o, none⟩ := fun o => hb.cell (p := ⟨w.heap.size, o, none⟩) h.lt
  refine ⟨(h.bel.trans (hb.mono h.bel.size)).setCell (p := ⟨w.heap.size, k, none⟩) (Nat.le_refl _) _, by rw [World.size_setCell]; exact Nat.lt_of_lt_of_le h.lt hb.size, fun j hj => ?_, fun o => ?_⟩
  · by_cases e : j = k
    · subst e
      obtain ⟨s, h1, _⟩ := h.c j hj
      exact ⟨_, World.cell?_setCell_same' y ⟨w.heap.size, j, none⟩ _ (by rw [hc, h1]; rfl), fun _ => rfl⟩
    · obtain ⟨s, h1, h2⟩ := h.c j hj
      refine ⟨s, ?_, fun hj2 => h2 (by omega)⟩
      rw [World.cell?_setCell_other (w := y) (a := ⟨w.heap.size, k, none⟩) (b := ⟨w.heap.size, j, none⟩) (v := .string (sL (dotN a k))) (fun h => e (Addr.mk.inj h).2.1.symm), hc, h1]
  · rw [World.frozen?_setCell, hb.frozen (p := ⟨w.heap.size, o, none⟩) h.lt]
    exact h.f o
theorem sL_data (l : List UInt8) : (sL l).data.toList = l := rfl
theorem dot_join (a : UInt32) : Lib.join ([sL (dotN a 0), sL (dotN a 1), sL (dotN a 2), sL (dotN a 3)].map (·.data.toList)) ((⟨#[46]⟩ : ByteArray).data.toList) = dotA a := by
  have ha := a.toNat_lt
  simp only [List.map_cons, List.map_nil, sL_data]
  rw [Lib.join_cons]
  unfold Lib.joinTail dotA dotL dotN
  rw [show a.toNat / 2 ^ (24 - 8 * 0) % 256 = a.toNat / 16777216 by simp; omega, show a.toNat / 2 ^ (24 - 8 * 1) % 256 = a.toNat / 65536 % 256 by simp, show a.toNat / 2 ^ (24 - 8 * 2) % 256 = a.toNat / 256 % 256 by simp, show a.toNat / 2 ^ (24 - 8 * 3) % 256 = a.toNat % 256 by simp]
  simp
theorem dotA_len (a : UInt32) : (dotA a).length ≤ 15 := by
  have ha := a.toNat_lt
  have h1 := dec_le3 (a.toNat / 16777216) (by omega)
  have h2 := dec_le3 (a.toNat / 65536 % 256) (by omega)
  have h3 := dec_le3 (a.toNat / 256 % 256) (by omega)
  have h4 := dec_le3 (a.toNat % 256) (by omega)
  unfold dotA dotL
  simp only [List.length_append, List.length_cons, List.length_nil]
  omega
set_option maxHeartbeats 2000000 in
theorem ciDotted (a : UInt32) (w : World) (hT : Tb w) :
    Calls Tryd.prog 15 #[.int .u32 (a.toNat : Int)] w fun e w' => e = .returned (.string (sL (dotA a))) ∧ Below w.heap.size w w' := by
  have hb := below_more (Below.refl w.heap.size w) (Nat.le_refl _) (.cells #[.string ⟨#[]⟩, .string ⟨#[]⟩, .string ⟨#[]⟩, .string ⟨#[]⟩] 45)
  have HB := hidB hb
  have HT := hidB hT
  clear hT hb
  go_enter Tryd.func15, Tryd.ntmps15
  go_wp2
  go_loopg [6] 4 (fun g s6 wr => ∃ k : Nat, k ≤ 4 ∧ 4 - k ≤ g ∧ s6 = .int .i64 (k : Int) ∧ Hid (Arr4 w wr a k))
  case atStart => exact ⟨0, Nat.zero_le _, by omega, rfl, Arr4.start w a⟩
  case round =>
    obtain ⟨k, hkn, hg, rfl, HA⟩ := hrel
    by_cases hlt : k < 4
    · have hk4 : k = 0 ∨ k = 1 ∨ k = 2 ∨ k = 3 := by omega
      have lt := HA.out.lt
      clear hkn hlt
      have hit := fun j => (show Calls Tryd.prog 27 #[.int .i64 ((a.toNat / 2 ^ (24 - 8 * j) % 256 : Nat) : Int)] wr fun e w' => e = .returned (.string (sL (dotN a j))) ∧ Below wr.heap.size wr w' from ciItoa (a.toNat / 2 ^ (24 - 8 * j) % 256) (by omega) wr (HT.out.below HA.out.bel))
      rcases hk4 with rfl | rfl | rfl | rfl
      · have hcall := hit 0
        rw [show ((a.toNat / 2 ^ (24 - 8 * 0) % 256 : Nat) : Int) = (a.toNat : Int) / 16777216 % 256 by simp] at hcall
        obtain ⟨s0, c0, _⟩ := HA.out.c 0 (by omega)
        clear hit
        obtain ⟨D, hD⟩ : ∃ D, dotN a 0 = D := ⟨_, rfl⟩
        rw [hD] at hcall
        have HD := hidB hD
        clear hD
        go_wp2_with (fail)
        refine hcall.mono ?_
        rintro e w2 ⟨rfl, hb2⟩
        have d0 : w2.cell? ⟨w.heap.size, 0, none⟩ = some (.string s0) := (hb2.cell (p := ⟨w.heap.size, 0, none⟩) lt).trans c0
        have f0 : w2.frozen? ⟨w.heap.size, 0, none⟩ = false := (hb2.frozen (p := ⟨w.heap.size, 0, none⟩) lt).trans (HA.out.f 0)
        have HP := hidB (HA.out.put hb2 (show 0 < 4 by omega))
        rw [HD.out] at HP
        clear c0 hcall hb2 lt
        go_wp2_with (fail)
        go_roundg (4 - (0 + 1))
        case measure => omega
        case rel => exact ⟨0 + 1, by omega, by omega, by go_num, HP⟩
      · have hcall := hit 1
        rw [show ((a.toNat / 2 ^ (24 - 8 * 1) % 256 : Nat) : Int) = (a.toNat : Int) / 65536 % 256 by simp] at hcall
        obtain ⟨s0, c0, _⟩ := HA.out.c 1 (by omega)
        clear hit
        obtain ⟨D, hD⟩ : ∃ D, dotN a 1 = D := ⟨_, rfl⟩
        rw [hD] at hcall
        have HD := hidB hD
        clear hD
        go_wp2_with (fail)
        refine hcall.mono ?_
        rintro e w2 ⟨rfl, hb2⟩
        have d0 : w2.cell? ⟨w.heap.size, 1, none⟩ = some (.string s0) := (hb2.cell (p := ⟨w.heap.size, 1, none⟩) lt).trans c0
        have f0 : w2.frozen? ⟨w.heap.size, 1, none⟩ = false := (hb2.frozen (p := ⟨w.heap.size, 1, none⟩) lt).trans (HA.out.f 1)
        have HP := hidB (HA.out.put hb2 (show 1 < 4 by omega))
        rw [HD.out] at HP
        clear c0 hcall hb2 lt
        go_wp2_with (fail)
        go_roundg (4 - (1 + 1))
        case measure => omega
        case rel => exact ⟨1 + 1, by omega, by omega, by go_num, HP⟩
      · have hcall := hit 2
        rw [show ((a.toNat / 2 ^ (24 - 8 * 2) % 256 : Nat) : Int) = (a.toNat : Int) / 256 % 256 by simp] at hcall
        obtain ⟨s0, c0, _⟩ := HA.out.c 2 (by omega)
        clear hit
        obtain ⟨D, hD⟩ : ∃ D, dotN a 2 = D := ⟨_, rfl⟩
        rw [hD] at hcall
        have HD := hidB hD
        clear hD
        go_wp2_with (fail)
        refine hcall.mono ?_
        rintro e w2 ⟨rfl, hb2⟩
        have d0 : w2.cell? ⟨w.heap.size, 2, none⟩ = some (.string s0) := (hb2.cell (p := ⟨w.heap.size, 2, none⟩) lt).trans c0
        have f0 : w2.frozen? ⟨w.heap.size, 2, none⟩ = false := (hb2.frozen (p := ⟨w.heap.size, 2, none⟩) lt).trans (HA.out.f 2)
        have HP := hidB (HA.out.put hb2 (show 2 < 4 by omega))
        rw [HD.out] at HP
        clear c0 hcall hb2 lt
        go_wp2_with (fail)
        go_roundg (4 - (2 + 1))
        case measure => omega
        case rel => exact ⟨2 + 1, by omega, by omega, by go_num, HP⟩
      · have hcall := hit 3
        rw [show ((a.toNat / 2 ^ (24 - 8 * 3) % 256 : Nat) : Int) = (a.toNat : Int) % 256 by simp] at hcall
        obtain ⟨s0, c0, _⟩ := HA.out.c 3 (by omega)
        clear hit
        obtain ⟨D, hD⟩ : ∃ D, dotN a 3 = D := ⟨_, rfl⟩
        rw [hD] at hcall
        have HD := hidB hD
        clear hD
        go_wp2_with (fail)
        refine hcall.mono ?_
        rintro e w2 ⟨rfl, hb2⟩
        have d0 : w2.cell? ⟨w.heap.size, 3, none⟩ = some (.string s0) := (hb2.cell (p := ⟨w.heap.size, 3, none⟩) lt).trans c0
        have f0 : w2.frozen? ⟨w.heap.size, 3, none⟩ = false := (hb2.frozen (p := ⟨w.heap.size, 3, none⟩) lt).trans (HA.out.f 3)
        have HP := hidB (HA.out.put hb2 (show 3 < 4 by omega))
        rw [HD.out] at HP
        clear c0 hcall hb2 lt
        go_wp2_with (fail)
        go_roundg (4 - (3 + 1))
        case measure => omega
        case rel => exact ⟨3 + 1, by omega, by omega, by go_num, HP⟩
    · have hk4 : k = 4 := by omega
      subst hk4
      have c0 : ∀ j, j < 4 → wr.cell? ⟨w.heap.size, 0 + j, none⟩ = some (.string (sL (dotN a j))) := fun j hj => by
        obtain ⟨s, h1, h2⟩ := HA.out.c j hj
        rw [Nat.zero_add, h1, h2 hj]
      have hJ := Any.strings_Join Tryd.lays156 Tryd.Builder_Extra_156 w.heap.size 0 4 [sL (dotN a 0), sL (dotN a 1), sL (dotN a 2), sL (dotN a 3)] ⟨#[46]⟩ wr
        (fun j x hj => by
          match j, hj with
          | 0, hj => cases hj; exact c0 0 (by omega)
          | 1, hj => cases hj; exact c0 1 (by omega)
          | 2, hj => cases hj; exact c0 2 (by omega)
          | 3, hj => cases hj; exact c0 3 (by omega)
          | j + 4, hj => cases hj) HA.out.lt (by simp) (by simp) (by rw [dot_join]; have := dotA_len a; omega)
      rw [dot_join] at hJ
      have HA2 := HA
      clear HA c0
      go_wp2_with (fail)
      refine hJ.mono ?_
      rintro e w2 ⟨rfl, hb2⟩
      go_wp2
      go_ret
      exact ⟨rfl, HA2.out.bel.trans (hb2.mono HA2.out.bel.size)⟩
end Go.Proofs.YthhgkiihegmedaaDoor
