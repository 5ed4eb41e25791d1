/- Contracts of both Bigs. -/
import Derived.Test.YthfncbcnokkmiaaOfs
namespace Go.Proofs.Ythfncbcnokkmiaa
open Go.RowKit
set_option linter.unusedVariables false

theorem info5 : (Try.prog.info? 5).map (fun i => (i.zero, i.size, i.bytes)) = some (some (.int .u8 0), 1, 1) := by kernel_rfl

theorem ediv_pow (v : Int) (j : Nat) : v / 256 / 256 ^ j = v / 256 ^ (j + 1) := by
  rw [Int.ediv_ediv_of_nonneg (by decide), Int.pow_succ, Int.mul_comm]
theorem ediv_pow' (v : Int) (j : Nat) : v / 256 ^ j / 256 = v / 256 ^ (j + 1) := by
  rw [Int.ediv_ediv_of_nonneg (Int.le_of_lt (Int.pow_pos (by decide))), Int.pow_succ]
theorem bigL_at (j : Nat) : ∀ (v : Int) (K : Nat), j < K → (Pl.bigL v K).getD (K - 1 - j) 0 = UInt8.ofNat (v / 256 ^ j % 256).toNat := by
  induction j with
  | zero =>
    intro v K h
    obtain ⟨K, rfl⟩ : ∃ k, K = k + 1 := ⟨K - 1, by omega⟩
    have hl := Pl.bigL_length (v / 256) K
    simp [Pl.bigL, List.getD, hl]
  | succ j ih =>
    intro v K h
    obtain ⟨K, rfl⟩ : ∃ k, K = k + 1 := ⟨K - 1, by omega⟩
    have hl := Pl.bigL_length (v / 256) K
    have hi := ih (v / 256) K (by omega)
    rw [ediv_pow] at hi
    rw [← hi, show K + 1 - 1 - (j + 1) = K - 1 - j from by omega]
    simp only [Pl.bigL, List.getD]
    rw [List.getElem?_append_left (by omega)]
def byt (v : Int) (K t : Nat) : Int := (((Pl.bigL v K).getD t 0).toNat : Int)
theorem byt_at (v : Int) (K j : Nat) (h : j < K) : byt v K (K - 1 - j) = v / 256 ^ j % 256 := by
  unfold byt
  rw [bigL_at j v K h, UInt8.toNat_ofNat', Nat.mod_eq_of_lt (by omega), Int.toNat_of_nonneg (by omega)]

/-- the row of the bytes, the last j of them laid -/
def BigRel (B K j : Nat) (v : Int) (wr : World) : Prop := ∀ t, t < K → wr.frozen? ⟨B, t, none⟩ = false ∧ ∃ u, wr.cell? ⟨B, t, none⟩ = some u ∧ (K ≤ t + j → u = .int .u8 (byt v K t))
theorem bigRel_start (w : World) (K : Nat) (v : Int) : BigRel w.heap.size K 0 v (w.alloc (.cells (madeCells #[.int .u8 0] K) 5)) := by
  intro t ht
  refine ⟨by simp, ?_⟩
  have hs : t < (madeCells #[.int .u8 0] K).size := by rw [size_madeCells]; exact ht
  exact ⟨(madeCells #[.int .u8 0] K)[t], by rw [World.cell?_alloc_new]; exact Array.getElem?_eq_getElem hs, fun h => by omega⟩
theorem bigRel_step {B K j : Nat} {v x : Int} {wr : World} (h : BigRel B K j v wr) (hj : j < K) (hx : x = v / 256 ^ j % 256) : BigRel B K (j + 1) v (wr.setCell ⟨B, K - 1 - j, none⟩ (.int .u8 x)) := by
  intro t ht
  obtain ⟨h1, u, hu, h2⟩ := h t ht
  refine ⟨by rw [World.frozen?_setCell]; exact h1, ?_⟩
  by_cases e : t = K - 1 - j
  · subst e
    exact ⟨_, World.cell?_setCell_same wr _ _ hu, fun _ => by rw [byt_at v K j hj, ← hx]⟩
  · exact ⟨u, by rw [World.cell?_setCell_other wr _ _ _ (by intro hh; apply e; have := congrArg Addr.off hh; simp at this; omega)]; exact hu, fun hh => h2 (by omega)⟩
theorem bigRel_end {B K : Nat} {v : Int} {wr : World} (h : BigRel B K K v wr) : (convert 51 9 (.slice (some ⟨B, 0, none⟩) K K)).run Try.prog wr = .ok (.string ⟨(Pl.bigL v K).toArray⟩) wr := by
  have hl := Pl.bigL_length v K
  have hr := run_convert_bytes_back (P := Try.prog) wr 51 9 5 ⟨B, 0, none⟩ K (Pl.bigL v K) Try.underlying51 Try.underlying5 Try.underlying9 (fun j hj => by
    obtain ⟨_, u, hu, h2⟩ := h j (by omega)
    have e := h2 (by omega)
    subst e
    rw [Addr.add_lit, Nat.zero_add, hu]
    simp [byt, List.getD, hj])
  rw [hl] at hr
  exact hr

set_option maxHeartbeats 400000 in
set_option maxRecDepth 100000 in
theorem big_core (v n m : Int) (K : Nat) (w : World) (hK : K ≤ 8) (hmn : (if 8 < n then (8 : Int) else n) = m) (hmx : (if 0 < m then m else 0) = (K : Int)) :
    Calls Try.prog 55 #[.int .i64 v, .int .i64 n] w fun e w' => e = .returned (.string ⟨(Pl.bigL v K).toArray⟩) ∧ Below w.heap.size w w' := by
  obtain ⟨i0, hi, hz0, hz1, hz2⟩ := info_parts info5
  have hmk : ∀ u : World, (Instr.makeSlice 51 (.int .i64 (K : Int)) (.int .i64 (K : Int))).run Try.prog u =
      .ok (.slice (some ⟨u.heap.size, 0, none⟩) K K) (u.alloc (.cells (madeCells #[.int .u8 0] K) 5)) := fun u => by
    have h := run_make (P := Try.prog) u 51 5 i0 (.int .u8 0) Try.underlying51 hi hz0 .i64 .i64 (K : Int) (K : Int) (by omega) (Int.le_refl _) (by rw [hz2]; omega) (by omega)
    simpa [hz1, Value.cells] using h
  clear hz0 hz1 hz2 hi
  go_enter Try.func55, Try.ntmps55
  go_wp2
  clear hmk hmn hmx
  go_loopw [0, 6] (fun x i wr => ∃ (j : Nat) (y : Int), j ≤ K ∧ i = .int .i64 ((K : Int) - 1 - (j : Int)) ∧ x = .int .i64 y ∧ Hid (y = v / 256 ^ j) ∧ BigRel w.heap.size K j v wr ∧ Below w.heap.size w wr) (fun _ i _ => (intOf i + 1).toNat)
  case atStart => exact ⟨0, v, Nat.zero_le _, by go_num, rfl, by simp [Hid], bigRel_start w K v, (Below.refl _ _).alloc (Nat.le_refl _) _⟩
  case round =>
    obtain ⟨j, y, hj, rfl, rfl, HY, HR, hb⟩ := hrel
    by_cases hlt : j < K
    · obtain ⟨hf, u, hu, _⟩ := HR (K - 1 - j) (by omega)
      have HR' : Hid (BigRel w.heap.size K j v wr) := HR
      have hb' : Hid (Below w.heap.size w wr) := hb
      clear HR hb
      go_wp2
      go_roundw
      case rel => exact ⟨j + 1, y / 256, by omega, by go_num, rfl, by show _ = _; rw [HY.out, ediv_pow'], bigRel_step HR'.out hlt (by rw [HY.out]), hb'.out.setCell (Nat.le_refl _) _⟩
      case measure => simp [intOf]; omega
    · have hj' : j = K := by omega
      subst hj'
      have hcv := bigRel_end HR
      have HR' : Hid (BigRel w.heap.size j j v wr) := HR
      have hb' : Hid (Below w.heap.size w wr) := hb
      clear HR hb
      go_wp2
      go_ret
      exact ⟨rfl, hb'.out⟩
/-- so many bytes: n cut to from 0 to 8 -/
def cut8 (n : Int) : Nat := (if 0 < (if 8 < n then (8 : Int) else n) then (if 8 < n then (8 : Int) else n) else 0).toNat
theorem big_any (v n : Int) (w : World) :
    Calls Try.prog 55 #[.int .i64 v, .int .i64 n] w fun e w' => e = .returned (.string ⟨(Pl.bigL v (cut8 n)).toArray⟩) ∧ Below w.heap.size w w' :=
  big_core v n _ (cut8 n) w (by unfold cut8; split <;> split <;> omega) rfl (by unfold cut8; rw [Int.toNat_of_nonneg (by split <;> split <;> omega)])
theorem bigL_cons (j : Nat) : ∀ v : Int, Pl.bigL v (j + 1) = UInt8.ofNat (v / 256 ^ j % 256).toNat :: Pl.bigL v j := by
  induction j with
  | zero => intro v; simp [Pl.bigL]
  | succ j ih =>
    intro v
    have e : Pl.bigL v (j + 1 + 1) = Pl.bigL (v / 256) (j + 1) ++ [UInt8.ofNat (v % 256).toNat] := rfl
    rw [e, ih (v / 256), ediv_pow]
    rfl
theorem byte_conv (y : Int) (u : World) : (convert 51 9 (.slice (some ⟨u.heap.size, 0, none⟩) 1 1)).run Try.prog (u.alloc (.cells #[.int .u8 (y % 256)] 5)) = .ok (.string ⟨#[UInt8.ofNat (y % 256).toNat]⟩) (u.alloc (.cells #[.int .u8 (y % 256)] 5)) :=
  run_convert_bytes_back (P := Try.prog) (u.alloc (.cells #[.int .u8 (y % 256)] 5)) 51 9 5 ⟨u.heap.size, 0, none⟩ 1 [UInt8.ofNat (y % 256).toNat] Try.underlying51 Try.underlying5 Try.underlying9 (fun j hj => by
    have hj0 : j = 0 := by simpa using hj
    subst hj0
    rw [Addr.add_lit, World.cell?_alloc_new]
    simp
    omega)

set_option maxHeartbeats 400000 in
theorem refBig_any (v n : Int) (w : World) (hn : n ≤ 9223372036854775807) :
    Calls Try.prog 59 #[.int .i64 v, .int .i64 n] w fun e w' => e = .returned (.string ⟨(Pl.bigL v (cut8 n)).toArray⟩) ∧ Below w.heap.size w w' := by
  have hK : cut8 n ≤ 8 ∧ ((cut8 n : Nat) : Int) = (if 0 < (if 8 < n then (8 : Int) else n) then (if 8 < n then (8 : Int) else n) else 0) := by
    unfold cut8
    rw [Int.toNat_of_nonneg (by split <;> split <;> omega)]
    constructor
    · split <;> split <;> omega
    · rfl
  obtain ⟨hK, hKe⟩ := hK
  have hKn : ∀ i : Nat, i < cut8 n ↔ ((i : Int) < n ∧ i < 8) := by
    intro i
    split at hKe <;> split at hKe <;> omega
  clear hKe
  generalize cut8 n = K at *
  have HK : Hid (∀ i : Nat, i < K ↔ ((i : Int) < n ∧ i < 8)) := hKn
  clear hKn
  go_enter Try.func59, Try.ntmps59
  go_wp2
  go_loopw [0, 5, 6] (fun x s i wr => ∃ (j : Nat) (y : Int), j ≤ K ∧ i = .int .i64 (j : Int) ∧ x = .int .i64 y ∧ Hid (y = v / 256 ^ j) ∧ s = .string ⟨(Pl.bigL v j).toArray⟩ ∧ Below w.heap.size w wr) (fun _ _ i _ => K - (intOf i).toNat)
  case atStart => exact ⟨0, v, Nat.zero_le _, rfl, rfl, by simp [Hid], rfl, Below.refl _ _⟩
  case round =>
    obtain ⟨j, y, hj, rfl, rfl, HY, rfl, hb⟩ := hrel
    have hb' : Hid (Below w.heap.size w wr) := hb
    clear hb
    by_cases hlt : j < K
    · obtain ⟨h1, h2⟩ := (HK.out j).1 hlt
      have hd : decide ((j : Int) < 8) = true := by simp; omega
      have hcv := byte_conv y
      have hbl : (Pl.bigL v j).length ≤ 8 := by rw [Pl.bigL_length]; omega
      go_wp2
      go_roundw
      case rel => exact ⟨j + 1, y / 256, by omega, by go_num, rfl, by show _ = _; rw [HY.out, ediv_pow'], by rw [bigL_cons, ← HY.out]; exact congrArg Value.string (ByteArray.mk_append_mk [UInt8.ofNat (y % 256).toNat] (Pl.bigL v j)), hb'.out.alloc hb'.out.size _⟩
      case measure => simp [intOf]; omega
    · by_cases h1 : (j : Int) < n
      · have h2 : ¬ j < 8 := fun h => hlt ((HK.out j).2 ⟨h1, h⟩)
        have hd : decide ((j : Int) < 8) = false := by simp; omega
        have HJ : Hid (j = K) := by show _ = _; omega
        go_wp2
        go_ret
        exact ⟨by rw [← HJ.out]; rfl, hb'.out⟩
      · have HJ : Hid (j = K) := by show _ = _; omega
        go_wp2
        go_ret
        exact ⟨by rw [← HJ.out]; rfl, hb'.out⟩

end Go.Proofs.Ythfncbcnokkmiaa
