/- Contracts of both Bigs. -/
import Derived.Test.YtepmncfgkmpccaaDoorOfs
namespace Go.Proofs.YtepmncfgkmpccaaDoor
open Go.RowKit
set_option linter.unusedVariables false

theorem info5 : (Tryd.prog.info? 5).map (fun i => (i.zero, i.size, i.bytes)) = some (some (.int .u8 0), 1, 1) := by kernel_rfl

theorem ediv_pow (v : Int) (j : Nat) : v / 256 / 256 ^ j = v / 256 ^ (j + 1) := by
  rw [Int.ediv_ediv_of_nonneg (by decide), Int.pow_succ, Int.mul_comm]
theorem ediv_pow' (v : Int) (j : Nat) : v / 256 ^ j / 256 = v / 256 ^ (j + 1) := by
  rw [Int.ediv_ediv_of_nonneg (Int.le_of_lt (Int.pow_pos (by decide))), Int.pow_succ]
theorem bigL_at (j : Nat) : ∀ (v : Int) (K : Nat), j < K → (Pl.bigL v K).getD (K - 1 - j) 0 = UInt8.ofNat (v / 256 ^ j % 256).toNat := by
  induction j with
  | zero =>
    intro v K h
    obtain ⟨K, rfl⟩ : ∃ k, K = k + 1 := ⟨K - 1, by omega⟩
    have hl := Pl.bigL_length (v / 256) K
    simp [Pl.bigL, List.getD, hl]
  | succ j ih =>
    intro v K h
    obtain ⟨K, rfl⟩ : ∃ k, K = k + 1 := ⟨K - 1, by omega⟩
    have hl := Pl.bigL_length (v / 256) K
    have hi := ih (v / 256) K (by omega)
    rw [ediv_pow] at hi
    rw [← hi, show K + 1 - 1 - (j + 1) = K - 1 - j from by omega]
    simp only [Pl.bigL, List.getD]
    rw [List.getElem?_append_left (by omega)]
def byt (v : Int) (K t : Nat) : Int := (((Pl.bigL v K).getD t 0).toNat : Int)
theorem byt_at (v : Int) (K j : Nat) (h : j < K) : byt v K (K - 1 - j) = v / 256 ^ j % 256 := by
  unfold byt
  rw [bigL_at j v K h, UInt8.toNat_ofNat', Nat.mod_eq_of_lt (by omega), Int.toNat_of_nonneg (by omega)]

/-- the row of the bytes, the last j of them laid -/
def BigRel (B K j : Nat) (v : Int) (wr : World) : Prop := ∀ t, t < K → wr.frozen? ⟨B, t, none⟩ = false ∧ ∃ u, wr.cell? ⟨B, t, none⟩ = some u ∧ (K ≤ t + j → u = .int .u8 (byt v K t))
theorem bigRel_start (w : World) (K : Nat) (v : Int) : BigRel w.heap.size K 0 v (w.alloc (.cells (madeCells #[.int .u8 0] K) 5)) := by
  intro t ht
  refine ⟨by simp, ?_⟩
  have hs : t < (madeCells #[.int .u8 0] K).size := by rw [size_madeCells]; exact ht
  exact ⟨(madeCells #[.int .u8 0] K)[t], by rw [World.cell?_alloc_new]; exact Array.getElem?_eq_getElem hs, fun h => by omega⟩
theorem bigRel_step {B K j : Nat} {v x : Int} {wr : World} (h : BigRel B K j v wr) (hj : j < K) (hx : x = v / 256 ^ j % 256) : BigRel B K (j + 1) v (wr.setCell ⟨B, K - 1 - j, none⟩ (.int .u8 x)) := by
  intro t ht
  obtain ⟨h1, u, hu, h2⟩ := h t ht
  refine ⟨by rw [World.frozen?_setCell]; exact h1, ?_⟩
  by_cases e : t = K - 1 - j
  · subst e
    exact ⟨_, World.cell?_setCell_same wr _ _ hu, fun _ => by rw [byt_at v K j hj, ← hx]⟩
  · exact ⟨u, by rw [World.cell?_setCell_other wr _ _ _ (by intro hh; apply e; have := congrArg Addr.off hh; simp at this; omega)]; exact hu, fun hh => h2 (by omega)⟩
theorem bigRel_end {B K : Nat} {v : Int} {wr : World} (h : BigRel B K K v wr) : (convert 44 9 (.slice (some ⟨B, 0, none⟩) K K)).run Tryd.prog wr = .ok (.string ⟨(Pl.bigL v K).toArray⟩) wr := by
  have hl := Pl.bigL_length v K
  have hr := run_convert_bytes_back (P := Tryd.prog) wr 44 9 5 ⟨B, 0, none⟩ K (Pl.bigL v K) Tryd.underlying44 Tryd.underlying5 Tryd.underlying9 (fun j hj => by
    obtain ⟨_, u, hu, h2⟩ := h j (by omega)
    have e := h2 (by omega)
    subst e
    rw [Addr.add_lit, Nat.zero_add, hu]
    simp [byt, List.getD, hj])
  rw [hl] at hr
  exact hr

/-- so many bytes: n cut to from 0 to 8 -/
def cut8 (n : Int) : Nat := (if 0 < (if 8 < n then (8 : Int) else n) then (if 8 < n then (8 : Int) else n) else 0).toNat
theorem bigL_cons (j : Nat) : ∀ v : Int, Pl.bigL v (j + 1) = UInt8.ofNat (v / 256 ^ j % 256).toNat :: Pl.bigL v j := by
  induction j with
  | zero => intro v; simp [Pl.bigL]
  | succ j ih =>
    intro v
    have e : Pl.bigL v (j + 1 + 1) = Pl.bigL (v / 256) (j + 1) ++ [UInt8.ofNat (v % 256).toNat] := rfl
    rw [e, ih (v / 256), ediv_pow]
    rfl
theorem byte_conv (y : Int) (u : World) : (convert 44 9 (.slice (some ⟨u.heap.size, 0, none⟩) 1 1)).run Tryd.prog (u.alloc (.cells #[.int .u8 (y % 256)] 5)) = .ok (.string ⟨#[UInt8.ofNat (y % 256).toNat]⟩) (u.alloc (.cells #[.int .u8 (y % 256)] 5)) :=
  run_convert_bytes_back (P := Tryd.prog) (u.alloc (.cells #[.int .u8 (y % 256)] 5)) 44 9 5 ⟨u.heap.size, 0, none⟩ 1 [UInt8.ofNat (y % 256).toNat] Tryd.underlying44 Tryd.underlying5 Tryd.underlying9 (fun j hj => by
    have hj0 : j = 0 := by simpa using hj
    subst hj0
    rw [Addr.add_lit, World.cell?_alloc_new]
    simp
    omega)


end Go.Proofs.YtepmncfgkmpccaaDoor
