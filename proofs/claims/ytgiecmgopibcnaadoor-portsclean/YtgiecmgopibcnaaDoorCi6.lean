/- Layer 9 as landed: nets as a text. -/
import Derived.Test.YtgiecmgopibcnaaDoorCi4
import Derived.Test.YtgiecmgopibcnaaDoorCi5
import Derived.Test.YtgiecmgopibcnaaDoorMix
namespace Go.Proofs.YtgiecmgopibcnaaDoor
open Go.RowKit
set_option linter.unusedVariables false
set_option maxRecDepth 20000
def netT (n : Nt) : List UInt8 := dotA n.1 ++ [47] ++ Lib.decDigits n.2.toNat
def listT : List Nt → List UInt8
  | [] => [97, 110, 121]
  | [n] => netT n
  | n :: m :: R => [91] ++ Lib.join ((n :: m :: R).map netT) [44] ++ [93]
theorem netT_len (n : Nt) (h : n.2 ≤ 32) : (netT n).length ≤ 19 := by
  have h1 := dotA_len n.1
  have h2 := dec_le3 n.2.toNat (by omega)
  unfold netT
  simp only [List.length_append, List.length_cons, List.length_nil]
  omega
theorem join_le (xs : List (List UInt8)) (h : ∀ x ∈ xs, x.length ≤ 19) : (Lib.join xs [44]).length ≤ 20 * xs.length := by
  cases xs with
  | nil => simp [Lib.join_nil]
  | cons x r =>
    rw [Lib.join_cons, List.length_append]
    have h1 := h x (List.mem_cons_self ..)
    have h2 : ∀ r : List (List UInt8), (∀ x ∈ r, x.length ≤ 19) → (Lib.joinTail [44] r).length ≤ 20 * r.length := by
      intro r
      induction r with
      | nil => intro _; simp [Lib.joinTail]
      | cons y r ih =>
        intro hr
        have a := hr y (List.mem_cons_self ..)
        have b := ih (fun z hz => hr z (List.mem_cons_of_mem _ hz))
        unfold Lib.joinTail at b ⊢
        simp only [List.map_cons, List.flatten_cons, List.length_append, List.length_cons, List.length_nil] at b ⊢
        omega
    have := h2 r (fun z hz => h z (List.mem_cons_of_mem _ hz))
    simp only [List.length_cons]
    omega
def strC (n : Nt) : Value := .string (sL (netT n))
theorem infoS : (Tryd.prog.info? 9).map (fun i => (i.zero, i.size, i.bytes)) = some (some (.string ⟨#[]⟩), 1, 16) := by kernel_rfl
theorem lit_str (w : World) (s : ByteArray) : (Instr.buildSlice 53 1 #[(0, .string s)]).run Tryd.prog w = .ok (.slice (some ⟨w.heap.size, 0, none⟩) 1 1) (w.alloc (.cells #[.string s] 9)) := by
  obtain ⟨i0, hi, hz0, hz1, hz2⟩ := info_parts infoS
  refine run_buildSlice w _ _ 1 _ _ i0 _ Tryd.underlying53 hi hz0 (by rw [hz1]; decide) (by rw [hz1]; decide) ?_
  rw [hz1]
  kernel_rfl
end Go.Proofs.YtgiecmgopibcnaaDoor
