/- Layer 7: how many bytes lie there; a name as a map's key; a new entry. -/
import Derived.Test.YtkfgapljphhmcaaDfs3
import Derived.Test.YtkfgapljphhmcaaLift
import Derived.LoopN
import Derived.Deep.MidRow
import Derived.DeepKeys4
namespace Go.Proofs.Ytkfgapljphhmcaa
open Go.RowKit Go.Maps
set_option linter.unusedVariables false
set_option maxRecDepth 20000
theorem wpList_ld0 {P : Program} {ops : Array Oper} {rest : List Oper} {op : Oper} {a : Act} {w : World} {Q : Exit → Act → World → Prop} {ty : TypeId} {x : Operand} {b : Addr} {v : Value} (hl : (Instr.loadAt ty (.pointer (some b))).run P w = .ok v w) (hgd : op.guard = none) (ho : op.op = .load ty x) (hx : a.eval x = .pointer (some b))
    (h : wpList P ops Q rest (a.put op.dst v) w) : wpList P ops Q (op :: rest) a w :=
  wpList_plain hgd fun _ hK => by
    unfold Oper.wp execOp
    simp only [ho, hx, hl, Sem.run_bind, Result.andThen_ok, Sem.run_pure]
    exact hK _ _ h
theorem count_to (e : Ent) (k : Nat) : ((List.range (k + 1)).filter e.th).length = ((List.range k).filter e.th).length + (if e.th k then 1 else 0) := by
  rw [List.range_succ, List.filter_append, List.length_append]
  congr 1
  cases h : e.th k <;> simp [h]
theorem load_there {w : World} {B : Nat} {e : Ent} (h : EntAt w B e) : (Instr.loadAt 57 (.pointer (some ⟨B, 2000, none⟩))).run Try.prog w = .ok (.agg ((List.range 2000).map fun o => Value.bool (e.th o)).toArray) w :=
  run_loadAt_mid (P := Try.prog) w B 2000 57 _ _ (fun j v hv => by
    rw [List.getElem?_map] at hv
    rcases Nat.lt_or_ge j 2000 with hj | hj
    · rw [List.getElem?_range hj] at hv
      rw [h.t j hj]
      exact hv
    · rw [List.getElem?_eq_none (by simpa using hj)] at hv
      cases hv) Try.underlying57 rfl (by rw [List.length_map, List.length_range]; kernel_rfl)
theorem there_at (e : Ent) (k : Nat) (hk : k < 2000) : ((List.range 2000).map fun o => Value.bool (e.th o)).toArray[k]? = some (.bool (e.th k)) := by
  simp [List.getElem?_range hk]
theorem idx_at {w : World} (A : Array Value) (k : Nat) (y : Bool) (hk : k < 2000) (h : A[k]? = some (.bool y)) : (Instr.index 57 (.agg A) (.int .i64 (k : Int))).run Try.prog w = .ok (.bool y) w := by
  have hu := Try.underlying57
  have hs : (sizeOf 4).run Try.prog w = .ok 1 w := by kernel_rfl
  have hp : (part 4 A k).run Try.prog w = .ok (.bool y) w := by
    simp [part, isAgg, run_underlying Try.underlying4, h]
  simp [Instr.index, asIntOf, run_underlying hu, hs, hp]
  intro hh
  omega
set_option maxHeartbeats 1000000 in
theorem count_any (w : World) (B : Nat) (e : Ent) (h : EntAt w B e) :
    Calls Try.prog 30 #[.pointer (some ⟨B, 0, none⟩)] w fun r w' => r = .returned (.int .i64 (e.count : Int)) ∧ w = w' := by
  have hld := load_there h
  have HT := (show Hid _ from there_at e)
  have hsz : ((List.range 2000).map fun o => Value.bool (e.th o)).toArray.size = 2000 := by simp
  obtain ⟨A, hA⟩ : ∃ A, A = ((List.range 2000).map fun o => Value.bool (e.th o)).toArray := ⟨_, rfl⟩
  rw [← hA] at hld HT hsz
  have hlt := h.lt
  clear h hA
  go_enter Try.func30, Try.ntmps30
  go_wp2_with (refine wpList_ld0 hld rfl rfl rfl ?_)
  go_loop [3, 10] (fun v t => ∃ k : Nat, k ≤ 2000 ∧ t = .int .i64 (k : Int) ∧ ∃ n : Int, v = .int .i64 n ∧ 0 ≤ n ∧ n ≤ (k : Int) ∧ Hid (n = (((List.range k).filter e.th).length : Int))) (fun _ t => 2000 - (intOf t).toNat)
  case atStart => exact ⟨0, by omega, rfl, 0, rfl, by omega, by omega, rfl⟩
  case round =>
    obtain ⟨k, hk, rfl, n, rfl, n0, n1, HN⟩ := hrel
    by_cases hk2 : k < 2000
    · have hix := idx_at (w := w) A k (e.th k) hk2 (HT.out k hk2)
      have HC := (show Hid _ from count_to e k)
      obtain ⟨y, hy⟩ : ∃ y, y = e.th k := ⟨_, rfl⟩
      rw [← hy] at hix HC
      clear hld hy HT
      cases y
      · go_wp2
        go_round
        case rel => exact ⟨k + 1, by omega, by go_num, n, rfl, n0, by omega, by show _ = _; rw [HC.out, HN.out]; simp⟩
        case measure => simp [intOf]; omega
      · go_wp2
        go_round
        case rel => exact ⟨k + 1, by omega, by go_num, n + 1, by go_num, by omega, by omega, by show _ = _; rw [HC.out, HN.out]; simp⟩
        case measure => simp [intOf]; omega
    · obtain rfl : k = 2000 := by omega
      clear hld HT
      go_wp2
      go_ret
      exact ⟨ret_int HN.out, rfl⟩
/-- an entry's name -/
abbrev nmV (i : Ip) : Array Value := #[.int .u32 (i.src.toNat : Int), .int .u32 (i.dst.toNat : Int), .int .i64 i.proto, .int .i64 i.id]
def nmL (i : Ip) : Lit := .string (keyBytes [.int .u32 (i.src.toNat : Int), .int .u32 (i.dst.toNat : Int), .int .i64 i.proto, .int .i64 i.id])
theorem nmLaw : Keyed Try.prog 54 := Keyed.of_law (deep_law_laid laidOut (m := 2) (by omega) (of_decide_eq_true (by kernel_rfl)) (by kernel_rfl) (by rw [Try.underlying54]))
theorem nm_key (i : Ip) (h1 : -9223372036854775808 ≤ i.proto ∧ i.proto ≤ 9223372036854775807) (h2 : -9223372036854775808 ≤ i.id ∧ i.id ≤ 9223372036854775807) : keyOf Try.prog 54 (.agg (nmV i)) = some (nmL i) := by
  have w1 : (Lit.int .u32 (i.src.toNat : Int)).wf = true := by have := i.src.toNat_lt; simp [Lit.wf, IntKind.min, IntKind.max, IntKind.bits, IntKind.signed]; omega
  have w2 : (Lit.int .u32 (i.dst.toNat : Int)).wf = true := by have := i.dst.toNat_lt; simp [Lit.wf, IntKind.min, IntKind.max, IntKind.bits, IntKind.signed]; omega
  have w3 : (Lit.int .i64 i.proto).wf = true := by simp [Lit.wf, IntKind.min, IntKind.max, IntKind.bits, IntKind.signed]; omega
  have w4 : (Lit.int .i64 i.id).wf = true := by simp [Lit.wf, IntKind.min, IntKind.max, IntKind.bits, IntKind.signed]; omega
  have hk : Try.prog.keyType 54 = true := by kernel_rfl
  have hc : Try.prog.cellsOf 54 = 4 := by kernel_rfl
  have hz : Try.prog.types.size + 1 = (Try.prog.types.size - 1) + 2 := by have : 1 ≤ Try.prog.types.size := of_decide_eq_true (by kernel_rfl); omega
  unfold keyOf
  rw [Try.underlying54]
  simp only [hk, Value.formed, Try.underlying54, hc, hz]
  have c1 : Try.prog.cellsOf 27 = 1 := by kernel_rfl
  have c2 : Try.prog.cellsOf 3 = 1 := by kernel_rfl
  have hl : ∀ d, Try.prog.keyLits (d + 2) 54 (nmV i).toList = some [.int .u32 (i.src.toNat : Int), .int .u32 (i.dst.toNat : Int), .int .i64 i.proto, .int .i64 i.id] := fun d => by
    simp [Program.keyLits, Try.underlying54, Try.underlying27, Try.underlying3, hc, c1, c2, w1, w2, w3, w4]
  rw [show (Value.agg (nmV i)).cells.toList = (nmV i).toList from rfl, hl]
  rfl
end Go.Proofs.Ytkfgapljphhmcaa
