/- Contracts of the document's own layer 6: Back; of the statements' own heads. -/
import Derived.Test.YthfncbcnokkmiaaRefCr
namespace Go.Proofs.Ythfncbcnokkmiaa
open Go.RowKit
set_option linter.unusedVariables false
theorem below4 (w : World) (A B C D : Obj) : Below w.heap.size w ((((w.alloc A).alloc B).alloc C).alloc D) := (below3 w A B C).alloc (by simp; omega) _
theorem etBack_v (e : Et) : etV e.back = #[bv e.b0, bv e.b1, bv e.b2, bv e.b3, bv e.b4, bv e.b5, bv e.a0, bv e.a1, bv e.a2, bv e.a3, bv e.a4, bv e.a5, .int .i64 e.t] := rfl
theorem ipBack_v (i : Ip) : ipV i.back = #[.int .i64 i.tos, .int .i64 0, .bool false, .bool false, .int .i64 0, .int .i64 64, .int .i64 i.proto, .int .u32 (i.dst.toNat : Int), .int .u32 (i.src.toNat : Int), .string ⟨#[]⟩] := rfl
theorem ipOn_v (i : Ip) : ipV i.on = #[.int .i64 i.tos, .int .i64 i.id, .bool false, .bool false, .int .i64 0, .int .i64 i.ttl, .int .i64 i.proto, .int .u32 (i.src.toNat : Int), .int .u32 (i.dst.toNat : Int), .string ⟨#[]⟩] := rfl
theorem ipTold_v (i : Ip) : ipV i.told = #[.int .i64 i.tos, .int .i64 0, .bool false, .bool false, .int .i64 0, .int .i64 64, .int .i64 1, .int .u32 (i.dst.toNat : Int), .int .u32 (i.src.toNat : Int), .string ⟨#[]⟩] := rfl
set_option maxRecDepth 100000 in
set_option maxHeartbeats 2000000 in
theorem rcBack_any (e : Et) (i : Ip) (w : World) :
    Calls Try.prog 10 #[.agg (etV e), .agg (ipV i)] w fun r w' => r = .returned (.tuple #[.agg (etV e.back), .agg (ipV i.back)]) ∧ Below w.heap.size w w' := by
  rw [etBack_v, ipBack_v]
  go_enter Try.func10, Try.ntmps10
  go_wp2_with fail
  go_region
  all_goals
    go_wp2_with fail
    exact bodyPost_ret (v := .tuple #[.agg #[bv e.b0, bv e.b1, bv e.b2, bv e.b3, bv e.b4, bv e.b5, bv e.a0, bv e.a1, bv e.a2, bv e.a3, bv e.a4, bv e.a5, .int .i64 e.t], .agg #[.int .i64 i.tos, .int .i64 0, .bool false, .bool false, .int .i64 0, .int .i64 64, .int .i64 i.proto, .int .u32 (i.dst.toNat : Int), .int .u32 (i.src.toNat : Int), .string ⟨#[]⟩]]) (by simp [results, Try.results10, go_sem]) rfl ⟨rfl, (below4 _ _ _ _ _).drew⟩
theorem few_any (i : Ip) (h : Sg) (body : ByteArray) (y : Bool) (w : World) (hb : body.size ≤ 9223372036854775807) (h1 : i.opts.size ≤ 9223372036854775807) (h2 : h.opts.size ≤ 9223372036854775807) (hy : y = decide (i.opts.size ≤ 100 ∧ h.opts.size ≤ 100 ∧ body.size ≤ 2200)) :
    Calls Try.prog 7 #[.agg (ipV i), .agg (sgV h), .string body] w fun r w' => r = .returned (.bool y) ∧ Below w.heap.size w w' := by
  by_cases a : (i.opts.size : Int) ≤ 100
  case neg =>
    have e : y = false := by rw [hy]; simp; omega
    subst e
    clear hy
    go_enter Try.func7, Try.ntmps7
    go_wp2
    go_ret
    exact ⟨rfl, below2 _ _ _⟩
  by_cases b : (h.opts.size : Int) ≤ 100
  case neg =>
    have e : y = false := by rw [hy]; simp; omega
    subst e
    clear hy
    go_enter Try.func7, Try.ntmps7
    go_wp2
    go_ret
    exact ⟨rfl, below2 _ _ _⟩
  by_cases c : (body.size : Int) ≤ 2200
  case neg =>
    have e : y = false := by rw [hy]; simp; omega
    subst e
    clear hy
    go_enter Try.func7, Try.ntmps7
    go_wp2
    go_ret
    exact ⟨rfl, below2 _ _ _⟩
  have e : y = true := by rw [hy]; simp; omega
  subst e
  clear hy
  go_enter Try.func7, Try.ntmps7
  go_wp2
  go_ret
  exact ⟨rfl, below2 _ _ _⟩
/-- the statements' own heads -/
def et0 : Et := ⟨0, 0, 0, 0, 0, 2, 0, 0, 0, 0, 0, 1, 2048⟩
def ip0 (p : Int) : Ip := ⟨0, 0, false, false, 0, 64, p, 167772161, 167772162, ⟨#[]⟩⟩
set_option maxRecDepth 100000 in
set_option maxHeartbeats 1000000 in
theorem lawEth_0 (w : World) : Calls Try.prog 28 #[.int .i64 0] w fun r w' => r = .returned (.agg (etV et0)) ∧ Below w.heap.size w w' := by
  have ev : etV et0 = #[.int .u8 0, .int .u8 0, .int .u8 0, .int .u8 0, .int .u8 0, .int .u8 2, .int .u8 0, .int .u8 0, .int .u8 0, .int .u8 0, .int .u8 0, .int .u8 1, .int .i64 2048] := rfl
  rw [ev]
  go_enter Try.func28, Try.ntmps28
  go_wp2_with fail
  exact bodyPost_ret (v := .agg #[.int .u8 0, .int .u8 0, .int .u8 0, .int .u8 0, .int .u8 0, .int .u8 2, .int .u8 0, .int .u8 0, .int .u8 0, .int .u8 0, .int .u8 0, .int .u8 1, .int .i64 2048]) (by simp [results, Try.results28, go_sem]) rfl ⟨rfl, below2 _ _ _⟩
set_option maxRecDepth 100000 in
set_option maxHeartbeats 1000000 in
theorem lawIP_0 (p : Int) (w : World) : Calls Try.prog 27 #[.int .i64 0, .int .i64 p] w fun r w' => r = .returned (.agg (ipV (ip0 p))) ∧ Below w.heap.size w w' := by
  have ev : ipV (ip0 p) = #[.int .i64 0, .int .i64 0, .bool false, .bool false, .int .i64 0, .int .i64 64, .int .i64 p, .int .u32 167772161, .int .u32 167772162, .string ⟨#[]⟩] := by
    unfold ipV ip0
    rw [show ((167772161 : UInt32).toNat : Int) = 167772161 from by simp, show ((167772162 : UInt32).toNat : Int) = 167772162 from by simp]
  rw [ev]
  go_enter Try.func27, Try.ntmps27
  go_wp2_with fail
  exact bodyPost_ret (v := .agg #[.int .i64 0, .int .i64 0, .bool false, .bool false, .int .i64 0, .int .i64 64, .int .i64 p, .int .u32 167772161, .int .u32 167772162, .string ⟨#[]⟩]) (by simp [results, Try.results27, go_sem]) rfl ⟨rfl, below2 _ _ _⟩
end Go.Proofs.Ythfncbcnokkmiaa
