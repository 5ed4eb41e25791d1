/- Contracts of the document's own layer 6, by what is made. -/
import Derived.Test.YthfncbcnokkmiaaCrPl2
import Derived.Test.YthfncbcnokkmiaaRefCr3
import Derived.Test.YthfncbcnokkmiaaRefIp3
import Derived.Test.YthfncbcnokkmiaaRefTc
import Derived.Test.YthfncbcnokkmiaaRefDg
namespace Go.Proofs.Ythfncbcnokkmiaa
open Go.RowKit
set_option linter.unusedVariables false
theorem rcIp_put {i : Ip} {body p : ByteArray} {c : Int} (h : IpOut i body p c) (hb : body.size ≤ 100000) (w : World) :
    Calls Try.prog 36 #[.agg (ipV i), .string body] w fun r w' => r = .returned (.tuple #[.string p, .int .i64 c]) ∧ Below w.heap.size w w' := by
  rcases h with ⟨hm, h2, rfl, rfl⟩ | ⟨hm, rfl, rfl⟩ | ⟨hm, h2, rfl, rfl⟩
  · exact refPut_ok i body w hm h2
  · exact refPut_arg i body w hm
  · exact refPut_big i body w hm h2 (by omega)
theorem rcSg_put {a b : UInt32} {h : Sg} {body p : ByteArray} {c : Int} (x : SgOut a b h body p c) (hb : body.size ≤ 100000) (w : World) :
    Calls Try.prog 39 #[.int .u32 (a.toNat : Int), .int .u32 (b.toNat : Int), .agg (sgV h), .string body] w fun r w' => r = .returned (.tuple #[.string p, .int .i64 c]) ∧ Below w.heap.size w w' := by
  rcases x with ⟨hm, h2, rfl, rfl⟩ | ⟨hm, rfl, rfl⟩ | ⟨hm, h2, rfl, rfl⟩
  · exact rtPut_ok h a b body w hm h2
  · exact rtPut_arg h a b body w hm
  · exact rtPut_big h a b body w hm h2 (by omega)
theorem rcIc_put {h : Dg} {body p : ByteArray} {c : Int} (x : IcOut h body p c) (hb : body.size ≤ 100000) (w : World) :
    Calls Try.prog 43 #[.agg (dgV h), .string body] w fun r w' => r = .returned (.tuple #[.string p, .int .i64 c]) ∧ Below w.heap.size w w' := by
  rcases x with ⟨hm, h2, rfl, rfl⟩ | ⟨hm, rfl, rfl⟩ | ⟨hm, h2, rfl, rfl⟩
  · exact rdPutI_ok h body w hm h2
  · exact rdPutI_arg h body w hm
  · exact rdPutI_big h body w hm h2 (by omega)
theorem rcData {e : Et} {i : Ip} {body D : ByteArray} (h : Data e i body D) (hb : body.size ≤ 100000) (w : World) :
    Calls Try.prog 14 #[.agg (etV e), .agg (ipV i), .string body] w fun r w' => r = .returned (.string D) ∧ Below w.heap.size w w' := by
  obtain ⟨p, c, hp, rfl⟩ := h
  have := hp.size
  exact rcData_of e i body p c w (by omega) (fun w => rcIp_put hp hb w)
theorem rcSegm {e : Et} {i : Ip} {h : Sg} {body D : ByteArray} (x : Segm e i h body D) (hb : body.size ≤ 100000) (w : World) :
    Calls Try.prog 16 #[.agg (etV e), .agg (ipV i), .agg (sgV h), .string body] w fun r w' => r = .returned (.string D) ∧ Below w.heap.size w w' := by
  obtain ⟨p, c, D', hp, hd, rfl⟩ := x
  have := hp.size
  exact rcSeg_of e i h body p D' c w (fun w => rcSg_put hp hb w) (fun w => rcData hd (by omega) w)
theorem rcRese {e : Et} {i : Ip} {h : Sg} {seq ack : UInt32} {back : Bool} {D : ByteArray} (x : Rese e i h seq ack back D) (w : World) :
    Calls Try.prog 18 #[.agg (etV e), .agg (ipV i), .agg (sgV h), .int .u32 (seq.toNat : Int), .int .u32 (ack.toNat : Int), .bool back] w fun r w' => r = .returned (.string D) ∧ Below w.heap.size w w' := by
  cases back
  · exact rcReset_on e i h seq ack D w (fun w => rcSegm x (by show 0 ≤ 100000; omega) w)
  · exact rcReset_back e i h seq ack D w (fun w => rcSegm x (by show 0 ≤ 100000; omega) w)
theorem rcUnre {e : Et} {i : Ip} {body D : ByteArray} (x : Unre e i body D) (ho : i.opts.size ≤ 1000) (hb : body.size ≤ 100000) (w : World) :
    Calls Try.prog 20 #[.agg (etV e), .agg (ipV i), .string body] w fun r w' => r = .returned (.string D) ∧ Below w.heap.size w w' := by
  obtain ⟨p, c0, t, c, D', hp, hi, hd, rfl⟩ := x
  have s1 := hp.size
  have s2 := hi.size
  have s3 := toldN_le i p
  exact rcUnr_of e i body p t D' c0 c w ho (by omega) (fun w => rcIp_put hp hb w) (fun w => rcIc_put hi (by rw [ByteArray.size_extract]; omega) w) (fun w => rcData hd (by omega) w)
end Go.Proofs.Ythfncbcnokkmiaa
