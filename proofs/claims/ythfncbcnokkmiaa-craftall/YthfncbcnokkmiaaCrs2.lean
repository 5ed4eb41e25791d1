/- Contracts of layer 6 (craft), by what is made. -/
import Derived.Test.YthfncbcnokkmiaaCrPl2
import Derived.Test.YthfncbcnokkmiaaCrt
import Derived.Test.YthfncbcnokkmiaaIps2
import Derived.Test.YthfncbcnokkmiaaTcs2
import Derived.Test.YthfncbcnokkmiaaDgs3
namespace Go.Proofs.Ythfncbcnokkmiaa
open Go.RowKit
set_option linter.unusedVariables false
theorem crIp_put {i : Ip} {body p : ByteArray} {c : Int} (h : IpOut i body p c) (hb : body.size ≤ 100000) (w : World) :
    Calls Try.prog 30 #[.agg (ipV i), .string body] w fun r w' => r = .returned (.tuple #[.string p, .int .i64 c]) ∧ Below w.heap.size w w' := by
  rcases h with ⟨hm, h2, rfl, rfl⟩ | ⟨hm, rfl, rfl⟩ | ⟨hm, h2, rfl, rfl⟩
  · exact put_ok i body w hm h2
  · exact put_arg i body w hm
  · exact put_big i body w hm h2 (by omega)
theorem crSg_put {a b : UInt32} {h : Sg} {body p : ByteArray} {c : Int} (x : SgOut a b h body p c) (hb : body.size ≤ 100000) (w : World) :
    Calls Try.prog 61 #[.int .u32 (a.toNat : Int), .int .u32 (b.toNat : Int), .agg (sgV h), .string body] w fun r w' => r = .returned (.tuple #[.string p, .int .i64 c]) ∧ Below w.heap.size w w' := by
  rcases x with ⟨hm, h2, rfl, rfl⟩ | ⟨hm, rfl, rfl⟩ | ⟨hm, h2, rfl, rfl⟩
  · exact tcPut_ok h a b body w hm h2
  · exact tcPut_arg h a b body w hm
  · exact tcPut_big h a b body w hm h2 (by omega)
theorem crIc_put {h : Dg} {body p : ByteArray} {c : Int} (x : IcOut h body p c) (hb : body.size ≤ 100000) (w : World) :
    Calls Try.prog 64 #[.agg (dgV h), .string body] w fun r w' => r = .returned (.tuple #[.string p, .int .i64 c]) ∧ Below w.heap.size w w' := by
  rcases x with ⟨hm, h2, rfl, rfl⟩ | ⟨hm, rfl, rfl⟩ | ⟨hm, h2, rfl, rfl⟩
  · exact putICMP_of h body _ _ w (fun w => icPut_ok h body w hm h2)
  · exact putICMP_of h body _ _ w (fun w => icPut_arg h body w hm)
  · exact putICMP_of h body _ _ w (fun w => icPut_big h body w hm h2 (by omega))
theorem crData {e : Et} {i : Ip} {body D : ByteArray} (h : Data e i body D) (hb : body.size ≤ 100000) (w : World) :
    Calls Try.prog 13 #[.agg (etV e), .agg (ipV i), .string body] w fun r w' => r = .returned (.string D) ∧ Below w.heap.size w w' := by
  obtain ⟨p, c, hp, rfl⟩ := h
  have := hp.size
  exact crData_of e i body p c w (by omega) (fun w => crIp_put hp hb w)
theorem crSegm {e : Et} {i : Ip} {h : Sg} {body D : ByteArray} (x : Segm e i h body D) (hb : body.size ≤ 100000) (w : World) :
    Calls Try.prog 15 #[.agg (etV e), .agg (ipV i), .agg (sgV h), .string body] w fun r w' => r = .returned (.string D) ∧ Below w.heap.size w w' := by
  obtain ⟨p, c, D', hp, ⟨t, c2, hd, rfl⟩, rfl⟩ := x
  have := hp.size
  have := hd.size
  exact crSeg_of e i h body p t c c2 w (by omega) (fun w => crSg_put hp hb w) (fun w => crIp_put hd (by omega) w)
theorem crRese {e : Et} {i : Ip} {h : Sg} {seq ack : UInt32} {back : Bool} {D : ByteArray} (x : Rese e i h seq ack back D) (w : World) :
    Calls Try.prog 17 #[.agg (etV e), .agg (ipV i), .agg (sgV h), .int .u32 (seq.toNat : Int), .int .u32 (ack.toNat : Int), .bool back] w fun r w' => r = .returned (.string D) ∧ Below w.heap.size w w' := by
  cases back
  · exact crReset_on e i h seq ack D w (fun w => crSegm x (by show 0 ≤ 100000; omega) w)
  · exact crReset_back e i h seq ack D w (fun w => crSegm x (by show 0 ≤ 100000; omega) w)
theorem crUnre {e : Et} {i : Ip} {body D : ByteArray} (x : Unre e i body D) (ho : i.opts.size ≤ 1000) (hb : body.size ≤ 100000) (w : World) :
    Calls Try.prog 19 #[.agg (etV e), .agg (ipV i), .string body] w fun r w' => r = .returned (.string D) ∧ Below w.heap.size w w' := by
  obtain ⟨p, c0, t, c, D', hp, hi, ⟨u, c2, hd, rfl⟩, rfl⟩ := x
  have s1 := hp.size
  have s2 := hi.size
  have s3 := toldN_le i p
  have s4 := hd.size
  have hz : c0 ≠ 0 → p = ⟨#[]⟩ := by
    intro hne
    rcases hp with ⟨_, _, _, h0⟩ | ⟨_, hp, _⟩ | ⟨_, _, hp, _⟩
    · exact absurd h0 hne
    · exact hp
    · exact hp
  exact crUnr_of e i body p t u c0 c c2 w ho (by omega) hz (by omega) (fun w => crIp_put hp hb w) (fun w => crIc_put hi (by rw [ByteArray.size_extract]; omega) w) (fun w => crIp_put hd (by omega) w)
end Go.Proofs.Ythfncbcnokkmiaa
