/- Plain facts on frames that are made: heads of layer 2 as one thing, what goes back, what goes on. -/
import Derived.Test.YthfncbcnokkmiaaEths2
import Derived.Test.YthfncbcnokkmiaaIpPl
import Derived.Test.YthfncbcnokkmiaaTcPl
import Derived.Test.YthfncbcnokkmiaaDgPl
namespace Go.Proofs.Ythfncbcnokkmiaa
open Go.RowKit
set_option linter.unusedVariables false
set_option maxRecDepth 20000
/-- a head of layer 2 -/
structure Et where
  a0 : UInt8
  a1 : UInt8
  a2 : UInt8
  a3 : UInt8
  a4 : UInt8
  a5 : UInt8
  b0 : UInt8
  b1 : UInt8
  b2 : UInt8
  b3 : UInt8
  b4 : UInt8
  b5 : UInt8
  t : Int
abbrev etV (e : Et) : Array Value := ethB e.a0 e.a1 e.a2 e.a3 e.a4 e.a5 e.b0 e.b1 e.b2 e.b3 e.b4 e.b5 e.t
def Et.put (e : Et) (body : ByteArray) : ByteArray := ⟨#[e.a0, e.a1, e.a2, e.a3, e.a4, e.a5, e.b0, e.b1, e.b2, e.b3, e.b4, e.b5, hiB e.t, loB e.t]⟩ ++ body
theorem etPut_size (e : Et) (body : ByteArray) : (e.put body).size = 14 + body.size := by
  unfold Et.put
  rw [ByteArray.size_append]
  rfl
def Et.back (e : Et) : Et := ⟨e.b0, e.b1, e.b2, e.b3, e.b4, e.b5, e.a0, e.a1, e.a2, e.a3, e.a4, e.a5, e.t⟩
/-- what goes back, and what goes on -/
def Ip.back (i : Ip) : Ip := ⟨i.tos, 0, false, false, 0, 64, i.proto, i.dst, i.src, ⟨#[]⟩⟩
def Ip.on (i : Ip) : Ip := ⟨i.tos, i.id, false, false, 0, i.ttl, i.proto, i.src, i.dst, ⟨#[]⟩⟩
def Ip.told (i : Ip) : Ip := ⟨i.tos, 0, false, false, 0, 64, 1, i.dst, i.src, ⟨#[]⟩⟩
/-- the head of a reset -/
def Sg.reset (h : Sg) (back : Bool) (seq ack : UInt32) : Sg := if back = true then ⟨h.dst, h.src, seq, ack, 20, 0, ⟨#[]⟩⟩ else ⟨h.src, h.dst, seq, ack, 20, 0, ⟨#[]⟩⟩
def dgTold : Dg := ⟨0, 0, 3, 3, 0⟩
/-- how many bytes are told of a datagram -/
def toldN (i : Ip) (p : ByteArray) : Nat := if 28 + i.opts.size < p.size then 28 + i.opts.size else p.size
theorem toldN_le (i : Ip) (p : ByteArray) : toldN i p ≤ p.size := by
  unfold toldN
  split <;> omega
end Go.Proofs.Ythfncbcnokkmiaa
