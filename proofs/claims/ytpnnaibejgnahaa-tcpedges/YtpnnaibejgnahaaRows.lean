/-
  No cell of these rows narrows 'for every input' (looked for: loops, veiled, ifaces, maps, wideKeys, modest, calm, conditions, laid).
  DERIVED. THE GIVEN ROWS OF THIS SEAT. 4 by the template 'for every input the law returns true; each argument reads behind the call as it read before'; 0 by the template 'total and deterministic' (their statements: YtpnnaibejgnahaaTotals.lean).
  GIVEN WITH THE SEED: the statements are not yours to turn. If you find one false, say at which input.
  Laid BY PROGRAM, IN A SANDBOX (cutbox-rows.mjs): the forced cells as the released guide's own fill.sh prints them over the translation 8102c6b10918c893… (all of the seat's roots in one cut). By AI agents, Wed Nov 11 2026. No macro, syntax, notation, axiom, sorry.
-/
import Derived.Test.YtpnnaibejgnahaaChecked
import GoSem.Claim
import GoSem.ClaimJoined
import GoSem.ClaimMapViews
import Derived.JoinedTies
import Derived.KernelRfl
namespace Go.Proofs.Ytpnnaibejgnahaa
/- THE CELL 'sum', in the pinned program and in every row, IS THE sha256 OF THE DUMP (.gsa) THAT YtpnnaibejgnahaaProg.lean LOADS. Nothing in Lean hashes anything: it is a label: what it is worth is what the hold of that sum in a sandbox is worth. -/
noncomputable def Try.pinned : Pinned := { name := "ytpnnaibejgnahaa", sum := "8102c6b10918c89396e9898e886c4bfce036206f4cd18ae6a7402710af7ff16d", checked := Try.checked }
namespace Rows
def none {H : Type} : Left H := { results := [], args := [] }

/-- 'rampartlaw04.TcpAll': WHATEVER THE INPUT: true; the input reads as it did. -/
def tcpAllSpec : ChangeSpec := { name := "tcpAll", fn := fun _ => fun
  | [d1, d2, d3, d4, d5] => { results := [.lit (.bool true)], args := [d1, d2, d3, d4, d5] }
  | _ => none }
def tcpAllRow : OpenClaim := { program := "ytpnnaibejgnahaa", sum := "8102c6b10918c89396e9898e886c4bfce036206f4cd18ae6a7402710af7ff16d", func := "rampart/rampartlaw04.TcpAll", spec := "tcpAll", apart := false }
def TcpAllSaid : Prop := tcpAllRow.holds Try.pinned (OpenSpec.ofChange tcpAllSpec)

/-- ITS FALSE NEIGHBOUR: 'it returns false'. Refute it at one input. -/
def tcpAllWrong : ChangeSpec := { name := "tcpAll", fn := fun _ => fun
  | [d1, d2, d3, d4, d5] => { results := [.lit (.bool false)], args := [d1, d2, d3, d4, d5] }
  | _ => none }
def TcpAllWrongFalsely : Prop := tcpAllRow.holds Try.pinned (OpenSpec.ofChange tcpAllWrong)

/-- 'rampartlaw04.TcpBack': WHATEVER THE INPUT: true; the input reads as it did. -/
def tcpBackSpec : ChangeSpec := { name := "tcpBack", fn := fun _ => fun
  | [d1, d2, d3, d4, d5] => { results := [.lit (.bool true)], args := [d1, d2, d3, d4, d5] }
  | _ => none }
def tcpBackRow : OpenClaim := { program := "ytpnnaibejgnahaa", sum := "8102c6b10918c89396e9898e886c4bfce036206f4cd18ae6a7402710af7ff16d", func := "rampart/rampartlaw04.TcpBack", spec := "tcpBack", apart := false }
def TcpBackSaid : Prop := tcpBackRow.holds Try.pinned (OpenSpec.ofChange tcpBackSpec)

/-- ITS FALSE NEIGHBOUR: 'it returns false'. Refute it at one input. -/
def tcpBackWrong : ChangeSpec := { name := "tcpBack", fn := fun _ => fun
  | [d1, d2, d3, d4, d5] => { results := [.lit (.bool false)], args := [d1, d2, d3, d4, d5] }
  | _ => none }
def TcpBackWrongFalsely : Prop := tcpBackRow.holds Try.pinned (OpenSpec.ofChange tcpBackWrong)

/-- 'rampartlaw04.TcpEdges': WHATEVER THE INPUT: true; the input reads as it did. -/
def tcpEdgesSpec : ChangeSpec := { name := "tcpEdges", fn := fun _ => fun
  | [d1, d2] => { results := [.lit (.bool true)], args := [d1, d2] }
  | _ => none }
def tcpEdgesRow : OpenClaim := { program := "ytpnnaibejgnahaa", sum := "8102c6b10918c89396e9898e886c4bfce036206f4cd18ae6a7402710af7ff16d", func := "rampart/rampartlaw04.TcpEdges", spec := "tcpEdges", apart := false }
def TcpEdgesSaid : Prop := tcpEdgesRow.holds Try.pinned (OpenSpec.ofChange tcpEdgesSpec)

/-- ITS FALSE NEIGHBOUR: 'it returns false'. Refute it at one input. -/
def tcpEdgesWrong : ChangeSpec := { name := "tcpEdges", fn := fun _ => fun
  | [d1, d2] => { results := [.lit (.bool false)], args := [d1, d2] }
  | _ => none }
def TcpEdgesWrongFalsely : Prop := tcpEdgesRow.holds Try.pinned (OpenSpec.ofChange tcpEdgesWrong)

/-- 'rampartlaw04.TcpWrong': WHATEVER THE INPUT: true; the input reads as it did. -/
def tcpWrongSpec : ChangeSpec := { name := "tcpWrong", fn := fun _ => fun
  | [d1, d2] => { results := [.lit (.bool true)], args := [d1, d2] }
  | _ => none }
def tcpWrongRow : OpenClaim := { program := "ytpnnaibejgnahaa", sum := "8102c6b10918c89396e9898e886c4bfce036206f4cd18ae6a7402710af7ff16d", func := "rampart/rampartlaw04.TcpWrong", spec := "tcpWrong", apart := false }
def TcpWrongSaid : Prop := tcpWrongRow.holds Try.pinned (OpenSpec.ofChange tcpWrongSpec)

/-- ITS FALSE NEIGHBOUR: 'it returns false'. Refute it at one input. -/
def tcpWrongWrong : ChangeSpec := { name := "tcpWrong", fn := fun _ => fun
  | [d1, d2] => { results := [.lit (.bool false)], args := [d1, d2] }
  | _ => none }
def TcpWrongWrongFalsely : Prop := tcpWrongRow.holds Try.pinned (OpenSpec.ofChange tcpWrongWrong)

/- THE SECOND FORM. 'bulk': how many values and letters a reading holds, each counted each time it is reached (what is shared counts as often as it is met; a slice's spare places count too). A statement '..UptoSaid' is the law's where the arguments, and the package variables that the reading takes, are together of bulk at most 1048576: NARROWER than '..Said'. Prove '..Said' where nothing that the law and all that it calls make is longer than what came in: it says more and counts as full. Else prove '..UptoSaid'. A law counts once. -/
mutual
def uptoBulk {H : Type} : DataW H → Nat
  | .lit (.string bytes) => bytes.length + 1
  | .lit _ => 1
  | .nil => 1
  | .ptr d => uptoBulk d + 1
  | .slice elems spare => uptoBulkAll elems + uptoBulkAll spare + 1
  | .agg parts => uptoBulkAll parts + 1
  | .iface _ d => uptoBulk d + 1
  | .map entries => uptoBulkEntries entries + 1
  | .held _ => 1
def uptoBulkAll {H : Type} : List (DataW H) → Nat
  | [] => 0
  | d :: r => uptoBulk d + uptoBulkAll r
def uptoBulkEntries {H : Type} : List (Lit × DataW H) → Nat
  | [] => 0
  | x :: r => uptoBulkEntry x + uptoBulkEntries r
def uptoBulkEntry {H : Type} : Lit × DataW H → Nat
  | (.string bytes, d) => bytes.length + uptoBulk d + 1
  | (_, d) => uptoBulk d + 1
 end
def uptoSmall : (H : Type) → List (DataW H) → Bool := fun _ ds => decide (uptoBulkAll ds ≤ 1048576)
def OpenSpec.upto (s : _root_.Go.ChangeSpec) : _root_.Go.OpenSpec := { _root_.Go.OpenSpec.ofChange s with cond := some uptoSmall }

/-- 'rampartlaw04.TcpAll', WHERE WHAT IT READS IS OF BULK AT MOST 1048576: true; the input reads as it did. -/
def tcpAllUptoRow : OpenClaim := { program := "ytpnnaibejgnahaa", sum := "8102c6b10918c89396e9898e886c4bfce036206f4cd18ae6a7402710af7ff16d", func := "rampart/rampartlaw04.TcpAll", spec := "tcpAll", apart := false, narrowed := true }
def TcpAllUptoSaid : Prop := tcpAllUptoRow.holds Try.pinned (OpenSpec.upto tcpAllSpec)

/-- 'rampartlaw04.TcpBack', WHERE WHAT IT READS IS OF BULK AT MOST 1048576: true; the input reads as it did. -/
def tcpBackUptoRow : OpenClaim := { program := "ytpnnaibejgnahaa", sum := "8102c6b10918c89396e9898e886c4bfce036206f4cd18ae6a7402710af7ff16d", func := "rampart/rampartlaw04.TcpBack", spec := "tcpBack", apart := false, narrowed := true }
def TcpBackUptoSaid : Prop := tcpBackUptoRow.holds Try.pinned (OpenSpec.upto tcpBackSpec)

/-- 'rampartlaw04.TcpEdges', WHERE WHAT IT READS IS OF BULK AT MOST 1048576: true; the input reads as it did. -/
def tcpEdgesUptoRow : OpenClaim := { program := "ytpnnaibejgnahaa", sum := "8102c6b10918c89396e9898e886c4bfce036206f4cd18ae6a7402710af7ff16d", func := "rampart/rampartlaw04.TcpEdges", spec := "tcpEdges", apart := false, narrowed := true }
def TcpEdgesUptoSaid : Prop := tcpEdgesUptoRow.holds Try.pinned (OpenSpec.upto tcpEdgesSpec)

/-- 'rampartlaw04.TcpWrong', WHERE WHAT IT READS IS OF BULK AT MOST 1048576: true; the input reads as it did. -/
def tcpWrongUptoRow : OpenClaim := { program := "ytpnnaibejgnahaa", sum := "8102c6b10918c89396e9898e886c4bfce036206f4cd18ae6a7402710af7ff16d", func := "rampart/rampartlaw04.TcpWrong", spec := "tcpWrong", apart := false, narrowed := true }
def TcpWrongUptoSaid : Prop := tcpWrongUptoRow.holds Try.pinned (OpenSpec.upto tcpWrongSpec)

end Rows
end Go.Proofs.Ytpnnaibejgnahaa
