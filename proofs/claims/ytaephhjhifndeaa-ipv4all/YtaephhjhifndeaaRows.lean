/-
  No cell of these rows narrows 'for every input' (looked for: loops, veiled, ifaces, maps, wideKeys, modest, calm, conditions, laid).
  DERIVED. THE GIVEN ROWS OF THIS SEAT. 4 by the template 'for every input the law returns true; each argument reads behind the call as it read before'; 0 by the template 'total and deterministic' (their statements: YtaephhjhifndeaaTotals.lean).
  GIVEN WITH THE SEED: the statements are not yours to turn. If you find one false, say at which input.
  Laid BY PROGRAM, IN A SANDBOX (cutbox-rows.mjs): the forced cells as the released guide's own fill.sh prints them over the translation a722e50168f45c2b… (all of the seat's roots in one cut). By AI agents, Wed Nov 11 2026. No macro, syntax, notation, axiom, sorry.
-/
import Derived.Test.YtaephhjhifndeaaChecked
import GoSem.Claim
import GoSem.ClaimJoined
import GoSem.ClaimMapViews
import Derived.JoinedTies
import Derived.KernelRfl
namespace Go.Proofs.Ytaephhjhifndeaa
/- THE CELL 'sum', in the pinned program and in every row, IS THE sha256 OF THE DUMP (.gsa) THAT YtaephhjhifndeaaProg.lean LOADS. Nothing in Lean hashes anything: it is a label: what it is worth is what the hold of that sum in a sandbox is worth. -/
noncomputable def Try.pinned : Pinned := { name := "ytaephhjhifndeaa", sum := "a722e50168f45c2bd9290e1296eb8dc2b4eff739153e27aa5411a96488c8681d", checked := Try.checked }
namespace Rows
def none {H : Type} : Left H := { results := [], args := [] }

/-- 'rampartlaw03.Ipv4All': WHATEVER THE INPUT: true; the input reads as it did. -/
def ipv4AllSpec : ChangeSpec := { name := "ipv4All", fn := fun _ => fun
  | [d1, d2, d3] => { results := [.lit (.bool true)], args := [d1, d2, d3] }
  | _ => none }
def ipv4AllRow : OpenClaim := { program := "ytaephhjhifndeaa", sum := "a722e50168f45c2bd9290e1296eb8dc2b4eff739153e27aa5411a96488c8681d", func := "rampart/rampartlaw03.Ipv4All", spec := "ipv4All", unfollowed := true, recurses := true, apart := false }
def Ipv4AllSaid : Prop := ipv4AllRow.holds Try.pinned (OpenSpec.ofChange ipv4AllSpec)

/-- ITS FALSE NEIGHBOUR: 'it returns false'. Refute it at one input. -/
def ipv4AllWrong : ChangeSpec := { name := "ipv4All", fn := fun _ => fun
  | [d1, d2, d3] => { results := [.lit (.bool false)], args := [d1, d2, d3] }
  | _ => none }
def Ipv4AllWrongFalsely : Prop := ipv4AllRow.holds Try.pinned (OpenSpec.ofChange ipv4AllWrong)

/-- 'rampartlaw03.Ipv4Back': WHATEVER THE INPUT: true; the input reads as it did. -/
def ipv4BackSpec : ChangeSpec := { name := "ipv4Back", fn := fun _ => fun
  | [d1, d2, d3, d4] => { results := [.lit (.bool true)], args := [d1, d2, d3, d4] }
  | _ => none }
def ipv4BackRow : OpenClaim := { program := "ytaephhjhifndeaa", sum := "a722e50168f45c2bd9290e1296eb8dc2b4eff739153e27aa5411a96488c8681d", func := "rampart/rampartlaw03.Ipv4Back", spec := "ipv4Back", unfollowed := true, recurses := true, apart := false }
def Ipv4BackSaid : Prop := ipv4BackRow.holds Try.pinned (OpenSpec.ofChange ipv4BackSpec)

/-- ITS FALSE NEIGHBOUR: 'it returns false'. Refute it at one input. -/
def ipv4BackWrong : ChangeSpec := { name := "ipv4Back", fn := fun _ => fun
  | [d1, d2, d3, d4] => { results := [.lit (.bool false)], args := [d1, d2, d3, d4] }
  | _ => none }
def Ipv4BackWrongFalsely : Prop := ipv4BackRow.holds Try.pinned (OpenSpec.ofChange ipv4BackWrong)

/-- 'rampartlaw03.Ipv4Edges': WHATEVER THE INPUT: true; the input reads as it did. -/
def ipv4EdgesSpec : ChangeSpec := { name := "ipv4Edges", fn := fun _ => fun
  | [d1, d2] => { results := [.lit (.bool true)], args := [d1, d2] }
  | _ => none }
def ipv4EdgesRow : OpenClaim := { program := "ytaephhjhifndeaa", sum := "a722e50168f45c2bd9290e1296eb8dc2b4eff739153e27aa5411a96488c8681d", func := "rampart/rampartlaw03.Ipv4Edges", spec := "ipv4Edges", unfollowed := true, recurses := true, apart := false }
def Ipv4EdgesSaid : Prop := ipv4EdgesRow.holds Try.pinned (OpenSpec.ofChange ipv4EdgesSpec)

/-- ITS FALSE NEIGHBOUR: 'it returns false'. Refute it at one input. -/
def ipv4EdgesWrong : ChangeSpec := { name := "ipv4Edges", fn := fun _ => fun
  | [d1, d2] => { results := [.lit (.bool false)], args := [d1, d2] }
  | _ => none }
def Ipv4EdgesWrongFalsely : Prop := ipv4EdgesRow.holds Try.pinned (OpenSpec.ofChange ipv4EdgesWrong)

/-- 'rampartlaw03.Ipv4Wrong': WHATEVER THE INPUT: true; the input reads as it did. -/
def ipv4WrongSpec : ChangeSpec := { name := "ipv4Wrong", fn := fun _ => fun
  | [d1, d2] => { results := [.lit (.bool true)], args := [d1, d2] }
  | _ => none }
def ipv4WrongRow : OpenClaim := { program := "ytaephhjhifndeaa", sum := "a722e50168f45c2bd9290e1296eb8dc2b4eff739153e27aa5411a96488c8681d", func := "rampart/rampartlaw03.Ipv4Wrong", spec := "ipv4Wrong", unfollowed := true, recurses := true, apart := false }
def Ipv4WrongSaid : Prop := ipv4WrongRow.holds Try.pinned (OpenSpec.ofChange ipv4WrongSpec)

/-- ITS FALSE NEIGHBOUR: 'it returns false'. Refute it at one input. -/
def ipv4WrongWrong : ChangeSpec := { name := "ipv4Wrong", fn := fun _ => fun
  | [d1, d2] => { results := [.lit (.bool false)], args := [d1, d2] }
  | _ => none }
def Ipv4WrongWrongFalsely : Prop := ipv4WrongRow.holds Try.pinned (OpenSpec.ofChange ipv4WrongWrong)

/- THE SECOND FORM. 'bulk': how many values and letters a reading holds, each counted each time it is reached (what is shared counts as often as it is met; a slice's spare places count too). A statement '..UptoSaid' is the law's where the arguments, and the package variables that the reading takes, are together of bulk at most 1048576: NARROWER than '..Said'. Prove '..Said' where nothing that the law and all that it calls make is longer than what came in: it says more and counts as full. Else prove '..UptoSaid'. A law counts once. -/
mutual
def uptoBulk {H : Type} : DataW H → Nat
  | .lit (.string bytes) => bytes.length + 1
  | .lit _ => 1
  | .nil => 1
  | .ptr d => uptoBulk d + 1
  | .slice elems spare => uptoBulkAll elems + uptoBulkAll spare + 1
  | .agg parts => uptoBulkAll parts + 1
  | .iface _ d => uptoBulk d + 1
  | .map entries => uptoBulkEntries entries + 1
  | .held _ => 1
def uptoBulkAll {H : Type} : List (DataW H) → Nat
  | [] => 0
  | d :: r => uptoBulk d + uptoBulkAll r
def uptoBulkEntries {H : Type} : List (Lit × DataW H) → Nat
  | [] => 0
  | x :: r => uptoBulkEntry x + uptoBulkEntries r
def uptoBulkEntry {H : Type} : Lit × DataW H → Nat
  | (.string bytes, d) => bytes.length + uptoBulk d + 1
  | (_, d) => uptoBulk d + 1
 end
def uptoSmall : (H : Type) → List (DataW H) → Bool := fun _ ds => decide (uptoBulkAll ds ≤ 1048576)
def OpenSpec.upto (s : _root_.Go.ChangeSpec) : _root_.Go.OpenSpec := { _root_.Go.OpenSpec.ofChange s with cond := some uptoSmall }

/-- 'rampartlaw03.Ipv4All', WHERE WHAT IT READS IS OF BULK AT MOST 1048576: true; the input reads as it did. -/
def ipv4AllUptoRow : OpenClaim := { program := "ytaephhjhifndeaa", sum := "a722e50168f45c2bd9290e1296eb8dc2b4eff739153e27aa5411a96488c8681d", func := "rampart/rampartlaw03.Ipv4All", spec := "ipv4All", unfollowed := true, recurses := true, apart := false, narrowed := true }
def Ipv4AllUptoSaid : Prop := ipv4AllUptoRow.holds Try.pinned (OpenSpec.upto ipv4AllSpec)

/-- 'rampartlaw03.Ipv4Back', WHERE WHAT IT READS IS OF BULK AT MOST 1048576: true; the input reads as it did. -/
def ipv4BackUptoRow : OpenClaim := { program := "ytaephhjhifndeaa", sum := "a722e50168f45c2bd9290e1296eb8dc2b4eff739153e27aa5411a96488c8681d", func := "rampart/rampartlaw03.Ipv4Back", spec := "ipv4Back", unfollowed := true, recurses := true, apart := false, narrowed := true }
def Ipv4BackUptoSaid : Prop := ipv4BackUptoRow.holds Try.pinned (OpenSpec.upto ipv4BackSpec)

/-- 'rampartlaw03.Ipv4Edges', WHERE WHAT IT READS IS OF BULK AT MOST 1048576: true; the input reads as it did. -/
def ipv4EdgesUptoRow : OpenClaim := { program := "ytaephhjhifndeaa", sum := "a722e50168f45c2bd9290e1296eb8dc2b4eff739153e27aa5411a96488c8681d", func := "rampart/rampartlaw03.Ipv4Edges", spec := "ipv4Edges", unfollowed := true, recurses := true, apart := false, narrowed := true }
def Ipv4EdgesUptoSaid : Prop := ipv4EdgesUptoRow.holds Try.pinned (OpenSpec.upto ipv4EdgesSpec)

/-- 'rampartlaw03.Ipv4Wrong', WHERE WHAT IT READS IS OF BULK AT MOST 1048576: true; the input reads as it did. -/
def ipv4WrongUptoRow : OpenClaim := { program := "ytaephhjhifndeaa", sum := "a722e50168f45c2bd9290e1296eb8dc2b4eff739153e27aa5411a96488c8681d", func := "rampart/rampartlaw03.Ipv4Wrong", spec := "ipv4Wrong", unfollowed := true, recurses := true, apart := false, narrowed := true }
def Ipv4WrongUptoSaid : Prop := ipv4WrongUptoRow.holds Try.pinned (OpenSpec.upto ipv4WrongSpec)

end Rows
end Go.Proofs.Ytaephhjhifndeaa
