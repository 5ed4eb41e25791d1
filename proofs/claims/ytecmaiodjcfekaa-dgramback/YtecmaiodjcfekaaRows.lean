/-
  No cell of these rows narrows 'for every input' (looked for: loops, veiled, ifaces, maps, wideKeys, modest, calm, conditions, laid).
  DERIVED. THE GIVEN ROWS OF THIS SEAT. 4 by the template 'for every input the law returns true; each argument reads behind the call as it read before'; 0 by the template 'total and deterministic' (their statements: YtecmaiodjcfekaaTotals.lean).
  GIVEN WITH THE SEED: the statements are not yours to turn. If you find one false, say at which input.
  Laid BY PROGRAM, IN A SANDBOX (cutbox-rows.mjs): the forced cells as the released guide's own fill.sh prints them over the translation a28f31b7c9dcbd6d… (all of the seat's roots in one cut). By AI agents, Wed Nov 11 2026. No macro, syntax, notation, axiom, sorry.
-/
import Derived.Test.YtecmaiodjcfekaaChecked
import GoSem.Claim
import GoSem.ClaimJoined
import GoSem.ClaimMapViews
import Derived.JoinedTies
import Derived.KernelRfl
namespace Go.Proofs.Ytecmaiodjcfekaa
/- THE CELL 'sum', in the pinned program and in every row, IS THE sha256 OF THE DUMP (.gsa) THAT YtecmaiodjcfekaaProg.lean LOADS. Nothing in Lean hashes anything: it is a label: what it is worth is what the hold of that sum in a sandbox is worth. -/
noncomputable def Try.pinned : Pinned := { name := "ytecmaiodjcfekaa", sum := "a28f31b7c9dcbd6d8a1fa1471ed55cfb28c5f7aa475741c545f5d548af6d6ac6", checked := Try.checked }
namespace Rows
def none {H : Type} : Left H := { results := [], args := [] }

/-- 'rampartlaw05.DgramAll': WHATEVER THE INPUT: true; the input reads as it did. -/
def dgramAllSpec : ChangeSpec := { name := "dgramAll", fn := fun _ => fun
  | [d1, d2, d3, d4, d5] => { results := [.lit (.bool true)], args := [d1, d2, d3, d4, d5] }
  | _ => none }
def dgramAllRow : OpenClaim := { program := "ytecmaiodjcfekaa", sum := "a28f31b7c9dcbd6d8a1fa1471ed55cfb28c5f7aa475741c545f5d548af6d6ac6", func := "rampart/rampartlaw05.DgramAll", spec := "dgramAll", unfollowed := true, recurses := true, apart := false }
def DgramAllSaid : Prop := dgramAllRow.holds Try.pinned (OpenSpec.ofChange dgramAllSpec)

/-- ITS FALSE NEIGHBOUR: 'it returns false'. Refute it at one input. -/
def dgramAllWrong : ChangeSpec := { name := "dgramAll", fn := fun _ => fun
  | [d1, d2, d3, d4, d5] => { results := [.lit (.bool false)], args := [d1, d2, d3, d4, d5] }
  | _ => none }
def DgramAllWrongFalsely : Prop := dgramAllRow.holds Try.pinned (OpenSpec.ofChange dgramAllWrong)

/-- 'rampartlaw05.DgramBack': WHATEVER THE INPUT: true; the input reads as it did. -/
def dgramBackSpec : ChangeSpec := { name := "dgramBack", fn := fun _ => fun
  | [d1, d2, d3, d4, d5] => { results := [.lit (.bool true)], args := [d1, d2, d3, d4, d5] }
  | _ => none }
def dgramBackRow : OpenClaim := { program := "ytecmaiodjcfekaa", sum := "a28f31b7c9dcbd6d8a1fa1471ed55cfb28c5f7aa475741c545f5d548af6d6ac6", func := "rampart/rampartlaw05.DgramBack", spec := "dgramBack", unfollowed := true, recurses := true, apart := false }
def DgramBackSaid : Prop := dgramBackRow.holds Try.pinned (OpenSpec.ofChange dgramBackSpec)

/-- ITS FALSE NEIGHBOUR: 'it returns false'. Refute it at one input. -/
def dgramBackWrong : ChangeSpec := { name := "dgramBack", fn := fun _ => fun
  | [d1, d2, d3, d4, d5] => { results := [.lit (.bool false)], args := [d1, d2, d3, d4, d5] }
  | _ => none }
def DgramBackWrongFalsely : Prop := dgramBackRow.holds Try.pinned (OpenSpec.ofChange dgramBackWrong)

/-- 'rampartlaw05.DgramEdges': WHATEVER THE INPUT: true; the input reads as it did. -/
def dgramEdgesSpec : ChangeSpec := { name := "dgramEdges", fn := fun _ => fun
  | [d1, d2, d3] => { results := [.lit (.bool true)], args := [d1, d2, d3] }
  | _ => none }
def dgramEdgesRow : OpenClaim := { program := "ytecmaiodjcfekaa", sum := "a28f31b7c9dcbd6d8a1fa1471ed55cfb28c5f7aa475741c545f5d548af6d6ac6", func := "rampart/rampartlaw05.DgramEdges", spec := "dgramEdges", unfollowed := true, recurses := true, apart := false }
def DgramEdgesSaid : Prop := dgramEdgesRow.holds Try.pinned (OpenSpec.ofChange dgramEdgesSpec)

/-- ITS FALSE NEIGHBOUR: 'it returns false'. Refute it at one input. -/
def dgramEdgesWrong : ChangeSpec := { name := "dgramEdges", fn := fun _ => fun
  | [d1, d2, d3] => { results := [.lit (.bool false)], args := [d1, d2, d3] }
  | _ => none }
def DgramEdgesWrongFalsely : Prop := dgramEdgesRow.holds Try.pinned (OpenSpec.ofChange dgramEdgesWrong)

/-- 'rampartlaw05.DgramCut': WHATEVER THE INPUT: true; the input reads as it did. -/
def dgramCutSpec : ChangeSpec := { name := "dgramCut", fn := fun _ => fun
  | [d1, d2, d3] => { results := [.lit (.bool true)], args := [d1, d2, d3] }
  | _ => none }
def dgramCutRow : OpenClaim := { program := "ytecmaiodjcfekaa", sum := "a28f31b7c9dcbd6d8a1fa1471ed55cfb28c5f7aa475741c545f5d548af6d6ac6", func := "rampart/rampartlaw05.DgramCut", spec := "dgramCut", unfollowed := true, recurses := true, apart := false }
def DgramCutSaid : Prop := dgramCutRow.holds Try.pinned (OpenSpec.ofChange dgramCutSpec)

/-- ITS FALSE NEIGHBOUR: 'it returns false'. Refute it at one input. -/
def dgramCutWrong : ChangeSpec := { name := "dgramCut", fn := fun _ => fun
  | [d1, d2, d3] => { results := [.lit (.bool false)], args := [d1, d2, d3] }
  | _ => none }
def DgramCutWrongFalsely : Prop := dgramCutRow.holds Try.pinned (OpenSpec.ofChange dgramCutWrong)

/- THE SECOND FORM. 'bulk': how many values and letters a reading holds, each counted each time it is reached (what is shared counts as often as it is met; a slice's spare places count too). A statement '..UptoSaid' is the law's where the arguments, and the package variables that the reading takes, are together of bulk at most 1048576: NARROWER than '..Said'. Prove '..Said' where nothing that the law and all that it calls make is longer than what came in: it says more and counts as full. Else prove '..UptoSaid'. A law counts once. -/
mutual
def uptoBulk {H : Type} : DataW H → Nat
  | .lit (.string bytes) => bytes.length + 1
  | .lit _ => 1
  | .nil => 1
  | .ptr d => uptoBulk d + 1
  | .slice elems spare => uptoBulkAll elems + uptoBulkAll spare + 1
  | .agg parts => uptoBulkAll parts + 1
  | .iface _ d => uptoBulk d + 1
  | .map entries => uptoBulkEntries entries + 1
  | .held _ => 1
def uptoBulkAll {H : Type} : List (DataW H) → Nat
  | [] => 0
  | d :: r => uptoBulk d + uptoBulkAll r
def uptoBulkEntries {H : Type} : List (Lit × DataW H) → Nat
  | [] => 0
  | x :: r => uptoBulkEntry x + uptoBulkEntries r
def uptoBulkEntry {H : Type} : Lit × DataW H → Nat
  | (.string bytes, d) => bytes.length + uptoBulk d + 1
  | (_, d) => uptoBulk d + 1
 end
def uptoSmall : (H : Type) → List (DataW H) → Bool := fun _ ds => decide (uptoBulkAll ds ≤ 1048576)
def OpenSpec.upto (s : _root_.Go.ChangeSpec) : _root_.Go.OpenSpec := { _root_.Go.OpenSpec.ofChange s with cond := some uptoSmall }

/-- 'rampartlaw05.DgramAll', WHERE WHAT IT READS IS OF BULK AT MOST 1048576: true; the input reads as it did. -/
def dgramAllUptoRow : OpenClaim := { program := "ytecmaiodjcfekaa", sum := "a28f31b7c9dcbd6d8a1fa1471ed55cfb28c5f7aa475741c545f5d548af6d6ac6", func := "rampart/rampartlaw05.DgramAll", spec := "dgramAll", unfollowed := true, recurses := true, apart := false, narrowed := true }
def DgramAllUptoSaid : Prop := dgramAllUptoRow.holds Try.pinned (OpenSpec.upto dgramAllSpec)

/-- 'rampartlaw05.DgramBack', WHERE WHAT IT READS IS OF BULK AT MOST 1048576: true; the input reads as it did. -/
def dgramBackUptoRow : OpenClaim := { program := "ytecmaiodjcfekaa", sum := "a28f31b7c9dcbd6d8a1fa1471ed55cfb28c5f7aa475741c545f5d548af6d6ac6", func := "rampart/rampartlaw05.DgramBack", spec := "dgramBack", unfollowed := true, recurses := true, apart := false, narrowed := true }
def DgramBackUptoSaid : Prop := dgramBackUptoRow.holds Try.pinned (OpenSpec.upto dgramBackSpec)

/-- 'rampartlaw05.DgramEdges', WHERE WHAT IT READS IS OF BULK AT MOST 1048576: true; the input reads as it did. -/
def dgramEdgesUptoRow : OpenClaim := { program := "ytecmaiodjcfekaa", sum := "a28f31b7c9dcbd6d8a1fa1471ed55cfb28c5f7aa475741c545f5d548af6d6ac6", func := "rampart/rampartlaw05.DgramEdges", spec := "dgramEdges", unfollowed := true, recurses := true, apart := false, narrowed := true }
def DgramEdgesUptoSaid : Prop := dgramEdgesUptoRow.holds Try.pinned (OpenSpec.upto dgramEdgesSpec)

/-- 'rampartlaw05.DgramCut', WHERE WHAT IT READS IS OF BULK AT MOST 1048576: true; the input reads as it did. -/
def dgramCutUptoRow : OpenClaim := { program := "ytecmaiodjcfekaa", sum := "a28f31b7c9dcbd6d8a1fa1471ed55cfb28c5f7aa475741c545f5d548af6d6ac6", func := "rampart/rampartlaw05.DgramCut", spec := "dgramCut", unfollowed := true, recurses := true, apart := false, narrowed := true }
def DgramCutUptoSaid : Prop := dgramCutUptoRow.holds Try.pinned (OpenSpec.upto dgramCutSpec)

end Rows
end Go.Proofs.Ytecmaiodjcfekaa
