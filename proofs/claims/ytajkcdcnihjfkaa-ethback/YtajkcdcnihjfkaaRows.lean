/-
  No cell of these rows narrows 'for every input' (looked for: loops, veiled, ifaces, maps, wideKeys, modest, calm, conditions, laid).
  DERIVED. THE GIVEN ROWS OF THIS SEAT. 4 by the template 'for every input the law returns true; each argument reads behind the call as it read before'; 0 by the template 'total and deterministic' (their statements: YtajkcdcnihjfkaaTotals.lean).
  GIVEN WITH THE SEED: the statements are not yours to turn. If you find one false, say at which input.
  Laid BY PROGRAM, IN A SANDBOX (cutbox-rows.mjs): the forced cells as the released guide's own fill.sh prints them over the translation c1d22c1ba8405d12… (all of the seat's roots in one cut). By AI agents, Wed Nov 11 2026. No macro, syntax, notation, axiom, sorry.
-/
import Derived.Test.YtajkcdcnihjfkaaChecked
import GoSem.Claim
import GoSem.ClaimJoined
import GoSem.ClaimMapViews
import Derived.JoinedTies
import Derived.KernelRfl
namespace Go.Proofs.Ytajkcdcnihjfkaa
/- THE CELL 'sum', in the pinned program and in every row, IS THE sha256 OF THE DUMP (.gsa) THAT YtajkcdcnihjfkaaProg.lean LOADS. Nothing in Lean hashes anything: it is a label: what it is worth is what the hold of that sum in a sandbox is worth. -/
noncomputable def Try.pinned : Pinned := { name := "ytajkcdcnihjfkaa", sum := "c1d22c1ba8405d1271e89c8f706803a7b212b8d451390657a381e0437d6d1c09", checked := Try.checked }
namespace Rows
def none {H : Type} : Left H := { results := [], args := [] }

/-- 'rampartlaw02.EthAll': WHATEVER THE INPUT: true; the input reads as it did. -/
def ethAllSpec : ChangeSpec := { name := "ethAll", fn := fun _ => fun
  | [d1, d2, d3] => { results := [.lit (.bool true)], args := [d1, d2, d3] }
  | _ => none }
def ethAllRow : OpenClaim := { program := "ytajkcdcnihjfkaa", sum := "c1d22c1ba8405d1271e89c8f706803a7b212b8d451390657a381e0437d6d1c09", func := "rampart/rampartlaw02.EthAll", spec := "ethAll", apart := false }
def EthAllSaid : Prop := ethAllRow.holds Try.pinned (OpenSpec.ofChange ethAllSpec)

/-- ITS FALSE NEIGHBOUR: 'it returns false'. Refute it at one input. -/
def ethAllWrong : ChangeSpec := { name := "ethAll", fn := fun _ => fun
  | [d1, d2, d3] => { results := [.lit (.bool false)], args := [d1, d2, d3] }
  | _ => none }
def EthAllWrongFalsely : Prop := ethAllRow.holds Try.pinned (OpenSpec.ofChange ethAllWrong)

/-- 'rampartlaw02.EthBack': WHATEVER THE INPUT: true; the input reads as it did. -/
def ethBackSpec : ChangeSpec := { name := "ethBack", fn := fun _ => fun
  | [d1, d2, d3] => { results := [.lit (.bool true)], args := [d1, d2, d3] }
  | _ => none }
def ethBackRow : OpenClaim := { program := "ytajkcdcnihjfkaa", sum := "c1d22c1ba8405d1271e89c8f706803a7b212b8d451390657a381e0437d6d1c09", func := "rampart/rampartlaw02.EthBack", spec := "ethBack", apart := false }
def EthBackSaid : Prop := ethBackRow.holds Try.pinned (OpenSpec.ofChange ethBackSpec)

/-- ITS FALSE NEIGHBOUR: 'it returns false'. Refute it at one input. -/
def ethBackWrong : ChangeSpec := { name := "ethBack", fn := fun _ => fun
  | [d1, d2, d3] => { results := [.lit (.bool false)], args := [d1, d2, d3] }
  | _ => none }
def EthBackWrongFalsely : Prop := ethBackRow.holds Try.pinned (OpenSpec.ofChange ethBackWrong)

/-- 'rampartlaw02.EthSizes': WHATEVER THE INPUT: true; the input reads as it did. -/
def ethSizesSpec : ChangeSpec := { name := "ethSizes", fn := fun _ => fun
  | [d1, d2] => { results := [.lit (.bool true)], args := [d1, d2] }
  | _ => none }
def ethSizesRow : OpenClaim := { program := "ytajkcdcnihjfkaa", sum := "c1d22c1ba8405d1271e89c8f706803a7b212b8d451390657a381e0437d6d1c09", func := "rampart/rampartlaw02.EthSizes", spec := "ethSizes", apart := false }
def EthSizesSaid : Prop := ethSizesRow.holds Try.pinned (OpenSpec.ofChange ethSizesSpec)

/-- ITS FALSE NEIGHBOUR: 'it returns false'. Refute it at one input. -/
def ethSizesWrong : ChangeSpec := { name := "ethSizes", fn := fun _ => fun
  | [d1, d2] => { results := [.lit (.bool false)], args := [d1, d2] }
  | _ => none }
def EthSizesWrongFalsely : Prop := ethSizesRow.holds Try.pinned (OpenSpec.ofChange ethSizesWrong)

/-- 'rampartlaw02.EthParts': WHATEVER THE INPUT: true; the input reads as it did. -/
def ethPartsSpec : ChangeSpec := { name := "ethParts", fn := fun _ => fun
  | [d1, d2, d3] => { results := [.lit (.bool true)], args := [d1, d2, d3] }
  | _ => none }
def ethPartsRow : OpenClaim := { program := "ytajkcdcnihjfkaa", sum := "c1d22c1ba8405d1271e89c8f706803a7b212b8d451390657a381e0437d6d1c09", func := "rampart/rampartlaw02.EthParts", spec := "ethParts", apart := false }
def EthPartsSaid : Prop := ethPartsRow.holds Try.pinned (OpenSpec.ofChange ethPartsSpec)

/-- ITS FALSE NEIGHBOUR: 'it returns false'. Refute it at one input. -/
def ethPartsWrong : ChangeSpec := { name := "ethParts", fn := fun _ => fun
  | [d1, d2, d3] => { results := [.lit (.bool false)], args := [d1, d2, d3] }
  | _ => none }
def EthPartsWrongFalsely : Prop := ethPartsRow.holds Try.pinned (OpenSpec.ofChange ethPartsWrong)

/- THE SECOND FORM. 'bulk': how many values and letters a reading holds, each counted each time it is reached (what is shared counts as often as it is met; a slice's spare places count too). A statement '..UptoSaid' is the law's where the arguments, and the package variables that the reading takes, are together of bulk at most 1048576: NARROWER than '..Said'. Prove '..Said' where nothing that the law and all that it calls make is longer than what came in: it says more and counts as full. Else prove '..UptoSaid'. A law counts once. -/
mutual
def uptoBulk {H : Type} : DataW H → Nat
  | .lit (.string bytes) => bytes.length + 1
  | .lit _ => 1
  | .nil => 1
  | .ptr d => uptoBulk d + 1
  | .slice elems spare => uptoBulkAll elems + uptoBulkAll spare + 1
  | .agg parts => uptoBulkAll parts + 1
  | .iface _ d => uptoBulk d + 1
  | .map entries => uptoBulkEntries entries + 1
  | .held _ => 1
def uptoBulkAll {H : Type} : List (DataW H) → Nat
  | [] => 0
  | d :: r => uptoBulk d + uptoBulkAll r
def uptoBulkEntries {H : Type} : List (Lit × DataW H) → Nat
  | [] => 0
  | x :: r => uptoBulkEntry x + uptoBulkEntries r
def uptoBulkEntry {H : Type} : Lit × DataW H → Nat
  | (.string bytes, d) => bytes.length + uptoBulk d + 1
  | (_, d) => uptoBulk d + 1
 end
def uptoSmall : (H : Type) → List (DataW H) → Bool := fun _ ds => decide (uptoBulkAll ds ≤ 1048576)
def OpenSpec.upto (s : _root_.Go.ChangeSpec) : _root_.Go.OpenSpec := { _root_.Go.OpenSpec.ofChange s with cond := some uptoSmall }

/-- 'rampartlaw02.EthAll', WHERE WHAT IT READS IS OF BULK AT MOST 1048576: true; the input reads as it did. -/
def ethAllUptoRow : OpenClaim := { program := "ytajkcdcnihjfkaa", sum := "c1d22c1ba8405d1271e89c8f706803a7b212b8d451390657a381e0437d6d1c09", func := "rampart/rampartlaw02.EthAll", spec := "ethAll", apart := false, narrowed := true }
def EthAllUptoSaid : Prop := ethAllUptoRow.holds Try.pinned (OpenSpec.upto ethAllSpec)

/-- 'rampartlaw02.EthBack', WHERE WHAT IT READS IS OF BULK AT MOST 1048576: true; the input reads as it did. -/
def ethBackUptoRow : OpenClaim := { program := "ytajkcdcnihjfkaa", sum := "c1d22c1ba8405d1271e89c8f706803a7b212b8d451390657a381e0437d6d1c09", func := "rampart/rampartlaw02.EthBack", spec := "ethBack", apart := false, narrowed := true }
def EthBackUptoSaid : Prop := ethBackUptoRow.holds Try.pinned (OpenSpec.upto ethBackSpec)

/-- 'rampartlaw02.EthSizes', WHERE WHAT IT READS IS OF BULK AT MOST 1048576: true; the input reads as it did. -/
def ethSizesUptoRow : OpenClaim := { program := "ytajkcdcnihjfkaa", sum := "c1d22c1ba8405d1271e89c8f706803a7b212b8d451390657a381e0437d6d1c09", func := "rampart/rampartlaw02.EthSizes", spec := "ethSizes", apart := false, narrowed := true }
def EthSizesUptoSaid : Prop := ethSizesUptoRow.holds Try.pinned (OpenSpec.upto ethSizesSpec)

/-- 'rampartlaw02.EthParts', WHERE WHAT IT READS IS OF BULK AT MOST 1048576: true; the input reads as it did. -/
def ethPartsUptoRow : OpenClaim := { program := "ytajkcdcnihjfkaa", sum := "c1d22c1ba8405d1271e89c8f706803a7b212b8d451390657a381e0437d6d1c09", func := "rampart/rampartlaw02.EthParts", spec := "ethParts", apart := false, narrowed := true }
def EthPartsUptoSaid : Prop := ethPartsUptoRow.holds Try.pinned (OpenSpec.upto ethPartsSpec)

end Rows
end Go.Proofs.Ytajkcdcnihjfkaa
