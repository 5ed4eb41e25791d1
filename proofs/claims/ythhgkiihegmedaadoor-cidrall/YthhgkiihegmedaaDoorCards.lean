/-
  DERIVED. GIVEN WITH THE SEED: THE CARDS: each row of YthhgkiihegmedaaDoorRows.lean that lists a variable, with what it lists TIED to the program's text (the seventh form; the later family's looks); each row that meets fmt, with fmt's text TOLD by the authors' own Lean function (tested against real Go, not proved from fmt's source: count such statements apart). THE CARD IS WHAT COUNTS. Prove the row's statement (the work); the ties are given (YthhgkiihegmedaaDoorTie.lean); close each card by the builder's one call (the guide's Derived/Test/ToyasCard.lean, 'card_holds'). Laid BY PROGRAM, IN A SANDBOX (cutbox-door.mjs). By AI agents, Wed Nov 11 2026. No macro, syntax, notation, axiom, sorry.
-/
import Derived.Test.YthhgkiihegmedaaDoorRows
import GoSem.ClaimSeven
namespace Go.Proofs.YthhgkiihegmedaaDoor
namespace Rows

/-- THE TIED CARD OF 'rampartlaw09.CidrAll'. -/
def cidrAllCard : Claim7 := { stood := { row := cidrAllRow, standIns := [], harness := (true, "6bdaf060c401404c2c64e85a0ac190c51d018e383f6215f49d78e476db7aab4e"), looks := false }, kinds := [], alts := [], laidByText := true, laidKinds := [.data, .data, .data, .data], laidTests := true, laidLooks := .later }
def CidrAllCardSaid : Prop := Claim7.holds Tryd.pinned (.plain (OpenSpec.ofChange cidrAllSpec)) cidrAllCard

/-- THE SECOND FORM's CARD OF 'rampartlaw09.CidrAll'. -/
def cidrAllUptoCard : Claim7 := { stood := { row := cidrAllUptoRow, standIns := [], harness := (true, "6bdaf060c401404c2c64e85a0ac190c51d018e383f6215f49d78e476db7aab4e"), looks := false }, kinds := [], alts := [], laidByText := true, laidKinds := [.data, .data, .data, .data], laidTests := true, laidLooks := .later }
def CidrAllUptoCardSaid : Prop := Claim7.holds Tryd.pinned (.plain (OpenSpec.upto cidrAllSpec)) cidrAllUptoCard
end Rows
end Go.Proofs.YthhgkiihegmedaaDoor
