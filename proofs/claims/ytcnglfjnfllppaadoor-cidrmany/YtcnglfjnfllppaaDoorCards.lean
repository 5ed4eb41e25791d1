/-
  DERIVED. GIVEN WITH THE SEED: THE CARDS: each row of YtcnglfjnfllppaaDoorRows.lean that lists a variable, with what it lists TIED to the program's text (the seventh form; the later family's looks); each row that meets fmt, with fmt's text TOLD by the authors' own Lean function (tested against real Go, not proved from fmt's source: count such statements apart). THE CARD IS WHAT COUNTS. Prove the row's statement (the work); the ties are given (YtcnglfjnfllppaaDoorTie.lean); close each card by the builder's one call (the guide's Derived/Test/ToyasCard.lean, 'card_holds'). Laid BY PROGRAM, IN A SANDBOX (cutbox-door.mjs). By AI agents, Wed Nov 11 2026. No macro, syntax, notation, axiom, sorry.
-/
import Derived.Test.YtcnglfjnfllppaaDoorRows
import GoSem.ClaimSeven
namespace Go.Proofs.YtcnglfjnfllppaaDoor
namespace Rows

/-- THE TIED CARD OF 'rampartlaw09.CidrAll'. -/
def cidrAllCard : Claim7 := { stood := { row := cidrAllRow, standIns := [], harness := (true, "5e3d923d2ccd30a7cb2f00fb2e251b9ea31824a73c9dcfd24af9987084c360a6"), looks := false }, kinds := [], alts := [], laidByText := true, laidKinds := [.data, .data, .data, .data], laidTests := true, laidLooks := .later }
def CidrAllCardSaid : Prop := Claim7.holds Tryd.pinned (.plain (OpenSpec.ofChange cidrAllSpec)) cidrAllCard

/-- THE TIED CARD OF 'rampartlaw09.CidrClean'. -/
def cidrCleanCard : Claim7 := { stood := { row := cidrCleanRow, standIns := [], harness := (true, "5e3d923d2ccd30a7cb2f00fb2e251b9ea31824a73c9dcfd24af9987084c360a6"), looks := false }, kinds := [], alts := [], laidByText := true, laidKinds := [.data, .data, .data, .data], laidTests := true, laidLooks := .later }
def CidrCleanCardSaid : Prop := Claim7.holds Tryd.pinned (.plain (OpenSpec.ofChange cidrCleanSpec)) cidrCleanCard

/-- THE TIED CARD OF 'rampartlaw09.CidrNets'. -/
def cidrNetsCard : Claim7 := { stood := { row := cidrNetsRow, standIns := [], harness := (true, "5e3d923d2ccd30a7cb2f00fb2e251b9ea31824a73c9dcfd24af9987084c360a6"), looks := false }, kinds := [], alts := [], laidByText := true, laidKinds := [.data, .data, .data, .data], laidTests := true, laidLooks := .later }
def CidrNetsCardSaid : Prop := Claim7.holds Tryd.pinned (.plain (OpenSpec.ofChange cidrNetsSpec)) cidrNetsCard

/-- THE TIED CARD OF 'rampartlaw09.CidrMany'. -/
def cidrManyCard : Claim7 := { stood := { row := cidrManyRow, standIns := [], harness := (true, "5e3d923d2ccd30a7cb2f00fb2e251b9ea31824a73c9dcfd24af9987084c360a6"), looks := false }, kinds := [], alts := [], laidByText := true, laidKinds := [.data, .data, .data, .data], laidTests := true, laidLooks := .later }
def CidrManyCardSaid : Prop := Claim7.holds Tryd.pinned (.plain (OpenSpec.ofChange cidrManySpec)) cidrManyCard

/-- THE TIED CARD OF 'rampartlaw09.CidrDotted'. -/
def cidrDottedCard : Claim7 := { stood := { row := cidrDottedRow, standIns := [], harness := (true, "5e3d923d2ccd30a7cb2f00fb2e251b9ea31824a73c9dcfd24af9987084c360a6"), looks := false }, kinds := [], alts := [], laidByText := true, laidKinds := [.data, .data, .data, .data], laidTests := true, laidLooks := .later }
def CidrDottedCardSaid : Prop := Claim7.holds Tryd.pinned (.plain (OpenSpec.ofChange cidrDottedSpec)) cidrDottedCard

/-- THE SECOND FORM's CARD OF 'rampartlaw09.CidrAll'. -/
def cidrAllUptoCard : Claim7 := { stood := { row := cidrAllUptoRow, standIns := [], harness := (true, "5e3d923d2ccd30a7cb2f00fb2e251b9ea31824a73c9dcfd24af9987084c360a6"), looks := false }, kinds := [], alts := [], laidByText := true, laidKinds := [.data, .data, .data, .data], laidTests := true, laidLooks := .later }
def CidrAllUptoCardSaid : Prop := Claim7.holds Tryd.pinned (.plain (OpenSpec.upto cidrAllSpec)) cidrAllUptoCard

/-- THE SECOND FORM's CARD OF 'rampartlaw09.CidrClean'. -/
def cidrCleanUptoCard : Claim7 := { stood := { row := cidrCleanUptoRow, standIns := [], harness := (true, "5e3d923d2ccd30a7cb2f00fb2e251b9ea31824a73c9dcfd24af9987084c360a6"), looks := false }, kinds := [], alts := [], laidByText := true, laidKinds := [.data, .data, .data, .data], laidTests := true, laidLooks := .later }
def CidrCleanUptoCardSaid : Prop := Claim7.holds Tryd.pinned (.plain (OpenSpec.upto cidrCleanSpec)) cidrCleanUptoCard

/-- THE SECOND FORM's CARD OF 'rampartlaw09.CidrNets'. -/
def cidrNetsUptoCard : Claim7 := { stood := { row := cidrNetsUptoRow, standIns := [], harness := (true, "5e3d923d2ccd30a7cb2f00fb2e251b9ea31824a73c9dcfd24af9987084c360a6"), looks := false }, kinds := [], alts := [], laidByText := true, laidKinds := [.data, .data, .data, .data], laidTests := true, laidLooks := .later }
def CidrNetsUptoCardSaid : Prop := Claim7.holds Tryd.pinned (.plain (OpenSpec.upto cidrNetsSpec)) cidrNetsUptoCard

/-- THE SECOND FORM's CARD OF 'rampartlaw09.CidrMany'. -/
def cidrManyUptoCard : Claim7 := { stood := { row := cidrManyUptoRow, standIns := [], harness := (true, "5e3d923d2ccd30a7cb2f00fb2e251b9ea31824a73c9dcfd24af9987084c360a6"), looks := false }, kinds := [], alts := [], laidByText := true, laidKinds := [.data, .data, .data, .data], laidTests := true, laidLooks := .later }
def CidrManyUptoCardSaid : Prop := Claim7.holds Tryd.pinned (.plain (OpenSpec.upto cidrManySpec)) cidrManyUptoCard

/-- THE SECOND FORM's CARD OF 'rampartlaw09.CidrDotted'. -/
def cidrDottedUptoCard : Claim7 := { stood := { row := cidrDottedUptoRow, standIns := [], harness := (true, "5e3d923d2ccd30a7cb2f00fb2e251b9ea31824a73c9dcfd24af9987084c360a6"), looks := false }, kinds := [], alts := [], laidByText := true, laidKinds := [.data, .data, .data, .data], laidTests := true, laidLooks := .later }
def CidrDottedUptoCardSaid : Prop := Claim7.holds Tryd.pinned (.plain (OpenSpec.upto cidrDottedSpec)) cidrDottedUptoCard
end Rows
end Go.Proofs.YtcnglfjnfllppaaDoor
