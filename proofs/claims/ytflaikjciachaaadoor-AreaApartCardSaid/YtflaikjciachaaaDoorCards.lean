/-
  DERIVED. GIVEN WITH THE SEED: THE CARDS: each row of YtflaikjciachaaaDoorRows.lean that lists a variable, with what it lists TIED to the program's text (the seventh form; the later family's looks); each row that meets fmt, with fmt's text TOLD by the authors' own Lean function (tested against real Go, not proved from fmt's source: count such statements apart). THE CARD IS WHAT COUNTS. Prove the row's statement (the work); the ties are given (YtflaikjciachaaaDoorTie.lean); close each card by the builder's one call (the guide's Derived/Test/ToyasCard.lean, 'card_holds'). Laid BY PROGRAM, IN A SANDBOX (cutbox-door.mjs). By AI agents, Wed Nov 11 2026. No macro, syntax, notation, axiom, sorry.
-/
import Derived.Test.YtflaikjciachaaaDoorRows
import GoSem.ClaimSeven
namespace Go.Proofs.YtflaikjciachaaaDoor
namespace Rows

/-- THE TIED CARD OF 'tompionlaw08.AreaDoes'. -/
def areaDoesCard : Claim7 := { stood := { row := areaDoesRow, standIns := [], harness := (true, "de56a8959881fead1a8cf13323081df8f0ab0ebc0b4b1064128fbb70034b0464"), looks := false }, kinds := [], alts := [], laidByText := true, laidKinds := [.data, .data], laidTests := true, laidLooks := .later }
def AreaDoesCardSaid : Prop := Claim7.holds Tryd.pinned (.plain (OpenSpec.ofChange areaDoesSpec)) areaDoesCard

/-- THE TIED CARD OF 'tompionlaw08.AreaApart'. -/
def areaApartCard : Claim7 := { stood := { row := areaApartRow, standIns := [], harness := (true, "de56a8959881fead1a8cf13323081df8f0ab0ebc0b4b1064128fbb70034b0464"), looks := false }, kinds := [], alts := [], laidByText := true, laidKinds := [.data, .data], laidTests := true, laidLooks := .later }
def AreaApartCardSaid : Prop := Claim7.holds Tryd.pinned (.plain (OpenSpec.ofChange areaApartSpec)) areaApartCard

/-- THE SECOND FORM's CARD OF 'tompionlaw08.AreaDoes'. -/
def areaDoesUptoCard : Claim7 := { stood := { row := areaDoesUptoRow, standIns := [], harness := (true, "de56a8959881fead1a8cf13323081df8f0ab0ebc0b4b1064128fbb70034b0464"), looks := false }, kinds := [], alts := [], laidByText := true, laidKinds := [.data, .data], laidTests := true, laidLooks := .later }
def AreaDoesUptoCardSaid : Prop := Claim7.holds Tryd.pinned (.plain (OpenSpec.upto areaDoesSpec)) areaDoesUptoCard

/-- THE SECOND FORM's CARD OF 'tompionlaw08.AreaApart'. -/
def areaApartUptoCard : Claim7 := { stood := { row := areaApartUptoRow, standIns := [], harness := (true, "de56a8959881fead1a8cf13323081df8f0ab0ebc0b4b1064128fbb70034b0464"), looks := false }, kinds := [], alts := [], laidByText := true, laidKinds := [.data, .data], laidTests := true, laidLooks := .later }
def AreaApartUptoCardSaid : Prop := Claim7.holds Tryd.pinned (.plain (OpenSpec.upto areaApartSpec)) areaApartUptoCard
end Rows
end Go.Proofs.YtflaikjciachaaaDoor
