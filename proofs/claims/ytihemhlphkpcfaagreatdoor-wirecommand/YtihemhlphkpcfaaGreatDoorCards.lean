/-
  DERIVED. GIVEN WITH THE SEED: THE CARDS: each row of YtihemhlphkpcfaaGreatDoorRows.lean that lists a variable, with what it lists TIED to the program's text (the seventh form; the later family's looks); each row that meets fmt, with fmt's text TOLD by the authors' own Lean function (tested against real Go, not proved from fmt's source: count such statements apart). THE CARD IS WHAT COUNTS. Prove the row's statement (the work); the ties are given (YtihemhlphkpcfaaGreatDoorTie.lean); close each card by the builder's one call (the guide's Derived/Test/ToyasCard.lean, 'card_holds'). Laid BY PROGRAM, IN A SANDBOX (cutbox-door.mjs). By AI agents, Wed Nov 11 2026. No macro, syntax, notation, axiom, sorry.
-/
import Derived.Test.YtihemhlphkpcfaaGreatDoorRows
import GoSem.ClaimSeven
namespace Go.Proofs.YtihemhlphkpcfaaGreatDoor
namespace Rows

/-- THE TIED CARD OF 'larderlaw8.WireLine'. -/
def wireLineCard : Claim7 := { stood := { row := wireLineRow, standIns := [], harness := (true, "dfccc27cd9a6b5bb18aa50e63a3bf70643bd7b23aa271ab4b9b147c4f96f8ace"), looks := false }, kinds := [], alts := [], laidByText := true, laidKinds := [.data, .data, .data, .data, .pinned], laidTests := true, laidLooks := .later }
def WireLineCardSaid : Prop := Claim7.holds Tryz.pinned (.plain (OpenSpec.ofChange wireLineSpec)) wireLineCard

/-- THE TIED CARD OF 'larderlaw8.WireCommand'. -/
def wireCommandCard : Claim7 := { stood := { row := wireCommandRow, standIns := [], harness := (true, "dfccc27cd9a6b5bb18aa50e63a3bf70643bd7b23aa271ab4b9b147c4f96f8ace"), looks := false }, kinds := [], alts := [], laidByText := true, laidKinds := [.data, .data, .data, .data, .pinned], laidTests := true, laidLooks := .later }
def WireCommandCardSaid : Prop := Claim7.holds Tryz.pinned (.plain (OpenSpec.ofChange wireCommandSpec)) wireCommandCard

/-- THE SECOND FORM's CARD OF 'larderlaw8.WireLine'. -/
def wireLineUptoCard : Claim7 := { stood := { row := wireLineUptoRow, standIns := [], harness := (true, "dfccc27cd9a6b5bb18aa50e63a3bf70643bd7b23aa271ab4b9b147c4f96f8ace"), looks := false }, kinds := [], alts := [], laidByText := true, laidKinds := [.data, .data, .data, .data, .pinned], laidTests := true, laidLooks := .later }
def WireLineUptoCardSaid : Prop := Claim7.holds Tryz.pinned (.plain (OpenSpec.upto wireLineSpec)) wireLineUptoCard

/-- THE SECOND FORM's CARD OF 'larderlaw8.WireCommand'. -/
def wireCommandUptoCard : Claim7 := { stood := { row := wireCommandUptoRow, standIns := [], harness := (true, "dfccc27cd9a6b5bb18aa50e63a3bf70643bd7b23aa271ab4b9b147c4f96f8ace"), looks := false }, kinds := [], alts := [], laidByText := true, laidKinds := [.data, .data, .data, .data, .pinned], laidTests := true, laidLooks := .later }
def WireCommandUptoCardSaid : Prop := Claim7.holds Tryz.pinned (.plain (OpenSpec.upto wireCommandSpec)) wireCommandUptoCard
end Rows
end Go.Proofs.YtihemhlphkpcfaaGreatDoor
