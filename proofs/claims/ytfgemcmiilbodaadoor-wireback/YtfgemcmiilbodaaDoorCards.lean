/-
  DERIVED. GIVEN WITH THE SEED: THE CARDS: each row of YtfgemcmiilbodaaDoorRows.lean that lists a variable, with what it lists TIED to the program's text (the seventh form; the later family's looks); each row that meets fmt, with fmt's text TOLD by the authors' own Lean function (tested against real Go, not proved from fmt's source: count such statements apart). THE CARD IS WHAT COUNTS. Prove the row's statement (the work); the ties are given (YtfgemcmiilbodaaDoorTie.lean); close each card by the builder's one call (the guide's Derived/Test/ToyasCard.lean, 'card_holds'). Laid BY PROGRAM, IN A SANDBOX (cutbox-door.mjs). By AI agents, Wed Nov 11 2026. No macro, syntax, notation, axiom, sorry.
-/
import Derived.Test.YtfgemcmiilbodaaDoorRows
import GoSem.ClaimSeven
namespace Go.Proofs.YtfgemcmiilbodaaDoor
namespace Rows

/-- THE TIED CARD OF 'larderlaw8.WireTaken'. -/
def wireTakenCard : Claim7 := { stood := { row := wireTakenRow, standIns := [], harness := (true, "e304d52a9b855434b5f0dd37764600af7807f2044de5d86e867d33fa5a686f25"), looks := false }, kinds := [], alts := [], laidByText := true, laidKinds := [.data, .data, .data, .data, .pinned], laidTests := true, laidLooks := .later }
def WireTakenCardSaid : Prop := Claim7.holds Tryd.pinned (.plain (OpenSpec.ofChange wireTakenSpec)) wireTakenCard

/-- THE TIED CARD OF 'larderlaw8.WireBack'. -/
def wireBackCard : Claim7 := { stood := { row := wireBackRow, standIns := [], harness := (true, "e304d52a9b855434b5f0dd37764600af7807f2044de5d86e867d33fa5a686f25"), looks := false }, kinds := [], alts := [], laidByText := true, laidKinds := [.data, .data, .data, .data, .pinned], laidTests := true, laidLooks := .later }
def WireBackCardSaid : Prop := Claim7.holds Tryd.pinned (.plain (OpenSpec.ofChange wireBackSpec)) wireBackCard

/-- THE SECOND FORM's CARD OF 'larderlaw8.WireTaken'. -/
def wireTakenUptoCard : Claim7 := { stood := { row := wireTakenUptoRow, standIns := [], harness := (true, "e304d52a9b855434b5f0dd37764600af7807f2044de5d86e867d33fa5a686f25"), looks := false }, kinds := [], alts := [], laidByText := true, laidKinds := [.data, .data, .data, .data, .pinned], laidTests := true, laidLooks := .later }
def WireTakenUptoCardSaid : Prop := Claim7.holds Tryd.pinned (.plain (OpenSpec.upto wireTakenSpec)) wireTakenUptoCard

/-- THE SECOND FORM's CARD OF 'larderlaw8.WireBack'. -/
def wireBackUptoCard : Claim7 := { stood := { row := wireBackUptoRow, standIns := [], harness := (true, "e304d52a9b855434b5f0dd37764600af7807f2044de5d86e867d33fa5a686f25"), looks := false }, kinds := [], alts := [], laidByText := true, laidKinds := [.data, .data, .data, .data, .pinned], laidTests := true, laidLooks := .later }
def WireBackUptoCardSaid : Prop := Claim7.holds Tryd.pinned (.plain (OpenSpec.upto wireBackSpec)) wireBackUptoCard
end Rows
end Go.Proofs.YtfgemcmiilbodaaDoor
