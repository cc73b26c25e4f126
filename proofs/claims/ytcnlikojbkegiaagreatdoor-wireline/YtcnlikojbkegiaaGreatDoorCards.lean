/-
  DERIVED. GIVEN WITH THE SEED: THE CARDS: each row of YtcnlikojbkegiaaGreatDoorRows.lean that lists a variable, with what it lists TIED to the program's text (the seventh form; the later family's looks); each row that meets fmt, with fmt's text TOLD by the authors' own Lean function (tested against real Go, not proved from fmt's source: count such statements apart). THE CARD IS WHAT COUNTS. Prove the row's statement (the work); the ties are given (YtcnlikojbkegiaaGreatDoorTie.lean); close each card by the builder's one call (the guide's Derived/Test/ToyasCard.lean, 'card_holds'). Laid BY PROGRAM, IN A SANDBOX (cutbox-door.mjs). By AI agents, Wed Nov 11 2026. No macro, syntax, notation, axiom, sorry.
-/
import Derived.Test.YtcnlikojbkegiaaGreatDoorRows
import GoSem.ClaimSeven
namespace Go.Proofs.YtcnlikojbkegiaaGreatDoor
namespace Rows

/-- THE TIED CARD OF 'larderlaw8.WireLine'. -/
def wireLineCard : Claim7 := { stood := { row := wireLineRow, standIns := [], harness := (true, "c183314b797fdbe7ae0ce4dfe6448b60e6ba9f55f806a9005aa35b382cf31a77"), looks := false }, kinds := [], alts := [], laidByText := true, laidKinds := [.data, .data, .data, .data, .pinned], laidTests := true, laidLooks := .later }
def WireLineCardSaid : Prop := Claim7.holds Tryz.pinned (.plain (OpenSpec.ofChange wireLineSpec)) wireLineCard

/-- THE TIED CARD OF 'larderlaw8.WireEncode'. -/
def wireEncodeCard : Claim7 := { stood := { row := wireEncodeRow, standIns := [], harness := (true, "c183314b797fdbe7ae0ce4dfe6448b60e6ba9f55f806a9005aa35b382cf31a77"), looks := false }, kinds := [], alts := [], laidByText := true, laidKinds := [.data, .data, .data, .data, .pinned], laidTests := true, laidLooks := .later }
def WireEncodeCardSaid : Prop := Claim7.holds Tryz.pinned (.plain (OpenSpec.ofChange wireEncodeSpec)) wireEncodeCard

/-- THE SECOND FORM's CARD OF 'larderlaw8.WireLine'. -/
def wireLineUptoCard : Claim7 := { stood := { row := wireLineUptoRow, standIns := [], harness := (true, "c183314b797fdbe7ae0ce4dfe6448b60e6ba9f55f806a9005aa35b382cf31a77"), looks := false }, kinds := [], alts := [], laidByText := true, laidKinds := [.data, .data, .data, .data, .pinned], laidTests := true, laidLooks := .later }
def WireLineUptoCardSaid : Prop := Claim7.holds Tryz.pinned (.plain (OpenSpec.upto wireLineSpec)) wireLineUptoCard

/-- THE SECOND FORM's CARD OF 'larderlaw8.WireEncode'. -/
def wireEncodeUptoCard : Claim7 := { stood := { row := wireEncodeUptoRow, standIns := [], harness := (true, "c183314b797fdbe7ae0ce4dfe6448b60e6ba9f55f806a9005aa35b382cf31a77"), looks := false }, kinds := [], alts := [], laidByText := true, laidKinds := [.data, .data, .data, .data, .pinned], laidTests := true, laidLooks := .later }
def WireEncodeUptoCardSaid : Prop := Claim7.holds Tryz.pinned (.plain (OpenSpec.upto wireEncodeSpec)) wireEncodeUptoCard
end Rows
end Go.Proofs.YtcnlikojbkegiaaGreatDoor
