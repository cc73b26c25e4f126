/-
  DERIVED. GIVEN WITH THE SEED: THE CARDS: each row of YtecfgbjnjgjkoaaGreatDoorRows.lean that lists a variable, with what it lists TIED to the program's text (the seventh form; the later family's looks); each row that meets fmt, with fmt's text TOLD by the authors' own Lean function (tested against real Go, not proved from fmt's source: count such statements apart). THE CARD IS WHAT COUNTS. Prove the row's statement (the work); the ties are given (YtecfgbjnjgjkoaaGreatDoorTie.lean); close each card by the builder's one call (the guide's Derived/Test/ToyasCard.lean, 'card_holds'). Laid BY PROGRAM, IN A SANDBOX (cutbox-door.mjs). By AI agents, Wed Nov 11 2026. No macro, syntax, notation, axiom, sorry.
-/
import Derived.Test.YtecfgbjnjgjkoaaGreatDoorRows
import GoSem.ClaimSeven
namespace Go.Proofs.YtecfgbjnjgjkoaaGreatDoor
namespace Rows

/-- THE TIED CARD OF 'larderlaw8.WireLine'. -/
def wireLineCard : Claim7 := { stood := { row := wireLineRow, standIns := [], harness := (true, "c1c902127758014949eb50244462adbe55294c13399811eaf8c29f8b4dcf5928"), looks := false }, kinds := [], alts := [], laidByText := true, laidKinds := [.data, .data, .data, .data, .pinned], laidTests := true, laidLooks := .later }
def WireLineCardSaid : Prop := Claim7.holds Tryz.pinned (.plain (OpenSpec.ofChange wireLineSpec)) wireLineCard

/-- THE TIED CARD OF 'larderlaw8.WireDecode'. -/
def wireDecodeCard : Claim7 := { stood := { row := wireDecodeRow, standIns := [], harness := (true, "c1c902127758014949eb50244462adbe55294c13399811eaf8c29f8b4dcf5928"), looks := false }, kinds := [], alts := [], laidByText := true, laidKinds := [.data, .data, .data, .data, .pinned], laidTests := true, laidLooks := .later }
def WireDecodeCardSaid : Prop := Claim7.holds Tryz.pinned (.plain (OpenSpec.ofChange wireDecodeSpec)) wireDecodeCard

/-- THE SECOND FORM's CARD OF 'larderlaw8.WireLine'. -/
def wireLineUptoCard : Claim7 := { stood := { row := wireLineUptoRow, standIns := [], harness := (true, "c1c902127758014949eb50244462adbe55294c13399811eaf8c29f8b4dcf5928"), looks := false }, kinds := [], alts := [], laidByText := true, laidKinds := [.data, .data, .data, .data, .pinned], laidTests := true, laidLooks := .later }
def WireLineUptoCardSaid : Prop := Claim7.holds Tryz.pinned (.plain (OpenSpec.upto wireLineSpec)) wireLineUptoCard

/-- THE SECOND FORM's CARD OF 'larderlaw8.WireDecode'. -/
def wireDecodeUptoCard : Claim7 := { stood := { row := wireDecodeUptoRow, standIns := [], harness := (true, "c1c902127758014949eb50244462adbe55294c13399811eaf8c29f8b4dcf5928"), looks := false }, kinds := [], alts := [], laidByText := true, laidKinds := [.data, .data, .data, .data, .pinned], laidTests := true, laidLooks := .later }
def WireDecodeUptoCardSaid : Prop := Claim7.holds Tryz.pinned (.plain (OpenSpec.upto wireDecodeSpec)) wireDecodeUptoCard
end Rows
end Go.Proofs.YtecfgbjnjgjkoaaGreatDoor
