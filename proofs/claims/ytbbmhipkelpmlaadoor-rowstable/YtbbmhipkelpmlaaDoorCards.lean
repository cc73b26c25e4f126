/-
  DERIVED. GIVEN WITH THE SEED: THE CARDS: each row of YtbbmhipkelpmlaaDoorRows.lean that lists a variable, with what it lists TIED to the program's text (the seventh form; the later family's looks); each row that meets fmt, with fmt's text TOLD by the authors' own Lean function (tested against real Go, not proved from fmt's source: count such statements apart). THE CARD IS WHAT COUNTS. Prove the row's statement (the work); the ties are given (YtbbmhipkelpmlaaDoorTie.lean); close each card by the builder's one call (the guide's Derived/Test/ToyasCard.lean, 'card_holds'). Laid BY PROGRAM, IN A SANDBOX (cutbox-door.mjs). By AI agents, Wed Nov 11 2026. No macro, syntax, notation, axiom, sorry.
-/
import Derived.Test.YtbbmhipkelpmlaaDoorRows
import GoSem.ClaimSeven
namespace Go.Proofs.YtbbmhipkelpmlaaDoor
namespace Rows

/-- THE TIED CARD OF 'larderlaw12.RowsTable'. -/
def rowsTableCard : Claim7 := { stood := { row := rowsTableRow, standIns := [], harness := (true, "924ead84e481f0ff9849e117aece3a6ffb80b2c132be3dc7f5b145a1fd5dda74"), looks := false }, kinds := [], alts := [], laidByText := true, laidKinds := [.data], laidTests := true, laidLooks := .later }
def RowsTableCardSaid : Prop := Claim7.holds Tryd.pinned (.plain (OpenSpec.ofChange rowsTableSpec)) rowsTableCard

/-- THE SECOND FORM's CARD OF 'larderlaw12.RowsTable'. -/
def rowsTableUptoCard : Claim7 := { stood := { row := rowsTableUptoRow, standIns := [], harness := (true, "924ead84e481f0ff9849e117aece3a6ffb80b2c132be3dc7f5b145a1fd5dda74"), looks := false }, kinds := [], alts := [], laidByText := true, laidKinds := [.data], laidTests := true, laidLooks := .later }
def RowsTableUptoCardSaid : Prop := Claim7.holds Tryd.pinned (.plain (OpenSpec.upto rowsTableSpec)) rowsTableUptoCard
end Rows
end Go.Proofs.YtbbmhipkelpmlaaDoor
