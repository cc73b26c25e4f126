/-
  DERIVED. GIVEN WITH THE SEED: THE CARDS: each row of YteooecjmnombfaaDoorRows.lean that lists a variable, with what it lists TIED to the program's text (the seventh form; the later family's looks); each row that meets fmt, with fmt's text TOLD by the authors' own Lean function (tested against real Go, not proved from fmt's source: count such statements apart). THE CARD IS WHAT COUNTS. Prove the row's statement (the work); the ties are given (YteooecjmnombfaaDoorTie.lean); close each card by the builder's one call (the guide's Derived/Test/ToyasCard.lean, 'card_holds'). Laid BY PROGRAM, IN A SANDBOX (cutbox-door.mjs). By AI agents, Wed Nov 11 2026. No macro, syntax, notation, axiom, sorry.
-/
import Derived.Test.YteooecjmnombfaaDoorRows
import GoSem.ClaimSeven
namespace Go.Proofs.YteooecjmnombfaaDoor
namespace Rows

/-- THE TIED CARD OF 'larderlaw13.NestTable'. -/
def nestTableCard : Claim7 := { stood := { row := nestTableRow, standIns := [], harness := (true, "fd595bf7f05b06e8f76043b6ca082610f9de61a5d6d0d7ede428fc4cd55f019d"), looks := false }, kinds := [], alts := [], laidByText := true, laidKinds := [.data], laidTests := true, laidLooks := .later }
def NestTableCardSaid : Prop := Claim7.holds Tryd.pinned (.plain (OpenSpec.ofChange nestTableSpec)) nestTableCard

/-- THE SECOND FORM's CARD OF 'larderlaw13.NestTable'. -/
def nestTableUptoCard : Claim7 := { stood := { row := nestTableUptoRow, standIns := [], harness := (true, "fd595bf7f05b06e8f76043b6ca082610f9de61a5d6d0d7ede428fc4cd55f019d"), looks := false }, kinds := [], alts := [], laidByText := true, laidKinds := [.data], laidTests := true, laidLooks := .later }
def NestTableUptoCardSaid : Prop := Claim7.holds Tryd.pinned (.plain (OpenSpec.upto nestTableSpec)) nestTableUptoCard
end Rows
end Go.Proofs.YteooecjmnombfaaDoor
