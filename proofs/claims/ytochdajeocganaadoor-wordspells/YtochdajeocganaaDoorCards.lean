/-
  DERIVED. GIVEN WITH THE SEED: THE CARDS: each row of YtochdajeocganaaDoorRows.lean that lists a variable, with what it lists TIED to the program's text (the seventh form; the later family's looks); each row that meets fmt, with fmt's text TOLD by the authors' own Lean function (tested against real Go, not proved from fmt's source: count such statements apart). THE CARD IS WHAT COUNTS. Prove the row's statement (the work); the ties are given (YtochdajeocganaaDoorTie.lean); close each card by the builder's one call (the guide's Derived/Test/ToyasCard.lean, 'card_holds'). Laid BY PROGRAM, IN A SANDBOX (cutbox-door.mjs). By AI agents, Wed Nov 11 2026. No macro, syntax, notation, axiom, sorry.
-/
import Derived.Test.YtochdajeocganaaDoorRows
import GoSem.ClaimSeven
namespace Go.Proofs.YtochdajeocganaaDoor
namespace Rows

/-- THE TIED CARD OF 'larderlaw1.WordSpells'. -/
def wordSpellsCard : Claim7 := { stood := { row := wordSpellsRow, standIns := [], harness := (true, "55e051b5856d3c55d9b105bc06fe8200051b9199696cea462696267acd3ec0f8"), looks := false }, kinds := [], alts := [], laidByText := true, laidKinds := [.data, .data, .data], laidTests := true, laidLooks := .later }
def WordSpellsCardSaid : Prop := Claim7.holds Tryd.pinned (.plain (OpenSpec.ofChange wordSpellsSpec)) wordSpellsCard

/-- THE SECOND FORM's CARD OF 'larderlaw1.WordSpells'. -/
def wordSpellsUptoCard : Claim7 := { stood := { row := wordSpellsUptoRow, standIns := [], harness := (true, "55e051b5856d3c55d9b105bc06fe8200051b9199696cea462696267acd3ec0f8"), looks := false }, kinds := [], alts := [], laidByText := true, laidKinds := [.data, .data, .data], laidTests := true, laidLooks := .later }
def WordSpellsUptoCardSaid : Prop := Claim7.holds Tryd.pinned (.plain (OpenSpec.upto wordSpellsSpec)) wordSpellsUptoCard
end Rows
end Go.Proofs.YtochdajeocganaaDoor
