/-
  DERIVED. GIVEN WITH THE SEED: THE CARDS: each row of YtochdajeocganabDoorRows.lean that lists a variable, with what it lists TIED to the program's text (the seventh form; the later family's looks); each row that meets fmt, with fmt's text TOLD by the authors' own Lean function (tested against real Go, not proved from fmt's source: count such statements apart). THE CARD IS WHAT COUNTS. Prove the row's statement (the work); the ties are given (YtochdajeocganabDoorTie.lean); close each card by the builder's one call (the guide's Derived/Test/ToyasCard.lean, 'card_holds'). Laid BY PROGRAM, IN A SANDBOX (cutbox-door.mjs). By AI agents, Wed Nov 11 2026. No macro, syntax, notation, axiom, sorry.
-/
import Derived.Test.YtochdajeocganabDoorRows
import GoSem.ClaimSeven
namespace Go.Proofs.YtochdajeocganabDoor
namespace Rows

/-- THE TIED CARD OF 'larderlaw1.WordHeads'. -/
def wordHeadsCard : Claim7 := { stood := { row := wordHeadsRow, standIns := [], harness := (true, "8cb4c5a96c10d79fc2c8aa36502c34736f1f2d9ab1657d6850336dfafc290f37"), looks := false }, kinds := [], alts := [], laidByText := true, laidKinds := [.data, .data, .data], laidTests := true, laidLooks := .later }
def WordHeadsCardSaid : Prop := Claim7.holds Tryd.pinned (.plain (OpenSpec.ofChange wordHeadsSpec)) wordHeadsCard

/-- THE TIED CARD OF 'larderlaw1.WordPacks'. -/
def wordPacksCard : Claim7 := { stood := { row := wordPacksRow, standIns := [], harness := (true, "8cb4c5a96c10d79fc2c8aa36502c34736f1f2d9ab1657d6850336dfafc290f37"), looks := false }, kinds := [], alts := [], laidByText := true, laidKinds := [.data, .data, .data], laidTests := true, laidLooks := .later }
def WordPacksCardSaid : Prop := Claim7.holds Tryd.pinned (.plain (OpenSpec.ofChange wordPacksSpec)) wordPacksCard

/-- THE TIED CARD OF 'larderlaw1.WordNumbers'. -/
def wordNumbersCard : Claim7 := { stood := { row := wordNumbersRow, standIns := [], harness := (true, "8cb4c5a96c10d79fc2c8aa36502c34736f1f2d9ab1657d6850336dfafc290f37"), looks := false }, kinds := [], alts := [], laidByText := true, laidKinds := [.data, .data, .data], laidTests := true, laidLooks := .later }
def WordNumbersCardSaid : Prop := Claim7.holds Tryd.pinned (.plain (OpenSpec.ofChange wordNumbersSpec)) wordNumbersCard

/-- THE TIED CARD OF 'larderlaw1.WordSums'. -/
def wordSumsCard : Claim7 := { stood := { row := wordSumsRow, standIns := [], harness := (true, "8cb4c5a96c10d79fc2c8aa36502c34736f1f2d9ab1657d6850336dfafc290f37"), looks := false }, kinds := [], alts := [], laidByText := true, laidKinds := [.data, .data, .data], laidTests := true, laidLooks := .later }
def WordSumsCardSaid : Prop := Claim7.holds Tryd.pinned (.plain (OpenSpec.ofChange wordSumsSpec)) wordSumsCard

/-- THE TIED CARD OF 'larderlaw1.WordAll'. -/
def wordAllCard : Claim7 := { stood := { row := wordAllRow, standIns := [], harness := (true, "8cb4c5a96c10d79fc2c8aa36502c34736f1f2d9ab1657d6850336dfafc290f37"), looks := false }, kinds := [], alts := [], laidByText := true, laidKinds := [.data, .data, .data], laidTests := true, laidLooks := .later }
def WordAllCardSaid : Prop := Claim7.holds Tryd.pinned (.plain (OpenSpec.ofChange wordAllSpec)) wordAllCard

/-- THE TIED CARD OF 'larderlaw1.WordFresh'. -/
def wordFreshCard : Claim7 := { stood := { row := wordFreshRow, standIns := [], harness := (true, "8cb4c5a96c10d79fc2c8aa36502c34736f1f2d9ab1657d6850336dfafc290f37"), looks := false }, kinds := [], alts := [], laidByText := true, laidKinds := [.data, .data, .data], laidTests := true, laidLooks := .later }
def WordFreshCardSaid : Prop := Claim7.holds Tryd.pinned (.plain (OpenSpec.ofChange wordFreshSpec)) wordFreshCard

/-- THE SECOND FORM's CARD OF 'larderlaw1.WordHeads'. -/
def wordHeadsUptoCard : Claim7 := { stood := { row := wordHeadsUptoRow, standIns := [], harness := (true, "8cb4c5a96c10d79fc2c8aa36502c34736f1f2d9ab1657d6850336dfafc290f37"), looks := false }, kinds := [], alts := [], laidByText := true, laidKinds := [.data, .data, .data], laidTests := true, laidLooks := .later }
def WordHeadsUptoCardSaid : Prop := Claim7.holds Tryd.pinned (.plain (OpenSpec.upto wordHeadsSpec)) wordHeadsUptoCard

/-- THE SECOND FORM's CARD OF 'larderlaw1.WordPacks'. -/
def wordPacksUptoCard : Claim7 := { stood := { row := wordPacksUptoRow, standIns := [], harness := (true, "8cb4c5a96c10d79fc2c8aa36502c34736f1f2d9ab1657d6850336dfafc290f37"), looks := false }, kinds := [], alts := [], laidByText := true, laidKinds := [.data, .data, .data], laidTests := true, laidLooks := .later }
def WordPacksUptoCardSaid : Prop := Claim7.holds Tryd.pinned (.plain (OpenSpec.upto wordPacksSpec)) wordPacksUptoCard

/-- THE SECOND FORM's CARD OF 'larderlaw1.WordNumbers'. -/
def wordNumbersUptoCard : Claim7 := { stood := { row := wordNumbersUptoRow, standIns := [], harness := (true, "8cb4c5a96c10d79fc2c8aa36502c34736f1f2d9ab1657d6850336dfafc290f37"), looks := false }, kinds := [], alts := [], laidByText := true, laidKinds := [.data, .data, .data], laidTests := true, laidLooks := .later }
def WordNumbersUptoCardSaid : Prop := Claim7.holds Tryd.pinned (.plain (OpenSpec.upto wordNumbersSpec)) wordNumbersUptoCard

/-- THE SECOND FORM's CARD OF 'larderlaw1.WordSums'. -/
def wordSumsUptoCard : Claim7 := { stood := { row := wordSumsUptoRow, standIns := [], harness := (true, "8cb4c5a96c10d79fc2c8aa36502c34736f1f2d9ab1657d6850336dfafc290f37"), looks := false }, kinds := [], alts := [], laidByText := true, laidKinds := [.data, .data, .data], laidTests := true, laidLooks := .later }
def WordSumsUptoCardSaid : Prop := Claim7.holds Tryd.pinned (.plain (OpenSpec.upto wordSumsSpec)) wordSumsUptoCard

/-- THE SECOND FORM's CARD OF 'larderlaw1.WordAll'. -/
def wordAllUptoCard : Claim7 := { stood := { row := wordAllUptoRow, standIns := [], harness := (true, "8cb4c5a96c10d79fc2c8aa36502c34736f1f2d9ab1657d6850336dfafc290f37"), looks := false }, kinds := [], alts := [], laidByText := true, laidKinds := [.data, .data, .data], laidTests := true, laidLooks := .later }
def WordAllUptoCardSaid : Prop := Claim7.holds Tryd.pinned (.plain (OpenSpec.upto wordAllSpec)) wordAllUptoCard

/-- THE SECOND FORM's CARD OF 'larderlaw1.WordFresh'. -/
def wordFreshUptoCard : Claim7 := { stood := { row := wordFreshUptoRow, standIns := [], harness := (true, "8cb4c5a96c10d79fc2c8aa36502c34736f1f2d9ab1657d6850336dfafc290f37"), looks := false }, kinds := [], alts := [], laidByText := true, laidKinds := [.data, .data, .data], laidTests := true, laidLooks := .later }
def WordFreshUptoCardSaid : Prop := Claim7.holds Tryd.pinned (.plain (OpenSpec.upto wordFreshSpec)) wordFreshUptoCard
end Rows
end Go.Proofs.YtochdajeocganabDoor
