/-
  No cell of these rows narrows 'for every input' (looked for: loops, veiled, ifaces, maps, wideKeys, modest, calm, conditions, laid).
  DERIVED. THE GIVEN ROWS OF THIS SEAT. 5 by the template 'for every input the law returns true; each argument reads behind the call as it read before'; 0 by the template 'total and deterministic' (their statements: YtochdajeocganaaTotals.lean).
  GIVEN WITH THE SEED: the statements are not yours to turn. If you find one false, say at which input.
  Laid BY PROGRAM, IN A SANDBOX (cutbox-rows.mjs): the forced cells as the released guide's own fill.sh prints them over the translation adaf1bb7e5304ee1… (all of the seat's roots in one cut). By AI agents, Wed Nov 11 2026. No macro, syntax, notation, axiom, sorry.
-/
import Derived.Test.YtochdajeocganaaChecked
import GoSem.Claim
import GoSem.ClaimJoined
import GoSem.ClaimMapViews
import Derived.JoinedTies
import Derived.KernelRfl
namespace Go.Proofs.Ytochdajeocganaa
/- THE CELL 'sum', in the pinned program and in every row, IS THE sha256 OF THE DUMP (.gsa) THAT YtochdajeocganaaProg.lean LOADS. Nothing in Lean hashes anything: it is a label: what it is worth is what the hold of that sum in a sandbox is worth. -/
noncomputable def Try.pinned : Pinned := { name := "ytochdajeocganaa", sum := "adaf1bb7e5304ee19ffe01ed09f86562cae750640229fc35d47b931e4a3523b3", checked := Try.checked }
namespace Rows
def none {H : Type} : Left H := { results := [], args := [] }

/-- 'larderlaw0.ApiTexts': WHATEVER THE INPUT: true; the input reads as it did. -/
def apiTextsSpec : ChangeSpec := { name := "apiTexts", fn := fun _ => fun
  | [] => { results := [.lit (.bool true)], args := [] }
  | _ => none }
def apiTextsRow : OpenClaim := { program := "ytochdajeocganaa", sum := "adaf1bb7e5304ee19ffe01ed09f86562cae750640229fc35d47b931e4a3523b3", func := "larder/larderlaw0.ApiTexts", spec := "apiTexts", apart := false }
def ApiTextsSaid : Prop := apiTextsRow.holds Try.pinned (OpenSpec.ofChange apiTextsSpec)

/-- ITS FALSE NEIGHBOUR: 'it returns false'. Refute it at one input. -/
def apiTextsWrong : ChangeSpec := { name := "apiTexts", fn := fun _ => fun
  | [] => { results := [.lit (.bool false)], args := [] }
  | _ => none }
def ApiTextsWrongFalsely : Prop := apiTextsRow.holds Try.pinned (OpenSpec.ofChange apiTextsWrong)

/-- 'larderlaw1.WordBurst': WHATEVER THE INPUT: true; the input reads as it did. -/
def wordBurstSpec : ChangeSpec := { name := "wordBurst", fn := fun _ => fun
  | [d] => { results := [.lit (.bool true)], args := [d] }
  | _ => none }
def wordBurstRow : OpenClaim := { program := "ytochdajeocganaa", sum := "adaf1bb7e5304ee19ffe01ed09f86562cae750640229fc35d47b931e4a3523b3", func := "larder/larderlaw1.WordBurst", spec := "wordBurst", apart := false }
def WordBurstSaid : Prop := wordBurstRow.holds Try.pinned (OpenSpec.ofChange wordBurstSpec)

/-- ITS FALSE NEIGHBOUR: 'it returns false'. Refute it at one input. -/
def wordBurstWrong : ChangeSpec := { name := "wordBurst", fn := fun _ => fun
  | [d] => { results := [.lit (.bool false)], args := [d] }
  | _ => none }
def WordBurstWrongFalsely : Prop := wordBurstRow.holds Try.pinned (OpenSpec.ofChange wordBurstWrong)

/-- 'larderlaw1.WordTurns': WHATEVER THE INPUT: true; the input reads as it did. -/
def wordTurnsSpec : ChangeSpec := { name := "wordTurns", fn := fun _ => fun
  | [d] => { results := [.lit (.bool true)], args := [d] }
  | _ => none }
def wordTurnsRow : OpenClaim := { program := "ytochdajeocganaa", sum := "adaf1bb7e5304ee19ffe01ed09f86562cae750640229fc35d47b931e4a3523b3", func := "larder/larderlaw1.WordTurns", spec := "wordTurns", apart := false }
def WordTurnsSaid : Prop := wordTurnsRow.holds Try.pinned (OpenSpec.ofChange wordTurnsSpec)

/-- ITS FALSE NEIGHBOUR: 'it returns false'. Refute it at one input. -/
def wordTurnsWrong : ChangeSpec := { name := "wordTurns", fn := fun _ => fun
  | [d] => { results := [.lit (.bool false)], args := [d] }
  | _ => none }
def WordTurnsWrongFalsely : Prop := wordTurnsRow.holds Try.pinned (OpenSpec.ofChange wordTurnsWrong)

/-- 'larderlaw1.WordApart': WHATEVER THE INPUT: true; the input reads as it did. -/
def wordApartSpec : ChangeSpec := { name := "wordApart", fn := fun _ => fun
  | [d] => { results := [.lit (.bool true)], args := [d] }
  | _ => none }
def wordApartRow : OpenClaim := { program := "ytochdajeocganaa", sum := "adaf1bb7e5304ee19ffe01ed09f86562cae750640229fc35d47b931e4a3523b3", func := "larder/larderlaw1.WordApart", spec := "wordApart", apart := false }
def WordApartSaid : Prop := wordApartRow.holds Try.pinned (OpenSpec.ofChange wordApartSpec)

/-- ITS FALSE NEIGHBOUR: 'it returns false'. Refute it at one input. -/
def wordApartWrong : ChangeSpec := { name := "wordApart", fn := fun _ => fun
  | [d] => { results := [.lit (.bool false)], args := [d] }
  | _ => none }
def WordApartWrongFalsely : Prop := wordApartRow.holds Try.pinned (OpenSpec.ofChange wordApartWrong)

/-- 'larderlaw1.WordPlace': WHATEVER THE INPUT: true; the input reads as it did. -/
def wordPlaceSpec : ChangeSpec := { name := "wordPlace", fn := fun _ => fun
  | [d] => { results := [.lit (.bool true)], args := [d] }
  | _ => none }
def wordPlaceRow : OpenClaim := { program := "ytochdajeocganaa", sum := "adaf1bb7e5304ee19ffe01ed09f86562cae750640229fc35d47b931e4a3523b3", func := "larder/larderlaw1.WordPlace", spec := "wordPlace", apart := false }
def WordPlaceSaid : Prop := wordPlaceRow.holds Try.pinned (OpenSpec.ofChange wordPlaceSpec)

/-- ITS FALSE NEIGHBOUR: 'it returns false'. Refute it at one input. -/
def wordPlaceWrong : ChangeSpec := { name := "wordPlace", fn := fun _ => fun
  | [d] => { results := [.lit (.bool false)], args := [d] }
  | _ => none }
def WordPlaceWrongFalsely : Prop := wordPlaceRow.holds Try.pinned (OpenSpec.ofChange wordPlaceWrong)

/- THE SECOND FORM. 'bulk': how many values and letters a reading holds, each counted each time it is reached (what is shared counts as often as it is met; a slice's spare places count too). A statement '..UptoSaid' is the law's where the arguments, and the package variables that the reading takes, are together of bulk at most 1048576: NARROWER than '..Said'. Prove '..Said' where nothing that the law and all that it calls make is longer than what came in: it says more and counts as full. Else prove '..UptoSaid'. A law counts once. -/
mutual
def uptoBulk {H : Type} : DataW H → Nat
  | .lit (.string bytes) => bytes.length + 1
  | .lit _ => 1
  | .nil => 1
  | .ptr d => uptoBulk d + 1
  | .slice elems spare => uptoBulkAll elems + uptoBulkAll spare + 1
  | .agg parts => uptoBulkAll parts + 1
  | .iface _ d => uptoBulk d + 1
  | .map entries => uptoBulkEntries entries + 1
  | .held _ => 1
def uptoBulkAll {H : Type} : List (DataW H) → Nat
  | [] => 0
  | d :: r => uptoBulk d + uptoBulkAll r
def uptoBulkEntries {H : Type} : List (Lit × DataW H) → Nat
  | [] => 0
  | x :: r => uptoBulkEntry x + uptoBulkEntries r
def uptoBulkEntry {H : Type} : Lit × DataW H → Nat
  | (.string bytes, d) => bytes.length + uptoBulk d + 1
  | (_, d) => uptoBulk d + 1
 end
def uptoSmall : (H : Type) → List (DataW H) → Bool := fun _ ds => decide (uptoBulkAll ds ≤ 1048576)
def OpenSpec.upto (s : _root_.Go.ChangeSpec) : _root_.Go.OpenSpec := { _root_.Go.OpenSpec.ofChange s with cond := some uptoSmall }

/-- 'larderlaw0.ApiTexts', WHERE WHAT IT READS IS OF BULK AT MOST 1048576: true; the input reads as it did. -/
def apiTextsUptoRow : OpenClaim := { program := "ytochdajeocganaa", sum := "adaf1bb7e5304ee19ffe01ed09f86562cae750640229fc35d47b931e4a3523b3", func := "larder/larderlaw0.ApiTexts", spec := "apiTexts", apart := false, narrowed := true }
def ApiTextsUptoSaid : Prop := apiTextsUptoRow.holds Try.pinned (OpenSpec.upto apiTextsSpec)

/-- 'larderlaw1.WordBurst', WHERE WHAT IT READS IS OF BULK AT MOST 1048576: true; the input reads as it did. -/
def wordBurstUptoRow : OpenClaim := { program := "ytochdajeocganaa", sum := "adaf1bb7e5304ee19ffe01ed09f86562cae750640229fc35d47b931e4a3523b3", func := "larder/larderlaw1.WordBurst", spec := "wordBurst", apart := false, narrowed := true }
def WordBurstUptoSaid : Prop := wordBurstUptoRow.holds Try.pinned (OpenSpec.upto wordBurstSpec)

/-- 'larderlaw1.WordTurns', WHERE WHAT IT READS IS OF BULK AT MOST 1048576: true; the input reads as it did. -/
def wordTurnsUptoRow : OpenClaim := { program := "ytochdajeocganaa", sum := "adaf1bb7e5304ee19ffe01ed09f86562cae750640229fc35d47b931e4a3523b3", func := "larder/larderlaw1.WordTurns", spec := "wordTurns", apart := false, narrowed := true }
def WordTurnsUptoSaid : Prop := wordTurnsUptoRow.holds Try.pinned (OpenSpec.upto wordTurnsSpec)

/-- 'larderlaw1.WordApart', WHERE WHAT IT READS IS OF BULK AT MOST 1048576: true; the input reads as it did. -/
def wordApartUptoRow : OpenClaim := { program := "ytochdajeocganaa", sum := "adaf1bb7e5304ee19ffe01ed09f86562cae750640229fc35d47b931e4a3523b3", func := "larder/larderlaw1.WordApart", spec := "wordApart", apart := false, narrowed := true }
def WordApartUptoSaid : Prop := wordApartUptoRow.holds Try.pinned (OpenSpec.upto wordApartSpec)

/-- 'larderlaw1.WordPlace', WHERE WHAT IT READS IS OF BULK AT MOST 1048576: true; the input reads as it did. -/
def wordPlaceUptoRow : OpenClaim := { program := "ytochdajeocganaa", sum := "adaf1bb7e5304ee19ffe01ed09f86562cae750640229fc35d47b931e4a3523b3", func := "larder/larderlaw1.WordPlace", spec := "wordPlace", apart := false, narrowed := true }
def WordPlaceUptoSaid : Prop := wordPlaceUptoRow.holds Try.pinned (OpenSpec.upto wordPlaceSpec)

end Rows
end Go.Proofs.Ytochdajeocganaa
