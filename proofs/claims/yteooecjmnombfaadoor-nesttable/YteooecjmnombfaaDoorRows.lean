/-
  NARROWER THAN 'FOR EVERY INPUT', by the rows' own cells (each row's printed sentence says how): NestTable: laid.
  DERIVED. THE GIVEN ROWS OF THIS SEAT. 1 by the template 'for every input the law returns true; each argument reads behind the call as it read before'; 0 by the template 'total and deterministic' (their statements: YteooecjmnombfaaDoorTotals.lean).
  GIVEN WITH THE SEED: the statements are not yours to turn. If you find one false, say at which input.
  Laid BY PROGRAM, IN A SANDBOX (cutbox-rows.mjs): the forced cells as the released guide's own fill.sh prints them over the translation 224a99ac55e35247… (all of the seat's roots in one cut). By AI agents, Wed Nov 11 2026. No macro, syntax, notation, axiom, sorry.
-/
import Derived.Test.YteooecjmnombfaaDoorChecked
import GoSem.Claim
import GoSem.ClaimJoined
import GoSem.ClaimMapViews
import Derived.JoinedTies
import Derived.KernelRfl
namespace Go.Proofs.YteooecjmnombfaaDoor
/- THE CELL 'sum', in the pinned program and in every row, IS THE sha256 OF THE DUMP (.gsa) THAT YteooecjmnombfaaDoorProg.lean LOADS. Nothing in Lean hashes anything: it is a label: what it is worth is what the hold of that sum in a sandbox is worth. -/
noncomputable def Tryd.pinned : Pinned := { name := "yteooecjmnombfaadoor", sum := "224a99ac55e352472371bc0a43c1d01222b81ec7e04359b3bfd87ce67f40a6bc", checked := Tryd.checked }
namespace Rows
def none {H : Type} : Left H := { results := [], args := [] }

/- WHAT THE LISTED PACKAGE-LEVEL VARIABLES READ AS WHEN THE CALL BEGINS. Each datum BY PROGRAM (the guide's laid-datum.mjs) off the statement by which the dump's own 'gosem.cut.vars' lays the variable. In a bare row this is a premise. The card (YteooecjmnombfaaDoorCards.lean) ties it to the program's text. -/
def laid_larder_nest_commands {H : Type} : DataW H := .agg [.agg [.lit (.string [72, 68, 69, 76]), .lit (.int .i64 (-3)), .lit (.bool true), .lit (.int .i64 1), .lit (.int .i64 1), .lit (.int .i64 1), .lit (.int .i64 0)], .agg [.lit (.string [72, 69, 88, 73, 83, 84, 83]), .lit (.int .i64 3), .lit (.bool false), .lit (.int .i64 1), .lit (.int .i64 1), .lit (.int .i64 1), .lit (.int .i64 0)], .agg [.lit (.string [72, 71, 69, 84]), .lit (.int .i64 3), .lit (.bool false), .lit (.int .i64 1), .lit (.int .i64 1), .lit (.int .i64 1), .lit (.int .i64 0)], .agg [.lit (.string [72, 71, 69, 84, 65, 76, 76]), .lit (.int .i64 2), .lit (.bool false), .lit (.int .i64 1), .lit (.int .i64 1), .lit (.int .i64 1), .lit (.int .i64 0)], .agg [.lit (.string [72, 73, 78, 67, 82, 66, 89]), .lit (.int .i64 4), .lit (.bool true), .lit (.int .i64 1), .lit (.int .i64 1), .lit (.int .i64 1), .lit (.int .i64 0)], .agg [.lit (.string [72, 75, 69, 89, 83]), .lit (.int .i64 2), .lit (.bool false), .lit (.int .i64 1), .lit (.int .i64 1), .lit (.int .i64 1), .lit (.int .i64 0)], .agg [.lit (.string [72, 76, 69, 78]), .lit (.int .i64 2), .lit (.bool false), .lit (.int .i64 1), .lit (.int .i64 1), .lit (.int .i64 1), .lit (.int .i64 0)], .agg [.lit (.string [72, 77, 71, 69, 84]), .lit (.int .i64 (-3)), .lit (.bool false), .lit (.int .i64 1), .lit (.int .i64 1), .lit (.int .i64 1), .lit (.int .i64 0)], .agg [.lit (.string [72, 83, 67, 65, 78]), .lit (.int .i64 (-3)), .lit (.bool false), .lit (.int .i64 1), .lit (.int .i64 1), .lit (.int .i64 1), .lit (.int .i64 0)], .agg [.lit (.string [72, 83, 69, 84]), .lit (.int .i64 (-4)), .lit (.bool true), .lit (.int .i64 1), .lit (.int .i64 1), .lit (.int .i64 1), .lit (.int .i64 0)], .agg [.lit (.string [72, 83, 69, 84, 78, 88]), .lit (.int .i64 4), .lit (.bool true), .lit (.int .i64 1), .lit (.int .i64 1), .lit (.int .i64 1), .lit (.int .i64 0)], .agg [.lit (.string [72, 83, 84, 82, 76, 69, 78]), .lit (.int .i64 3), .lit (.bool false), .lit (.int .i64 1), .lit (.int .i64 1), .lit (.int .i64 1), .lit (.int .i64 0)], .agg [.lit (.string [72, 86, 65, 76, 83]), .lit (.int .i64 2), .lit (.bool false), .lit (.int .i64 1), .lit (.int .i64 1), .lit (.int .i64 1), .lit (.int .i64 0)], .agg [.lit (.string [83, 65, 68, 68]), .lit (.int .i64 (-3)), .lit (.bool true), .lit (.int .i64 1), .lit (.int .i64 1), .lit (.int .i64 1), .lit (.int .i64 0)], .agg [.lit (.string [83, 67, 65, 82, 68]), .lit (.int .i64 2), .lit (.bool false), .lit (.int .i64 1), .lit (.int .i64 1), .lit (.int .i64 1), .lit (.int .i64 0)], .agg [.lit (.string [83, 68, 73, 70, 70]), .lit (.int .i64 (-2)), .lit (.bool false), .lit (.int .i64 1), .lit (.int .i64 (-1)), .lit (.int .i64 1), .lit (.int .i64 0)], .agg [.lit (.string [83, 68, 73, 70, 70, 83, 84, 79, 82, 69]), .lit (.int .i64 (-3)), .lit (.bool true), .lit (.int .i64 1), .lit (.int .i64 (-1)), .lit (.int .i64 1), .lit (.int .i64 0)], .agg [.lit (.string [83, 73, 78, 84, 69, 82]), .lit (.int .i64 (-2)), .lit (.bool false), .lit (.int .i64 1), .lit (.int .i64 (-1)), .lit (.int .i64 1), .lit (.int .i64 0)], .agg [.lit (.string [83, 73, 78, 84, 69, 82, 67, 65, 82, 68]), .lit (.int .i64 (-3)), .lit (.bool false), .lit (.int .i64 0), .lit (.int .i64 0), .lit (.int .i64 0), .lit (.int .i64 1)], .agg [.lit (.string [83, 73, 78, 84, 69, 82, 83, 84, 79, 82, 69]), .lit (.int .i64 (-3)), .lit (.bool true), .lit (.int .i64 1), .lit (.int .i64 (-1)), .lit (.int .i64 1), .lit (.int .i64 0)], .agg [.lit (.string [83, 73, 83, 77, 69, 77, 66, 69, 82]), .lit (.int .i64 3), .lit (.bool false), .lit (.int .i64 1), .lit (.int .i64 1), .lit (.int .i64 1), .lit (.int .i64 0)], .agg [.lit (.string [83, 77, 69, 77, 66, 69, 82, 83]), .lit (.int .i64 2), .lit (.bool false), .lit (.int .i64 1), .lit (.int .i64 1), .lit (.int .i64 1), .lit (.int .i64 0)], .agg [.lit (.string [83, 77, 73, 83, 77, 69, 77, 66, 69, 82]), .lit (.int .i64 (-3)), .lit (.bool false), .lit (.int .i64 1), .lit (.int .i64 1), .lit (.int .i64 1), .lit (.int .i64 0)], .agg [.lit (.string [83, 77, 79, 86, 69]), .lit (.int .i64 4), .lit (.bool true), .lit (.int .i64 1), .lit (.int .i64 2), .lit (.int .i64 1), .lit (.int .i64 0)], .agg [.lit (.string [83, 80, 79, 80]), .lit (.int .i64 (-2)), .lit (.bool true), .lit (.int .i64 1), .lit (.int .i64 1), .lit (.int .i64 1), .lit (.int .i64 0)], .agg [.lit (.string [83, 82, 69, 77]), .lit (.int .i64 (-3)), .lit (.bool true), .lit (.int .i64 1), .lit (.int .i64 1), .lit (.int .i64 1), .lit (.int .i64 0)], .agg [.lit (.string [83, 83, 67, 65, 78]), .lit (.int .i64 (-3)), .lit (.bool false), .lit (.int .i64 1), .lit (.int .i64 1), .lit (.int .i64 1), .lit (.int .i64 0)], .agg [.lit (.string [83, 85, 78, 73, 79, 78]), .lit (.int .i64 (-2)), .lit (.bool false), .lit (.int .i64 1), .lit (.int .i64 (-1)), .lit (.int .i64 1), .lit (.int .i64 0)], .agg [.lit (.string [83, 85, 78, 73, 79, 78, 83, 84, 79, 82, 69]), .lit (.int .i64 (-3)), .lit (.bool true), .lit (.int .i64 1), .lit (.int .i64 (-1)), .lit (.int .i64 1), .lit (.int .i64 0)]]

/-- 'larderlaw13.NestTable': WHATEVER THE INPUT: true; the input reads as it did. -/
def nestTableSpec : ChangeSpec := { name := "nestTable", fn := fun _ => fun
  | [d] => { results := [.lit (.bool true)], args := [d] }
  | _ => none }
def nestTableRow : OpenClaim := { program := "yteooecjmnombfaadoor", sum := "224a99ac55e352472371bc0a43c1d01222b81ec7e04359b3bfd87ce67f40a6bc", func := "larder/larderlaw13.NestTable", spec := "nestTable", unfollowed := true, recurses := true, named := ["larder/nest.commands"], apart := false, laid := [("larder/nest.commands", laid_larder_nest_commands)] }
def NestTableSaid : Prop := nestTableRow.holds Tryd.pinned (OpenSpec.ofChange nestTableSpec)

/-- ITS FALSE NEIGHBOUR: 'it returns false'. Refute it at one input. -/
def nestTableWrong : ChangeSpec := { name := "nestTable", fn := fun _ => fun
  | [d] => { results := [.lit (.bool false)], args := [d] }
  | _ => none }
def NestTableWrongFalsely : Prop := nestTableRow.holds Tryd.pinned (OpenSpec.ofChange nestTableWrong)

/- THE SECOND FORM. 'bulk': how many values and letters a reading holds, each counted each time it is reached (what is shared counts as often as it is met; a slice's spare places count too). A statement '..UptoSaid' is the law's where the arguments, and the package variables that the reading takes, are together of bulk at most 1048576: NARROWER than '..Said'. Prove '..Said' where nothing that the law and all that it calls make is longer than what came in: it says more and counts as full. Else prove '..UptoSaid'. A law counts once. -/
mutual
def uptoBulk {H : Type} : DataW H → Nat
  | .lit (.string bytes) => bytes.length + 1
  | .lit _ => 1
  | .nil => 1
  | .ptr d => uptoBulk d + 1
  | .slice elems spare => uptoBulkAll elems + uptoBulkAll spare + 1
  | .agg parts => uptoBulkAll parts + 1
  | .iface _ d => uptoBulk d + 1
  | .map entries => uptoBulkEntries entries + 1
  | .held _ => 1
def uptoBulkAll {H : Type} : List (DataW H) → Nat
  | [] => 0
  | d :: r => uptoBulk d + uptoBulkAll r
def uptoBulkEntries {H : Type} : List (Lit × DataW H) → Nat
  | [] => 0
  | x :: r => uptoBulkEntry x + uptoBulkEntries r
def uptoBulkEntry {H : Type} : Lit × DataW H → Nat
  | (.string bytes, d) => bytes.length + uptoBulk d + 1
  | (_, d) => uptoBulk d + 1
 end
def uptoSmall : (H : Type) → List (DataW H) → Bool := fun _ ds => decide (uptoBulkAll ds ≤ 1048576)
def OpenSpec.upto (s : _root_.Go.ChangeSpec) : _root_.Go.OpenSpec := { _root_.Go.OpenSpec.ofChange s with cond := some uptoSmall }

/-- 'larderlaw13.NestTable', WHERE WHAT IT READS IS OF BULK AT MOST 1048576: true; the input reads as it did. -/
def nestTableUptoRow : OpenClaim := { program := "yteooecjmnombfaadoor", sum := "224a99ac55e352472371bc0a43c1d01222b81ec7e04359b3bfd87ce67f40a6bc", func := "larder/larderlaw13.NestTable", spec := "nestTable", unfollowed := true, recurses := true, named := ["larder/nest.commands"], apart := false, laid := [("larder/nest.commands", laid_larder_nest_commands)], narrowed := true }
def NestTableUptoSaid : Prop := nestTableUptoRow.holds Tryd.pinned (OpenSpec.upto nestTableSpec)

end Rows
end Go.Proofs.YteooecjmnombfaaDoor
