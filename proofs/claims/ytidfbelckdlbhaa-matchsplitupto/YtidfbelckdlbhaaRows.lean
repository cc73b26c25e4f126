/-
  No cell of these rows narrows 'for every input' (looked for: loops, veiled, ifaces, maps, wideKeys, modest, calm, conditions, laid).
  DERIVED. THE GIVEN ROWS OF THIS SEAT. 5 by the template 'for every input the law returns true; each argument reads behind the call as it read before'; 0 by the template 'total and deterministic' (their statements: YtidfbelckdlbhaaTotals.lean).
  GIVEN WITH THE SEED: the statements are not yours to turn. If you find one false, say at which input.
  Laid BY PROGRAM, IN A SANDBOX (cutbox-rows.mjs): the forced cells as the released guide's own fill.sh prints them over the translation 03b489ad47123559… (all of the seat's roots in one cut). By AI agents, Wed Nov 11 2026. No macro, syntax, notation, axiom, sorry.
-/
import Derived.Test.YtidfbelckdlbhaaChecked
import GoSem.Claim
import GoSem.ClaimJoined
import GoSem.ClaimMapViews
import Derived.JoinedTies
import Derived.KernelRfl
namespace Go.Proofs.Ytidfbelckdlbhaa
/- THE CELL 'sum', in the pinned program and in every row, IS THE sha256 OF THE DUMP (.gsa) THAT YtidfbelckdlbhaaProg.lean LOADS. Nothing in Lean hashes anything: it is a label: what it is worth is what the hold of that sum in a sandbox is worth. -/
noncomputable def Try.pinned : Pinned := { name := "ytidfbelckdlbhaa", sum := "03b489ad471235592286acc1b979c0949d3f9d6e7b6a1cd6e9acade80d889db8", checked := Try.checked }
namespace Rows
def none {H : Type} : Left H := { results := [], args := [] }

/-- 'larderlaw9.MatchSpans': WHATEVER THE INPUT: true; the input reads as it did. -/
def matchSpansSpec : ChangeSpec := { name := "matchSpans", fn := fun _ => fun
  | [d] => { results := [.lit (.bool true)], args := [d] }
  | _ => none }
def matchSpansRow : OpenClaim := { program := "ytidfbelckdlbhaa", sum := "03b489ad471235592286acc1b979c0949d3f9d6e7b6a1cd6e9acade80d889db8", func := "larder/larderlaw9.MatchSpans", spec := "matchSpans", apart := false }
def MatchSpansSaid : Prop := matchSpansRow.holds Try.pinned (OpenSpec.ofChange matchSpansSpec)

/-- ITS FALSE NEIGHBOUR: 'it returns false'. Refute it at one input. -/
def matchSpansWrong : ChangeSpec := { name := "matchSpans", fn := fun _ => fun
  | [d] => { results := [.lit (.bool false)], args := [d] }
  | _ => none }
def MatchSpansWrongFalsely : Prop := matchSpansRow.holds Try.pinned (OpenSpec.ofChange matchSpansWrong)

/-- 'larderlaw9.MatchClass': WHATEVER THE INPUT: true; the input reads as it did. -/
def matchClassSpec : ChangeSpec := { name := "matchClass", fn := fun _ => fun
  | [d] => { results := [.lit (.bool true)], args := [d] }
  | _ => none }
def matchClassRow : OpenClaim := { program := "ytidfbelckdlbhaa", sum := "03b489ad471235592286acc1b979c0949d3f9d6e7b6a1cd6e9acade80d889db8", func := "larder/larderlaw9.MatchClass", spec := "matchClass", apart := false }
def MatchClassSaid : Prop := matchClassRow.holds Try.pinned (OpenSpec.ofChange matchClassSpec)

/-- ITS FALSE NEIGHBOUR: 'it returns false'. Refute it at one input. -/
def matchClassWrong : ChangeSpec := { name := "matchClass", fn := fun _ => fun
  | [d] => { results := [.lit (.bool false)], args := [d] }
  | _ => none }
def MatchClassWrongFalsely : Prop := matchClassRow.holds Try.pinned (OpenSpec.ofChange matchClassWrong)

/-- 'larderlaw9.MatchSplit': WHATEVER THE INPUT: true; the input reads as it did. -/
def matchSplitSpec : ChangeSpec := { name := "matchSplit", fn := fun _ => fun
  | [d] => { results := [.lit (.bool true)], args := [d] }
  | _ => none }
def matchSplitRow : OpenClaim := { program := "ytidfbelckdlbhaa", sum := "03b489ad471235592286acc1b979c0949d3f9d6e7b6a1cd6e9acade80d889db8", func := "larder/larderlaw9.MatchSplit", spec := "matchSplit", apart := false }
def MatchSplitSaid : Prop := matchSplitRow.holds Try.pinned (OpenSpec.ofChange matchSplitSpec)

/-- ITS FALSE NEIGHBOUR: 'it returns false'. Refute it at one input. -/
def matchSplitWrong : ChangeSpec := { name := "matchSplit", fn := fun _ => fun
  | [d] => { results := [.lit (.bool false)], args := [d] }
  | _ => none }
def MatchSplitWrongFalsely : Prop := matchSplitRow.holds Try.pinned (OpenSpec.ofChange matchSplitWrong)

/-- 'larderlaw9.MatchQuoted': WHATEVER THE INPUT: true; the input reads as it did. -/
def matchQuotedSpec : ChangeSpec := { name := "matchQuoted", fn := fun _ => fun
  | [d] => { results := [.lit (.bool true)], args := [d] }
  | _ => none }
def matchQuotedRow : OpenClaim := { program := "ytidfbelckdlbhaa", sum := "03b489ad471235592286acc1b979c0949d3f9d6e7b6a1cd6e9acade80d889db8", func := "larder/larderlaw9.MatchQuoted", spec := "matchQuoted", apart := false }
def MatchQuotedSaid : Prop := matchQuotedRow.holds Try.pinned (OpenSpec.ofChange matchQuotedSpec)

/-- ITS FALSE NEIGHBOUR: 'it returns false'. Refute it at one input. -/
def matchQuotedWrong : ChangeSpec := { name := "matchQuoted", fn := fun _ => fun
  | [d] => { results := [.lit (.bool false)], args := [d] }
  | _ => none }
def MatchQuotedWrongFalsely : Prop := matchQuotedRow.holds Try.pinned (OpenSpec.ofChange matchQuotedWrong)

/-- 'larderlaw9.MatchGlob': WHATEVER THE INPUT: true; the input reads as it did. -/
def matchGlobSpec : ChangeSpec := { name := "matchGlob", fn := fun _ => fun
  | [d] => { results := [.lit (.bool true)], args := [d] }
  | _ => none }
def matchGlobRow : OpenClaim := { program := "ytidfbelckdlbhaa", sum := "03b489ad471235592286acc1b979c0949d3f9d6e7b6a1cd6e9acade80d889db8", func := "larder/larderlaw9.MatchGlob", spec := "matchGlob", inPlace := ["internal/bytealg.Compare", "internal/bytealg.IndexByte", "internal/bytealg.Index"], named := ["internal/bytealg.MaxLen"], apart := false }
def MatchGlobSaid : Prop := matchGlobRow.holds Try.pinned (OpenSpec.ofChange matchGlobSpec)

/-- ITS FALSE NEIGHBOUR: 'it returns false'. Refute it at one input. -/
def matchGlobWrong : ChangeSpec := { name := "matchGlob", fn := fun _ => fun
  | [d] => { results := [.lit (.bool false)], args := [d] }
  | _ => none }
def MatchGlobWrongFalsely : Prop := matchGlobRow.holds Try.pinned (OpenSpec.ofChange matchGlobWrong)

/- THE SECOND FORM. 'bulk': how many values and letters a reading holds, each counted each time it is reached (what is shared counts as often as it is met; a slice's spare places count too). A statement '..UptoSaid' is the law's where the arguments, and the package variables that the reading takes, are together of bulk at most 1048576: NARROWER than '..Said'. Prove '..Said' where nothing that the law and all that it calls make is longer than what came in: it says more and counts as full. Else prove '..UptoSaid'. A law counts once. -/
mutual
def uptoBulk {H : Type} : DataW H → Nat
  | .lit (.string bytes) => bytes.length + 1
  | .lit _ => 1
  | .nil => 1
  | .ptr d => uptoBulk d + 1
  | .slice elems spare => uptoBulkAll elems + uptoBulkAll spare + 1
  | .agg parts => uptoBulkAll parts + 1
  | .iface _ d => uptoBulk d + 1
  | .map entries => uptoBulkEntries entries + 1
  | .held _ => 1
def uptoBulkAll {H : Type} : List (DataW H) → Nat
  | [] => 0
  | d :: r => uptoBulk d + uptoBulkAll r
def uptoBulkEntries {H : Type} : List (Lit × DataW H) → Nat
  | [] => 0
  | x :: r => uptoBulkEntry x + uptoBulkEntries r
def uptoBulkEntry {H : Type} : Lit × DataW H → Nat
  | (.string bytes, d) => bytes.length + uptoBulk d + 1
  | (_, d) => uptoBulk d + 1
 end
def uptoSmall : (H : Type) → List (DataW H) → Bool := fun _ ds => decide (uptoBulkAll ds ≤ 1048576)
def OpenSpec.upto (s : _root_.Go.ChangeSpec) : _root_.Go.OpenSpec := { _root_.Go.OpenSpec.ofChange s with cond := some uptoSmall }

/-- 'larderlaw9.MatchSpans', WHERE WHAT IT READS IS OF BULK AT MOST 1048576: true; the input reads as it did. -/
def matchSpansUptoRow : OpenClaim := { program := "ytidfbelckdlbhaa", sum := "03b489ad471235592286acc1b979c0949d3f9d6e7b6a1cd6e9acade80d889db8", func := "larder/larderlaw9.MatchSpans", spec := "matchSpans", apart := false, narrowed := true }
def MatchSpansUptoSaid : Prop := matchSpansUptoRow.holds Try.pinned (OpenSpec.upto matchSpansSpec)

/-- 'larderlaw9.MatchClass', WHERE WHAT IT READS IS OF BULK AT MOST 1048576: true; the input reads as it did. -/
def matchClassUptoRow : OpenClaim := { program := "ytidfbelckdlbhaa", sum := "03b489ad471235592286acc1b979c0949d3f9d6e7b6a1cd6e9acade80d889db8", func := "larder/larderlaw9.MatchClass", spec := "matchClass", apart := false, narrowed := true }
def MatchClassUptoSaid : Prop := matchClassUptoRow.holds Try.pinned (OpenSpec.upto matchClassSpec)

/-- 'larderlaw9.MatchSplit', WHERE WHAT IT READS IS OF BULK AT MOST 1048576: true; the input reads as it did. -/
def matchSplitUptoRow : OpenClaim := { program := "ytidfbelckdlbhaa", sum := "03b489ad471235592286acc1b979c0949d3f9d6e7b6a1cd6e9acade80d889db8", func := "larder/larderlaw9.MatchSplit", spec := "matchSplit", apart := false, narrowed := true }
def MatchSplitUptoSaid : Prop := matchSplitUptoRow.holds Try.pinned (OpenSpec.upto matchSplitSpec)

/-- 'larderlaw9.MatchQuoted', WHERE WHAT IT READS IS OF BULK AT MOST 1048576: true; the input reads as it did. -/
def matchQuotedUptoRow : OpenClaim := { program := "ytidfbelckdlbhaa", sum := "03b489ad471235592286acc1b979c0949d3f9d6e7b6a1cd6e9acade80d889db8", func := "larder/larderlaw9.MatchQuoted", spec := "matchQuoted", apart := false, narrowed := true }
def MatchQuotedUptoSaid : Prop := matchQuotedUptoRow.holds Try.pinned (OpenSpec.upto matchQuotedSpec)

/-- 'larderlaw9.MatchGlob', WHERE WHAT IT READS IS OF BULK AT MOST 1048576: true; the input reads as it did. -/
def matchGlobUptoRow : OpenClaim := { program := "ytidfbelckdlbhaa", sum := "03b489ad471235592286acc1b979c0949d3f9d6e7b6a1cd6e9acade80d889db8", func := "larder/larderlaw9.MatchGlob", spec := "matchGlob", inPlace := ["internal/bytealg.Compare", "internal/bytealg.IndexByte", "internal/bytealg.Index"], named := ["internal/bytealg.MaxLen"], apart := false, narrowed := true }
def MatchGlobUptoSaid : Prop := matchGlobUptoRow.holds Try.pinned (OpenSpec.upto matchGlobSpec)

end Rows
end Go.Proofs.Ytidfbelckdlbhaa
