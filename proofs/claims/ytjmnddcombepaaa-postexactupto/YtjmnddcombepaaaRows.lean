/-
  No cell of these rows narrows 'for every input' (looked for: loops, veiled, ifaces, maps, wideKeys, modest, calm, conditions, laid).
  DERIVED. THE GIVEN ROWS OF THIS SEAT. 5 by the template 'for every input the law returns true; each argument reads behind the call as it read before'; 0 by the template 'total and deterministic' (their statements: YtjmnddcombepaaaTotals.lean).
  GIVEN WITH THE SEED: the statements are not yours to turn. If you find one false, say at which input.
  Laid BY PROGRAM, IN A SANDBOX (cutbox-rows.mjs): the forced cells as the released guide's own fill.sh prints them over the translation c0c609995feaca36… (all of the seat's roots in one cut). By AI agents, Wed Nov 11 2026. No macro, syntax, notation, axiom, sorry.
-/
import Derived.Test.YtjmnddcombepaaaChecked
import GoSem.Claim
import GoSem.ClaimJoined
import GoSem.ClaimMapViews
import Derived.JoinedTies
import Derived.KernelRfl
namespace Go.Proofs.Ytjmnddcombepaaa
/- THE CELL 'sum', in the pinned program and in every row, IS THE sha256 OF THE DUMP (.gsa) THAT YtjmnddcombepaaaProg.lean LOADS. Nothing in Lean hashes anything: it is a label: what it is worth is what the hold of that sum in a sandbox is worth. -/
noncomputable def Try.pinned : Pinned := { name := "ytjmnddcombepaaa", sum := "c0c609995feaca364d4f1cafbfdd252456d5d722f768fbe3f6386ebc042edda2", checked := Try.checked }
namespace Rows
def none {H : Type} : Left H := { results := [], args := [] }

/-- 'larderlaw17.PostFull': WHATEVER THE INPUT: true; the input reads as it did. -/
def postFullSpec : ChangeSpec := { name := "postFull", fn := fun _ => fun
  | [d] => { results := [.lit (.bool true)], args := [d] }
  | _ => none }
def postFullRow : OpenClaim := { program := "ytjmnddcombepaaa", sum := "c0c609995feaca364d4f1cafbfdd252456d5d722f768fbe3f6386ebc042edda2", func := "larder/larderlaw17.PostFull", spec := "postFull", unfollowed := true, recurses := true, plainKeys := false, apart := false }
def PostFullSaid : Prop := postFullRow.holds Try.pinned (OpenSpec.ofChange postFullSpec)

/-- ITS FALSE NEIGHBOUR: 'it returns false'. Refute it at one input. -/
def postFullWrong : ChangeSpec := { name := "postFull", fn := fun _ => fun
  | [d] => { results := [.lit (.bool false)], args := [d] }
  | _ => none }
def PostFullWrongFalsely : Prop := postFullRow.holds Try.pinned (OpenSpec.ofChange postFullWrong)

/-- 'larderlaw17.PostHears': WHATEVER THE INPUT: true; the input reads as it did. -/
def postHearsSpec : ChangeSpec := { name := "postHears", fn := fun _ => fun
  | [d] => { results := [.lit (.bool true)], args := [d] }
  | _ => none }
def postHearsRow : OpenClaim := { program := "ytjmnddcombepaaa", sum := "c0c609995feaca364d4f1cafbfdd252456d5d722f768fbe3f6386ebc042edda2", func := "larder/larderlaw17.PostHears", spec := "postHears", unfollowed := true, recurses := true, plainKeys := false, apart := false }
def PostHearsSaid : Prop := postHearsRow.holds Try.pinned (OpenSpec.ofChange postHearsSpec)

/-- ITS FALSE NEIGHBOUR: 'it returns false'. Refute it at one input. -/
def postHearsWrong : ChangeSpec := { name := "postHears", fn := fun _ => fun
  | [d] => { results := [.lit (.bool false)], args := [d] }
  | _ => none }
def PostHearsWrongFalsely : Prop := postHearsRow.holds Try.pinned (OpenSpec.ofChange postHearsWrong)

/-- 'larderlaw17.PostOrder': WHATEVER THE INPUT: true; the input reads as it did. -/
def postOrderSpec : ChangeSpec := { name := "postOrder", fn := fun _ => fun
  | [d] => { results := [.lit (.bool true)], args := [d] }
  | _ => none }
def postOrderRow : OpenClaim := { program := "ytjmnddcombepaaa", sum := "c0c609995feaca364d4f1cafbfdd252456d5d722f768fbe3f6386ebc042edda2", func := "larder/larderlaw17.PostOrder", spec := "postOrder", unfollowed := true, recurses := true, plainKeys := false, apart := false }
def PostOrderSaid : Prop := postOrderRow.holds Try.pinned (OpenSpec.ofChange postOrderSpec)

/-- ITS FALSE NEIGHBOUR: 'it returns false'. Refute it at one input. -/
def postOrderWrong : ChangeSpec := { name := "postOrder", fn := fun _ => fun
  | [d] => { results := [.lit (.bool false)], args := [d] }
  | _ => none }
def PostOrderWrongFalsely : Prop := postOrderRow.holds Try.pinned (OpenSpec.ofChange postOrderWrong)

/-- 'larderlaw17.PostLess': WHATEVER THE INPUT: true; the input reads as it did. -/
def postLessSpec : ChangeSpec := { name := "postLess", fn := fun _ => fun
  | [d] => { results := [.lit (.bool true)], args := [d] }
  | _ => none }
def postLessRow : OpenClaim := { program := "ytjmnddcombepaaa", sum := "c0c609995feaca364d4f1cafbfdd252456d5d722f768fbe3f6386ebc042edda2", func := "larder/larderlaw17.PostLess", spec := "postLess", unfollowed := true, recurses := true, plainKeys := false, apart := false }
def PostLessSaid : Prop := postLessRow.holds Try.pinned (OpenSpec.ofChange postLessSpec)

/-- ITS FALSE NEIGHBOUR: 'it returns false'. Refute it at one input. -/
def postLessWrong : ChangeSpec := { name := "postLess", fn := fun _ => fun
  | [d] => { results := [.lit (.bool false)], args := [d] }
  | _ => none }
def PostLessWrongFalsely : Prop := postLessRow.holds Try.pinned (OpenSpec.ofChange postLessWrong)

/-- 'larderlaw17.PostExact': WHATEVER THE INPUT: true; the input reads as it did. -/
def postExactSpec : ChangeSpec := { name := "postExact", fn := fun _ => fun
  | [d] => { results := [.lit (.bool true)], args := [d] }
  | _ => none }
def postExactRow : OpenClaim := { program := "ytjmnddcombepaaa", sum := "c0c609995feaca364d4f1cafbfdd252456d5d722f768fbe3f6386ebc042edda2", func := "larder/larderlaw17.PostExact", spec := "postExact", unfollowed := true, recurses := true, plainKeys := false, apart := false }
def PostExactSaid : Prop := postExactRow.holds Try.pinned (OpenSpec.ofChange postExactSpec)

/-- ITS FALSE NEIGHBOUR: 'it returns false'. Refute it at one input. -/
def postExactWrong : ChangeSpec := { name := "postExact", fn := fun _ => fun
  | [d] => { results := [.lit (.bool false)], args := [d] }
  | _ => none }
def PostExactWrongFalsely : Prop := postExactRow.holds Try.pinned (OpenSpec.ofChange postExactWrong)

/- THE SECOND FORM. 'bulk': how many values and letters a reading holds, each counted each time it is reached (what is shared counts as often as it is met; a slice's spare places count too). A statement '..UptoSaid' is the law's where the arguments, and the package variables that the reading takes, are together of bulk at most 1048576: NARROWER than '..Said'. Prove '..Said' where nothing that the law and all that it calls make is longer than what came in: it says more and counts as full. Else prove '..UptoSaid'. A law counts once. -/
mutual
def uptoBulk {H : Type} : DataW H → Nat
  | .lit (.string bytes) => bytes.length + 1
  | .lit _ => 1
  | .nil => 1
  | .ptr d => uptoBulk d + 1
  | .slice elems spare => uptoBulkAll elems + uptoBulkAll spare + 1
  | .agg parts => uptoBulkAll parts + 1
  | .iface _ d => uptoBulk d + 1
  | .map entries => uptoBulkEntries entries + 1
  | .held _ => 1
def uptoBulkAll {H : Type} : List (DataW H) → Nat
  | [] => 0
  | d :: r => uptoBulk d + uptoBulkAll r
def uptoBulkEntries {H : Type} : List (Lit × DataW H) → Nat
  | [] => 0
  | x :: r => uptoBulkEntry x + uptoBulkEntries r
def uptoBulkEntry {H : Type} : Lit × DataW H → Nat
  | (.string bytes, d) => bytes.length + uptoBulk d + 1
  | (_, d) => uptoBulk d + 1
 end
def uptoSmall : (H : Type) → List (DataW H) → Bool := fun _ ds => decide (uptoBulkAll ds ≤ 1048576)
def OpenSpec.upto (s : _root_.Go.ChangeSpec) : _root_.Go.OpenSpec := { _root_.Go.OpenSpec.ofChange s with cond := some uptoSmall }

/-- 'larderlaw17.PostFull', WHERE WHAT IT READS IS OF BULK AT MOST 1048576: true; the input reads as it did. -/
def postFullUptoRow : OpenClaim := { program := "ytjmnddcombepaaa", sum := "c0c609995feaca364d4f1cafbfdd252456d5d722f768fbe3f6386ebc042edda2", func := "larder/larderlaw17.PostFull", spec := "postFull", unfollowed := true, recurses := true, plainKeys := false, apart := false, narrowed := true }
def PostFullUptoSaid : Prop := postFullUptoRow.holds Try.pinned (OpenSpec.upto postFullSpec)

/-- 'larderlaw17.PostHears', WHERE WHAT IT READS IS OF BULK AT MOST 1048576: true; the input reads as it did. -/
def postHearsUptoRow : OpenClaim := { program := "ytjmnddcombepaaa", sum := "c0c609995feaca364d4f1cafbfdd252456d5d722f768fbe3f6386ebc042edda2", func := "larder/larderlaw17.PostHears", spec := "postHears", unfollowed := true, recurses := true, plainKeys := false, apart := false, narrowed := true }
def PostHearsUptoSaid : Prop := postHearsUptoRow.holds Try.pinned (OpenSpec.upto postHearsSpec)

/-- 'larderlaw17.PostOrder', WHERE WHAT IT READS IS OF BULK AT MOST 1048576: true; the input reads as it did. -/
def postOrderUptoRow : OpenClaim := { program := "ytjmnddcombepaaa", sum := "c0c609995feaca364d4f1cafbfdd252456d5d722f768fbe3f6386ebc042edda2", func := "larder/larderlaw17.PostOrder", spec := "postOrder", unfollowed := true, recurses := true, plainKeys := false, apart := false, narrowed := true }
def PostOrderUptoSaid : Prop := postOrderUptoRow.holds Try.pinned (OpenSpec.upto postOrderSpec)

/-- 'larderlaw17.PostLess', WHERE WHAT IT READS IS OF BULK AT MOST 1048576: true; the input reads as it did. -/
def postLessUptoRow : OpenClaim := { program := "ytjmnddcombepaaa", sum := "c0c609995feaca364d4f1cafbfdd252456d5d722f768fbe3f6386ebc042edda2", func := "larder/larderlaw17.PostLess", spec := "postLess", unfollowed := true, recurses := true, plainKeys := false, apart := false, narrowed := true }
def PostLessUptoSaid : Prop := postLessUptoRow.holds Try.pinned (OpenSpec.upto postLessSpec)

/-- 'larderlaw17.PostExact', WHERE WHAT IT READS IS OF BULK AT MOST 1048576: true; the input reads as it did. -/
def postExactUptoRow : OpenClaim := { program := "ytjmnddcombepaaa", sum := "c0c609995feaca364d4f1cafbfdd252456d5d722f768fbe3f6386ebc042edda2", func := "larder/larderlaw17.PostExact", spec := "postExact", unfollowed := true, recurses := true, plainKeys := false, apart := false, narrowed := true }
def PostExactUptoSaid : Prop := postExactUptoRow.holds Try.pinned (OpenSpec.upto postExactSpec)

end Rows
end Go.Proofs.Ytjmnddcombepaaa
