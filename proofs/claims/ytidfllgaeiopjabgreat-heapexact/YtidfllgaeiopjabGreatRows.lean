/-
  No cell of these rows narrows 'for every input' (looked for: loops, veiled, ifaces, maps, wideKeys, modest, calm, conditions, laid).
  DERIVED. THE GIVEN ROWS OF THIS SEAT. 6 by the template 'for every input the law returns true; each argument reads behind the call as it read before'; 0 by the template 'total and deterministic' (their statements: YtidfllgaeiopjabGreatTotals.lean).
  GIVEN WITH THE SEED: the statements are not yours to turn. If you find one false, say at which input.
  Laid BY PROGRAM, IN A SANDBOX (cutbox-rows.mjs): the forced cells as the released guide's own fill.sh prints them over the translation 7985d037411febe5… (all of the seat's roots in one cut). By AI agents, Wed Nov 11 2026. No macro, syntax, notation, axiom, sorry.
-/
import Derived.Test.YtidfllgaeiopjabGreatChecked
import GoSem.Claim
import GoSem.ClaimJoined
import GoSem.ClaimMapViews
import Derived.JoinedTies
import Derived.KernelRfl
namespace Go.Proofs.YtidfllgaeiopjabGreat
/- THE CELL 'sum', in the pinned program and in every row, IS THE sha256 OF THE DUMP (.gsa) THAT YtidfllgaeiopjabGreatProg.lean LOADS. Nothing in Lean hashes anything: it is a label: what it is worth is what the hold of that sum in a sandbox is worth. -/
noncomputable def Tryz.pinned : Pinned := { name := "ytidfllgaeiopjabgreat", sum := "7985d037411febe576fceedbde1d3aa0fa7bb75e0092729bce27b5e48e7a6a1c", checked := Tryz.checked }
namespace Rows
def none {H : Type} : Left H := { results := [], args := [] }

/-- 'larderlaw3.HeapFields': WHATEVER THE INPUT: true; the input reads as it did. -/
def heapFieldsSpec : ChangeSpec := { name := "heapFields", fn := fun _ => fun
  | [d] => { results := [.lit (.bool true)], args := [d] }
  | _ => none }
def heapFieldsRow : OpenClaim := { program := "ytidfllgaeiopjabgreat", sum := "7985d037411febe576fceedbde1d3aa0fa7bb75e0092729bce27b5e48e7a6a1c", func := "larder/larderlaw3.HeapFields", spec := "heapFields", unfollowed := true, recurses := true, apart := false }
def HeapFieldsSaid : Prop := heapFieldsRow.holds Tryz.pinned (OpenSpec.ofChange heapFieldsSpec)

/-- ITS FALSE NEIGHBOUR: 'it returns false'. Refute it at one input. -/
def heapFieldsWrong : ChangeSpec := { name := "heapFields", fn := fun _ => fun
  | [d] => { results := [.lit (.bool false)], args := [d] }
  | _ => none }
def HeapFieldsWrongFalsely : Prop := heapFieldsRow.holds Tryz.pinned (OpenSpec.ofChange heapFieldsWrong)

/-- 'larderlaw3.HeapHandles': WHATEVER THE INPUT: true; the input reads as it did. -/
def heapHandlesSpec : ChangeSpec := { name := "heapHandles", fn := fun _ => fun
  | [d] => { results := [.lit (.bool true)], args := [d] }
  | _ => none }
def heapHandlesRow : OpenClaim := { program := "ytidfllgaeiopjabgreat", sum := "7985d037411febe576fceedbde1d3aa0fa7bb75e0092729bce27b5e48e7a6a1c", func := "larder/larderlaw3.HeapHandles", spec := "heapHandles", unfollowed := true, recurses := true, apart := false }
def HeapHandlesSaid : Prop := heapHandlesRow.holds Tryz.pinned (OpenSpec.ofChange heapHandlesSpec)

/-- ITS FALSE NEIGHBOUR: 'it returns false'. Refute it at one input. -/
def heapHandlesWrong : ChangeSpec := { name := "heapHandles", fn := fun _ => fun
  | [d] => { results := [.lit (.bool false)], args := [d] }
  | _ => none }
def HeapHandlesWrongFalsely : Prop := heapHandlesRow.holds Tryz.pinned (OpenSpec.ofChange heapHandlesWrong)

/-- 'larderlaw3.HeapPolicy': WHATEVER THE INPUT: true; the input reads as it did. -/
def heapPolicySpec : ChangeSpec := { name := "heapPolicy", fn := fun _ => fun
  | [d] => { results := [.lit (.bool true)], args := [d] }
  | _ => none }
def heapPolicyRow : OpenClaim := { program := "ytidfllgaeiopjabgreat", sum := "7985d037411febe576fceedbde1d3aa0fa7bb75e0092729bce27b5e48e7a6a1c", func := "larder/larderlaw3.HeapPolicy", spec := "heapPolicy", unfollowed := true, recurses := true, apart := false }
def HeapPolicySaid : Prop := heapPolicyRow.holds Tryz.pinned (OpenSpec.ofChange heapPolicySpec)

/-- ITS FALSE NEIGHBOUR: 'it returns false'. Refute it at one input. -/
def heapPolicyWrong : ChangeSpec := { name := "heapPolicy", fn := fun _ => fun
  | [d] => { results := [.lit (.bool false)], args := [d] }
  | _ => none }
def HeapPolicyWrongFalsely : Prop := heapPolicyRow.holds Tryz.pinned (OpenSpec.ofChange heapPolicyWrong)

/-- 'larderlaw3.HeapImage': WHATEVER THE INPUT: true; the input reads as it did. -/
def heapImageSpec : ChangeSpec := { name := "heapImage", fn := fun _ => fun
  | [d] => { results := [.lit (.bool true)], args := [d] }
  | _ => none }
def heapImageRow : OpenClaim := { program := "ytidfllgaeiopjabgreat", sum := "7985d037411febe576fceedbde1d3aa0fa7bb75e0092729bce27b5e48e7a6a1c", func := "larder/larderlaw3.HeapImage", spec := "heapImage", unfollowed := true, recurses := true, apart := false }
def HeapImageSaid : Prop := heapImageRow.holds Tryz.pinned (OpenSpec.ofChange heapImageSpec)

/-- ITS FALSE NEIGHBOUR: 'it returns false'. Refute it at one input. -/
def heapImageWrong : ChangeSpec := { name := "heapImage", fn := fun _ => fun
  | [d] => { results := [.lit (.bool false)], args := [d] }
  | _ => none }
def HeapImageWrongFalsely : Prop := heapImageRow.holds Tryz.pinned (OpenSpec.ofChange heapImageWrong)

/-- 'larderlaw3.HeapExact': WHATEVER THE INPUT: true; the input reads as it did. -/
def heapExactSpec : ChangeSpec := { name := "heapExact", fn := fun _ => fun
  | [d] => { results := [.lit (.bool true)], args := [d] }
  | _ => none }
def heapExactRow : OpenClaim := { program := "ytidfllgaeiopjabgreat", sum := "7985d037411febe576fceedbde1d3aa0fa7bb75e0092729bce27b5e48e7a6a1c", func := "larder/larderlaw3.HeapExact", spec := "heapExact", unfollowed := true, recurses := true, apart := false }
def HeapExactSaid : Prop := heapExactRow.holds Tryz.pinned (OpenSpec.ofChange heapExactSpec)

/-- ITS FALSE NEIGHBOUR: 'it returns false'. Refute it at one input. -/
def heapExactWrong : ChangeSpec := { name := "heapExact", fn := fun _ => fun
  | [d] => { results := [.lit (.bool false)], args := [d] }
  | _ => none }
def HeapExactWrongFalsely : Prop := heapExactRow.holds Tryz.pinned (OpenSpec.ofChange heapExactWrong)

/-- 'larderlaw3.HeapLent': WHATEVER THE INPUT: true; the input reads as it did. -/
def heapLentSpec : ChangeSpec := { name := "heapLent", fn := fun _ => fun
  | [d] => { results := [.lit (.bool true)], args := [d] }
  | _ => none }
def heapLentRow : OpenClaim := { program := "ytidfllgaeiopjabgreat", sum := "7985d037411febe576fceedbde1d3aa0fa7bb75e0092729bce27b5e48e7a6a1c", func := "larder/larderlaw3.HeapLent", spec := "heapLent", unfollowed := true, recurses := true, apart := false }
def HeapLentSaid : Prop := heapLentRow.holds Tryz.pinned (OpenSpec.ofChange heapLentSpec)

/-- ITS FALSE NEIGHBOUR: 'it returns false'. Refute it at one input. -/
def heapLentWrong : ChangeSpec := { name := "heapLent", fn := fun _ => fun
  | [d] => { results := [.lit (.bool false)], args := [d] }
  | _ => none }
def HeapLentWrongFalsely : Prop := heapLentRow.holds Tryz.pinned (OpenSpec.ofChange heapLentWrong)

/- THE SECOND FORM. 'bulk': how many values and letters a reading holds, each counted each time it is reached (what is shared counts as often as it is met; a slice's spare places count too). A statement '..UptoSaid' is the law's where the arguments, and the package variables that the reading takes, are together of bulk at most 1048576: NARROWER than '..Said'. Prove '..Said' where nothing that the law and all that it calls make is longer than what came in: it says more and counts as full. Else prove '..UptoSaid'. A law counts once. -/
mutual
def uptoBulk {H : Type} : DataW H → Nat
  | .lit (.string bytes) => bytes.length + 1
  | .lit _ => 1
  | .nil => 1
  | .ptr d => uptoBulk d + 1
  | .slice elems spare => uptoBulkAll elems + uptoBulkAll spare + 1
  | .agg parts => uptoBulkAll parts + 1
  | .iface _ d => uptoBulk d + 1
  | .map entries => uptoBulkEntries entries + 1
  | .held _ => 1
def uptoBulkAll {H : Type} : List (DataW H) → Nat
  | [] => 0
  | d :: r => uptoBulk d + uptoBulkAll r
def uptoBulkEntries {H : Type} : List (Lit × DataW H) → Nat
  | [] => 0
  | x :: r => uptoBulkEntry x + uptoBulkEntries r
def uptoBulkEntry {H : Type} : Lit × DataW H → Nat
  | (.string bytes, d) => bytes.length + uptoBulk d + 1
  | (_, d) => uptoBulk d + 1
 end
def uptoSmall : (H : Type) → List (DataW H) → Bool := fun _ ds => decide (uptoBulkAll ds ≤ 1048576)
def OpenSpec.upto (s : _root_.Go.ChangeSpec) : _root_.Go.OpenSpec := { _root_.Go.OpenSpec.ofChange s with cond := some uptoSmall }

/-- 'larderlaw3.HeapFields', WHERE WHAT IT READS IS OF BULK AT MOST 1048576: true; the input reads as it did. -/
def heapFieldsUptoRow : OpenClaim := { program := "ytidfllgaeiopjabgreat", sum := "7985d037411febe576fceedbde1d3aa0fa7bb75e0092729bce27b5e48e7a6a1c", func := "larder/larderlaw3.HeapFields", spec := "heapFields", unfollowed := true, recurses := true, apart := false, narrowed := true }
def HeapFieldsUptoSaid : Prop := heapFieldsUptoRow.holds Tryz.pinned (OpenSpec.upto heapFieldsSpec)

/-- 'larderlaw3.HeapHandles', WHERE WHAT IT READS IS OF BULK AT MOST 1048576: true; the input reads as it did. -/
def heapHandlesUptoRow : OpenClaim := { program := "ytidfllgaeiopjabgreat", sum := "7985d037411febe576fceedbde1d3aa0fa7bb75e0092729bce27b5e48e7a6a1c", func := "larder/larderlaw3.HeapHandles", spec := "heapHandles", unfollowed := true, recurses := true, apart := false, narrowed := true }
def HeapHandlesUptoSaid : Prop := heapHandlesUptoRow.holds Tryz.pinned (OpenSpec.upto heapHandlesSpec)

/-- 'larderlaw3.HeapPolicy', WHERE WHAT IT READS IS OF BULK AT MOST 1048576: true; the input reads as it did. -/
def heapPolicyUptoRow : OpenClaim := { program := "ytidfllgaeiopjabgreat", sum := "7985d037411febe576fceedbde1d3aa0fa7bb75e0092729bce27b5e48e7a6a1c", func := "larder/larderlaw3.HeapPolicy", spec := "heapPolicy", unfollowed := true, recurses := true, apart := false, narrowed := true }
def HeapPolicyUptoSaid : Prop := heapPolicyUptoRow.holds Tryz.pinned (OpenSpec.upto heapPolicySpec)

/-- 'larderlaw3.HeapImage', WHERE WHAT IT READS IS OF BULK AT MOST 1048576: true; the input reads as it did. -/
def heapImageUptoRow : OpenClaim := { program := "ytidfllgaeiopjabgreat", sum := "7985d037411febe576fceedbde1d3aa0fa7bb75e0092729bce27b5e48e7a6a1c", func := "larder/larderlaw3.HeapImage", spec := "heapImage", unfollowed := true, recurses := true, apart := false, narrowed := true }
def HeapImageUptoSaid : Prop := heapImageUptoRow.holds Tryz.pinned (OpenSpec.upto heapImageSpec)

/-- 'larderlaw3.HeapExact', WHERE WHAT IT READS IS OF BULK AT MOST 1048576: true; the input reads as it did. -/
def heapExactUptoRow : OpenClaim := { program := "ytidfllgaeiopjabgreat", sum := "7985d037411febe576fceedbde1d3aa0fa7bb75e0092729bce27b5e48e7a6a1c", func := "larder/larderlaw3.HeapExact", spec := "heapExact", unfollowed := true, recurses := true, apart := false, narrowed := true }
def HeapExactUptoSaid : Prop := heapExactUptoRow.holds Tryz.pinned (OpenSpec.upto heapExactSpec)

/-- 'larderlaw3.HeapLent', WHERE WHAT IT READS IS OF BULK AT MOST 1048576: true; the input reads as it did. -/
def heapLentUptoRow : OpenClaim := { program := "ytidfllgaeiopjabgreat", sum := "7985d037411febe576fceedbde1d3aa0fa7bb75e0092729bce27b5e48e7a6a1c", func := "larder/larderlaw3.HeapLent", spec := "heapLent", unfollowed := true, recurses := true, apart := false, narrowed := true }
def HeapLentUptoSaid : Prop := heapLentUptoRow.holds Tryz.pinned (OpenSpec.upto heapLentSpec)

end Rows
end Go.Proofs.YtidfllgaeiopjabGreat
