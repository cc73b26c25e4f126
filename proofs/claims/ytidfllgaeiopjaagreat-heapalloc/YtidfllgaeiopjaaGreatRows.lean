/-
  No cell of these rows narrows 'for every input' (looked for: loops, veiled, ifaces, maps, wideKeys, modest, calm, conditions, laid).
  DERIVED. THE GIVEN ROWS OF THIS SEAT. 6 by the template 'for every input the law returns true; each argument reads behind the call as it read before'; 0 by the template 'total and deterministic' (their statements: YtidfllgaeiopjaaGreatTotals.lean).
  GIVEN WITH THE SEED: the statements are not yours to turn. If you find one false, say at which input.
  Laid BY PROGRAM, IN A SANDBOX (cutbox-rows.mjs): the forced cells as the released guide's own fill.sh prints them over the translation 05f453d060d39ff2… (all of the seat's roots in one cut). By AI agents, Wed Nov 11 2026. No macro, syntax, notation, axiom, sorry.
-/
import Derived.Test.YtidfllgaeiopjaaGreatChecked
import GoSem.Claim
import GoSem.ClaimJoined
import GoSem.ClaimMapViews
import Derived.JoinedTies
import Derived.KernelRfl
namespace Go.Proofs.YtidfllgaeiopjaaGreat
/- THE CELL 'sum', in the pinned program and in every row, IS THE sha256 OF THE DUMP (.gsa) THAT YtidfllgaeiopjaaGreatProg.lean LOADS. Nothing in Lean hashes anything: it is a label: what it is worth is what the hold of that sum in a sandbox is worth. -/
noncomputable def Tryz.pinned : Pinned := { name := "ytidfllgaeiopjaagreat", sum := "05f453d060d39ff2f6465cba41de6f600a2f209b68682bd76de719aeb766b210", checked := Tryz.checked }
namespace Rows
def none {H : Type} : Left H := { results := [], args := [] }

/-- 'larderlaw3.HeapKeeps': WHATEVER THE INPUT: true; the input reads as it did. -/
def heapKeepsSpec : ChangeSpec := { name := "heapKeeps", fn := fun _ => fun
  | [d] => { results := [.lit (.bool true)], args := [d] }
  | _ => none }
def heapKeepsRow : OpenClaim := { program := "ytidfllgaeiopjaagreat", sum := "05f453d060d39ff2f6465cba41de6f600a2f209b68682bd76de719aeb766b210", func := "larder/larderlaw3.HeapKeeps", spec := "heapKeeps", unfollowed := true, recurses := true, apart := false }
def HeapKeepsSaid : Prop := heapKeepsRow.holds Tryz.pinned (OpenSpec.ofChange heapKeepsSpec)

/-- ITS FALSE NEIGHBOUR: 'it returns false'. Refute it at one input. -/
def heapKeepsWrong : ChangeSpec := { name := "heapKeeps", fn := fun _ => fun
  | [d] => { results := [.lit (.bool false)], args := [d] }
  | _ => none }
def HeapKeepsWrongFalsely : Prop := heapKeepsRow.holds Tryz.pinned (OpenSpec.ofChange heapKeepsWrong)

/-- 'larderlaw3.HeapSettles': WHATEVER THE INPUT: true; the input reads as it did. -/
def heapSettlesSpec : ChangeSpec := { name := "heapSettles", fn := fun _ => fun
  | [d] => { results := [.lit (.bool true)], args := [d] }
  | _ => none }
def heapSettlesRow : OpenClaim := { program := "ytidfllgaeiopjaagreat", sum := "05f453d060d39ff2f6465cba41de6f600a2f209b68682bd76de719aeb766b210", func := "larder/larderlaw3.HeapSettles", spec := "heapSettles", unfollowed := true, recurses := true, apart := false }
def HeapSettlesSaid : Prop := heapSettlesRow.holds Tryz.pinned (OpenSpec.ofChange heapSettlesSpec)

/-- ITS FALSE NEIGHBOUR: 'it returns false'. Refute it at one input. -/
def heapSettlesWrong : ChangeSpec := { name := "heapSettles", fn := fun _ => fun
  | [d] => { results := [.lit (.bool false)], args := [d] }
  | _ => none }
def HeapSettlesWrongFalsely : Prop := heapSettlesRow.holds Tryz.pinned (OpenSpec.ofChange heapSettlesWrong)

/-- 'larderlaw3.HeapRoomy': WHATEVER THE INPUT: true; the input reads as it did. -/
def heapRoomySpec : ChangeSpec := { name := "heapRoomy", fn := fun _ => fun
  | [d] => { results := [.lit (.bool true)], args := [d] }
  | _ => none }
def heapRoomyRow : OpenClaim := { program := "ytidfllgaeiopjaagreat", sum := "05f453d060d39ff2f6465cba41de6f600a2f209b68682bd76de719aeb766b210", func := "larder/larderlaw3.HeapRoomy", spec := "heapRoomy", unfollowed := true, recurses := true, apart := false }
def HeapRoomySaid : Prop := heapRoomyRow.holds Tryz.pinned (OpenSpec.ofChange heapRoomySpec)

/-- ITS FALSE NEIGHBOUR: 'it returns false'. Refute it at one input. -/
def heapRoomyWrong : ChangeSpec := { name := "heapRoomy", fn := fun _ => fun
  | [d] => { results := [.lit (.bool false)], args := [d] }
  | _ => none }
def HeapRoomyWrongFalsely : Prop := heapRoomyRow.holds Tryz.pinned (OpenSpec.ofChange heapRoomyWrong)

/-- 'larderlaw3.HeapBound': WHATEVER THE INPUT: true; the input reads as it did. -/
def heapBoundSpec : ChangeSpec := { name := "heapBound", fn := fun _ => fun
  | [d] => { results := [.lit (.bool true)], args := [d] }
  | _ => none }
def heapBoundRow : OpenClaim := { program := "ytidfllgaeiopjaagreat", sum := "05f453d060d39ff2f6465cba41de6f600a2f209b68682bd76de719aeb766b210", func := "larder/larderlaw3.HeapBound", spec := "heapBound", unfollowed := true, recurses := true, apart := false }
def HeapBoundSaid : Prop := heapBoundRow.holds Tryz.pinned (OpenSpec.ofChange heapBoundSpec)

/-- ITS FALSE NEIGHBOUR: 'it returns false'. Refute it at one input. -/
def heapBoundWrong : ChangeSpec := { name := "heapBound", fn := fun _ => fun
  | [d] => { results := [.lit (.bool false)], args := [d] }
  | _ => none }
def HeapBoundWrongFalsely : Prop := heapBoundRow.holds Tryz.pinned (OpenSpec.ofChange heapBoundWrong)

/-- 'larderlaw3.HeapCompact': WHATEVER THE INPUT: true; the input reads as it did. -/
def heapCompactSpec : ChangeSpec := { name := "heapCompact", fn := fun _ => fun
  | [d] => { results := [.lit (.bool true)], args := [d] }
  | _ => none }
def heapCompactRow : OpenClaim := { program := "ytidfllgaeiopjaagreat", sum := "05f453d060d39ff2f6465cba41de6f600a2f209b68682bd76de719aeb766b210", func := "larder/larderlaw3.HeapCompact", spec := "heapCompact", unfollowed := true, recurses := true, apart := false }
def HeapCompactSaid : Prop := heapCompactRow.holds Tryz.pinned (OpenSpec.ofChange heapCompactSpec)

/-- ITS FALSE NEIGHBOUR: 'it returns false'. Refute it at one input. -/
def heapCompactWrong : ChangeSpec := { name := "heapCompact", fn := fun _ => fun
  | [d] => { results := [.lit (.bool false)], args := [d] }
  | _ => none }
def HeapCompactWrongFalsely : Prop := heapCompactRow.holds Tryz.pinned (OpenSpec.ofChange heapCompactWrong)

/-- 'larderlaw3.HeapAlloc': WHATEVER THE INPUT: true; the input reads as it did. -/
def heapAllocSpec : ChangeSpec := { name := "heapAlloc", fn := fun _ => fun
  | [d] => { results := [.lit (.bool true)], args := [d] }
  | _ => none }
def heapAllocRow : OpenClaim := { program := "ytidfllgaeiopjaagreat", sum := "05f453d060d39ff2f6465cba41de6f600a2f209b68682bd76de719aeb766b210", func := "larder/larderlaw3.HeapAlloc", spec := "heapAlloc", unfollowed := true, recurses := true, apart := false }
def HeapAllocSaid : Prop := heapAllocRow.holds Tryz.pinned (OpenSpec.ofChange heapAllocSpec)

/-- ITS FALSE NEIGHBOUR: 'it returns false'. Refute it at one input. -/
def heapAllocWrong : ChangeSpec := { name := "heapAlloc", fn := fun _ => fun
  | [d] => { results := [.lit (.bool false)], args := [d] }
  | _ => none }
def HeapAllocWrongFalsely : Prop := heapAllocRow.holds Tryz.pinned (OpenSpec.ofChange heapAllocWrong)

/- THE SECOND FORM. 'bulk': how many values and letters a reading holds, each counted each time it is reached (what is shared counts as often as it is met; a slice's spare places count too). A statement '..UptoSaid' is the law's where the arguments, and the package variables that the reading takes, are together of bulk at most 1048576: NARROWER than '..Said'. Prove '..Said' where nothing that the law and all that it calls make is longer than what came in: it says more and counts as full. Else prove '..UptoSaid'. A law counts once. -/
mutual
def uptoBulk {H : Type} : DataW H → Nat
  | .lit (.string bytes) => bytes.length + 1
  | .lit _ => 1
  | .nil => 1
  | .ptr d => uptoBulk d + 1
  | .slice elems spare => uptoBulkAll elems + uptoBulkAll spare + 1
  | .agg parts => uptoBulkAll parts + 1
  | .iface _ d => uptoBulk d + 1
  | .map entries => uptoBulkEntries entries + 1
  | .held _ => 1
def uptoBulkAll {H : Type} : List (DataW H) → Nat
  | [] => 0
  | d :: r => uptoBulk d + uptoBulkAll r
def uptoBulkEntries {H : Type} : List (Lit × DataW H) → Nat
  | [] => 0
  | x :: r => uptoBulkEntry x + uptoBulkEntries r
def uptoBulkEntry {H : Type} : Lit × DataW H → Nat
  | (.string bytes, d) => bytes.length + uptoBulk d + 1
  | (_, d) => uptoBulk d + 1
 end
def uptoSmall : (H : Type) → List (DataW H) → Bool := fun _ ds => decide (uptoBulkAll ds ≤ 1048576)
def OpenSpec.upto (s : _root_.Go.ChangeSpec) : _root_.Go.OpenSpec := { _root_.Go.OpenSpec.ofChange s with cond := some uptoSmall }

/-- 'larderlaw3.HeapKeeps', WHERE WHAT IT READS IS OF BULK AT MOST 1048576: true; the input reads as it did. -/
def heapKeepsUptoRow : OpenClaim := { program := "ytidfllgaeiopjaagreat", sum := "05f453d060d39ff2f6465cba41de6f600a2f209b68682bd76de719aeb766b210", func := "larder/larderlaw3.HeapKeeps", spec := "heapKeeps", unfollowed := true, recurses := true, apart := false, narrowed := true }
def HeapKeepsUptoSaid : Prop := heapKeepsUptoRow.holds Tryz.pinned (OpenSpec.upto heapKeepsSpec)

/-- 'larderlaw3.HeapSettles', WHERE WHAT IT READS IS OF BULK AT MOST 1048576: true; the input reads as it did. -/
def heapSettlesUptoRow : OpenClaim := { program := "ytidfllgaeiopjaagreat", sum := "05f453d060d39ff2f6465cba41de6f600a2f209b68682bd76de719aeb766b210", func := "larder/larderlaw3.HeapSettles", spec := "heapSettles", unfollowed := true, recurses := true, apart := false, narrowed := true }
def HeapSettlesUptoSaid : Prop := heapSettlesUptoRow.holds Tryz.pinned (OpenSpec.upto heapSettlesSpec)

/-- 'larderlaw3.HeapRoomy', WHERE WHAT IT READS IS OF BULK AT MOST 1048576: true; the input reads as it did. -/
def heapRoomyUptoRow : OpenClaim := { program := "ytidfllgaeiopjaagreat", sum := "05f453d060d39ff2f6465cba41de6f600a2f209b68682bd76de719aeb766b210", func := "larder/larderlaw3.HeapRoomy", spec := "heapRoomy", unfollowed := true, recurses := true, apart := false, narrowed := true }
def HeapRoomyUptoSaid : Prop := heapRoomyUptoRow.holds Tryz.pinned (OpenSpec.upto heapRoomySpec)

/-- 'larderlaw3.HeapBound', WHERE WHAT IT READS IS OF BULK AT MOST 1048576: true; the input reads as it did. -/
def heapBoundUptoRow : OpenClaim := { program := "ytidfllgaeiopjaagreat", sum := "05f453d060d39ff2f6465cba41de6f600a2f209b68682bd76de719aeb766b210", func := "larder/larderlaw3.HeapBound", spec := "heapBound", unfollowed := true, recurses := true, apart := false, narrowed := true }
def HeapBoundUptoSaid : Prop := heapBoundUptoRow.holds Tryz.pinned (OpenSpec.upto heapBoundSpec)

/-- 'larderlaw3.HeapCompact', WHERE WHAT IT READS IS OF BULK AT MOST 1048576: true; the input reads as it did. -/
def heapCompactUptoRow : OpenClaim := { program := "ytidfllgaeiopjaagreat", sum := "05f453d060d39ff2f6465cba41de6f600a2f209b68682bd76de719aeb766b210", func := "larder/larderlaw3.HeapCompact", spec := "heapCompact", unfollowed := true, recurses := true, apart := false, narrowed := true }
def HeapCompactUptoSaid : Prop := heapCompactUptoRow.holds Tryz.pinned (OpenSpec.upto heapCompactSpec)

/-- 'larderlaw3.HeapAlloc', WHERE WHAT IT READS IS OF BULK AT MOST 1048576: true; the input reads as it did. -/
def heapAllocUptoRow : OpenClaim := { program := "ytidfllgaeiopjaagreat", sum := "05f453d060d39ff2f6465cba41de6f600a2f209b68682bd76de719aeb766b210", func := "larder/larderlaw3.HeapAlloc", spec := "heapAlloc", unfollowed := true, recurses := true, apart := false, narrowed := true }
def HeapAllocUptoSaid : Prop := heapAllocUptoRow.holds Tryz.pinned (OpenSpec.upto heapAllocSpec)

end Rows
end Go.Proofs.YtidfllgaeiopjaaGreat
