/-
  No cell of these rows narrows 'for every input' (looked for: loops, veiled, ifaces, maps, wideKeys, modest, calm, conditions, laid).
  DERIVED. THE GIVEN ROWS OF THIS SEAT. 4 by the template 'for every input the law returns true; each argument reads behind the call as it read before'; 0 by the template 'total and deterministic' (their statements: YtljeedgnjgeopaaTotals.lean).
  GIVEN WITH THE SEED: the statements are not yours to turn. If you find one false, say at which input.
  Laid BY PROGRAM, IN A SANDBOX (cutbox-rows.mjs): the forced cells as the released guide's own fill.sh prints them over the translation 8bc7d417fe927901… (all of the seat's roots in one cut). By AI agents, Wed Nov 11 2026. No macro, syntax, notation, axiom, sorry.
-/
import Derived.Test.YtljeedgnjgeopaaChecked
import GoSem.Claim
import GoSem.ClaimJoined
import GoSem.ClaimMapViews
import Derived.JoinedTies
import Derived.KernelRfl
namespace Go.Proofs.Ytljeedgnjgeopaa
/- THE CELL 'sum', in the pinned program and in every row, IS THE sha256 OF THE DUMP (.gsa) THAT YtljeedgnjgeopaaProg.lean LOADS. Nothing in Lean hashes anything: it is a label: what it is worth is what the hold of that sum in a sandbox is worth. -/
noncomputable def Try.pinned : Pinned := { name := "ytljeedgnjgeopaa", sum := "8bc7d417fe927901df52d7c3a2ee7c72c4ccaee1d0b461c86992f5250750e747", checked := Try.checked }
namespace Rows
def none {H : Type} : Left H := { results := [], args := [] }

/-- 'larderlaw16.RecordTorn': WHATEVER THE INPUT: true; the input reads as it did. -/
def recordTornSpec : ChangeSpec := { name := "recordTorn", fn := fun _ => fun
  | [d] => { results := [.lit (.bool true)], args := [d] }
  | _ => none }
def recordTornRow : OpenClaim := { program := "ytljeedgnjgeopaa", sum := "8bc7d417fe927901df52d7c3a2ee7c72c4ccaee1d0b461c86992f5250750e747", func := "larder/larderlaw16.RecordTorn", spec := "recordTorn", unfollowed := true, recurses := true, apart := false }
def RecordTornSaid : Prop := recordTornRow.holds Try.pinned (OpenSpec.ofChange recordTornSpec)

/-- ITS FALSE NEIGHBOUR: 'it returns false'. Refute it at one input. -/
def recordTornWrong : ChangeSpec := { name := "recordTorn", fn := fun _ => fun
  | [d] => { results := [.lit (.bool false)], args := [d] }
  | _ => none }
def RecordTornWrongFalsely : Prop := recordTornRow.holds Try.pinned (OpenSpec.ofChange recordTornWrong)

/-- 'larderlaw16.RecordBurst': WHATEVER THE INPUT: true; the input reads as it did. -/
def recordBurstSpec : ChangeSpec := { name := "recordBurst", fn := fun _ => fun
  | [d] => { results := [.lit (.bool true)], args := [d] }
  | _ => none }
def recordBurstRow : OpenClaim := { program := "ytljeedgnjgeopaa", sum := "8bc7d417fe927901df52d7c3a2ee7c72c4ccaee1d0b461c86992f5250750e747", func := "larder/larderlaw16.RecordBurst", spec := "recordBurst", unfollowed := true, recurses := true, apart := false }
def RecordBurstSaid : Prop := recordBurstRow.holds Try.pinned (OpenSpec.ofChange recordBurstSpec)

/-- ITS FALSE NEIGHBOUR: 'it returns false'. Refute it at one input. -/
def recordBurstWrong : ChangeSpec := { name := "recordBurst", fn := fun _ => fun
  | [d] => { results := [.lit (.bool false)], args := [d] }
  | _ => none }
def RecordBurstWrongFalsely : Prop := recordBurstRow.holds Try.pinned (OpenSpec.ofChange recordBurstWrong)

/-- 'larderlaw16.RecordLines': WHATEVER THE INPUT: true; the input reads as it did. -/
def recordLinesSpec : ChangeSpec := { name := "recordLines", fn := fun _ => fun
  | [d] => { results := [.lit (.bool true)], args := [d] }
  | _ => none }
def recordLinesRow : OpenClaim := { program := "ytljeedgnjgeopaa", sum := "8bc7d417fe927901df52d7c3a2ee7c72c4ccaee1d0b461c86992f5250750e747", func := "larder/larderlaw16.RecordLines", spec := "recordLines", unfollowed := true, recurses := true, apart := false }
def RecordLinesSaid : Prop := recordLinesRow.holds Try.pinned (OpenSpec.ofChange recordLinesSpec)

/-- ITS FALSE NEIGHBOUR: 'it returns false'. Refute it at one input. -/
def recordLinesWrong : ChangeSpec := { name := "recordLines", fn := fun _ => fun
  | [d] => { results := [.lit (.bool false)], args := [d] }
  | _ => none }
def RecordLinesWrongFalsely : Prop := recordLinesRow.holds Try.pinned (OpenSpec.ofChange recordLinesWrong)

/-- 'larderlaw16.RecordReads': WHATEVER THE INPUT: true; the input reads as it did. -/
def recordReadsSpec : ChangeSpec := { name := "recordReads", fn := fun _ => fun
  | [d] => { results := [.lit (.bool true)], args := [d] }
  | _ => none }
def recordReadsRow : OpenClaim := { program := "ytljeedgnjgeopaa", sum := "8bc7d417fe927901df52d7c3a2ee7c72c4ccaee1d0b461c86992f5250750e747", func := "larder/larderlaw16.RecordReads", spec := "recordReads", unfollowed := true, recurses := true, apart := false }
def RecordReadsSaid : Prop := recordReadsRow.holds Try.pinned (OpenSpec.ofChange recordReadsSpec)

/-- ITS FALSE NEIGHBOUR: 'it returns false'. Refute it at one input. -/
def recordReadsWrong : ChangeSpec := { name := "recordReads", fn := fun _ => fun
  | [d] => { results := [.lit (.bool false)], args := [d] }
  | _ => none }
def RecordReadsWrongFalsely : Prop := recordReadsRow.holds Try.pinned (OpenSpec.ofChange recordReadsWrong)

/- THE SECOND FORM. 'bulk': how many values and letters a reading holds, each counted each time it is reached (what is shared counts as often as it is met; a slice's spare places count too). A statement '..UptoSaid' is the law's where the arguments, and the package variables that the reading takes, are together of bulk at most 1048576: NARROWER than '..Said'. Prove '..Said' where nothing that the law and all that it calls make is longer than what came in: it says more and counts as full. Else prove '..UptoSaid'. A law counts once. -/
mutual
def uptoBulk {H : Type} : DataW H → Nat
  | .lit (.string bytes) => bytes.length + 1
  | .lit _ => 1
  | .nil => 1
  | .ptr d => uptoBulk d + 1
  | .slice elems spare => uptoBulkAll elems + uptoBulkAll spare + 1
  | .agg parts => uptoBulkAll parts + 1
  | .iface _ d => uptoBulk d + 1
  | .map entries => uptoBulkEntries entries + 1
  | .held _ => 1
def uptoBulkAll {H : Type} : List (DataW H) → Nat
  | [] => 0
  | d :: r => uptoBulk d + uptoBulkAll r
def uptoBulkEntries {H : Type} : List (Lit × DataW H) → Nat
  | [] => 0
  | x :: r => uptoBulkEntry x + uptoBulkEntries r
def uptoBulkEntry {H : Type} : Lit × DataW H → Nat
  | (.string bytes, d) => bytes.length + uptoBulk d + 1
  | (_, d) => uptoBulk d + 1
 end
def uptoSmall : (H : Type) → List (DataW H) → Bool := fun _ ds => decide (uptoBulkAll ds ≤ 1048576)
def OpenSpec.upto (s : _root_.Go.ChangeSpec) : _root_.Go.OpenSpec := { _root_.Go.OpenSpec.ofChange s with cond := some uptoSmall }

/-- 'larderlaw16.RecordTorn', WHERE WHAT IT READS IS OF BULK AT MOST 1048576: true; the input reads as it did. -/
def recordTornUptoRow : OpenClaim := { program := "ytljeedgnjgeopaa", sum := "8bc7d417fe927901df52d7c3a2ee7c72c4ccaee1d0b461c86992f5250750e747", func := "larder/larderlaw16.RecordTorn", spec := "recordTorn", unfollowed := true, recurses := true, apart := false, narrowed := true }
def RecordTornUptoSaid : Prop := recordTornUptoRow.holds Try.pinned (OpenSpec.upto recordTornSpec)

/-- 'larderlaw16.RecordBurst', WHERE WHAT IT READS IS OF BULK AT MOST 1048576: true; the input reads as it did. -/
def recordBurstUptoRow : OpenClaim := { program := "ytljeedgnjgeopaa", sum := "8bc7d417fe927901df52d7c3a2ee7c72c4ccaee1d0b461c86992f5250750e747", func := "larder/larderlaw16.RecordBurst", spec := "recordBurst", unfollowed := true, recurses := true, apart := false, narrowed := true }
def RecordBurstUptoSaid : Prop := recordBurstUptoRow.holds Try.pinned (OpenSpec.upto recordBurstSpec)

/-- 'larderlaw16.RecordLines', WHERE WHAT IT READS IS OF BULK AT MOST 1048576: true; the input reads as it did. -/
def recordLinesUptoRow : OpenClaim := { program := "ytljeedgnjgeopaa", sum := "8bc7d417fe927901df52d7c3a2ee7c72c4ccaee1d0b461c86992f5250750e747", func := "larder/larderlaw16.RecordLines", spec := "recordLines", unfollowed := true, recurses := true, apart := false, narrowed := true }
def RecordLinesUptoSaid : Prop := recordLinesUptoRow.holds Try.pinned (OpenSpec.upto recordLinesSpec)

/-- 'larderlaw16.RecordReads', WHERE WHAT IT READS IS OF BULK AT MOST 1048576: true; the input reads as it did. -/
def recordReadsUptoRow : OpenClaim := { program := "ytljeedgnjgeopaa", sum := "8bc7d417fe927901df52d7c3a2ee7c72c4ccaee1d0b461c86992f5250750e747", func := "larder/larderlaw16.RecordReads", spec := "recordReads", unfollowed := true, recurses := true, apart := false, narrowed := true }
def RecordReadsUptoSaid : Prop := recordReadsUptoRow.holds Try.pinned (OpenSpec.upto recordReadsSpec)

end Rows
end Go.Proofs.Ytljeedgnjgeopaa
