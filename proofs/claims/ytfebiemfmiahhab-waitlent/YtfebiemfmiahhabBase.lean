/- Ground: texts, places as keys of a map. -/
import Derived.Test.YtfebiemfmiahhabRows
import Derived.Test.YtfebiemfmiahhabShelf
import Derived.Deep.QuietTactic
import Derived.BigQuiet
import Derived.WalkSmall
import Derived.Laws.AppendOwnNone
import Derived.Laws.OwnMore
import Derived.WalkKit
import Derived.WalkLawsBesides
import Derived.WalkSpells
import Derived.ProofKit
import Derived.OpenShut
import Derived.ShutString
import Derived.ChangeOld
import Derived.Below
import Derived.Maps.RangeWalk
import Derived.Maps.OwnSet
import Derived.Maps.AppendAt
import Derived.WideKeyEntry
import Derived.DeepKeys5
import Derived.Lib.Hide
import Derived.Deep.RegionHeld3
namespace Go.Proofs.Ytfebiemfmiahhab
open Go.ChangeShapes Go.WideShapes Go.ChangeAt Go.RowKit Go.Maps
set_option linter.unusedVariables false
set_option linter.unusedSimpArgs false
set_option maxRecDepth 20000
set_option maxHeartbeats 4000000
theorem hide {p : Prop} (h : p) : Hid p := h
theorem unhide {p : Prop} (h : Hid p) : p := h.out
/-- a text -/
def bs (T : List UInt8) : ByteArray := ⟨T.toArray⟩
theorem bs_size (T : List UInt8) : (bs T).size = T.length := by unfold bs; simp [ByteArray.size]
theorem bs_back (s : ByteArray) : bs s.data.toList = s := by unfold bs; simp
theorem bs_list (T : List UInt8) : (bs T).data.toList = T := by unfold bs; simp
theorem bs_inj {T T' : List UInt8} (h : bs T = bs T') : T = T' := by rw [← bs_list T, ← bs_list T', h]
theorem cell_blk {w : World} {b : Nat} {C : Array Value} {t : TypeId} {f : Nat × Nat} (h : w.heap[b]? = some (.cells C t f)) (j : Nat) : w.cell? ⟨b, j, none⟩ = C[j]? := by
  simp [World.cell?, h]
theorem blk_lt {w : World} {b : Nat} {o : Obj} (h : w.heap[b]? = some o) : b < w.heap.size := (Array.getElem?_eq_some_iff.1 h).1
/-- a place -/
abbrev Pl := Int × List UInt8
def plV (k : Pl) : Value := .agg #[.int .i64 k.1, .string (bs k.2)]
def POk (k : Pl) : Prop := (Lit.int .i64 k.1).wf = true ∧ k.2.length ≤ maxLen
theorem klawP : WideMaps.KeyLaw Try.prog 46 := deep_law_gate (by kernel_rfl) (of_decide_eq_true (by kernel_rfl)) (of_decide_eq_true (by kernel_rfl)) (by kernel_rfl) (by kernel_rfl)
theorem lawP : Keyed Try.prog 46 := Keyed.of_law klawP
theorem lawI : Keyed Try.prog 3 := int_keyed Try.underlying3
end Go.Proofs.Ytfebiemfmiahhab
