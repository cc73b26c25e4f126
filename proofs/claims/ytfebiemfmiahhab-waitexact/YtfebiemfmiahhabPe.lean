/- The statements that ask 'holds' of a script. -/
import Derived.Test.YtfebiemfmiahhabPd
namespace Go.Proofs.Ytfebiemfmiahhab
open Go.ChangeShapes Go.WideShapes Go.ChangeAt Go.RowKit Go.Maps
set_option linter.unusedVariables false
set_option linter.unusedSimpArgs false
set_option maxRecDepth 100000
set_option maxHeartbeats 8000000
theorem exact_law (W : World) (many : Int) (a : Option Addr) (cap : Nat) (n : Nat) (l : List Ol) (hn : n = l.length) (hn2 : n ≤ 9223372036854775807) (h : OpsAt W a l) :
    Calls Try.prog 3 #[.agg #[.int .i64 many, .slice a n cap]] W fun e w' => e = .returned (.bool true) ∧ Hid (Below W.heap.size W w') := by
  have C := fun w (hb : Below W.heap.size W w) => holds_law w many 1 7 a cap n l hn hn2 (h.below hb)
  clear hn h
  obtain ⟨w0, hw0⟩ : ∃ w0, W.alloc (Obj.cells #[Value.int IntKind.i64 many, Value.slice a n cap] 24) = w0 := ⟨_, rfl⟩
  have hb : Below W.heap.size W w0 := by rw [← hw0]; exact (Below.refl W.heap.size W).alloc (Nat.le_refl _) _
  have q : w0.heap[W.heap.size]? = some (.cells #[.int .i64 many, .slice a n cap] 24 (0, 0)) := by rw [← hw0]; exact heap_alloc_new _ _
  have x0 : w0.cell? ⟨W.heap.size, 0, none⟩ = some (.int .i64 many) := cell_blk q 0
  have x1 : w0.cell? ⟨W.heap.size, 1, none⟩ = some (.slice a n cap) := cell_blk q 1
  have D := C W (Below.refl _ _)
  have D2 := C w0 hb
  have HB := hide hb
  clear C hb q
  go_enter Try.func3, Try.ntmps3
  go_wp2_with (go_at_call 5; (first | refine D2.mono ?_ | refine D.mono ?_); clear D D2; rintro e w1 ⟨rfl, H1⟩)
  go_ret
  first
    | exact ⟨rfl, hide ((unhide HB).trans ((unhide H1).mono (unhide HB).size))⟩
    | exact ⟨rfl, H1⟩
end Go.Proofs.Ytfebiemfmiahhab
