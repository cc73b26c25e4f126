/- WaitLent: the law. -/
import Derived.Test.YtfebiemfmiahhabRn
import Derived.Test.YtfebiemfmiahhabRt
namespace Go.Proofs.Ytfebiemfmiahhab
open Go.ChangeShapes Go.WideShapes Go.ChangeAt Go.RowKit Go.Maps
set_option linter.unusedVariables false
set_option linter.unusedSimpArgs false
set_option maxRecDepth 100000
set_option maxHeartbeats 8000000
/-- the box of what came in -/
def Bx (W : World) (many : Int) (a : Option Addr) (n cap : Nat) (w : World) : Prop := Below W.heap.size W w ∧ w.heap[W.heap.size]? = some (.cells #[.int .i64 many, .slice a n cap] 24 (0, 0))
theorem Bx.on {W w w' : World} {many : Int} {a : Option Addr} {n cap : Nat} (h : Bx W many a n cap w) (hb : Below w.heap.size w w') : Bx W many a n cap w' := ⟨h.1.trans (hb.mono h.1.size), (hb.block _ (blk_lt'' h.2)).trans h.2⟩
theorem lent_law (W : World) (many : Int) (a : Option Addr) (cap : Nat) (n : Nat) (l : List Ol) (hn : n = l.length) (hn2 : n ≤ 9223372036854775807) (h : OpsAt W a l) :
    Calls Try.prog 4 #[.agg #[.int .i64 many, .slice a n cap]] W fun e w' => e = .returned (.bool true) ∧ Hid (Below W.heap.size W w') := by
  have C7 := hide fun w (hb : Below W.heap.size W w) => marked_law w many a cap n l hn hn2 (h.below hb)
  have C8 := hide fun w (hb : Below W.heap.size W w) => held_law w many a cap n l hn hn2 (h.below hb)
  clear hn h
  obtain ⟨w0, hw0⟩ : ∃ w0, W.alloc (Obj.cells #[Value.int IntKind.i64 many, Value.slice a n cap] 24) = w0 := ⟨_, rfl⟩
  have B0 : Hid (Bx W many a n cap w0) := by rw [← hw0]; exact hide ⟨(Below.refl W.heap.size W).alloc (Nat.le_refl _) _, heap_alloc_new _ _⟩
  go_enter Try.func4, Try.ntmps4
  go_wp2_with (first
    | (go_at_call 8; refine (unhide C8 _ (unhide B2).1).mono ?_; rintro e w3 ⟨rfl, H3⟩; have B3 := hide ((unhide B2).on (unhide H3)))
    | (go_at_call 7; refine (unhide C7 _ (unhide B1).1).mono ?_; rintro e w2 ⟨rfl, H2⟩; have B2 := hide ((unhide B1).on (unhide H2)); have x0 := cell_blk (unhide B2).2 0; have x1 := cell_blk (unhide B2).2 1)
    | (go_at_call 6; refine (wakes_any _).mono ?_; rintro e w1 ⟨rfl, H1⟩; have B1 := hide ((unhide B0).on (unhide H1)); have x0 := cell_blk (unhide B1).2 0; have x1 := cell_blk (unhide B1).2 1))
  go_ret
  exact ⟨rfl, hide (unhide B3).1⟩
end Go.Proofs.Ytfebiemfmiahhab
