/- Encode, both ways. -/
import Derived.Test.YtcnlikojbkegiaaGreatDoorAdr
import Derived.Test.YtcnlikojbkegiaaGreatDoorFiu
import Derived.Test.YtcnlikojbkegiaaGreatDoorCtd
namespace Go.Proofs.YtcnlikojbkegiaaGreatDoor
open Go.ChangeShapes Go.WideShapes Go.ChangeAt Go.RowKit
set_option linter.unusedVariables false
set_option linter.unusedSimpArgs false
set_option maxRecDepth 20000
set_option maxHeartbeats 4000000

def outE (d : Nat) (x : Tr d) : List Nat := if fitB d x 0 then encL d x else []
def errE (d : Nat) (x : Tr d) : Int := if fitB d x 0 then 0 else 85
theorem encode_any (w : World) (ht : Tab w) (hU : UOk w) (d : Nat) (x : Tr d) (v0 v1 v2 v3 : Value) (h : RpAt w d x v0 v1 v2 v3) (hs : sz d x ≤ 16777216) :
    Calls Tryz.prog 6 #[.agg #[v0, v1, v2, v3]] w fun e w' => ∃ va vc, e = .returned (.tuple #[.slice va (outE d x).length vc, .int .i64 (errE d x)]) ∧ Hid (Gro w w' w.heap.size (.slice va (outE d x).length vc) (outE d x).length (outE d x)) := by
  have BX : Hid (Below w.heap.size w (w.alloc (.cells #[v0, v1, v2, v3] 31))) := hide ((Below.refl _ _).alloc (Nat.le_refl _) _)
  have CF : Hid (Calls Tryz.prog 10 #[.agg #[v0, v1, v2, v3], .int .i64 0] (w.alloc (.cells #[v0, v1, v2, v3] 31)) fun e w' => ∃ q, e = .returned (.bool q) ∧ Hid (q = fitB d x 0) ∧ Hid (Below w.heap.size w w') ∧ w'.cell? ⟨w.heap.size, 0, none⟩ = some v0 ∧ w'.cell? ⟨w.heap.size, 1, none⟩ = some v1 ∧ w'.cell? ⟨w.heap.size, 2, none⟩ = some v2 ∧ w'.cell? ⟨w.heap.size, 3, none⟩ = some v3) := hide ((fit_any UOk UOk.below cta_any d _ x v0 v1 v2 v3 0 (UOk.below _ _ hU (unhide BX)) (h.below (unhide BX)) (by omega)).mono (fun e w' h => by
    have hg := (h.2.block w.heap.size (by simp)).trans (heap_alloc_new w _)
    exact ⟨_, h.1, hide rfl, hide ((unhide BX).trans (h.2.mono (by simp))), by rw [cell_of_row _ _ _ _ _ _ hg]; rfl, by rw [cell_of_row _ _ _ _ _ _ hg]; rfl, by rw [cell_of_row _ _ _ _ _ _ hg]; rfl, by rw [cell_of_row _ _ _ _ _ _ hg]; rfl⟩))
  have CR : Hid (∀ W, Hid (Below w.heap.size w W) → Calls Tryz.prog 11 #[.slice none 0 0, .agg #[v0, v1, v2, v3]] W fun e w' => ∃ va n vc, e = .returned (.slice va n vc) ∧ Hid (Gro w w' w.heap.size (.slice va n vc) n (encL d x))) := hide (fun W hW => (addreply_any w ht d x W none 0 0 [] v0 v1 v2 v3 h ⟨unhide hW, (unhide hW).size, .inl ⟨rfl, rfl⟩, fun g hg => by simp [Value.ownBlock] at hg, rfl⟩ (by omega)).mono (fun e w' ⟨va, n, vc, h1, h2⟩ => ⟨va, n, vc, h1, hide (by simpa using (unhide h2).gro)⟩))
  obtain ⟨d, rfl⟩ : ∃ d', d = d' + 1 := ⟨d - 1, by have := tr_pos x; omega⟩
  obtain ⟨⟨rfl, -⟩, ⟨rfl, -⟩, ⟨ta, tc, rfl, -⟩, la, lc, rfl, -⟩ := h
  clear ht hU hs
  generalize x.nd.k = k0 at *
  generalize x.nd.n = k1 at *
  generalize x.nd.t.length = tn' at *
  generalize x.nd.l.length = ln at *
  go_enter Tryz.func6, Tryz.ntmps6
  go_wp2_with (first
    | (go_at_call 10; refine (unhide CF).mono ?_; rintro e w1 ⟨q, rfl, hq, k1', x0, x1, x2, x3⟩; cases q)
    | (go_at_call 11; refine (unhide CR _ k1').mono ?_; rintro e w2 ⟨a2, n2, c2, rfl, HG2⟩))
  all_goals go_ret2
  · have e1 : outE (d + 1) x = [] := by unfold outE; rw [← unhide hq]; rfl
    have e2 : errE (d + 1) x = 85 := by unfold errE; rw [← unhide hq]; rfl
    rw [e1, e2]
    exact ⟨none, 0, rfl, hide ⟨unhide k1', (unhide k1').size, .inl ⟨rfl, rfl⟩, fun g hg => by simp [Value.ownBlock] at hg, rfl⟩⟩
  · have e1 : outE (d + 1) x = encL (d + 1) x := by unfold outE; rw [← unhide hq]; rfl
    have e2 : errE (d + 1) x = 0 := by unfold errE; rw [← unhide hq]; rfl
    rw [e1, e2]
    obtain rfl := (unhide HG2).len
    exact ⟨a2, c2, rfl, HG2⟩
end Go.Proofs.YtcnlikojbkegiaaGreatDoor
