/- WireTaken: the calls beside Decode and Encode. -/
import Derived.Test.YtfgemcmiilbodaaDoorAdr
import Derived.Test.YtfgemcmiilbodaaDoorFiu
import Derived.Test.YtfgemcmiilbodaaDoorCtd
import Derived.Test.YtfgemcmiilbodaaDoorDcy
import Derived.Test.YtfgemcmiilbodaaDoorByv
import Derived.Test.YtfgemcmiilbodaaDoorLiw
namespace Go.Proofs.YtfgemcmiilbodaaDoor
open Go.ChangeShapes Go.WideShapes Go.ChangeAt Go.RowKit
set_option linter.unusedVariables false
set_option linter.unusedSimpArgs false
set_option maxRecDepth 20000
set_option maxHeartbeats 4000000

def outE (d : Nat) (x : Tr d) : List Nat := if fitB d x 0 then encL d x else []
def errE (d : Nat) (x : Tr d) : Int := if fitB d x 0 then 0 else 85
theorem encode_any (w : World) (ht : Tab w) (hU : UOk w) (d : Nat) (x : Tr d) (v0 v1 v2 v3 : Value) (h : RpAt w d x v0 v1 v2 v3) (hs : sz d x ≤ 16777216) :
    Calls Tryd.prog 7 #[.agg #[v0, v1, v2, v3]] w fun e w' => ∃ va vc, e = .returned (.tuple #[.slice va (outE d x).length vc, .int .i64 (errE d x)]) ∧ Hid (Gro w w' w.heap.size (.slice va (outE d x).length vc) (outE d x).length (outE d x)) := by
  have BX : Hid (Below w.heap.size w (w.alloc (.cells #[v0, v1, v2, v3] 27))) := hide ((Below.refl _ _).alloc (Nat.le_refl _) _)
  have CF : Hid (Calls Tryd.prog 14 #[.agg #[v0, v1, v2, v3], .int .i64 0] (w.alloc (.cells #[v0, v1, v2, v3] 27)) fun e w' => ∃ q, e = .returned (.bool q) ∧ Hid (q = fitB d x 0) ∧ Hid (Below w.heap.size w w') ∧ w'.cell? ⟨w.heap.size, 0, none⟩ = some v0 ∧ w'.cell? ⟨w.heap.size, 1, none⟩ = some v1 ∧ w'.cell? ⟨w.heap.size, 2, none⟩ = some v2 ∧ w'.cell? ⟨w.heap.size, 3, none⟩ = some v3) := hide ((fit_any UOk UOk.below cta_any d _ x v0 v1 v2 v3 0 (UOk.below _ _ hU (unhide BX)) (h.below (unhide BX)) (by omega)).mono (fun e w' h => by
    have hg := (h.2.block w.heap.size (by simp)).trans (heap_alloc_new w _)
    exact ⟨_, h.1, hide rfl, hide ((unhide BX).trans (h.2.mono (by simp))), by rw [cell_of_row _ _ _ _ _ _ hg]; rfl, by rw [cell_of_row _ _ _ _ _ _ hg]; rfl, by rw [cell_of_row _ _ _ _ _ _ hg]; rfl, by rw [cell_of_row _ _ _ _ _ _ hg]; rfl⟩))
  have CR : Hid (∀ W, Hid (Below w.heap.size w W) → Calls Tryd.prog 15 #[.slice none 0 0, .agg #[v0, v1, v2, v3]] W fun e w' => ∃ va n vc, e = .returned (.slice va n vc) ∧ Hid (Gro w w' w.heap.size (.slice va n vc) n (encL d x))) := hide (fun W hW => (addreply_any w ht d x W none 0 0 [] v0 v1 v2 v3 h ⟨unhide hW, (unhide hW).size, .inl ⟨rfl, rfl⟩, fun g hg => by simp [Value.ownBlock] at hg, rfl⟩ (by omega)).mono (fun e w' ⟨va, n, vc, h1, h2⟩ => ⟨va, n, vc, h1, hide (by simpa using (unhide h2).gro)⟩))
  obtain ⟨d, rfl⟩ : ∃ d', d = d' + 1 := ⟨d - 1, by have := tr_pos x; omega⟩
  obtain ⟨⟨rfl, -⟩, ⟨rfl, -⟩, ⟨ta, tc, rfl, -⟩, la, lc, rfl, -⟩ := h
  clear ht hU hs
  generalize x.nd.k = k0 at *
  generalize x.nd.n = k1 at *
  generalize x.nd.t.length = tn' at *
  generalize x.nd.l.length = ln at *
  go_enter Tryd.func7, Tryd.ntmps7
  go_wp2_with (first
    | (go_at_call 14; refine (unhide CF).mono ?_; rintro e w1 ⟨q, rfl, hq, k1', x0, x1, x2, x3⟩; cases q)
    | (go_at_call 15; refine (unhide CR _ k1').mono ?_; rintro e w2 ⟨a2, n2, c2, rfl, HG2⟩))
  all_goals go_ret2
  · have e1 : outE (d + 1) x = [] := by unfold outE; rw [← unhide hq]; rfl
    have e2 : errE (d + 1) x = 85 := by unfold errE; rw [← unhide hq]; rfl
    rw [e1, e2]
    exact ⟨none, 0, rfl, hide ⟨unhide k1', (unhide k1').size, .inl ⟨rfl, rfl⟩, fun g hg => by simp [Value.ownBlock] at hg, rfl⟩⟩
  · have e1 : outE (d + 1) x = encL (d + 1) x := by unfold outE; rw [← unhide hq]; rfl
    have e2 : errE (d + 1) x = 0 := by unfold errE; rw [← unhide hq]; rfl
    rw [e1, e2]
    obtain rfl := (unhide HG2).len
    exact ⟨a2, c2, rfl, HG2⟩
end Go.Proofs.YtfgemcmiilbodaaDoor
namespace Go.Proofs.YtfgemcmiilbodaaDoor
open Go.ChangeShapes Go.WideShapes Go.ChangeAt Go.RowKit
set_option linter.unusedVariables false
set_option linter.unusedSimpArgs false
set_option maxRecDepth 100000
set_option maxHeartbeats 4000000

theorem num_any (w : World) (x : Int) : Calls Tryd.prog 6 #[.int .i64 x] w fun e w' => e = .returned (.int .i64 x) ∧ w' = w := by
  go_enter Tryd.func6, Tryd.ntmps6
  go_wp2
  go_ret
  exact ⟨rfl, rfl⟩
/-- Copy, with its row -/
theorem copyR_any {w : World} {x : Addr} {cap : Nat} (l : List Nat) (hl : l.length ≤ 140737488355328) (hB : Bytes w (some x) l) :
    Calls Tryd.prog 9 #[.slice (some x) l.length cap] w fun e w' => e = .returned (.slice (some ⟨w.heap.size, 0, none⟩) l.length l.length) ∧ Hid (Gro w w' w.heap.size (.slice (some ⟨w.heap.size, 0, none⟩) l.length l.length) l.length l) := by
  obtain ⟨n, hn⟩ : ∃ n, n = l.length := ⟨_, rfl⟩
  have m1 := fun w' => run_make_row' (P := Tryd.prog) 22 5 (.int .u8 0) 1 Tryd.underlying22 Tryd.info5 rfl .i64 .i64 n (by omega) (by omega) w'
  have HB := (Below.refl w.heap.size w).alloc (Nat.le_refl _) (.cells (madeCells #[.int .u8 0] n) 5)
  have HG := heap_alloc_new w (.cells (madeCells #[.int .u8 0] n) 5)
  obtain ⟨i0, hi, hy0, hy1, hy2⟩ := info_parts Tryd.info5
  have hcopy : ∃ w2, (Builtin.copy_ #[22, 22] 3 #[.slice (some ⟨w.heap.size, 0, none⟩) n n, .slice (some x) n cap]).run Tryd.prog (w.alloc (.cells (madeCells #[.int .u8 0] n) 5)) = .ok (goInt n) w2 ∧ Hid (Gro w w2 w.heap.size (.slice (some ⟨w.heap.size, 0, none⟩) n n) n l) := by
    obtain ⟨cs, hcs⟩ : ∃ cs, cs = (List.range l.length).map (byV l) := ⟨_, rfl⟩
    have hlen : cs.length = n := by rw [hcs, hn]; simp
    have hw : ∀ j v, cs[j]? = some v → (w.alloc (.cells (madeCells #[.int .u8 0] n) 5)).cell? (x.add j) = some v := fun j v hj => by
      have hjl : j < l.length := by have := (List.getElem?_eq_some_iff.1 hj).1; omega
      rw [hcs, List.getElem?_map, List.getElem?_range hjl] at hj
      rcases hB with h | ⟨b, off, h, hb, hc⟩
      · subst h; simp at hjl
      · cases h
        rw [add_plain, HB.cell (p := ⟨b, off + j, none⟩) hb, hc j hjl]
        exact hj
    have hcp := run_copy_row (P := Tryd.prog) (w.alloc (.cells (madeCells #[.int .u8 0] n) 5)) 22 22 3 5 w.heap.size 0 n n x n cap (madeCells #[.int .u8 0] n) 5 cs Tryd.underlying22 (by rw [hi]; simp [hy1]) HG (by rw [hlen]; show n = min _ _; omega) hw (by rw [hlen]; simp [madeCells]) (fun v hv => by rw [hcs] at hv; obtain ⟨k, _, rfl⟩ := List.mem_map.1 hv; rfl)
    rw [hlen] at hcp
    have hrow := setRow_heap (w.alloc (.cells (madeCells #[.int .u8 0] n) 5)) w.heap.size _ ((madeCells #[.int .u8 0] n).toList.take 0 ++ cs ++ (madeCells #[.int .u8 0] n).toList.drop (0 + n)).toArray 5 (0, 0) HG
    have hbel := below_setRow HB (Nat.le_refl _) ((madeCells #[.int .u8 0] n).toList.take 0 ++ cs ++ (madeCells #[.int .u8 0] n).toList.drop (0 + n)).toArray
    refine ⟨_, hcp, hide ⟨hbel, hbel.size, .inr ⟨w.heap.size, n, _, rfl, hrow, Nat.le_refl _, by simp only [maxLen]; omega, by simp [madeCells, hlen], fun k hk => ?_⟩, fun g hg => ?_, hn⟩⟩
    · rw [List.take_zero, List.nil_append, List.getElem?_toArray, List.getElem?_append_left (by omega), hcs, List.getElem?_map, List.getElem?_range (by omega)]
      rfl
    · simp [Value.ownBlock] at hg
      omega
  obtain ⟨w2, hcp, HR⟩ := hcopy
  clear hB HB HG
  rw [← hn]
  clear hn hl
  go_enter Tryd.func9, Tryd.ntmps9
  go_wp2
  go_ret
  exact ⟨rfl, HR⟩
end Go.Proofs.YtfgemcmiilbodaaDoor
