/- ArenaGreat: the walk. -/
import Derived.Test.YtdgdnpgjbphgaabExact
import Derived.Lib.SlBytesConst
import Derived.Great.BuildSlice
namespace Go.Proofs.Ytdgdnpgjbphgaab
open Go.ChangeShapes Go.WideShapes Go.ChangeAt Go.RowKit
set_option linter.unusedVariables false
set_option maxRecDepth 100000
set_option maxHeartbeats 8000000

theorem Try.info26 : (Try.prog.info? 26).map (fun i => (i.zero, i.size, i.bytes)) = some (some (.agg #[.int .i64 0, .int .i64 0, .int .i64 0, .int .i64 0, .int .i64 0, .int .i64 0, .int .u64 0, .slice none 0 0]), 8, 80) := by kernel_rfl
/-- the steps, one behind the other -/
def grow8 (dv : Value) : List (List Value) := [[.int .i64 1, .int .i64 0, .int .i64 0, .int .i64 300000, .int .i64 0, .int .i64 0, .int .u64 0, .slice none 0 0],
  [.int .i64 1, .int .i64 1, .int .i64 0, .int .i64 200000, .int .i64 0, .int .i64 0, .int .u64 0, .slice none 0 0],
  [.int .i64 2, .int .i64 0, .int .i64 0, .int .i64 3, .int .i64 5000, .int .i64 70000, .int .u64 0, .slice none 0 0],
  [.int .i64 3, .int .i64 0, .int .i64 0, .int .i64 1, .int .i64 0, .int .i64 0, .int .u64 0, .slice none 0 0],
  [.int .i64 5, .int .i64 0, .int .i64 0, .int .i64 1, .int .i64 4999, .int .i64 0, .int .u64 7, .slice none 0 0],
  [.int .i64 5, .int .i64 0, .int .i64 0, .int .i64 1, .int .i64 74999, .int .i64 0, .int .u64 9223372036854775808, .slice none 0 0],
  [.int .i64 5, .int .i64 0, .int .i64 0, .int .i64 1, .int .i64 75000, .int .i64 0, .int .u64 1, .slice none 0 0],
  [.int .i64 4, .int .i64 0, .int .i64 0, .int .i64 1, .int .i64 4999, .int .i64 0, .int .u64 0, .slice none 0 0],
  [.int .i64 4, .int .i64 0, .int .i64 0, .int .i64 1, .int .i64 74999, .int .i64 0, .int .u64 0, .slice none 0 0],
  [.int .i64 7, .int .i64 0, .int .i64 0, .int .i64 1, .int .i64 559984, .int .i64 0, .int .u64 0, dv],
  [.int .i64 7, .int .i64 0, .int .i64 0, .int .i64 1, .int .i64 559985, .int .i64 0, .int .u64 0, dv],
  [.int .i64 6, .int .i64 0, .int .i64 0, .int .i64 1, .int .i64 559976, .int .i64 24, .int .u64 0, .slice none 0 0],
  [.int .i64 6, .int .i64 0, .int .i64 0, .int .i64 1, .int .i64 0, .int .i64 560000, .int .u64 0, .slice none 0 0],
  [.int .i64 2, .int .i64 0, .int .i64 0, .int .i64 2, .int .i64 1, .int .i64 100000, .int .u64 0, .slice none 0 0],
  [.int .i64 3, .int .i64 0, .int .i64 0, .int .i64 75002, .int .i64 0, .int .i64 0, .int .u64 0, .slice none 0 0],
  [.int .i64 8, .int .i64 1, .int .i64 0, .int .i64 1, .int .i64 0, .int .i64 0, .int .u64 0, .slice none 0 0],
  [.int .i64 9, .int .i64 0, .int .i64 0, .int .i64 1, .int .i64 0, .int .i64 0, .int .u64 0, .slice none 0 0],
  [.int .i64 8, .int .i64 1, .int .i64 0, .int .i64 75002, .int .i64 0, .int .i64 0, .int .u64 0, .slice none 0 0],
  [.int .i64 9, .int .i64 0, .int .i64 0, .int .i64 75002, .int .i64 0, .int .i64 0, .int .u64 0, .slice none 0 0],
  [.int .i64 3, .int .i64 1, .int .i64 0, .int .i64 1, .int .i64 0, .int .i64 0, .int .u64 0, .slice none 0 0],
  [.int .i64 4, .int .i64 1, .int .i64 0, .int .i64 1, .int .i64 74999, .int .i64 0, .int .u64 0, .slice none 0 0],
  [.int .i64 6, .int .i64 1, .int .i64 0, .int .i64 1, .int .i64 559976, .int .i64 24, .int .u64 0, .slice none 0 0],
  [.int .i64 11, .int .i64 1, .int .i64 0, .int .i64 0, .int .i64 0, .int .i64 0, .int .u64 0, .slice none 0 0],
  [.int .i64 10, .int .i64 0, .int .i64 0, .int .i64 0, .int .i64 0, .int .i64 0, .int .u64 0, .slice none 0 0],
  [.int .i64 2, .int .i64 0, .int .i64 0, .int .i64 1, .int .i64 0, .int .i64 200000, .int .u64 0, .slice none 0 0],
  [.int .i64 10, .int .i64 0, .int .i64 0, .int .i64 0, .int .i64 0, .int .i64 0, .int .u64 0, .slice none 0 0],
  [.int .i64 11, .int .i64 0, .int .i64 0, .int .i64 0, .int .i64 0, .int .i64 0, .int .u64 0, .slice none 0 0]]
def gcells (dv : Value) : List Value := (grow8 dv).flatten
/-- the script's numbers -/
def gq (a : Option Addr) : List OpL := [⟨1, 0, 0, 300000, 0, 0, 0, none, [], 0⟩,
  ⟨1, 1, 0, 200000, 0, 0, 0, none, [], 0⟩,
  ⟨2, 0, 0, 3, 5000, 70000, 0, none, [], 0⟩,
  ⟨3, 0, 0, 1, 0, 0, 0, none, [], 0⟩,
  ⟨5, 0, 0, 1, 4999, 0, 7, none, [], 0⟩,
  ⟨5, 0, 0, 1, 74999, 0, 9223372036854775808, none, [], 0⟩,
  ⟨5, 0, 0, 1, 75000, 0, 1, none, [], 0⟩,
  ⟨4, 0, 0, 1, 4999, 0, 0, none, [], 0⟩,
  ⟨4, 0, 0, 1, 74999, 0, 0, none, [], 0⟩,
  ⟨7, 0, 0, 1, 559984, 0, 0, a, [48, 49, 50, 51, 52, 53, 54, 55, 56, 57, 97, 98, 99, 100, 101, 102], 16⟩,
  ⟨7, 0, 0, 1, 559985, 0, 0, a, [48, 49, 50, 51, 52, 53, 54, 55, 56, 57, 97, 98, 99, 100, 101, 102], 16⟩,
  ⟨6, 0, 0, 1, 559976, 24, 0, none, [], 0⟩,
  ⟨6, 0, 0, 1, 0, 560000, 0, none, [], 0⟩,
  ⟨2, 0, 0, 2, 1, 100000, 0, none, [], 0⟩,
  ⟨3, 0, 0, 75002, 0, 0, 0, none, [], 0⟩,
  ⟨8, 1, 0, 1, 0, 0, 0, none, [], 0⟩,
  ⟨9, 0, 0, 1, 0, 0, 0, none, [], 0⟩,
  ⟨8, 1, 0, 75002, 0, 0, 0, none, [], 0⟩,
  ⟨9, 0, 0, 75002, 0, 0, 0, none, [], 0⟩,
  ⟨3, 1, 0, 1, 0, 0, 0, none, [], 0⟩,
  ⟨4, 1, 0, 1, 74999, 0, 0, none, [], 0⟩,
  ⟨6, 1, 0, 1, 559976, 24, 0, none, [], 0⟩,
  ⟨11, 1, 0, 0, 0, 0, 0, none, [], 0⟩,
  ⟨10, 0, 0, 0, 0, 0, 0, none, [], 0⟩,
  ⟨2, 0, 0, 1, 0, 200000, 0, none, [], 0⟩,
  ⟨10, 0, 0, 0, 0, 0, 0, none, [], 0⟩,
  ⟨11, 0, 0, 0, 0, 0, 0, none, [], 0⟩]
def dL : List Nat := [48, 49, 50, 51, 52, 53, 54, 55, 56, 57, 97, 98, 99, 100, 101, 102]
def opRow (q : OpL) : List Value := [.int .i64 q.K, .int .i64 q.X, .int .i64 q.Y, .int .i64 q.A, .int .i64 q.B, .int .i64 q.C, .int .u64 q.V, .slice q.a q.l.length q.c]
theorem grow_eq (a : Option Addr) : gcells (.slice a 16 16) = ((gq a).map opRow).flatten := by rfl
theorem flat_at : ∀ (L : List (List Value)) (i j : Nat), (∀ r ∈ L, r.length = 8) → i < L.length → j < 8 → L.flatten[i * 8 + j]? = (L.getD i [])[j]?
  | [], i, j, _, h, _ => absurd h (Nat.not_lt_zero _)
  | r :: L, 0, j, hr, _, hj => by
    have := hr r (List.mem_cons_self ..)
    rw [List.flatten_cons, List.getElem?_append_left (by omega), Nat.zero_mul, Nat.zero_add]; rfl
  | r :: L, i + 1, j, hr, h, hj => by
    have h8 := hr r (List.mem_cons_self ..)
    rw [List.flatten_cons, List.getElem?_append_right (by omega), h8, show (i + 1) * 8 + j - 8 = i * 8 + j by omega]
    exact flat_at L i j (fun x hx => hr x (List.mem_cons_of_mem _ hx)) (by simpa using h) hj
theorem great_script {W : World} {b g : Nat} (hb : W.heap[b]? = some (.cells (gcells (.slice (some ⟨g, 0, none⟩) 16 16)).toArray 26 (0, 0))) (hB : Bytes W (some ⟨g, 0, none⟩) dL) : Script2 W (some ⟨b, 0, none⟩) 27 := by
  have hq : (gq (some ⟨g, 0, none⟩)).length = 27 := rfl
  refine .inr ⟨b, 0, rfl, (Array.getElem?_eq_some_iff.1 hb).1, fun i hi => ?_⟩
  obtain ⟨q, hqi⟩ : ∃ q, (gq (some ⟨g, 0, none⟩))[i]? = some q := ⟨_, List.getElem?_eq_getElem (by omega)⟩
  have hm : q ∈ gq (some ⟨g, 0, none⟩) := List.mem_of_getElem? hqi
  have hc : ∀ j, j < 8 → W.cell? ⟨b, 0 + i * 8 + j, none⟩ = (opRow q)[j]? := fun j hj => by
    simp only [World.cell?, hb]
    rw [List.getElem?_toArray, Nat.zero_add, grow_eq, flat_at _ i j (fun r hr => by obtain ⟨x, _, rfl⟩ := List.mem_map.1 hr; rfl) (by rw [List.length_map]; omega) hj, List.getD_eq_getElem?_getD, List.getElem?_map, hqi]
    rfl
  have ok : ∀ q ∈ gq (some ⟨g, 0, none⟩), q.V < 18446744073709551616 ∧ q.B ≤ 9223372036854775807 ∧ -9223372036854775808 ≤ q.B ∧ (q.l = [] ∨ (q.a = some ⟨g, 0, none⟩ ∧ q.l = dL)) := by
    intro q hq
    unfold gq at hq
    simp only [List.mem_cons, List.not_mem_nil, or_false] at hq
    rcases hq with rfl | rfl | rfl | rfl | rfl | rfl | rfl | rfl | rfl | rfl | rfl | rfl | rfl | rfl | rfl | rfl | rfl | rfl | rfl | rfl | rfl | rfl | rfl | rfl | rfl | rfl | rfl <;> exact ⟨by dsimp only; omega, by dsimp only; omega, by dsimp only; omega, by first | exact .inl rfl | exact .inr ⟨rfl, rfl⟩⟩
  obtain ⟨o1, o2, o3, o4⟩ := ok q hm
  have hsm : Small dL := by unfold Small; decide
  refine ⟨q, ⟨hc 0 (by decide), hc 1 (by decide), hc 2 (by decide), hc 3 (by decide), hc 4 (by decide), hc 5 (by decide), hc 6 (by decide), hc 7 (by decide)⟩, ⟨o1, o2, o3, ?_, ?_⟩, ?_⟩
  · rcases o4 with e | ⟨e, e2⟩
    · exact .inl e
    · rw [e, e2]; exact hB
  · rcases o4 with e | ⟨e, e2⟩
    · rw [e]; exact fun i hi => absurd hi (Nat.not_lt_zero _)
    · rw [e2]; exact hsm
  · rcases o4 with e | ⟨e, e2⟩
    · rw [e]; decide
    · rw [e2]; decide
theorem great_law (w : World) : Calls Try.prog 3 #[] w fun e w' => e = .returned (.bool true) ∧ Below w.heap.size w w' := by
  have kc := fun (w : World) (C : Array Value) (n c : Nat) => Lib.run_convert_bytes_const (P := Try.prog) w 22 5 C n c Try.underlying22 Try.underlying5
  obtain ⟨ie, hie, hy0, hy1, hy2⟩ := info_parts Try.info26
  go_enter Try.func3, Try.ntmps3
  go_wp2_with fail
  refine wp_buildSlice 27 26 27 _ rfl (gcells (.slice (some ⟨w.heap.size, 0, none⟩) 16 16)).toArray ie _ Try.underlying27 hie hy0 (by rw [hy1]; decide) (by rw [hy1]; decide) (by rw [hy1]; kernel_rfl) ?_
  have hb1 : ∀ (c1 c2 : Obj), Below w.heap.size w ((w.alloc c1).alloc c2) := fun c1 c2 => ((Below.refl _ _).alloc (Nat.le_refl _) _).alloc (by simp) _
  refine (?_ : ∀ W2, W2 = (w.alloc (.cells (dL.map fun x => Value.int .u8 (x : Nat)).toArray 5 (16, 17))).alloc (.cells (gcells (.slice (some ⟨w.heap.size, 0, none⟩) 16 16)).toArray 26) → _) _ rfl
  intro W2 hW2
  have hs1 : (w.alloc (.cells (dL.map fun x => Value.int .u8 (x : Nat)).toArray 5 (16, 17))).heap.size = w.heap.size + 1 := by simp
  have hc0 : W2.heap[w.heap.size]? = some (.cells (dL.map fun x => Value.int .u8 (x : Nat)).toArray 5 (16, 17)) := by
    rw [hW2]
    show ((w.heap.push _).push _)[w.heap.size]? = _
    rw [Array.getElem?_push_lt (by simp), Array.getElem_push_eq]
  have hc1 : W2.heap[w.heap.size + 1]? = some (.cells (gcells (.slice (some ⟨w.heap.size, 0, none⟩) 16 16)).toArray 26) := by
    rw [hW2]
    show ((w.heap.push _).push _)[w.heap.size + 1]? = _
    rw [show w.heap.size + 1 = (w.heap.push (.cells (dL.map fun x => Value.int .u8 (x : Nat)).toArray 5 (16, 17))).size by simp, Array.getElem?_push_size]
  have hB : Bytes W2 (some ⟨w.heap.size, 0, none⟩) dL := .inr ⟨_, 0, rfl, (Array.getElem?_eq_some_iff.1 hc0).1, fun i hi => by
    simp only [World.cell?, hc0, Nat.zero_add]
    rw [List.getElem?_toArray, List.getElem?_map, List.getElem?_eq_getElem hi, List.getD_eq_getElem?_getD, List.getElem?_eq_getElem hi]
    rfl⟩
  have HS : Hid (Script2 W2 (some ⟨w.heap.size + 1, 0, none⟩) 27) := hide (great_script hc1 hB)
  have HB : Hid (Below w.heap.size w W2) := hide (by rw [hW2]; exact hb1 _ _)
  clear hW2 hc0 hc1 hB hb1
  rename_i K2 hK2
  refine hK2 _ _ ?_
  clear hK2
  go_wp2_with fail
  refine (exact_law _ 27 27 W2 (by first | exact unhide HS | (rw [hs1]; exact unhide HS)) (by decide)).mono ?_
  rintro e w3 ⟨rfl, hb3⟩
  have hf := hide ((unhide HB).trans (hb3.mono (unhide HB).size))
  clear HS HB hb3
  go_wp2
  go_ret
  exact ⟨rfl, unhide hf⟩
end Go.Proofs.Ytdgdnpgjbphgaab
