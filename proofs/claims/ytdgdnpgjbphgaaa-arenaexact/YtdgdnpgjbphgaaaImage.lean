/- Image; the block of shapes, seen by its objects. -/
import Derived.Test.YtdgdnpgjbphgaaaFill
import Derived.Laws.CopyOwn
namespace Go.Proofs.Ytdgdnpgjbphgaaa
open Go.ChangeShapes Go.WideShapes Go.ChangeAt Go.RowKit
set_option linter.unusedVariables false
set_option maxRecDepth 100000
set_option maxHeartbeats 1000000
theorem image_any {p bw bh : Nat} {ws : List Nat} {hs : List Bool} {used : Nat} (w : World) (h : Ar w p bw bh ws hs used) :
    Calls Try.prog 16 #[.pointer (some ⟨p, 0, none⟩)] w fun e w' => e = .returned (.slice (some ⟨w.heap.size, 0, none⟩) used used) ∧ w.heap.size < w'.heap.size ∧ (∀ j, j < used → w'.cell? ⟨w.heap.size, j, none⟩ = some (.int .u64 (ws.getD j 0 : Nat))) ∧ Below w.heap.size w w' := by
  have c0 := h.c0
  have c2 := h.c2
  have hu := h.u2
  have hu1 := h.u1
  have hz := h.sz
  have m1 := fun w' => run_make_row' (P := Try.prog) 34 36 (.int .u64 0) 8 Try.underlying34 Try.info36 rfl .i64 .i64 used (by omega) (by omega) w'
  have HB := hide ((Below.refl w.heap.size w).alloc (Nat.le_refl _) (.cells (madeCells #[.int .u64 0] used) 36))
  have hg := heap_alloc_new w (.cells (madeCells #[.int .u64 0] used) 36)
  have HG := hide hg
  have HW : Hid (∀ j v, ((List.range used).map fun k => Value.int .u64 (ws.getD k 0 : Nat))[j]? = some v → (w.alloc (.cells (madeCells #[.int .u64 0] used) 36)).cell? ((⟨bw, 0, none⟩ : Addr).add j) = some v) := hide (fun j v hj => by
    have hjl : j < used := by
      have := (List.getElem?_eq_some_iff.1 hj).1
      simpa using this
    rw [List.getElem?_map, List.getElem?_range hjl] at hj
    have e : (⟨bw, 0, none⟩ : Addr).add j = ⟨bw, j, none⟩ := by simp [Addr.add]; exact fun h => h.symm
    rw [e, (unhide HB).cell (p := ⟨bw, j, none⟩) h.lw, h.ww j (by omega)]
    exact hj)
  have c0' := ((unhide HB).cell (p := ⟨p, 0, none⟩) h.lp).trans c0
  clear h hg
  obtain ⟨i0, hi, hy0, hy1, hy2⟩ := info_parts Try.info36
  have hcopy : ∃ w2, (Builtin.copy_ #[34, 34] 3 #[.slice (some ⟨w.heap.size, 0, none⟩) used used, .slice (some ⟨bw, 0, none⟩) ws.length ws.length]).run Try.prog (w.alloc (.cells (madeCells #[.int .u64 0] used) 36)) = .ok (goInt used) w2 ∧ Hid (∀ j, j < used → w2.cell? ⟨w.heap.size, j, none⟩ = some (.int .u64 (ws.getD j 0 : Nat))) ∧ Below w.heap.size w w2 ∧ w2.heap.size = w.heap.size + 1 := by
    obtain ⟨cs, hcs⟩ : ∃ cs, cs = (List.range used).map fun k => Value.int .u64 (ws.getD k 0 : Nat) := ⟨_, rfl⟩
    have hlen : cs.length = used := by rw [hcs]; simp
    rw [← hcs] at HW
    have hcp := run_copy_row (P := Try.prog) (w.alloc (.cells (madeCells #[.int .u64 0] used) 36)) 34 34 3 36 w.heap.size 0 used used ⟨bw, 0, none⟩ ws.length ws.length (madeCells #[.int .u64 0] used) 36 cs Try.underlying34 (by rw [hi]; simp [hy1]) (unhide HG) (by rw [hlen]; show used = min _ _; omega) (unhide HW) (by rw [hlen]; simp [madeCells]) (fun v hv => by rw [hcs] at hv; obtain ⟨k, _, rfl⟩ := List.mem_map.1 hv; rfl)
    rw [hlen] at hcp
    refine ⟨_, hcp, hide (fun j hj => ?_), below_setRow (unhide HB) (Nat.le_refl _) _, by simp [World.setRow]⟩
    have hrow := setRow_heap (w.alloc (.cells (madeCells #[.int .u64 0] used) 36)) w.heap.size _ ((madeCells #[.int .u64 0] used).toList.take 0 ++ cs ++ (madeCells #[.int .u64 0] used).toList.drop (0 + used)).toArray 36 (0, 0) (unhide HG)
    simp only [World.cell?, hrow]
    rw [List.take_zero, List.nil_append]
    simp [List.getElem?_append, hj, hcs]
  obtain ⟨w2, hcp, HR, hbr, hsz⟩ := hcopy
  go_enter Try.func16, Try.ntmps16
  go_wp2
  go_ret
  exact ⟨rfl, by omega, unhide HR, hbr⟩

/-- the objects L lie in the block; whatever their fields hold -/
structure Kept (L : List (Nat × Nat × Nat)) (ws : List Nat) (hs : List Bool) : Prop where
  marks : ∀ k, k < place L L.length → (hs.getD k false = true ↔ ∃ j, j < L.length ∧ k = place L j)
  heads : ∀ j, j < L.length → ws.getD (place L j) 0 = headOf (L.getD j (0, 0, 0))
  zero : ws.getD 0 0 = 0
theorem LaidTo.kept {L : List (Nat × Nat × Nat)} {ws : List Nat} {hs : List Bool} (h : LaidTo L L.length ws hs) : Kept L ws hs := ⟨h.marks, h.heads, h.zero⟩

theorem head_parts (k r s : Nat) (hk : k ≤ 255) (hr : r ≤ 1048576) (hs : s ≤ 1048576) :
    headOf (k, r, s) % 256 = k ∧ headOf (k, r, s) / 256 % 16777216 = r ∧ headOf (k, r, s) / 4294967296 % 16777216 = s ∧ headOf (k, r, s) < 72057594037927936 := by
  unfold headOf
  dsimp only
  refine ⟨by omega, by omega, by omega, by omega⟩
theorem head_at {L : List (Nat × Nat × Nat)} (hg : Good L) (j : Nat) (hj : j < L.length) :
    headOf (L.getD j (0, 0, 0)) % 256 = (L.getD j (0, 0, 0)).1 ∧ headOf (L.getD j (0, 0, 0)) / 256 % 16777216 = (L.getD j (0, 0, 0)).2.1 ∧ headOf (L.getD j (0, 0, 0)) / 4294967296 % 16777216 = (L.getD j (0, 0, 0)).2.2 ∧ headOf (L.getD j (0, 0, 0)) < 72057594037927936 := by
  obtain ⟨h1, h2, h3, h4⟩ := hg j hj
  exact head_parts (L.getD j (0, 0, 0)).1 (L.getD j (0, 0, 0)).2.1 (L.getD j (0, 0, 0)).2.2 h2 (by omega) (by omega)
theorem Kept.obj {L : List (Nat × Nat × Nat)} {ws : List Nat} {hs : List Bool} (h : Kept L ws hs) (hg : Good L) (j : Nat) (hj : j < L.length) :
    objRes ws hs (place L L.length) (place L j : Nat) = ((L.getD j (0, 0, 0)).1, (L.getD j (0, 0, 0)).2.1, (L.getD j (0, 0, 0)).2.2, 0) := by
  have h1 := place_pos L j
  have h2 := place_lt L hj
  have h3 : 1 ≤ wd (L.getD j (0, 0, 0)) := by unfold wd; omega
  obtain ⟨q1, q2, q3, q4⟩ := head_at hg j hj
  unfold objRes
  rw [if_pos ⟨by omega, by omega, by rw [Int.toNat_natCast]; exact (h.marks _ (by omega)).2 ⟨j, hj, rfl⟩⟩, Int.toNat_natCast, h.heads j hj, if_neg (by omega), q1, q2, q3]
theorem Kept.other {L : List (Nat × Nat × Nat)} {ws : List Nat} {hs : List Bool} (h : Kept L ws hs) (at' : Int) (hn : ∀ j, j < L.length → at' ≠ (place L j : Nat)) :
    objRes ws hs (place L L.length) at' = (0, 0, 0, 23) := by
  unfold objRes
  rw [if_neg]
  rintro ⟨h1, h2, h3⟩
  obtain ⟨j, hj, e⟩ := (h.marks at'.toNat (by omega)).1 h3
  exact hn j hj (by omega)
theorem Kept.all {L : List (Nat × Nat × Nat)} {ws : List Nat} {hs : List Bool} (h : Kept L ws hs) (hg : Good L) : Heads ws hs (place L L.length) := by
  intro k hk hm _
  obtain ⟨j, hj, rfl⟩ := (h.marks k hk).1 hm
  obtain ⟨q1, q2, q3, q4⟩ := head_at hg j hj
  obtain ⟨g1, g2, g3, g4⟩ := hg j hj
  have h2 := place_lt L hj
  unfold wd at h2
  rw [h.heads j hj]
  unfold IsHead Fits
  rw [q1, q2, q3]
  exact ⟨⟨⟨by omega, by omega, by omega, by omega, by omega, by omega⟩, q4⟩, by omega⟩
/-- a field is written: the objects are still the same -/
theorem Kept.put {L : List (Nat × Nat × Nat)} {ws : List Nat} {hs : List Bool} (h : Kept L ws hs) (o f v : Nat) (ho : o < L.length) (hf : f < (L.getD o (0, 0, 0)).2.1 + (L.getD o (0, 0, 0)).2.2) (hl : place L L.length ≤ ws.length) :
    Kept L (ws.set (place L o + 1 + f) v) hs := by
  have h2 := place_lt L ho
  unfold wd at h2
  refine ⟨h.marks, fun j hj => ?_, by rw [getD_set ws _ _ _ (by omega), if_neg (by omega)]; exact h.zero⟩
  rw [getD_set ws _ _ _ (by omega), if_neg, h.heads j hj]
  intro e
  have hjo : j ≠ o := by intro e'; subst e'; omega
  rcases Nat.lt_or_gt_of_ne hjo with hlt | hgt
  · have := place_le L (show j ≤ o by omega); omega
  · have := place_lt L hgt; unfold wd at this; omega
/-- fields of the objects lie apart -/
theorem place_apart (L : List (Nat × Nat × Nat)) (o f j g : Nat) (hf : f < (L.getD o (0, 0, 0)).2.1 + (L.getD o (0, 0, 0)).2.2) (hg : g < (L.getD j (0, 0, 0)).2.1 + (L.getD j (0, 0, 0)).2.2) (e : place L o + 1 + f = place L j + 1 + g) : o = j ∧ f = g := by
  by_cases h : o = j
  · subst h; exact ⟨rfl, by omega⟩
  · exfalso
    rcases Nat.lt_or_gt_of_ne h with hlt | hgt
    · have := place_lt L hlt; unfold wd at this; omega
    · have := place_lt L hgt; unfold wd at this; omega
end Go.Proofs.Ytdgdnpgjbphgaaa
