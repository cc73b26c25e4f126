/- New, grow, Alloc. -/
import Derived.Test.YtdgdnpgjbphgaabBlock
namespace Go.Proofs.Ytdgdnpgjbphgaab
open Go.ChangeShapes Go.WideShapes Go.ChangeAt Go.RowKit
set_option linter.unusedVariables false
set_option maxRecDepth 100000
set_option maxHeartbeats 1000000
theorem Try.info24 : (Try.prog.info? 24).map (fun i => (i.zero, i.size, i.bytes)) = some (some (.int .u64 0), 1, 8) := by kernel_rfl
theorem Try.info4 : (Try.prog.info? 4).map (fun i => (i.zero, i.size, i.bytes)) = some (some (.bool false), 1, 1) := by kernel_rfl

theorem made_at (z : Value) (n j : Nat) (h : j < n) : (madeCells #[z] n)[j]? = some z := by
  unfold madeCells
  rw [Array.getElem?_map, Array.getElem?_range, if_pos h]
  simp [Nat.mod_one]
theorem rep_at {α : Type} (n j : Nat) (a d : α) (h : j < n) : (List.replicate n a).getD j d = a := by
  rw [List.getD_eq_getElem?_getD, List.getElem?_replicate, if_pos h]; rfl

theorem Ar.fresh {w : World} {p bw bh n : Nat} (h1 : 1 ≤ n) (h2 : n ≤ 1048576) (n1 : p ≠ bw) (n2 : p ≠ bh) (n3 : bw ≠ bh)
    (hp : w.heap[p]? = some (.cells #[.slice (some ⟨bw, 0, none⟩) n n, .slice (some ⟨bh, 0, none⟩) n n, .int .i64 1] 65 (0, 0)))
    (hw : w.heap[bw]? = some (.cells (madeCells #[.int .u64 0] n) 24 (0, 0))) (hh : w.heap[bh]? = some (.cells (madeCells #[.bool false] n) 4 (0, 0))) :
    Ar w p bw bh (List.replicate n 0) (List.replicate n false) 1 := by
  have L : (List.replicate n 0).length = n := by simp
  refine { c0 := ?_, c1 := ?_, c2 := ?_, f2 := ?_, ww := ?_, wf := ?_, hh := ?_, hf := ?_, hl := ?_, ne1 := n1, ne2 := n2, ne3 := n3, lp := (Array.getElem?_eq_some_iff.1 hp).1, lw := (Array.getElem?_eq_some_iff.1 hw).1, lh := (Array.getElem?_eq_some_iff.1 hh).1, u1 := Nat.le_refl _, u2 := by rw [L]; exact h1, sz := by rw [L]; exact h2, small := ?_ }
  · rw [L]; simp [World.cell?, hp]
  · rw [L]; simp [World.cell?, hp]
  · simp [World.cell?, hp]
  · simp [World.frozen?, hp]
  · intro j hj; rw [L] at hj; rw [rep_at n j 0 0 hj]; simp [World.cell?, hw, made_at _ n j hj]
  · intro j hj; simp [World.frozen?, hw]
  · intro j hj; rw [L] at hj; rw [rep_at n j false false hj]; simp [World.cell?, hh, made_at _ n j hj]
  · intro j hj; simp [World.frozen?, hh]
  · simp
  · intro j hj; rw [L] at hj; rw [rep_at n j 0 0 hj]; decide

theorem three_allocs (w : World) (a b c : Obj) : (((w.alloc a).alloc b).alloc c).heap[w.heap.size]? = some a ∧ (((w.alloc a).alloc b).alloc c).heap[w.heap.size + 1]? = some b ∧ (((w.alloc a).alloc b).alloc c).heap[w.heap.size + 1 + 1]? = some c := by
  have s1 : (w.alloc a).heap.size = w.heap.size + 1 := by simp
  have s2 : ((w.alloc a).alloc b).heap.size = w.heap.size + 1 + 1 := by simp
  have b1 : Below (w.alloc a).heap.size (w.alloc a) (((w.alloc a).alloc b).alloc c) := ((Below.refl _ _).alloc (Nat.le_refl _) _).alloc (by simp) _
  have b2 : Below ((w.alloc a).alloc b).heap.size ((w.alloc a).alloc b) (((w.alloc a).alloc b).alloc c) := (Below.refl _ _).alloc (Nat.le_refl _) _
  refine ⟨(b1.block w.heap.size (by omega)).trans (heap_alloc_new _ _), ?_, ?_⟩
  · have h := heap_alloc_new (w.alloc a) b
    rw [s1] at h
    exact (b2.block (w.heap.size + 1) (by omega)).trans h
  · have h := heap_alloc_new ((w.alloc a).alloc b) c
    rw [s2] at h
    exact h

theorem new_yes (n : Nat) (h1 : 1 ≤ n) (h2 : n ≤ 1048576) (w : World) :
    Calls Try.prog 8 #[.int .i64 n] w fun e w' => ∃ p bw bh, e = .returned (.tuple #[.pointer (some ⟨p, 0, none⟩), .int .i64 0]) ∧ Ar w' p bw bh (List.replicate n 0) (List.replicate n false) 1 ∧ w.heap.size ≤ p ∧ w.heap.size ≤ bw ∧ w.heap.size ≤ bh ∧ Below w.heap.size w w' := by
  have m1 := fun w' => run_make_row' (P := Try.prog) 62 24 (.int .u64 0) 8 Try.underlying62 Try.info24 rfl .i64 .i64 n (by omega) (by omega) w'
  have m2 := fun w' => run_make_row' (P := Try.prog) 63 4 (.bool false) 1 Try.underlying63 Try.info4 rfl .i64 .i64 n (by omega) (by omega) w'
  have e1 : decide ((n : Int) < 1) = false := decide_eq_false (by omega)
  have e2 : decide (1048576 < (n : Int)) = false := decide_eq_false (by omega)
  go_enter Try.func8, Try.ntmps8
  go_wp2
  go_region
  all_goals go_wp2
  · go_ret2
    obtain ⟨q1, q2, q3⟩ := three_allocs w (.cells (madeCells #[.int .u64 0] n) 24) (.cells (madeCells #[.bool false] n) 4) (.cells #[.slice (some ⟨w.heap.size, 0, none⟩) n n, .slice (some ⟨w.heap.size + 1, 0, none⟩) n n, .int .i64 1] 65)
    exact ⟨w.heap.size + 1 + 1, w.heap.size, w.heap.size + 1, rfl, Ar.fresh h1 h2 (by omega) (by omega) (by omega) q3 q1 q2, by omega, by omega, by omega, ((((Below.refl _ _).alloc (Nat.le_refl _) _).alloc (by simp) _).alloc (by simp; omega) _).drew⟩
  · go_ret2
    obtain ⟨q1, q2, q3⟩ := three_allocs w (.cells (madeCells #[.bool false] n) 4) (.cells (madeCells #[.int .u64 0] n) 24) (.cells #[.slice (some ⟨w.heap.size + 1, 0, none⟩) n n, .slice (some ⟨w.heap.size, 0, none⟩) n n, .int .i64 1] 65)
    exact ⟨w.heap.size + 1 + 1, w.heap.size + 1, w.heap.size, rfl, Ar.fresh h1 h2 (by omega) (by omega) (by omega) q3 q2 q1, by omega, by omega, by omega, ((((Below.refl _ _).alloc (Nat.le_refl _) _).alloc (by simp) _).alloc (by simp; omega) _).drew⟩

theorem new_no (n : Int) (h : n < 1 ∨ 1048576 < n) (w : World) :
    Calls Try.prog 8 #[.int .i64 n] w fun e w' => e = .returned (.tuple #[.pointer none, .int .i64 20]) ∧ w' = w := by
  by_cases h1 : n < 1
  · have e1 : decide (n < 1) = true := decide_eq_true h1
    go_enter Try.func8, Try.ntmps8
    go_wp2
    go_ret2
    exact ⟨rfl, rfl⟩
  · have e1 : decide (n < 1) = false := decide_eq_false h1
    have e2 : decide (1048576 < n) = true := decide_eq_true (by omega)
    go_enter Try.func8, Try.ntmps8
    go_wp2
    go_ret2
    exact ⟨rfl, rfl⟩

/-- the marks with an object of n words laid at u -/
def mark (hs : List Bool) (u n : Nat) : List Bool := (List.range hs.length).map fun j => if j = u then true else if u ≤ j ∧ j < u + n then false else hs.getD j false
/-- the words with an object of n words laid at u -/
def laid (ws : List Nat) (u n x : Nat) : List Nat := (List.range ws.length).map fun j => if j = u then x else if u ≤ j ∧ j < u + n then 0 else ws.getD j 0
theorem mark_length (hs : List Bool) (u n : Nat) : (mark hs u n).length = hs.length := by simp [mark]
theorem laid_length (ws : List Nat) (u n x : Nat) : (laid ws u n x).length = ws.length := by simp [laid]
theorem mark_at (hs : List Bool) (u n j : Nat) (hj : j < hs.length) : (mark hs u n).getD j false = if j = u then true else if u ≤ j ∧ j < u + n then false else hs.getD j false := by
  unfold mark
  rw [List.getD_eq_getElem?_getD, List.getElem?_map, List.getElem?_range hj]; rfl
theorem laid_at (ws : List Nat) (u n x j : Nat) (hj : j < ws.length) : (laid ws u n x).getD j 0 = if j = u then x else if u ≤ j ∧ j < u + n then 0 else ws.getD j 0 := by
  unfold laid
  rw [List.getD_eq_getElem?_getD, List.getElem?_map, List.getElem?_range hj]; rfl

theorem Ar.drawn {w : World} {p bw bh : Nat} {ws : List Nat} {hs : List Bool} {used : Nat} (h : Ar w p bw bh ws hs used) (n : Nat) : Ar (w.drewN n) p bw bh ws hs used :=
  { c0 := h.c0, c1 := h.c1, c2 := h.c2, f2 := h.f2, ww := h.ww, wf := h.wf, hh := h.hh, hf := h.hf, hl := h.hl, ne1 := h.ne1, ne2 := h.ne2, ne3 := h.ne3, lp := h.lp, lw := h.lw, lh := h.lh, u1 := h.u1, u2 := h.u2, sz := h.sz, small := h.small }
theorem Ar.grown {w : World} {p bw bh : Nat} {ws : List Nat} {hs : List Bool} {used : Nat} (h : Ar w p bw bh ws hs used) (u : Nat) (h1 : 1 ≤ u) (h2 : u ≤ ws.length) : Ar (w.setCell ⟨p, 2, none⟩ (.int .i64 (u : Int))) p bw bh ws hs u := by
  have hb : But [p] w (w.setCell ⟨p, 2, none⟩ (.int .i64 (u : Int))) := (But.refl _ _).set ⟨p, 2, none⟩ (by simp) _
  have n1 : bw ∉ [p] := by simp; exact Ne.symm h.ne1
  have n2 : bh ∉ [p] := by simp; exact Ne.symm h.ne2
  exact {
    c0 := (World.cell?_setCell_other _ _ _ _ (by simp)).trans h.c0
    c1 := (World.cell?_setCell_other _ _ _ _ (by simp)).trans h.c1
    c2 := World.cell?_setCell_same' w _ _ (by rw [h.c2]; rfl)
    f2 := (World.frozen?_setCell ..).trans h.f2
    ww := fun j hj => (hb.cell (q := ⟨bw, j, none⟩) h.lw n1).trans (h.ww j hj)
    wf := fun j hj => (hb.frozen (q := ⟨bw, j, none⟩) h.lw n1).trans (h.wf j hj)
    hh := fun j hj => (hb.cell (q := ⟨bh, j, none⟩) h.lh n2).trans (h.hh j hj)
    hf := fun j hj => (hb.frozen (q := ⟨bh, j, none⟩) h.lh n2).trans (h.hf j hj)
    hl := h.hl, ne1 := h.ne1, ne2 := h.ne2, ne3 := h.ne3
    lp := Nat.lt_of_lt_of_le h.lp hb.size
    lw := Nat.lt_of_lt_of_le h.lw hb.size
    lh := Nat.lt_of_lt_of_le h.lh hb.size
    u1 := h1, u2 := h2, sz := h.sz, small := h.small }

theorem But.sets {B : List Nat} {w : World} (b : Nat) (hb : b ∈ B) : ∀ (vs : List Value) (o : Nat) (w' : World), But B w w' → But B w (w'.setCells b o vs)
  | [], _, _, h => h
  | v :: vs, o, w', h => But.sets b hb vs (o + 1) _ (h.set ⟨b, o, none⟩ hb v)
theorem sets_in (w : World) (b o n : Nat) (z : Value) (hc : ∀ j, j < n → (w.cell? ⟨b, o + j, none⟩).isSome = true) (j : Nat) (h1 : o ≤ j) (h2 : j < o + n) : (w.setCells b o (List.replicate n z)).cell? ⟨b, j, none⟩ = some z := by
  have h := World.cell?_setCells_in b (List.replicate n z) o w (by simpa using hc) (j - o) (by simp; omega)
  rw [show o + (j - o) = j by omega] at h
  rw [h]; simp
theorem sets_out (w : World) (b o n : Nat) (z : Value) (j : Nat) (h : j < o ∨ o + n ≤ j) : (w.setCells b o (List.replicate n z)).cell? ⟨b, j, none⟩ = w.cell? ⟨b, j, none⟩ :=
  World.cell?_setCells_out b _ o w ⟨b, j, none⟩ (fun _ _ => by simpa using h)

/-- the marks of n words struck, then the first one set -/
theorem Ar.marked {w : World} {p bw bh : Nat} {ws : List Nat} {hs : List Bool} {used : Nat} (h : Ar w p bw bh ws hs used) (u n : Nat) (hn : u + n ≤ ws.length) (hn1 : 1 ≤ n) :
    Ar ((w.setCells bh u (List.replicate n (.bool false))).setCell ⟨bh, u, none⟩ (.bool true)) p bw bh ws (mark hs u n) used ∧ But [bh] w ((w.setCells bh u (List.replicate n (.bool false))).setCell ⟨bh, u, none⟩ (.bool true)) := by
  have hb0 := But.sets (B := [bh]) bh (by simp) (List.replicate n (Value.bool false)) u w (But.refl [bh] w)
  have hb : But [bh] w ((w.setCells bh u (List.replicate n (.bool false))).setCell ⟨bh, u, none⟩ (.bool true)) := hb0.set ⟨bh, u, none⟩ (by simp) _
  have n1 : p ∉ [bh] := by simp; exact h.ne2
  have n2 : bw ∉ [bh] := by simp; exact h.ne3
  have hc : ∀ j, j < n → (w.cell? ⟨bh, u + j, none⟩).isSome = true := fun j hj => by rw [h.hh _ (by omega)]; rfl
  refine ⟨{ c0 := (hb.cell (q := ⟨p, 0, none⟩) h.lp n1).trans h.c0, c1 := (hb.cell (q := ⟨p, 1, none⟩) h.lp n1).trans h.c1, c2 := (hb.cell (q := ⟨p, 2, none⟩) h.lp n1).trans h.c2, f2 := (hb.frozen (q := ⟨p, 2, none⟩) h.lp n1).trans h.f2, ww := fun j hj => (hb.cell (q := ⟨bw, j, none⟩) h.lw n2).trans (h.ww j hj), wf := fun j hj => (hb.frozen (q := ⟨bw, j, none⟩) h.lw n2).trans (h.wf j hj), hh := ?_, hf := ?_, hl := by rw [mark_length]; exact h.hl, ne1 := h.ne1, ne2 := h.ne2, ne3 := h.ne3, lp := Nat.lt_of_lt_of_le h.lp hb.size, lw := Nat.lt_of_lt_of_le h.lw hb.size, lh := Nat.lt_of_lt_of_le h.lh hb.size, u1 := h.u1, u2 := h.u2, sz := h.sz, small := h.small }, hb⟩
  · intro j hj
    rw [mark_at hs u n j (by rw [h.hl]; exact hj)]
    by_cases e : j = u
    · subst e
      rw [if_pos rfl]
      exact World.cell?_setCell_same' _ _ _ (by rw [sets_in w bh j n _ hc j (Nat.le_refl _) (by omega)]; rfl)
    · rw [if_neg e, World.cell?_setCell_other _ _ _ _ (fun e' => e (by injection e' with e1 e2; exact e2.symm))]
      by_cases hr : u ≤ j ∧ j < u + n
      · rw [if_pos hr, sets_in w bh u n _ hc j hr.1 hr.2]
      · rw [if_neg hr, sets_out w bh u n _ j (by omega)]; exact h.hh j hj
  · intro j hj
    rw [World.frozen?_setCell, World.frozen?_setCells]; exact h.hf j hj

/-- the words of an object struck, then its head laid -/
theorem Ar.headed {w : World} {p bw bh : Nat} {ws : List Nat} {hs : List Bool} {used : Nat} (h : Ar w p bw bh ws hs used) (u n x : Nat) (hn : u + n ≤ ws.length) (hn1 : 1 ≤ n) (hx : x < 18446744073709551616) :
    Ar ((w.setCells bw u (List.replicate n (.int .u64 0))).setCell ⟨bw, u, none⟩ (.int .u64 (x : Int))) p bw bh (laid ws u n x) hs used ∧ But [bw] w ((w.setCells bw u (List.replicate n (.int .u64 0))).setCell ⟨bw, u, none⟩ (.int .u64 (x : Int))) := by
  have hb0 := But.sets (B := [bw]) bw (by simp) (List.replicate n (Value.int .u64 0)) u w (But.refl [bw] w)
  have hb : But [bw] w ((w.setCells bw u (List.replicate n (.int .u64 0))).setCell ⟨bw, u, none⟩ (.int .u64 (x : Int))) := hb0.set ⟨bw, u, none⟩ (by simp) _
  have n1 : p ∉ [bw] := by simp; exact h.ne1
  have n3 : bh ∉ [bw] := by simp; exact Ne.symm h.ne3
  have hc : ∀ j, j < n → (w.cell? ⟨bw, u + j, none⟩).isSome = true := fun j hj => by rw [h.ww _ (by omega)]; rfl
  have L := laid_length ws u n x
  refine ⟨{ c0 := by rw [L]; exact (hb.cell (q := ⟨p, 0, none⟩) h.lp n1).trans h.c0, c1 := by rw [L]; exact (hb.cell (q := ⟨p, 1, none⟩) h.lp n1).trans h.c1, c2 := (hb.cell (q := ⟨p, 2, none⟩) h.lp n1).trans h.c2, f2 := (hb.frozen (q := ⟨p, 2, none⟩) h.lp n1).trans h.f2, ww := ?_, wf := ?_, hh := ?_, hf := ?_, hl := by rw [L]; exact h.hl, ne1 := h.ne1, ne2 := h.ne2, ne3 := h.ne3, lp := Nat.lt_of_lt_of_le h.lp hb.size, lw := Nat.lt_of_lt_of_le h.lw hb.size, lh := Nat.lt_of_lt_of_le h.lh hb.size, u1 := h.u1, u2 := by rw [L]; exact h.u2, sz := by rw [L]; exact h.sz, small := ?_ }, hb⟩
  · intro j hj
    rw [L] at hj
    rw [laid_at ws u n x j hj]
    by_cases e : j = u
    · subst e
      rw [if_pos rfl]
      exact World.cell?_setCell_same' _ _ _ (by rw [sets_in w bw j n _ hc j (Nat.le_refl _) (by omega)]; rfl)
    · rw [if_neg e, World.cell?_setCell_other _ _ _ _ (fun e' => e (by injection e' with e1 e2; exact e2.symm))]
      by_cases hr : u ≤ j ∧ j < u + n
      · rw [if_pos hr, sets_in w bw u n _ hc j hr.1 hr.2]; rfl
      · rw [if_neg hr, sets_out w bw u n _ j (by omega)]; exact h.ww j hj
  · intro j hj
    rw [L] at hj
    rw [World.frozen?_setCell, World.frozen?_setCells]; exact h.wf j hj
  · intro j hj; rw [L] at hj; exact (hb.cell (q := ⟨bh, j, none⟩) h.lh n3).trans (h.hh j hj)
  · intro j hj; rw [L] at hj; exact (hb.frozen (q := ⟨bh, j, none⟩) h.lh n3).trans (h.hf j hj)
  · intro j hj
    rw [L] at hj
    rw [laid_at ws u n x j hj]
    split
    · exact hx
    · split
      · decide
      · exact h.small j hj

theorem grow_full {p bw bh : Nat} {ws : List Nat} {hs : List Bool} {used : Nat} (n : Nat) (w : World) (h : Ar w p bw bh ws hs used) (hn : ws.length < used + n) (hn2 : n ≤ 4194304) :
    Calls Try.prog 19 #[.pointer (some ⟨p, 0, none⟩), .int .i64 n] w fun e w' => e = .returned (.tuple #[.int .i64 0, .slice none 0 0, .int .i64 22]) ∧ Below w.heap.size w w' := by
  have c0 := h.c0
  have c2 := h.c2
  have hu := h.u2
  have hz := h.sz
  have e1 : decide ((ws.length : Int) - (used : Int) < (n : Int)) = true := decide_eq_true (by omega)
  clear h
  go_enter Try.func19, Try.ntmps19
  go_wp2
  go_quiet (fail)
  go_wp2
  go_ret3
  exact ⟨rfl, ⟨rfl, rfl, rfl, Nat.le_refl _, fun _ _ => rfl⟩⟩

theorem grow_yes {p bw bh : Nat} {ws : List Nat} {hs : List Bool} {used : Nat} (n : Nat) (w : World) (h : Ar w p bw bh ws hs used) (hn : used + n ≤ ws.length) (hn1 : 1 ≤ n) :
    Calls Try.prog 19 #[.pointer (some ⟨p, 0, none⟩), .int .i64 n] w fun e w' => e = .returned (.tuple #[.int .i64 used, .slice (some ⟨bw, used, none⟩) n n, .int .i64 0]) ∧ Ar w' p bw bh ws (mark hs used n) (used + n) ∧ But [p, bh] w w' := by
  have c0 := h.c0
  have c1 := h.c1
  have c2 := h.c2
  have f2 := h.f2
  have hu := h.u2
  have hz := h.sz
  have e1 : decide ((ws.length : Int) - (used : Int) < (n : Int)) = false := decide_eq_false (by omega)
  have HH := hide h
  clear h
  go_enter Try.func19, Try.ntmps19
  go_wp2
  go_quiet (fail)
  go_wp2
  obtain ⟨w1, hw1⟩ : ∃ w1, w1 = (w.drewN nq).setCell ⟨p, 2, none⟩ (.int .i64 ((used : Int) + n)) := ⟨_, rfl⟩
  rw [← hw1]
  have ec : ((used + n : Nat) : Int) = (used : Int) + n := by omega
  have hA1 : Ar w1 p bw bh ws hs (used + n) := by
    have h := ((unhide HH).drawn nq).grown (used + n) (by omega) hn
    rw [ec] at h
    rw [hw1]; exact h
  have hB1 : But [p] w w1 := by
    rw [hw1]
    have hd : But [p] w (w.drewN nq) := ⟨rfl, rfl, rfl, Nat.le_refl _, fun _ _ _ => rfl⟩
    exact hd.set ⟨p, 2, none⟩ (by simp) _
  have d1 := hA1.c1
  have d2 := hA1.c2
  rw [ec] at d2
  have hclr := fun ty => Lib.run_clear_slice (P := Try.prog) w1.drew 63 4 ty (.bool false) Try.underlying63 (fun w => Try.zeroValue4 w) rfl rfl bh used n (ws.length - used) hn1 (fun j hj => by
    show (w1.cell? ⟨bh, used + j, none⟩).isSome = true
    rw [hA1.hh _ (by omega)]; rfl) (fun j hj => hA1.hf _ (by omega))
  have HA1 := hide hA1
  have HB1 := hide hB1
  have hA1' : Ar w1.drew p bw bh ws hs (used + n) := hA1.drawn 1
  have hsub : used + n - used = n := by omega
  clear hw1 hA1 hB1 c0 c1 c2 f2 HH
  have HM := hide ((hA1').marked used n (by omega) hn1)
  clear hA1'
  go_region
  obtain ⟨w2, hw2⟩ : ∃ w2, w2 = w1.drew.setCells bh used (List.replicate n (.bool false)) := ⟨_, rfl⟩
  rw [← hw2] at HM
  have g0 : w2.cell? ⟨p, 1, none⟩ = some (.slice (some ⟨bh, 0, none⟩) ws.length ws.length) := by
    have := (unhide HM).1.c1
    rwa [World.cell?_setCell_other _ _ _ _ (by intro e; injection e with e1 e2; exact (unhide HA1).ne2 e1.symm)] at this
  have g1 : w2.cell? ⟨bh, used, none⟩ = some (.bool false) := by
    rw [hw2]; exact sets_in w1.drew bh used n _ (fun j hj => by show (w1.cell? ⟨bh, used + j, none⟩).isSome = true; rw [(unhide HA1).hh _ (by omega)]; rfl) used (Nat.le_refl _) (by omega)
  have g2 : w2.frozen? ⟨bh, used, none⟩ = false := by rw [hw2, World.frozen?_setCells]; exact (unhide HA1).hf used (by omega)
  rw [← hw2]
  clear hw2 hclr d1 d2
  go_wp2_with fail
  have HSP := hide (span_any used n _ (unhide HM).1 (by omega))
  refine (unhide HSP).mono ?_
  rintro e w' ⟨⟨off, rfl, hoff⟩, hw'⟩
  obtain rfl := hw'.symm
  have ho : off = used := hoff (by omega)
  subst ho
  clear hoff
  go_wp2
  go_ret3
  refine ⟨rfl, (unhide HM).1, ?_⟩
  have k1 := unhide HB1
  have k2 := (unhide HM).2
  exact ⟨k2.os.trans k1.os, k2.tape.trans k1.tape, k2.output.trans k1.output, Nat.le_trans k1.size k2.size, fun j hj hn => (k2.block j (Nat.lt_of_lt_of_le hj k1.size) (fun hm => hn (by simp at hm ⊢; exact .inr hm))).trans (k1.block j hj (fun hm => hn (by simp at hm ⊢; exact .inl hm)))⟩
end Go.Proofs.Ytdgdnpgjbphgaab
