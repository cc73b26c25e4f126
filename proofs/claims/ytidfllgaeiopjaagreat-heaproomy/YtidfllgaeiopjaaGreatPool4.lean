/- A pool's trim and drop. -/
import Derived.Test.YtidfllgaeiopjaaGreatUntil
import Derived.Deep.RegionWith
import Derived.Deep.RegionHeld3
namespace Go.Proofs.YtidfllgaeiopjaaGreat
open Go.ChangeShapes Go.WideShapes Go.ChangeAt Go.RowKit
set_option linter.unusedVariables false
set_option maxRecDepth 100000
set_option maxHeartbeats 1000000

/-- a move, as it is handed in -/
def mvV (dd A B C hh gg : Int) (v : Nat) (dv : Value) : Value := .agg #[.int .i64 dd, .int .i64 A, .int .i64 B, .int .i64 C, .int .i64 hh, .int .i64 gg, .int .u64 (v : Nat), dv]
def mvB (dd A B C hh gg : Int) (v : Nat) (dv : Value) : Obj := .cells #[.int .i64 dd, .int .i64 A, .int .i64 B, .int .i64 C, .int .i64 hh, .int .i64 gg, .int .u64 (v : Nat), dv] 33
/-- the box of a move in a world -/
structure Boxed (w : World) (b : Nat) (dd A B C hh gg : Int) (v : Nat) (dv : Value) : Prop where
  m0 : w.cell? ⟨b, 0, none⟩ = some (.int .i64 dd)
  m1 : w.cell? ⟨b, 1, none⟩ = some (.int .i64 A)
  m2 : w.cell? ⟨b, 2, none⟩ = some (.int .i64 B)
  m3 : w.cell? ⟨b, 3, none⟩ = some (.int .i64 C)
  m4 : w.cell? ⟨b, 4, none⟩ = some (.int .i64 hh)
  m5 : w.cell? ⟨b, 5, none⟩ = some (.int .i64 gg)
  m6 : w.cell? ⟨b, 6, none⟩ = some (.int .u64 (v : Nat))
  m7 : w.cell? ⟨b, 7, none⟩ = some dv
theorem Boxed.new (w : World) (dd A B C hh gg : Int) (v : Nat) (dv : Value) : Boxed (w.alloc (mvB dd A B C hh gg v dv)) w.heap.size dd A B C hh gg v dv := by
  have e : ∀ i : Nat, (w.alloc (mvB dd A B C hh gg v dv)).cell? ⟨w.heap.size, i, none⟩ = #[Value.int .i64 dd, .int .i64 A, .int .i64 B, .int .i64 C, .int .i64 hh, .int .i64 gg, .int .u64 (v : Nat), dv][i]? := fun i => World.cell?_alloc_at _ _ _ _ rfl
  exact ⟨e 0, e 1, e 2, e 3, e 4, e 5, e 6, e 7⟩
theorem Boxed.same {w w' : World} {b : Nat} {dd A B C hh gg : Int} {v : Nat} {dv : Value} (h : Boxed w b dd A B C hh gg v dv) (e : w'.heap[b]? = w.heap[b]?) : Boxed w' b dd A B C hh gg v dv := by
  have k : ∀ i, w'.cell? ⟨b, i, none⟩ = w.cell? ⟨b, i, none⟩ := fun i => by simp only [World.cell?, e]
  exact ⟨(k 0).trans h.m0, (k 1).trans h.m1, (k 2).trans h.m2, (k 3).trans h.m3, (k 4).trans h.m4, (k 5).trans h.m5, (k 6).trans h.m6, (k 7).trans h.m7⟩

/-- a block of the shadow's struct as it was, but for the last errno -/
theorem makes_full {w : World} {ps ph : Nat} (dd : Int) (k r s : Int) (hh gg : Int) (vv : Nat) (dv : Value) (x : Nat) (hx : x = 31 ∧ (1 ≤ k ∧ k ≤ 255) ∧ (0 ≤ r ∧ r ≤ 1048576) ∧ (0 ≤ s ∧ s ≤ 1048576) ∨ x = 34 ∧ ¬ ((1 ≤ k ∧ k ≤ 255) ∧ (0 ≤ r ∧ r ≤ 1048576) ∧ (0 ≤ s ∧ s ≤ 1048576))) (c0 : w.cell? ⟨ps, 0, none⟩ = some (.pointer (some ⟨ph, 0, none⟩))) (c4 : ∃ x, w.cell? ⟨ps, 4, none⟩ = some x) (f4 : w.frozen? ⟨ps, 4, none⟩ = false) {G : World → Prop} 
    (HA : ∀ W, Still (w.alloc (mvB dd k r s hh gg vv dv)) W → Calls Tryz.prog 25 #[.pointer (some ⟨ph, 0, none⟩), .int .i64 k, .int .i64 r, .int .i64 s] W fun e w' => e = .returned (.tuple #[.int .u64 0, .int .i64 (x : Nat)]) ∧ w'.heap[ps]? = W.heap[ps]? ∧ w'.heap[w.heap.size]? = W.heap[w.heap.size]? ∧ G w') : 
    Calls Tryz.prog 31 #[.pointer (some ⟨ps, 0, none⟩), mvV dd k r s hh gg vv dv] w fun e w' => e = .returned (.bool true) ∧ ∃ W, G W ∧ Still (W.setCell ⟨ps, 4, none⟩ (.int .i64 (x : Nat))) w' := by
  obtain ⟨x4, c4⟩ := c4
  have bx := Boxed.new w dd k r s hh gg vv dv
  obtain ⟨m0, m1, m2, m3, m4, m5, m6, m7⟩ := bx
  have hpl := block_lt_of_cell c0
  have hold : ∀ i, (w.alloc (mvB dd k r s hh gg vv dv)).cell? ⟨ps, i, none⟩ = w.cell? ⟨ps, i, none⟩ := fun i => by simp only [World.cell?, heap_alloc_old w _ hpl]
  have c0' := (hold 0).trans c0
  have c4' := (hold 4).trans c4
  have f4' : (w.alloc (mvB dd k r s hh gg vv dv)).frozen? ⟨ps, 4, none⟩ = false := by rw [← f4]; simp only [World.frozen?, heap_alloc_old w _ hpl]
  have hne : ps ≠ w.heap.size := Nat.ne_of_lt hpl
  have H1 : Hid (∀ W, Still (w.alloc (mvB dd k r s hh gg vv dv)) W → Calls Tryz.prog 25 #[.pointer (some ⟨ph, 0, none⟩), .int .i64 k, .int .i64 r, .int .i64 s] W fun e w' => e = .returned (.tuple #[.int .u64 0, .int .i64 (x : Nat)]) ∧ w'.cell? ⟨ps, 0, none⟩ = some (.pointer (some ⟨ph, 0, none⟩)) ∧ w'.cell? ⟨w.heap.size, 1, none⟩ = some (.int .i64 k) ∧ w'.cell? ⟨w.heap.size, 2, none⟩ = some (.int .i64 r) ∧ w'.cell? ⟨w.heap.size, 3, none⟩ = some (.int .i64 s) ∧ w'.cell? ⟨ps, 4, none⟩ = some x4 ∧ w'.frozen? ⟨ps, 4, none⟩ = false ∧ G w') := hide (fun W hW => (HA W hW).mono fun e w' ⟨q1, q2, q3, q4⟩ => by
    have e1 : w'.heap[ps]? = (w.alloc (mvB dd k r s hh gg vv dv)).heap[ps]? := q2.trans (by rw [hW.heap])
    have e2 : w'.heap[w.heap.size]? = (w.alloc (mvB dd k r s hh gg vv dv)).heap[w.heap.size]? := q3.trans (by rw [hW.heap])
    refine ⟨q1, ?_, ?_, ?_, ?_, ?_, ?_, q4⟩
    · rw [← c0']; simp only [World.cell?, e1]
    · rw [← m1]; simp only [World.cell?, e2]
    · rw [← m2]; simp only [World.cell?, e2]
    · rw [← m3]; simp only [World.cell?, e2]
    · rw [← c4']; simp only [World.cell?, e1]
    · rw [← f4']; simp only [World.frozen?, e1])
  unfold mvV
  unfold mvB at H1 m1 m2 m3 c0'
  clear HA m0 m4 m5 m6 m7 c0 c4 f4 c4' f4' hold hpl
  rcases hx with ⟨rfl, hk, hr, hs⟩ | ⟨rfl, hbad⟩
  · have d1 : decide (k < 1) = false := decide_eq_false (by omega)
    have d2 : decide (255 < k) = false := decide_eq_false (by omega)
    have d3 : decide (r < 0) = false := decide_eq_false (by omega)
    have d4 : decide (1048576 < r) = false := decide_eq_false (by omega)
    have d5 : decide (s < 0) = false := decide_eq_false (by omega)
    have d6 : decide (1048576 < s) = false := decide_eq_false (by omega)
    go_enter Tryz.func31, Tryz.ntmps31
    go_wp2_with fail
    generalize hW : World.alloc w _ = W0 at *
    generalize hB : w.heap.size = b at *
    clear hW hB
    go_region_held3 (fun w' => w'.cell? ⟨ps, 0, none⟩ = some (.pointer (some ⟨ph, 0, none⟩)) ∧ w'.cell? ⟨b, 1, none⟩ = some (.int .i64 k) ∧ w'.cell? ⟨b, 2, none⟩ = some (.int .i64 r) ∧ w'.cell? ⟨b, 3, none⟩ = some (.int .i64 s)) (go_keep) (first | (go_at_call 25; refine (unhide H1 _ ((Still.refl _).drew _)).mono ?_; rintro e w1 ⟨rfl, n0, n1, n2, n3, n4, n5, hr⟩))
    all_goals clear m1 m2 m3 c0' H1
    all_goals go_wp2_with fail
    all_goals go_ret
    all_goals exact ⟨rfl, w1, hr, Still.refl _⟩
  · have HB := hide hbad
    clear hbad
    go_enter Tryz.func31, Tryz.ntmps31
    go_wp2_with fail
    generalize hW : World.alloc w _ = W0 at *
    generalize hB : w.heap.size = b at *
    clear hW hB
    go_region_held3 (fun w' => w'.cell? ⟨ps, 0, none⟩ = some (.pointer (some ⟨ph, 0, none⟩)) ∧ w'.cell? ⟨b, 1, none⟩ = some (.int .i64 k) ∧ w'.cell? ⟨b, 2, none⟩ = some (.int .i64 r) ∧ w'.cell? ⟨b, 3, none⟩ = some (.int .i64 s)) (go_keep) (first | (go_at_call 25; refine (unhide H1 _ ((Still.refl _).drew _)).mono ?_; rintro e w1 ⟨rfl, n0, n1, n2, n3, n4, n5, hr⟩))
    all_goals clear m1 m2 m3 c0' H1
    by_cases h1 : k < 1
    · have d1 : decide (k < 1) = true := decide_eq_true h1
      go_wp2_with fail
      go_ret
      exact ⟨rfl, w1, hr, Still.refl _⟩
    have d1 : decide (k < 1) = false := decide_eq_false h1
    by_cases h2 : 255 < k
    · have d2 : decide (255 < k) = true := decide_eq_true h2
      go_wp2_with fail
      go_ret
      exact ⟨rfl, w1, hr, Still.refl _⟩
    have d2 : decide (255 < k) = false := decide_eq_false h2
    by_cases h3 : r < 0
    · have d3 : decide (r < 0) = true := decide_eq_true h3
      go_wp2_with fail
      go_ret
      exact ⟨rfl, w1, hr, Still.refl _⟩
    have d3 : decide (r < 0) = false := decide_eq_false h3
    by_cases h4 : 1048576 < r
    · have d4 : decide (1048576 < r) = true := decide_eq_true h4
      go_wp2_with fail
      go_ret
      exact ⟨rfl, w1, hr, Still.refl _⟩
    have d4 : decide (1048576 < r) = false := decide_eq_false h4
    by_cases h5 : s < 0
    · have d5 : decide (s < 0) = true := decide_eq_true h5
      go_wp2_with fail
      go_ret
      exact ⟨rfl, w1, hr, Still.refl _⟩
    have d5 : decide (s < 0) = false := decide_eq_false h5
    by_cases h6 : 1048576 < s
    · have d6 : decide (1048576 < s) = true := decide_eq_true h6
      go_wp2_with fail
      go_ret
      exact ⟨rfl, w1, hr, Still.refl _⟩
    exact absurd ⟨⟨by omega, by omega⟩, ⟨by omega, by omega⟩, ⟨by omega, by omega⟩⟩ (unhide HB)
end Go.Proofs.YtidfllgaeiopjaaGreat
namespace Go.Proofs.YtidfllgaeiopjaaGreat
open Go.ChangeShapes Go.WideShapes Go.ChangeAt Go.RowKit
set_option linter.unusedVariables false
set_option linter.unusedSimpArgs false
set_option maxRecDepth 100000
set_option maxHeartbeats 1000000

theorem Tryz.info69 : (Tryz.prog.info? 69).map (fun i => (i.zero, i.size, i.bytes)) = some (some (.agg #[.int .i64 0, .slice none 0 0, .slice none 0 0]), 3, 56) := by kernel_rfl
/-- a node is made: the graph's list v becomes v9 -/
structure Made (ps k r s n : Nat) (f : Nat → Value) (v : Value) (W W3 : World) (v9 r9 s9 : Value) : Prop where
  wide : Wide W3 69 3 v9 (n + 1) (fun j => if j < n * 3 then f j else [Value.int .i64 (k : Nat), r9, s9].getD (j - n * 3) undef)
  refs : Line W3 3 r9 r (fun _ => .int .i64 0)
  raws : Line W3 30 s9 s (fun _ => .int .u64 0)
  own : Own2 W v v9
  ro : ∀ g, r9.ownBlock = some g → W.heap.size ≤ g
  so : ∀ g, s9.ownBlock = some g → W.heap.size ≤ g
  vr : ∀ g, v9.ownBlock = some g → r9.ownBlock ≠ some g
  vs : ∀ g, v9.ownBlock = some g → s9.ownBlock ≠ some g
  rs : ∀ g, r9.ownBlock = some g → s9.ownBlock ≠ some g
  c1 : W3.cell? ⟨ps, 1, none⟩ = some v9
  cc : ∀ q, q ≠ 1 → W3.cell? ⟨ps, q, none⟩ = W.cell? ⟨ps, q, none⟩
  ff : ∀ q, W3.frozen? ⟨ps, q, none⟩ = W.frozen? ⟨ps, q, none⟩
  os : W3.os = W.os
  tape : W3.tape = W.tape
  output : W3.output = W.output
  size : W.heap.size ≤ W3.heap.size
  blk : ∀ g, g < W.heap.size → g ≠ ps → v.ownBlock ≠ some g → W3.heap[g]? = W.heap[g]?
theorem made_line {W : World} {g n : Nat} {e : TypeId} {z : Value} (h : W.heap[g]? = some (.cells (madeCells #[z] n) e (0, 0))) (hn : n ≤ 1048576) : Line W e (.slice (some ⟨g, 0, none⟩) n n) n (fun _ => z) := by
  refine .inr ⟨g, n, madeCells #[z] n, rfl, h, Nat.le_refl _, by unfold maxLen; omega, ?_, fun j hj => made_at z n j hj⟩
  have := made_cells z n
  have h2 : (madeCells #[z] n).toList.length = n := by rw [this, List.length_replicate]
  simpa using h2
def Grow2 (v v9 : Value) (W w9 : World) : Prop := (∃ g, v.ownBlock = some g ∧ v9.ownBlock = some g ∧ w9.heap.size = W.heap.size ∧ ∀ k, k ≠ g → w9.heap[k]? = W.heap[k]?) ∨ (v9.ownBlock = some W.heap.size ∧ w9.heap.size = W.heap.size + 1 ∧ ∀ k, k < W.heap.size → w9.heap[k]? = W.heap[k]?)
theorem Grow2.old {v v9 : Value} {W w9 : World} (h : Grow2 v v9 W w9) {g : Nat} (hg : g < W.heap.size) (hv : v.ownBlock ≠ some g) : w9.heap[g]? = W.heap[g]? := by
  rcases h with ⟨q, h1, _, _, h4⟩ | ⟨_, _, h4⟩
  · exact h4 g (fun e => hv (by rw [h1, e]))
  · exact h4 g hg
theorem made_any {ps k r s n : Nat} {f : Nat → Value} {v : Value} {W2 W : World} {X Y Z : Obj} (hst : Still (((W2.alloc X).alloc Y).alloc Z) W) {v9 : Value} {w9 : World} {r9 s9 : Value} (hps : ps < W2.heap.size) (hw0 : Wide W2 69 3 v n f) (hap : v.ownBlock ≠ some ps) (hr : r ≤ 1048576) (hs : s ≤ 1048576)
    (hXY : (X = .cells (madeCells #[.int .i64 0] r) 3 ∧ Y = .cells (madeCells #[.int .u64 0] s) 30 ∧ r9 = .slice (some ⟨W2.heap.size, 0, none⟩) r r ∧ s9 = .slice (some ⟨W2.heap.size + 1, 0, none⟩) s s) ∨ (Y = .cells (madeCells #[.int .i64 0] r) 3 ∧ X = .cells (madeCells #[.int .u64 0] s) 30 ∧ r9 = .slice (some ⟨W2.heap.size + 1, 0, none⟩) r r ∧ s9 = .slice (some ⟨W2.heap.size, 0, none⟩) s s))
    (hv9 : Wide w9 69 3 v9 (n + 1) (fun j => if j < n * 3 then f j else [Value.int .i64 (k : Nat), r9, s9].getD (j - n * 3) undef)) (q9 : w9.os = W.os ∧ w9.tape = W.tape ∧ w9.output = W.output) (hh : Grow2 v v9 W w9) (c1 : ∃ x, W2.cell? ⟨ps, 1, none⟩ = some x)
    (W3 : World) (eh : W3.heap = (w9.setCell ⟨ps, 1, none⟩ v9).heap) (e1 : W3.os = w9.os) (e2 : W3.tape = w9.tape) (e3 : W3.output = w9.output) : Made ps k r s n f v W2 W3 v9 r9 s9 := by
  have hzz : W.heap.size = W2.heap.size + 3 := by rw [hst.heap]; simp
  obtain ⟨t1, t2, t3⟩ := three_allocs W2 X Y Z
  have hbW : Below W2.heap.size W2 (((W2.alloc X).alloc Y).alloc Z) := (((Below.refl _ _).alloc (Nat.le_refl _) _).alloc (by simp) _).alloc (by simp; omega) _
  have hold : ∀ g, g < W2.heap.size → W.heap[g]? = W2.heap[g]? := fun g hg => by rw [hst.heap]; exact hbW.block g hg
  have hvl := hw0.lt
  have hown : ∀ g, v9.ownBlock = some g → v.ownBlock = some g ∨ W2.heap.size + 3 ≤ g := fun g e => by
    rcases hh with ⟨q, h1, h2, _⟩ | ⟨h2, _⟩
    · rw [h2] at e; injection e with e; subst e; exact .inl h1
    · rw [h2] at e; injection e with e; right; omega
  have hnew : ∀ g, W2.heap.size ≤ g → g < W2.heap.size + 3 → W3.heap[g]? = (((W2.alloc X).alloc Y).alloc Z).heap[g]? := fun g h1 h2 => by
    rw [eh, setCell_else _ _ _ _ _ (by omega), ← hst.heap]
    exact hh.old (by omega) (fun e => by have := hvl g e; omega)
  have hnn : v9.ownBlock ≠ some ps := fun e => by
    rcases hown ps e with q | q
    · exact hap q
    · omega
  have hpw : w9.heap[ps]? = W2.heap[ps]? := (hh.old (by omega) hap).trans (hold ps hps)
  have hsz : W2.heap.size ≤ W3.heap.size := by
    rw [eh, World.size_setCell]
    rcases hh with ⟨_, _, _, h3, _⟩ | ⟨_, h3, _⟩ <;> omega
  obtain ⟨x, c1⟩ := c1
  have hL : Line W3 3 r9 r (fun _ => .int .i64 0) ∧ Line W3 30 s9 s (fun _ => .int .u64 0) ∧ (∀ g, r9.ownBlock = some g → W2.heap.size ≤ g ∧ g < W2.heap.size + 2) ∧ (∀ g, s9.ownBlock = some g → W2.heap.size ≤ g ∧ g < W2.heap.size + 2) ∧ (∀ g, r9.ownBlock = some g → s9.ownBlock ≠ some g) := by
    rcases hXY with ⟨rfl, rfl, rfl, rfl⟩ | ⟨rfl, rfl, rfl, rfl⟩
    · refine ⟨made_line ((hnew _ (by omega) (by omega)).trans t1) hr, made_line ((hnew _ (by omega) (by omega)).trans t2) hs, fun g e => ?_, fun g e => ?_, fun g e e' => ?_⟩
      · simp [Value.ownBlock] at e; omega
      · simp [Value.ownBlock] at e; omega
      · simp [Value.ownBlock] at e e'; omega
    · refine ⟨made_line ((hnew _ (by omega) (by omega)).trans t2) hr, made_line ((hnew _ (by omega) (by omega)).trans t1) hs, fun g e => ?_, fun g e => ?_, fun g e e' => ?_⟩
      · simp [Value.ownBlock] at e; omega
      · simp [Value.ownBlock] at e; omega
      · simp [Value.ownBlock] at e e'; omega
  obtain ⟨l1, l2, l3, l4, l5⟩ := hL
  have hcell : ∀ q, w9.cell? ⟨ps, q, none⟩ = W2.cell? ⟨ps, q, none⟩ := fun q => by simp only [World.cell?, hpw]
  exact {
    wide := hv9.same fun g e => by rw [eh, setCell_else _ _ _ _ _ (by rintro rfl; exact hnn e)]
    refs := l1
    raws := l2
    own := fun g e => (hown g e).imp id (fun q => by omega)
    ro := fun g e => (l3 g e).1
    so := fun g e => (l4 g e).1
    vr := fun g e e' => by
      have := l3 g e'
      rcases hown g e with q | q
      · have := hvl g q; omega
      · omega
    vs := fun g e e' => by
      have := l4 g e'
      rcases hown g e with q | q
      · have := hvl g q; omega
      · omega
    rs := l5
    c1 := by
      have := World.cell?_setCell_same' w9 ⟨ps, 1, none⟩ v9 (by rw [hcell, c1]; rfl)
      rw [← this]; simp only [World.cell?, eh]
    cc := fun q hq => by
      have h1 : W3.cell? ⟨ps, q, none⟩ = (w9.setCell ⟨ps, 1, none⟩ v9).cell? ⟨ps, q, none⟩ := by simp only [World.cell?, eh]
      rw [h1, World.cell?_setCell_other _ _ _ _ (by simp), hcell]
    ff := fun q => by
      have h1 : W3.frozen? ⟨ps, q, none⟩ = (w9.setCell ⟨ps, 1, none⟩ v9).frozen? ⟨ps, q, none⟩ := by simp only [World.frozen?, eh]
      rw [h1, World.frozen?_setCell]
      simp only [World.frozen?, hpw]
    os := e1.trans (q9.1.trans (hst.os.trans hbW.os))
    tape := e2.trans (q9.2.1.trans (hst.tape.trans hbW.tape))
    output := e3.trans (q9.2.2.trans (hst.output.trans hbW.output))
    size := hsz
    blk := fun g hg hgp hgv => by
      rw [eh, setCell_else _ _ _ _ _ hgp, hh.old (by omega) hgv, hold g hg] }
theorem makes_ok {w : World} {ps ph : Nat} (dd : Int) (k r s : Nat) (hh gg : Int) (vv : Nat) (dv : Value) (hk : 1 ≤ k ∧ k ≤ 255) (hr : r ≤ 1048576) (hs : s ≤ 1048576) (c0 : w.cell? ⟨ps, 0, none⟩ = some (.pointer (some ⟨ph, 0, none⟩))) (c4 : ∃ x, w.cell? ⟨ps, 4, none⟩ = some x) (f4 : w.frozen? ⟨ps, 4, none⟩ = false)
    {aN : Option Addr} {n cN : Nat} (c1 : w.cell? ⟨ps, 1, none⟩ = some (.slice aN n cN)) (f1 : w.frozen? ⟨ps, 1, none⟩ = false) (hn : n ≤ 1000000) {f : Nat → Value} {G : Nat → World → Prop} {R : World → Prop} (hap : (Value.slice aN n cN).ownBlock ≠ some ps) (hlt : (Value.slice aN n cN).ownBlock ≠ some w.heap.size)
    (HA : ∀ W, Still (w.alloc (mvB dd k r s hh gg vv dv)) W → Calls Tryz.prog 25 #[.pointer (some ⟨ph, 0, none⟩), .int .i64 (k : Nat), .int .i64 (r : Nat), .int .i64 (s : Nat)] W fun e w' => ∃ v : Nat, e = .returned (.tuple #[.int .u64 (v : Nat), .int .i64 0]) ∧ w'.heap[ps]? = W.heap[ps]? ∧ w'.heap[w.heap.size]? = W.heap[w.heap.size]? ∧ G v w')
    (HW : ∀ v w1, G v w1 → Wide w1 69 3 (.slice aN n cN) n f)
    (HR : ∀ v w1 W3 v9 r9 s9, G v w1 → Made ps k r s n f (.slice aN n cN) (w1.setCell ⟨ps, 4, none⟩ (.int .i64 0)) W3 v9 r9 s9 → Calls Tryz.prog 59 #[.pointer (some ⟨ps, 0, none⟩), .int .u64 (v : Nat), .int .i64 (n : Nat)] W3 fun e w' => e = .returned (.bool true) ∧ R w') : 
    Calls Tryz.prog 31 #[.pointer (some ⟨ps, 0, none⟩), mvV dd k r s hh gg vv dv] w fun e w' => e = .returned (.bool true) ∧ R w' := by
  obtain ⟨x4, c4⟩ := c4
  have bx := Boxed.new w dd k r s hh gg vv dv
  obtain ⟨m0, m1, m2, m3, m4, m5, m6, m7⟩ := bx
  have hpl := block_lt_of_cell c0
  have hold : ∀ i, (w.alloc (mvB dd k r s hh gg vv dv)).cell? ⟨ps, i, none⟩ = w.cell? ⟨ps, i, none⟩ := fun i => by simp only [World.cell?, heap_alloc_old w _ hpl]
  have holdf : ∀ i, (w.alloc (mvB dd k r s hh gg vv dv)).frozen? ⟨ps, i, none⟩ = w.frozen? ⟨ps, i, none⟩ := fun i => by simp only [World.frozen?, heap_alloc_old w _ hpl]
  have c0' := (hold 0).trans c0
  have c1' := (hold 1).trans c1
  have c4' := (hold 4).trans c4
  have f4' := (holdf 4).trans f4
  have f1' := (holdf 1).trans f1
  have hne : ps ≠ w.heap.size := Nat.ne_of_lt hpl
  have H1 : Hid (∀ W, Still (w.alloc (mvB dd k r s hh gg vv dv)) W → Calls Tryz.prog 25 #[.pointer (some ⟨ph, 0, none⟩), .int .i64 (k : Nat), .int .i64 (r : Nat), .int .i64 (s : Nat)] W fun e w' => ∃ v : Nat, e = .returned (.tuple #[.int .u64 (v : Nat), .int .i64 0]) ∧ w'.cell? ⟨ps, 0, none⟩ = some (.pointer (some ⟨ph, 0, none⟩)) ∧ w'.cell? ⟨w.heap.size, 1, none⟩ = some (.int .i64 (k : Nat)) ∧ w'.cell? ⟨w.heap.size, 2, none⟩ = some (.int .i64 (r : Nat)) ∧ w'.cell? ⟨w.heap.size, 3, none⟩ = some (.int .i64 (s : Nat)) ∧ w'.cell? ⟨ps, 4, none⟩ = some x4 ∧ w'.frozen? ⟨ps, 4, none⟩ = false ∧ Hid (w'.cell? ⟨ps, 1, none⟩ = some (.slice aN n cN) ∧ w'.frozen? ⟨ps, 1, none⟩ = false ∧ G v w' ∧ w.heap.size < w'.heap.size)) := hide (fun W hW => (HA W hW).mono fun e w' ⟨v, q1, q2, q3, q4⟩ => by
    have e1 : w'.heap[ps]? = (w.alloc (mvB dd k r s hh gg vv dv)).heap[ps]? := q2.trans (by rw [hW.heap])
    have e2 : w'.heap[w.heap.size]? = (w.alloc (mvB dd k r s hh gg vv dv)).heap[w.heap.size]? := q3.trans (by rw [hW.heap])
    have n1 : w'.cell? ⟨w.heap.size, 1, none⟩ = some (.int .i64 (k : Nat)) := by rw [← m1]; simp only [World.cell?, e2]
    refine ⟨v, q1, ?_, n1, ?_, ?_, ?_, ?_, hide ⟨?_, ?_, q4, block_lt_of_cell n1⟩⟩
    · rw [← c0']; simp only [World.cell?, e1]
    · rw [← m2]; simp only [World.cell?, e2]
    · rw [← m3]; simp only [World.cell?, e2]
    · rw [← c4']; simp only [World.cell?, e1]
    · rw [← f4']; simp only [World.frozen?, e1]
    · rw [← c1']; simp only [World.cell?, e1]
    · rw [← f1']; simp only [World.frozen?, e1])
  have d1 : decide ((k : Int) < 1) = false := decide_eq_false (by omega)
  have d2 : decide ((255 : Int) < (k : Nat)) = false := decide_eq_false (by omega)
  have d3 : decide ((r : Int) < 0) = false := decide_eq_false (by omega)
  have d4 : decide ((1048576 : Int) < (r : Nat)) = false := decide_eq_false (by omega)
  have d5 : decide ((s : Int) < 0) = false := decide_eq_false (by omega)
  have d6 : decide ((1048576 : Int) < (s : Nat)) = false := decide_eq_false (by omega)
  have mk1 := fun w' => run_make_row' (P := Tryz.prog) 40 3 (.int .i64 0) 8 Tryz.underlying40 Tryz.info3 rfl .i64 .i64 r (by omega) (by omega) w'
  have mk2 := fun w' => run_make_row' (P := Tryz.prog) 44 30 (.int .u64 0) 8 Tryz.underlying44 Tryz.info30 rfl .i64 .i64 s (by omega) (by omega) w'
  obtain ⟨i0, hi, hy0, hy1, hy2⟩ := info_parts Tryz.info69
  have HW' := hide HW
  have HR' := hide HR
  have HP := hide hap
  have HNB := hide hlt
  unfold mvV
  unfold mvB at H1 m1 m2 m3 c0'
  clear HA HW HR hap hlt m0 m4 m5 m6 m7 c0 c4 f4 c4' f4' hold holdf hpl c1 f1 c1' f1'
  go_enter Tryz.func31, Tryz.ntmps31
  go_wp2_with fail
  generalize hW : World.alloc w _ = W0 at *
  generalize hB : w.heap.size = b at *
  clear hW hB
  go_region_held3 (fun w' => w'.cell? ⟨ps, 0, none⟩ = some (.pointer (some ⟨ph, 0, none⟩)) ∧ w'.cell? ⟨b, 1, none⟩ = some (.int .i64 (k : Nat)) ∧ w'.cell? ⟨b, 2, none⟩ = some (.int .i64 (r : Nat)) ∧ w'.cell? ⟨b, 3, none⟩ = some (.int .i64 (s : Nat))) (go_keep) (first | (go_at_call 25; refine (unhide H1 _ ((Still.refl _).drew _)).mono ?_; rintro e w1 ⟨v, rfl, n0, n1, n2, n3, n4, n5, hg⟩))
  clear m1 m2 m3 c0' H1
  go_wp2_with fail
  clear d1 d2 d3 d4 d5 d6
  obtain ⟨n6, n7, hG, hbl⟩ := unhide hg
  have o1 : (w1.setCell ⟨ps, 4, none⟩ (.int .i64 0)).cell? ⟨ps, 1, none⟩ = some (.slice aN n cN) := (World.cell?_setCell_other _ _ _ _ (by simp)).trans n6
  have o2 : (w1.setCell ⟨ps, 4, none⟩ (.int .i64 0)).frozen? ⟨ps, 1, none⟩ = false := by rw [World.frozen?_setCell]; exact n7
  have p1 : (w1.setCell ⟨ps, 4, none⟩ (.int .i64 0)).cell? ⟨b, 1, none⟩ = some (.int .i64 (k : Nat)) := (World.cell?_setCell_other _ _ _ _ (by simp)).trans n1
  have p2 : (w1.setCell ⟨ps, 4, none⟩ (.int .i64 0)).cell? ⟨b, 2, none⟩ = some (.int .i64 (r : Nat)) := (World.cell?_setCell_other _ _ _ _ (by simp)).trans n2
  have p3 : (w1.setCell ⟨ps, 4, none⟩ (.int .i64 0)).cell? ⟨b, 3, none⟩ = some (.int .i64 (s : Nat)) := (World.cell?_setCell_other _ _ _ _ (by simp)).trans n3
  generalize hW2 : World.setCell w1 _ _ = W2 at *
  clear n0 n1 n2 n3 n4 n5 n6 n7
  have hwide2 : Wide W2 69 3 (.slice aN n cN) n f := (unhide HW' v w1 hG).same fun g e => by rw [← hW2]; exact setCell_else _ _ _ _ _ (by rintro rfl; exact unhide HP e)
  have hpsl : ps < W2.heap.size := block_lt_of_cell o1
  have hbl2 : b < W2.heap.size := block_lt_of_cell p1
  have hbA : ∀ X Y Z W, Still (((W2.alloc X).alloc Y).alloc Z) W → Below W2.heap.size W2 W ∧ W.heap.size = W2.heap.size + 3 := fun X Y Z W k => by
    have hbW : Below W2.heap.size W2 (((W2.alloc X).alloc Y).alloc Z) := (((Below.refl _ _).alloc (Nat.le_refl _) _).alloc (by simp) _).alloc (by simp; omega) _
    exact ⟨hbW.trans (k.below.mono (by simp; omega)), by rw [k.heap]; simp⟩
  have HX : Hid (∀ X Y Z W, Still (((W2.alloc X).alloc Y).alloc Z) W → Wide W 69 3 (.slice aN n cN) n f) := hide (fun X Y Z W k => hwide2.same fun g e => (hbA X Y Z W k).1.block g (hwide2.lt g e))
  have HC : Hid (∀ X Y (us : List Value) W, Still (((W2.alloc X).alloc Y).alloc (.cells us.toArray 69)) W → ∀ j x, us[j]? = some x → W.cell? ⟨W2.heap.size + 1 + 1, j, none⟩ = some x) := hide (fun X Y us W k j x hj => by
    rw [k.cell, World.cell?_alloc_at _ _ _ _ (by simp)]
    simpa using hj)
  have HK : ∀ W, Below W2.heap.size W2 W → W.cell? ⟨ps, 1, none⟩ = some (.slice aN n cN) ∧ W.cell? ⟨b, 1, none⟩ = some (.int .i64 (k : Nat)) ∧ W.cell? ⟨b, 2, none⟩ = some (.int .i64 (r : Nat)) ∧ W.cell? ⟨b, 3, none⟩ = some (.int .i64 (s : Nat)) := fun W hbW => ⟨(hbW.cell (p := ⟨ps, 1, none⟩) hpsl).trans o1, (hbW.cell (p := ⟨b, 1, none⟩) hbl2).trans p1, (hbW.cell (p := ⟨b, 2, none⟩) hbl2).trans p2, (hbW.cell (p := ⟨b, 3, none⟩) hbl2).trans p3⟩
  have HK1 : Hid (∀ X W, Still (W2.alloc X) W → W.cell? ⟨ps, 1, none⟩ = some (.slice aN n cN) ∧ W.cell? ⟨b, 1, none⟩ = some (.int .i64 (k : Nat)) ∧ W.cell? ⟨b, 2, none⟩ = some (.int .i64 (r : Nat)) ∧ W.cell? ⟨b, 3, none⟩ = some (.int .i64 (s : Nat))) := hide (fun X W k => HK W (((Below.refl _ _).alloc (Nat.le_refl _) _).trans (k.below.mono (by simp))))
  have HK2 : Hid (∀ X Y W, Still ((W2.alloc X).alloc Y) W → W.cell? ⟨ps, 1, none⟩ = some (.slice aN n cN) ∧ W.cell? ⟨b, 1, none⟩ = some (.int .i64 (k : Nat)) ∧ W.cell? ⟨b, 2, none⟩ = some (.int .i64 (r : Nat)) ∧ W.cell? ⟨b, 3, none⟩ = some (.int .i64 (s : Nat))) := hide (fun X Y W k => HK W ((((Below.refl _ _).alloc (Nat.le_refl _) _).alloc (by simp) _).trans (k.below.mono (by simp; omega))))
  have HK3 : Hid (∀ X Y Z W, Still (((W2.alloc X).alloc Y).alloc Z) W → W.cell? ⟨ps, 1, none⟩ = some (.slice aN n cN) ∧ W.cell? ⟨b, 1, none⟩ = some (.int .i64 (k : Nat)) ∧ W.cell? ⟨b, 2, none⟩ = some (.int .i64 (r : Nat)) ∧ W.cell? ⟨b, 3, none⟩ = some (.int .i64 (s : Nat))) := hide (fun X Y Z W k => HK W (hbA X Y Z W k).1)
  have HAP : Hid (∀ X Y Z W, Still (((W2.alloc X).alloc Y).alloc Z) W → ∀ v9 w9, Grow2 (.slice aN n cN) v9 W w9 → w9.cell? ⟨b, 1, none⟩ = some (.int .i64 (k : Nat)) ∧ w9.cell? ⟨b, 2, none⟩ = some (.int .i64 (r : Nat)) ∧ w9.cell? ⟨b, 3, none⟩ = some (.int .i64 (s : Nat)) ∧ w9.cell? ⟨ps, 1, none⟩ = some (.slice aN n cN) ∧ w9.frozen? ⟨ps, 1, none⟩ = false) := hide (fun X Y Z W k v9 w9 hg => by
    obtain ⟨hbW, hzW⟩ := hbA X Y Z W k
    have e : ∀ q, q < W2.heap.size → (Value.slice aN n cN).ownBlock ≠ some q → w9.heap[q]? = W2.heap[q]? := fun q hq hn => (hg.old (by omega) hn).trans (hbW.block q hq)
    have e1 := e b hbl2 (unhide HNB)
    have e2 := e ps hpsl (unhide HP)
    refine ⟨?_, ?_, ?_, ?_, ?_⟩
    · rw [← p1]; simp only [World.cell?, e1]
    · rw [← p2]; simp only [World.cell?, e1]
    · rw [← p3]; simp only [World.cell?, e1]
    · rw [← o1]; simp only [World.cell?, e2]
    · rw [← o2]; simp only [World.frozen?, e2])
  have HM : Hid (∀ X Y Z W, Still (((W2.alloc X).alloc Y).alloc Z) W → ∀ v9 w9 r9 s9, ((X = .cells (madeCells #[.int .i64 0] r) 3 ∧ Y = .cells (madeCells #[.int .u64 0] s) 30 ∧ r9 = .slice (some ⟨W2.heap.size, 0, none⟩) r r ∧ s9 = .slice (some ⟨W2.heap.size + 1, 0, none⟩) s s) ∨ (Y = .cells (madeCells #[.int .i64 0] r) 3 ∧ X = .cells (madeCells #[.int .u64 0] s) 30 ∧ r9 = .slice (some ⟨W2.heap.size + 1, 0, none⟩) r r ∧ s9 = .slice (some ⟨W2.heap.size, 0, none⟩) s s)) →
      Wide w9 69 3 v9 (n + 1) (fun j => if j < n * 3 then f j else [Value.int .i64 (k : Nat), r9, s9].getD (j - n * 3) undef) → (w9.os = W.os ∧ w9.tape = W.tape ∧ w9.output = W.output) → Grow2 (.slice aN n cN) v9 W w9 →
      ∀ W3, W3.heap = (w9.setCell ⟨ps, 1, none⟩ v9).heap → W3.os = w9.os → W3.tape = w9.tape → W3.output = w9.output → Calls Tryz.prog 59 #[.pointer (some ⟨ps, 0, none⟩), .int .u64 (v : Nat), .int .i64 (n : Nat)] W3 fun e w' => e = .returned (.bool true) ∧ R w') := hide (fun X Y Z W hst v9 w9 r9 s9 hXY hv9 q9 hh9 W3 eh e1 e2 e3 => by
    refine unhide HR' v w1 W3 v9 r9 s9 hG ?_
    rw [hW2]
    exact made_any hst hpsl hwide2 (unhide HP) hr hs hXY hv9 q9 hh9 ⟨_, o1⟩ W3 eh e1 e2 e3)
  have nw1 := World.new_ne W2 ⟨b, 1, none⟩ p1
  have nw2 := World.new_ne W2 ⟨b, 2, none⟩ p2
  have nw3 := World.new_ne W2 ⟨b, 3, none⟩ p3
  have nw4 := World.new_ne W2 ⟨ps, 1, none⟩ o1
  have sub1 : IntKind.i64.wrap (((n + 1 : Nat) : Int) - 1) = (n : Int) := by rw [show ((n + 1 : Nat) : Int) - 1 = (n : Int) by omega]; exact wrap_nat _ (by omega)
  clear hbA HK HR' HW' hg hwide2 hG hW2 hbl HNB HP
  have hS : (fun w' => w'.cell? ⟨ps, 1, none⟩ = some (.slice aN n cN) ∧ w'.cell? ⟨b, 1, none⟩ = some (.int .i64 (k : Nat)) ∧ w'.cell? ⟨b, 2, none⟩ = some (.int .i64 (r : Nat)) ∧ w'.cell? ⟨b, 3, none⟩ = some (.int .i64 (s : Nat))) W2.drew := ⟨o1, p1, p2, p3⟩
  refine till_begin (fun w' => w'.cell? ⟨ps, 1, none⟩ = some (.slice aN n cN) ∧ w'.cell? ⟨b, 1, none⟩ = some (.int .i64 (k : Nat)) ∧ w'.cell? ⟨b, 2, none⟩ = some (.int .i64 (r : Nat)) ∧ w'.cell? ⟨b, 3, none⟩ = some (.int .i64 (s : Nat))) 18 (by kernel_rfl) ?_
  refine AnyTill.take 0 (v := ?_) rfl (by kernel_rfl) (by kernel_rfl) (by kernel_rfl) (by kernel_rfl) (fun _ _ _ h => h) ?_ rfl hS ?_
  rotate_left
  · intro w hSw
    obtain ⟨s1, s2, s3, s4⟩ := hSw
    go_simp
    all_goals with_reducible rfl
  try simp only [Act.put, List.setIfInBounds_toArray, List.set_cons_zero, List.set_cons_succ]
  refine AnyTill.take 1 (v := ?_) rfl (by kernel_rfl) (by kernel_rfl) (by kernel_rfl) (by kernel_rfl) (fun _ _ _ h => h) ?_ rfl hS ?_
  rotate_left
  · intro w hSw
    obtain ⟨s1, s2, s3, s4⟩ := hSw
    go_simp
    all_goals with_reducible rfl
  try simp only [Act.put, List.setIfInBounds_toArray, List.set_cons_zero, List.set_cons_succ]
  refine AnyTill.take 2 (v := ?_) rfl (by kernel_rfl) (by kernel_rfl) (by kernel_rfl) (by kernel_rfl) (fun _ _ _ h => h) ?_ rfl hS ?_
  rotate_left
  · intro w hSw
    obtain ⟨s1, s2, s3, s4⟩ := hSw
    go_simp
    all_goals with_reducible rfl
  try simp only [Act.put, List.setIfInBounds_toArray, List.set_cons_zero, List.set_cons_succ]
  refine AnyTill.take 3 (v := ?_) rfl (by kernel_rfl) (by kernel_rfl) (by kernel_rfl) (by kernel_rfl) (fun _ _ _ h => h) ?_ rfl hS ?_
  rotate_left
  · intro w hSw
    obtain ⟨s1, s2, s3, s4⟩ := hSw
    go_simp
    all_goals with_reducible rfl
  try simp only [Act.put, List.setIfInBounds_toArray, List.set_cons_zero, List.set_cons_succ]
  refine AnyTill.take 4 (v := ?_) rfl (by kernel_rfl) (by kernel_rfl) (by kernel_rfl) (by kernel_rfl) (fun _ _ _ h => h) ?_ rfl hS ?_
  rotate_left
  · intro w hSw
    obtain ⟨s1, s2, s3, s4⟩ := hSw
    go_simp
    all_goals with_reducible rfl
  try simp only [Act.put, List.setIfInBounds_toArray, List.set_cons_zero, List.set_cons_succ]
  refine AnyTill.take 5 (v := ?_) rfl (by kernel_rfl) (by kernel_rfl) (by kernel_rfl) (by kernel_rfl) (fun _ _ _ h => h) ?_ rfl hS ?_
  rotate_left
  · intro w hSw
    obtain ⟨s1, s2, s3, s4⟩ := hSw
    go_simp
    all_goals with_reducible rfl
  try simp only [Act.put, List.setIfInBounds_toArray, List.set_cons_zero, List.set_cons_succ]
  refine AnyTill.take 6 (v := ?_) rfl (by kernel_rfl) (by kernel_rfl) (by kernel_rfl) (by kernel_rfl) (fun _ _ _ h => h) ?_ rfl hS ?_
  rotate_left
  · intro w hSw
    obtain ⟨s1, s2, s3, s4⟩ := hSw
    go_simp
    all_goals with_reducible rfl
  try simp only [Act.put, List.setIfInBounds_toArray, List.set_cons_zero, List.set_cons_succ]
  refine AnyTill.take 7 (v := ?_) rfl (by kernel_rfl) (by kernel_rfl) (by kernel_rfl) (by kernel_rfl) (fun _ _ _ h => h) ?_ rfl hS ?_
  rotate_left
  · intro w hSw
    obtain ⟨s1, s2, s3, s4⟩ := hSw
    go_simp
    all_goals with_reducible rfl
  try simp only [Act.put, List.setIfInBounds_toArray, List.set_cons_zero, List.set_cons_succ]
  refine AnyTill.take 8 (v := ?_) rfl (by kernel_rfl) (by kernel_rfl) (by kernel_rfl) (by kernel_rfl) (fun _ _ _ h => h) ?_ rfl hS ?_
  rotate_left
  · intro w hSw
    obtain ⟨s1, s2, s3, s4⟩ := hSw
    go_simp
    all_goals with_reducible rfl
  try simp only [Act.put, List.setIfInBounds_toArray, List.set_cons_zero, List.set_cons_succ]
  refine AnyTill.take 10 (v := ?_) rfl (by kernel_rfl) (by kernel_rfl) (by kernel_rfl) (by kernel_rfl) (fun _ _ _ h => h) ?_ rfl hS ?_
  rotate_left
  · intro w hSw
    obtain ⟨s1, s2, s3, s4⟩ := hSw
    go_simp
    all_goals with_reducible rfl
  try simp only [Act.put, List.setIfInBounds_toArray, List.set_cons_zero, List.set_cons_succ]
  refine AnyTill.take 11 (v := ?_) rfl (by kernel_rfl) (by kernel_rfl) (by kernel_rfl) (by kernel_rfl) (fun _ _ _ h => h) ?_ rfl hS ?_
  rotate_left
  · intro w hSw
    obtain ⟨s1, s2, s3, s4⟩ := hSw
    go_simp
    all_goals with_reducible rfl
  try simp only [Act.put, List.setIfInBounds_toArray, List.set_cons_zero, List.set_cons_succ]
  refine AnyTill.two (i := 9) (j := 12) (by kernel_rfl) ?_ ?_
  · refine AnyTill.op rfl rfl fun K hK => ?_
    go_simp
    refine hK _ _ (fun _ => unhide HK1 _ _ ((Still.refl _).drew _)) ?_
    clear hK K
    try simp only [Act.put, List.setIfInBounds_toArray, List.set_cons_zero, List.set_cons_succ]
    refine AnyTill.one (i := 12) (by kernel_rfl) (AnyTill.op rfl rfl fun K hK => ?_)
    go_simp
    refine hK _ _ (fun _ => unhide HK2 _ _ _ ((Still.refl _).drew _)) ?_
    clear hK K
    try simp only [Act.put, List.setIfInBounds_toArray, List.set_cons_zero, List.set_cons_succ]
    refine AnyTill.take 13 (v := ?_) rfl (by kernel_rfl) (by kernel_rfl) (by kernel_rfl) (by kernel_rfl) (fun _ _ _ h => h) ?_ rfl (unhide HK2 _ _ _ ((Still.refl _).drew _)) ?_
    rotate_left
    · intro w hSw
      obtain ⟨s1, s2, s3, s4⟩ := hSw
      go_simp
      all_goals with_reducible rfl
    try simp only [Act.put, List.setIfInBounds_toArray, List.set_cons_zero, List.set_cons_succ]
    refine AnyTill.one (i := 14) (by kernel_rfl) (AnyTill.op rfl rfl fun K hK => ?_)
    go_simp
    refine hK _ _ (fun _ => unhide HK3 _ _ _ _ ((Still.refl _).drew _)) ?_
    clear hK K
    try simp only [Act.put, List.setIfInBounds_toArray, List.set_cons_zero, List.set_cons_succ]
    refine AnyTill.one (i := 15) (by kernel_rfl) (AnyTill.law rfl rfl fun K hK => ?_)
    refine step_append_wide rfl (.tmp 71) (.tmp 81) 39 rfl 69 i0 _ 3 56 Tryz.underlying39 hi hy0 hy1 hy2 rfl (.slice aN n cN) n f (by simp [Act.eval]) (unhide HX _ _ _ _ ((Still.refl _).drew _)) (W2.heap.size + 1 + 1) (by simp [Act.eval]) _ (by rfl) (unhide HC _ _ _ _ ((Still.refl _).drew _)) (by intro x hx'; simp only [List.mem_cons, List.not_mem_nil, or_false] at hx'; rcases hx' with rfl | rfl | rfl <;> rfl) (by omega) (by omega) ?_
    intro v9 w9 hv9 q9 hh9
    obtain ⟨a9, c9, rfl⟩ := hv9.shape
    obtain ⟨z1, z2, z3, z4, z5⟩ := unhide HAP _ _ _ _ ((Still.refl _).drew _) _ _ hh9
    have HF := unhide HM _ _ _ _ ((Still.refl _).drew _) _ _ _ _ (.inl ⟨rfl, rfl, rfl, rfl⟩) hv9 q9 hh9
    have HF := hide HF
    refine hK _ _ (fun _ => ⟨z4, z1, z2, z3⟩) ?_
    clear hK K
    try simp only [Act.put, List.getElem_toArray, List.getElem_cons_succ, List.getElem_cons_zero, List.setIfInBounds_toArray, List.set_cons_zero, List.set_cons_succ]
    clear hv9 q9 hh9
    refine AnyTill.one (i := 16) (by kernel_rfl) (AnyTill.op rfl rfl fun K hK => ?_)
    go_simp
    refine hK _ _ (fun _ => ⟨z4, z1, z2, z3⟩) ?_
    clear hK K
    try simp only [Act.put, List.getElem_toArray, List.getElem_cons_succ, List.getElem_cons_zero, List.setIfInBounds_toArray, List.set_cons_zero, List.set_cons_succ]
    refine AnyTill.one (i := 17) (by kernel_rfl) (AnyTill.op rfl rfl fun K hK => ?_)
    go_simp
    refine hK _ _ (fun _ => ⟨z4, z1, z2, z3⟩) ?_
    clear hK K
    try simp only [Act.put, List.getElem_toArray, List.getElem_cons_succ, List.getElem_cons_zero, List.setIfInBounds_toArray, List.set_cons_zero, List.set_cons_succ]
    refine AnyTill.one (i := 18) (by kernel_rfl) (AnyTill.op rfl rfl fun K hK => ?_)
    go_simp
    refine hK _ _ (fun h => absurd rfl h) ?_
    clear hK K
    try simp only [Act.put, List.getElem_toArray, List.getElem_cons_succ, List.getElem_cons_zero, List.setIfInBounds_toArray, List.set_cons_zero, List.set_cons_succ]
    refine AnyTill.done (by kernel_rfl) ?_
    have y1 := World.cell?_setCell_same' w9 ⟨ps, 1, none⟩ (.slice a9 (n + 1) c9) (by rw [z4]; rfl)
    go_wp2_with fail
    refine (unhide HF _ rfl rfl rfl rfl).mono ?_
    rintro e w' ⟨rfl, hr'⟩
    go_wp2
    go_ret
    exact ⟨rfl, hr'⟩
  · refine AnyTill.op rfl rfl fun K hK => ?_
    go_simp
    refine hK _ _ (fun _ => unhide HK1 _ _ ((Still.refl _).drew _)) ?_
    clear hK K
    try simp only [Act.put, List.setIfInBounds_toArray, List.set_cons_zero, List.set_cons_succ]
    refine AnyTill.one (i := 9) (by kernel_rfl) (AnyTill.op rfl rfl fun K hK => ?_)
    go_simp
    refine hK _ _ (fun _ => unhide HK2 _ _ _ ((Still.refl _).drew _)) ?_
    clear hK K
    try simp only [Act.put, List.setIfInBounds_toArray, List.set_cons_zero, List.set_cons_succ]
    refine AnyTill.take 13 (v := ?_) rfl (by kernel_rfl) (by kernel_rfl) (by kernel_rfl) (by kernel_rfl) (fun _ _ _ h => h) ?_ rfl (unhide HK2 _ _ _ ((Still.refl _).drew _)) ?_
    rotate_left
    · intro w hSw
      obtain ⟨s1, s2, s3, s4⟩ := hSw
      go_simp
      all_goals with_reducible rfl
    try simp only [Act.put, List.setIfInBounds_toArray, List.set_cons_zero, List.set_cons_succ]
    refine AnyTill.one (i := 14) (by kernel_rfl) (AnyTill.op rfl rfl fun K hK => ?_)
    go_simp
    refine hK _ _ (fun _ => unhide HK3 _ _ _ _ ((Still.refl _).drew _)) ?_
    clear hK K
    try simp only [Act.put, List.setIfInBounds_toArray, List.set_cons_zero, List.set_cons_succ]
    refine AnyTill.one (i := 15) (by kernel_rfl) (AnyTill.law rfl rfl fun K hK => ?_)
    refine step_append_wide rfl (.tmp 71) (.tmp 81) 39 rfl 69 i0 _ 3 56 Tryz.underlying39 hi hy0 hy1 hy2 rfl (.slice aN n cN) n f (by simp [Act.eval]) (unhide HX _ _ _ _ ((Still.refl _).drew _)) (W2.heap.size + 1 + 1) (by simp [Act.eval]) _ (by rfl) (unhide HC _ _ _ _ ((Still.refl _).drew _)) (by intro x hx'; simp only [List.mem_cons, List.not_mem_nil, or_false] at hx'; rcases hx' with rfl | rfl | rfl <;> rfl) (by omega) (by omega) ?_
    intro v9 w9 hv9 q9 hh9
    obtain ⟨a9, c9, rfl⟩ := hv9.shape
    obtain ⟨z1, z2, z3, z4, z5⟩ := unhide HAP _ _ _ _ ((Still.refl _).drew _) _ _ hh9
    have HF := unhide HM _ _ _ _ ((Still.refl _).drew _) _ _ _ _ (.inr ⟨rfl, rfl, rfl, rfl⟩) hv9 q9 hh9
    have HF := hide HF
    refine hK _ _ (fun _ => ⟨z4, z1, z2, z3⟩) ?_
    clear hK K
    try simp only [Act.put, List.getElem_toArray, List.getElem_cons_succ, List.getElem_cons_zero, List.setIfInBounds_toArray, List.set_cons_zero, List.set_cons_succ]
    clear hv9 q9 hh9
    refine AnyTill.one (i := 16) (by kernel_rfl) (AnyTill.op rfl rfl fun K hK => ?_)
    go_simp
    refine hK _ _ (fun _ => ⟨z4, z1, z2, z3⟩) ?_
    clear hK K
    try simp only [Act.put, List.getElem_toArray, List.getElem_cons_succ, List.getElem_cons_zero, List.setIfInBounds_toArray, List.set_cons_zero, List.set_cons_succ]
    refine AnyTill.one (i := 17) (by kernel_rfl) (AnyTill.op rfl rfl fun K hK => ?_)
    go_simp
    refine hK _ _ (fun _ => ⟨z4, z1, z2, z3⟩) ?_
    clear hK K
    try simp only [Act.put, List.getElem_toArray, List.getElem_cons_succ, List.getElem_cons_zero, List.setIfInBounds_toArray, List.set_cons_zero, List.set_cons_succ]
    refine AnyTill.one (i := 18) (by kernel_rfl) (AnyTill.op rfl rfl fun K hK => ?_)
    go_simp
    refine hK _ _ (fun h => absurd rfl h) ?_
    clear hK K
    try simp only [Act.put, List.getElem_toArray, List.getElem_cons_succ, List.getElem_cons_zero, List.setIfInBounds_toArray, List.set_cons_zero, List.set_cons_succ]
    refine AnyTill.done (by kernel_rfl) ?_
    have y1 := World.cell?_setCell_same' w9 ⟨ps, 1, none⟩ (.slice a9 (n + 1) c9) (by rw [z4]; rfl)
    go_wp2_with fail
    refine (unhide HF _ rfl rfl rfl rfl).mono ?_
    rintro e w' ⟨rfl, hr'⟩
    go_wp2
    go_ret
    exact ⟨rfl, hr'⟩
end Go.Proofs.YtidfllgaeiopjaaGreat
namespace Go.Proofs.YtidfllgaeiopjaaGreat
open Go.ChangeShapes Go.WideShapes Go.ChangeAt Go.RowKit
set_option linter.unusedVariables false
set_option linter.unusedSimpArgs false
set_option maxRecDepth 100000
set_option maxHeartbeats 1000000

theorem room_any {w : World} {ps px : Nat} {W G lim : Nat} (c3 : w.cell? ⟨px, 3, none⟩ = some (.int .i64 (W : Nat))) (c4 : w.cell? ⟨px, 4, none⟩ = some (.int .i64 (G : Nat))) (l3 : w.cell? ⟨ps, 3, none⟩ = some (.int .i64 (lim : Nat))) (hW : W ≤ 10000000) (hG : G ≤ 10000000) (hL : lim ≤ 10000000) (hGL : G ≤ lim) (dd A : Int) (b c : Nat) (hb : b ≤ 1048576) (hc : c ≤ 1048576) (hh gg : Int) (vv : Nat) (dv : Value) (u : Bool)
    (hu : u = true ↔ ((1 + b + c ≤ 64 ∧ 2 * (W + (1 + b + c)) + G ≤ lim) ∨ (64 < 1 + b + c ∧ G + (1 + b + c) + 1 + 2 * W ≤ lim ∧ G + (1 + b + c) + 1 + 128 ≤ lim))) :
    Calls Tryz.prog 20 #[.pointer (some ⟨ps, 0, none⟩), .pointer (some ⟨px, 0, none⟩), mvV dd A (b : Nat) (c : Nat) hh gg vv dv] w fun e w' => e = .returned (.bool u) ∧ Below w.heap.size w w' := by
  have bx := Boxed.new w dd A (b : Nat) (c : Nat) hh gg vv dv
  obtain ⟨_, _, m2, m3, _, _, _, _⟩ := bx
  have HB : Hid (Below w.heap.size w (w.alloc (mvB dd A (b : Nat) (c : Nat) hh gg vv dv))) := hide ((Below.refl _ _).alloc (Nat.le_refl _) _)
  have hold : ∀ g i x, w.cell? ⟨g, i, none⟩ = some x → (w.alloc (mvB dd A (b : Nat) (c : Nat) hh gg vv dv)).cell? ⟨g, i, none⟩ = some x := fun g i x h => by rw [← h]; simp only [World.cell?, heap_alloc_old w _ (block_lt_of_cell h)]
  have c3' := hold _ _ _ c3
  have c4' := hold _ _ _ c4
  have l3' := hold _ _ _ l3
  have a1 : IntKind.i64.wrap (1 + (b : Int)) = 1 + (b : Int) := wrap_small _ (by omega) (by omega)
  have a2 : IntKind.i64.wrap (1 + (b : Int) + (c : Int)) = 1 + (b : Int) + (c : Int) := wrap_small _ (by omega) (by omega)
  have a3 : IntKind.i64.wrap ((W : Int) + (1 + (b : Int) + (c : Int))) = (W : Int) + (1 + (b : Int) + (c : Int)) := wrap_small _ (by omega) (by omega)
  have a4 : IntKind.i64.wrap (2 * ((W : Int) + (1 + (b : Int) + (c : Int)))) = 2 * ((W : Int) + (1 + (b : Int) + (c : Int))) := wrap_small _ (by omega) (by omega)
  have a5 : IntKind.i64.wrap ((lim : Int) - (G : Int)) = (lim : Int) - (G : Int) := wrap_small _ (by omega) (by omega)
  have a6 : IntKind.i64.wrap ((G : Int) + (1 + (b : Int) + (c : Int))) = (G : Int) + (1 + (b : Int) + (c : Int)) := wrap_small _ (by omega) (by omega)
  have a7 : IntKind.i64.wrap ((G : Int) + (1 + (b : Int) + (c : Int)) + 1) = (G : Int) + (1 + (b : Int) + (c : Int)) + 1 := wrap_small _ (by omega) (by omega)
  have a8 : IntKind.i64.wrap (2 * (W : Int)) = 2 * (W : Int) := wrap_small _ (by omega) (by omega)
  have a9 : IntKind.i64.wrap ((G : Int) + (1 + (b : Int) + (c : Int)) + 1 + 2 * (W : Int)) = (G : Int) + (1 + (b : Int) + (c : Int)) + 1 + 2 * (W : Int) := wrap_small _ (by omega) (by omega)
  have a10 : IntKind.i64.wrap ((G : Int) + (1 + (b : Int) + (c : Int)) + 1 + 128) = (G : Int) + (1 + (b : Int) + (c : Int)) + 1 + 128 := wrap_small _ (by omega) (by omega)
  have HU := hide hu
  unfold mvV
  unfold mvB at m2 m3 HB c3' c4' l3'
  clear hold c3 c4 l3 hu
  by_cases hn : 1 + b + c ≤ 64
  · have d1 : decide (1 + (b : Int) + (c : Int) ≤ 64) = true := decide_eq_true (by omega)
    have d2 : decide (2 * ((W : Int) + (1 + (b : Int) + (c : Int))) ≤ (lim : Int) - (G : Int)) = u := by
      have := unhide HU
      cases u
      · exact decide_eq_false fun h => by simp at this; omega
      · exact decide_eq_true (by simp at this; omega)
    generalize hWd : World.alloc w _ = W0 at *
    go_enter Tryz.func20, Tryz.ntmps20
    go_wp2_with fail
    (try rw [hWd])
    clear hWd
    go_region_held3 (fun w' => w'.cell? ⟨px, 3, none⟩ = some (.int .i64 (W : Nat)) ∧ w'.cell? ⟨px, 4, none⟩ = some (.int .i64 (G : Nat)) ∧ w'.cell? ⟨ps, 3, none⟩ = some (.int .i64 (lim : Nat))) (go_keep) (fail)
    all_goals go_wp2_with fail
    all_goals go_ret
    all_goals exact ⟨by simp [d2, a10, show IntKind.i64.wrap 128 = 128 from rfl], by first | exact unhide HB | exact (unhide HB).drew⟩
  · have d1 : decide (1 + (b : Int) + (c : Int) ≤ 64) = false := decide_eq_false (by omega)
    by_cases hw : W < 64
    · have d3 : decide ((W : Int) < 64) = true := decide_eq_true (by omega)
      have d2 : decide ((G : Int) + (1 + (b : Int) + (c : Int)) + 1 + 128 ≤ (lim : Int)) = u := by
        have := unhide HU
        cases u
        · exact decide_eq_false fun h => by simp at this; omega
        · exact decide_eq_true (by simp at this; omega)
      generalize hWd : World.alloc w _ = W0 at *
      go_enter Tryz.func20, Tryz.ntmps20
      go_wp2_with fail
      (try rw [hWd])
      clear hWd
      go_region_held3 (fun w' => w'.cell? ⟨px, 3, none⟩ = some (.int .i64 (W : Nat)) ∧ w'.cell? ⟨px, 4, none⟩ = some (.int .i64 (G : Nat)) ∧ w'.cell? ⟨ps, 3, none⟩ = some (.int .i64 (lim : Nat))) (go_keep) (fail)
      all_goals go_wp2_with fail
      all_goals go_ret
      all_goals exact ⟨by simp [d2, a10, show IntKind.i64.wrap 128 = 128 from rfl], by first | exact unhide HB | exact (unhide HB).drew⟩
    · have d3 : decide ((W : Int) < 64) = false := decide_eq_false (by omega)
      have d2 : decide ((G : Int) + (1 + (b : Int) + (c : Int)) + 1 + 2 * (W : Int) ≤ (lim : Int)) = u := by
        have := unhide HU
        cases u
        · exact decide_eq_false fun h => by simp at this; omega
        · exact decide_eq_true (by simp at this; omega)
      generalize hWd : World.alloc w _ = W0 at *
      go_enter Tryz.func20, Tryz.ntmps20
      go_wp2_with fail
      (try rw [hWd])
      clear hWd
      go_region_held3 (fun w' => w'.cell? ⟨px, 3, none⟩ = some (.int .i64 (W : Nat)) ∧ w'.cell? ⟨px, 4, none⟩ = some (.int .i64 (G : Nat)) ∧ w'.cell? ⟨ps, 3, none⟩ = some (.int .i64 (lim : Nat))) (go_keep) (fail)
      all_goals go_wp2_with fail
      all_goals go_ret
      all_goals exact ⟨by simp [d2, a10, show IntKind.i64.wrap 128 = 128 from rfl], by first | exact unhide HB | exact (unhide HB).drew⟩
end Go.Proofs.YtidfllgaeiopjaaGreat
namespace Go.Proofs.YtidfllgaeiopjaaGreat
open Go.ChangeShapes Go.WideShapes Go.ChangeAt Go.RowKit
set_option linter.unusedVariables false
set_option maxRecDepth 100000
set_option maxHeartbeats 2000000

theorem add_core {w : World} {b o n x k : Nat} {c' : List (Option Nat)} (hn : n < c'.length) (hl : c'.length ≤ 1000001) (hk : k ≤ 1000000) {G : World → Value → Value → List Nat → Prop}
    (HLow : Calls Tryz.prog 91 #[.pointer (some ⟨b, o, none⟩)] w fun e w' => e = .returned (.int .i64 (n : Nat)) ∧ ∃ vc' vf' fr', G w' vc' vf' fr' ∧ PoolRaw w' b o 149 encU (.int .u64 0) c' fr' k vc' vf') :
    Calls Tryz.prog 56 #[.pointer (some ⟨b, o, none⟩), .int .u64 (x : Nat)] w fun e w' => e = .returned (.int .i64 (n : Nat)) ∧ ∃ vc' vf' fr' w1, G w1 vc' vf' fr' ∧ PoolRaw w' b o 149 encU (.int .u64 0) (c'.set n (some x)) fr' (k + 1) vc' vf' ∧ PChg b o vc' vf' w1 w' := by
  have HL := hide HLow
  clear HLow
  go_enter Tryz.func56, Tryz.ntmps56
  go_wp2_with fail
  refine (unhide HL).mono ?_
  clear HL
  rintro e w1 ⟨rfl, vc, vf, fr, hG, h⟩
  have hbw : b < w1.heap.size := by have := block_lt_of_cell h.c0; simpa using this
  obtain ⟨g, cap, hv, hg, hc⟩ := h.row.at (by omega)
  have c0 := h.c0
  have c2 := h.c2
  have f2 := h.f2
  have e1 := (hc (n * 2) (by omega)).1
  have e2 := (hc (n * 2) (by omega)).2
  have e3 := (hc (n * 2 + 1) (by omega)).1
  have e4 := (hc (n * 2 + 1) (by omega)).2
  have HH := hide h
  have HGG := hide hG
  have hgb : g ≠ b := fun e => h.a0 (by rw [hg, e])
  have hbg : b ≠ g := Ne.symm hgb
  obtain ⟨W, hW⟩ : ∃ W, W = ((w1.setCell ⟨g, n * 2, none⟩ (.int .u64 (x : Nat))).setCell ⟨g, n * 2 + 1, none⟩ (.bool true)).setCell ⟨b, o + 2, none⟩ (.int .i64 ((k : Int) + 1)) := ⟨_, rfl⟩
  have hbl : ∀ q, q ≠ g → q ≠ b → W.heap[q]? = w1.heap[q]? := fun q h1 h2 => by rw [hW, setCell_else _ _ _ _ _ h2, setCell_else _ _ _ _ _ h1, setCell_else _ _ _ _ _ h1]
  have hcb : ∀ q, q ≠ o + 2 → W.cell? ⟨b, q, none⟩ = w1.cell? ⟨b, q, none⟩ := fun q hq => by
    rw [hW, World.cell?_setCell_other _ _ _ _ (by intro e; cases e; exact hq rfl), World.cell?_setCell_other _ _ _ _ (by intro e; cases e; exact hgb rfl), World.cell?_setCell_other _ _ _ _ (by intro e; cases e; exact hgb rfl)]
  have hfb : ∀ q, W.frozen? ⟨b, q, none⟩ = w1.frozen? ⟨b, q, none⟩ := fun q => by rw [hW, World.frozen?_setCell, World.frozen?_setCell, World.frozen?_setCell]
  have hrow : Wide W 149 2 vc (c'.set n (some x)).length (pc encU (.int .u64 0) (c'.set n (some x))) := by
    rw [List.length_set]
    have q1 := ((h.row.put hg (n * 2) (.int .u64 (x : Nat)) (by omega)).put hg (n * 2 + 1) (.bool true) (by omega)).same (w' := W) (fun q hq => by rw [hW, setCell_else _ _ _ _ _ (fun e => h.a0 (by rw [hq, e]))])
    refine q1.congr (fun j hj => ?_)
    rw [pc_set _ _ _ _ _ hn]
    rfl
  have HF := hide (show ∃ vc' vf' fr' w1, G w1 vc' vf' fr' ∧ PoolRaw W b o 149 encU (.int .u64 0) (c'.set n (some x)) fr' (k + 1) vc' vf' ∧ PChg b o vc' vf' w1 W from
    ⟨vc, vf, fr, w1, hG, ⟨(hcb o (by omega)).trans h.c0, (hcb (o + 1) (by omega)).trans h.c1, by rw [hW]; exact World.cell?_setCell_same' _ _ _ (by rw [World.cell?_setCell_other _ _ _ _ (by intro e; exact hgb (congrArg Addr.block e)), World.cell?_setCell_other _ _ _ _ (by intro e; exact hgb (congrArg Addr.block e)), h.c2]; rfl), (hfb _).trans h.f0, (hfb _).trans h.f1, (hfb _).trans h.f2, hrow, h.frl.same (fun q hq => hbl q (fun e => h.a2 g hg (by rw [← e]; exact hq)) (fun e => h.a1 (by rw [← e]; exact hq))), h.a0, h.a1, h.a2⟩,
      ⟨by rw [hW]; exact (((But.refl _ _).set ⟨g, n * 2, none⟩ (by simp [mem_gB, hg]) _).set ⟨g, n * 2 + 1, none⟩ (by simp [mem_gB, hg]) _).set ⟨b, o + 2, none⟩ (by simp) _, fun q _ _ q3 => hcb q q3, hfb⟩⟩)
  rw [hv] at c0
  clear h hG hc hbl hcb hfb hrow HH HGG
  rw [hW] at HF
  clear hW
  go_wp2
  go_ret
  exact ⟨rfl, unhide HF⟩
theorem countOf_add (c : List (Option Nat)) (n x : Nat) (hn : n < c.length) (h : c.getD n none = none) : countOf (c.set n (some x)) = countOf c + 1 := by
  unfold countOf
  induction c generalizing n with
  | nil => simp at hn
  | cons y c ih =>
    cases n with
    | zero =>
      cases y with
      | none => simp
      | some y => simp at h
    | succ n =>
      have := ih n (by simpa using hn) (by simpa using h)
      cases y <;> simp [this]
theorem countOf_le (c : List (Option Nat)) : countOf c ≤ c.length := List.length_filter_le _ _
def poolPut (c : List (Option Nat)) (n x : Nat) : List (Option Nat) := if n < c.length then c.set n (some x) else c ++ [some x]
/-- add: the lowest free number -/
theorem add_any {w : World} {b o : Nat} {c : List (Option Nat)} {fr : List Nat} {vc vf : Value} (h : PoolAt w b o 149 encU (.int .u64 0) c fr vc vf) (hlc : c.length < 1000000) (hbig : ∀ q ∈ fr, q ≤ 1099511627776) (x : Nat) :
    Calls Tryz.prog 56 #[.pointer (some ⟨b, o, none⟩), .int .u64 (x : Nat)] w fun e w' => ∃ n, e = .returned (.int .i64 (n : Nat)) ∧ c.getD n none = none ∧ (∀ q, q < n → c.getD q none ≠ none) ∧ n ≤ c.length ∧ ∃ fr' vc' vf', PoolAt w' b o 149 encU (.int .u64 0) (poolPut c n x) fr' vc' vf' ∧ (∀ q ∈ fr', q ∈ fr) ∧ fr'.length ≤ fr.length ∧ Own2 w vc vc' ∧ (∀ g, vf'.ownBlock = some g → vf.ownBlock = some g) ∧ ∃ w1, PChg b o vc vf w w1 ∧ PChg b o vc' vf' w1 w' := by
  have hcc := countOf_le c
  by_cases hp : 0 < fr.length ∧ fr.getD 0 0 < c.length
  · obtain ⟨q1, q2⟩ := h.ok.first hp.1 hp.2
    refine (add_core (n := fr.getD 0 0) (c' := c) (k := countOf c) hp.2 (by omega) (by omega) (x := x) (G := fun w1 vc' vf' fr' => vc' = vc ∧ vf'.ownBlock = vf.ownBlock ∧ (fr.getD 0 0 :: fr').Perm fr ∧ HO fr'.length (fun q => fr'.getD q 0) ∧ NChg b (o + 1) vf w w1) ((lowest_pop h.raw h.ok.ho h.lf h.lc hp.1 _ rfl hp.2).mono (fun e w' hh => ?_))).mono (fun e w' hh => ?_)
    · obtain ⟨e1, fr', vf', p1, p2, p3, p4, p5⟩ := hh
      exact ⟨e1, vc, vf', fr', ⟨rfl, p4, p1, p2, p5⟩, p3⟩
    · obtain ⟨e1, vc', vf', fr', w1, ⟨rfl, p4, p1, p2, p5⟩, p3, p6⟩ := hh
      have hl' : fr'.length + 1 = fr.length := by have := p1.length_eq; simpa using this
      have hlf := h.lf
      refine ⟨_, e1, q1, q2, by omega, fr', vc', vf', ?_, fun q hq => p1.mem_iff.1 (List.mem_cons_of_mem _ hq), by omega, fun g hg => .inl hg, fun g hg => by rw [← p4]; exact hg, w1, ⟨p5.but.over (fun q hq => ?_), fun q _ q2 _ => p5.cell q q2, p5.froz⟩, p6⟩
      · unfold poolPut
        rw [if_pos hp.2]
        rw [← countOf_add c _ x hp.2 q1] at p3
        exact p3.at (h.ok.takeFree hp.2 p1 p2) (by rw [List.length_set]; exact h.lc) (by omega)
      · simp only [List.mem_cons, List.mem_append] at hq ⊢
        rcases hq with e | e
        · exact .inl e
        · exact .inr (.inr e)
  · have hfull := h.ok.full hp
    have hx : fr.length = 0 ∨ c.length ≤ fr.getD 0 0 := by
      by_cases e : fr.length = 0
      · exact .inl e
      · exact .inr (by by_cases e2 : c.length ≤ fr.getD 0 0; exact e2; exact absurd ⟨by omega, by omega⟩ hp)
    refine (add_core (n := c.length) (c' := c ++ [none]) (k := countOf c) (by simp) (by simp; omega) (by omega) (x := x) (G := fun w1 vc' vf' fr' => fr' = [] ∧ Own2 w vc vc' ∧ (∀ g, vf'.ownBlock = some g → vf.ownBlock = some g) ∧ PChg b o vc vf w w1) ((lowest_grow h.raw h.lf h.lc hx (fun j hj => hbig _ (at_mem hj))).mono (fun e w' hh => ?_))).mono (fun e w' hh => ?_)
    · obtain ⟨e1, vc', vf', p1, p2, p3, p4⟩ := hh
      exact ⟨e1, vc', vf', [], ⟨rfl, p2, p3, p4⟩, p1⟩
    · obtain ⟨e1, vc', vf', fr', w1, ⟨rfl, p2, p3, p4⟩, p5, p6⟩ := hh
      have hset : (c ++ [none]).set c.length (some x) = c ++ [some x] := by
        rw [List.set_append_right _ _ (Nat.le_refl _), Nat.sub_self]; rfl
      refine ⟨_, e1, by rw [List.getD_eq_getElem?_getD, List.getElem?_eq_none (Nat.le_refl _)]; rfl, hfull, Nat.le_refl _, [], vc', vf', ?_, fun q hq => by simp at hq, Nat.zero_le _, p2, p3, w1, p4, p6⟩
      unfold poolPut
      rw [if_neg (Nat.lt_irrefl _)]
      have hct : countOf (c ++ [some x]) = countOf c + 1 := by unfold countOf; simp
      rw [hset, ← hct] at p5
      exact p5.at (PoolOk.grow x hfull) (by simp; omega) (by simp)
end Go.Proofs.YtidfllgaeiopjaaGreat
namespace Go.Proofs.YtidfllgaeiopjaaGreat
open Go.ChangeShapes Go.WideShapes Go.ChangeAt Go.RowKit
set_option linter.unusedVariables false
set_option maxRecDepth 100000
set_option maxHeartbeats 2000000

/-- a row cut -/
theorem Wide.cut {w : World} {e : TypeId} {sz n m : Nat} {a : Option Addr} {cap : Nat} {f : Nat → Value} (h : Wide w e sz (.slice a n cap) n f) (hm : m ≤ n) : Wide w e sz (.slice a m cap) m f := by
  rcases h with ⟨h1, h2⟩ | ⟨g', cap', cur, h1, h2, h3, h4, h5, h6⟩
  · injection h1 with e1 e2 e3
    subst e1
    subst e3
    have : m = 0 := by omega
    subst this
    exact .inl ⟨rfl, rfl⟩
  · injection h1 with e1 e2 e3
    subst e1
    subst e3
    exact .inr ⟨g', cap, cur, rfl, h2, by omega, h4, h5, fun j hj => h6 j (Nat.lt_of_lt_of_le hj (Nat.mul_le_mul_right _ hm))⟩
theorem own_cut (a : Option Addr) (n m cap : Nat) : (Value.slice a n cap).ownBlock = (Value.slice a m cap).ownBlock := by cases a <;> rfl
theorem trim_any {w : World} {b o : Nat} {c : List (Option Nat)} {fr : List Nat} {k : Nat} {vc vf : Value} (h : PoolRaw w b o 149 encU (.int .u64 0) c fr k vc vf) (lc : c.length ≤ 1000000) :
    Calls Tryz.prog 95 #[.pointer (some ⟨b, o, none⟩)] w fun e w' => e = .returned (.tuple #[]) ∧ ∃ m vc', m ≤ c.length ∧ (∀ q, m ≤ q → c.getD q none = none) ∧ (m = 0 ∨ c.getD (m - 1) none ≠ none) ∧ PoolRaw w' b o 149 encU (.int .u64 0) (c.take m) fr k vc' vf ∧ vc'.ownBlock = vc.ownBlock ∧ NChg b o vc w w' := by
  have hbw : b < w.heap.size := by have := block_lt_of_cell h.c0; simpa using this
  obtain ⟨a, cap, hv⟩ := h.row.shape
  have c0 := h.c0
  have f0 := h.f0
  have hcs : ∀ m, m < c.length → ∃ g, a = some ⟨g, 0, none⟩ ∧ w.cell? ⟨g, m * 2 + 1, none⟩ = some (.bool (c.getD m none).isSome) := fun m hm => by
    obtain ⟨g, cap', hv', hg, hc⟩ := h.row.at (by omega)
    rw [hv] at hv'
    cases hv'
    have := (hc (m * 2 + 1) (by omega)).1
    rw [pc_used] at this
    exact ⟨g, rfl, this⟩
  have hcap : c.length ≤ cap := by
    rcases h.row with ⟨h1, h2⟩ | ⟨g', cap', cur, h1, h2, h3, h4, h5, h6⟩
    · omega
    · rw [hv] at h1; injection h1 with e1 e2 e3; omega
  have HFIN : Hid (∀ m, m ≤ c.length → (∀ q, m ≤ q → c.getD q none = none) → (m = 0 ∨ c.getD (m - 1) none ≠ none) → ∃ m' vc', m' ≤ c.length ∧ (∀ q, m' ≤ q → c.getD q none = none) ∧ (m' = 0 ∨ c.getD (m' - 1) none ≠ none) ∧ PoolRaw (w.setCell ⟨b, o, none⟩ (.slice a m cap)) b o 149 encU (.int .u64 0) (c.take m') fr k vc' vf ∧ vc'.ownBlock = vc.ownBlock ∧ NChg b o vc w (w.setCell ⟨b, o, none⟩ (.slice a m cap))) := hide (fun m hm h1 h2 => by
    have hN : NChg b o vc w (w.setCell ⟨b, o, none⟩ (.slice a m cap)) := NChg.set ⟨But.refl _ _, fun _ _ => rfl, fun _ => rfl⟩ _
    have hov : (Value.slice a m cap).ownBlock = vc.ownBlock := by rw [hv]; exact own_cut _ _ _ _
    have htl : (c.take m).length = m := by simp; omega
    refine ⟨m, .slice a m cap, hm, h1, h2, ⟨World.cell?_setCell_same' _ _ _ (by rw [h.c0]; rfl), (hN.cell (o + 1) (by omega)).trans h.c1, (hN.cell (o + 2) (by omega)).trans h.c2, (hN.froz _).trans h.f0, (hN.froz _).trans h.f1, (hN.froz _).trans h.f2, ?_, h.frl.same (fun q hq => setCell_else _ _ _ _ _ (fun e => h.a1 (by rw [hq, e]))), by rw [hov]; exact h.a0, h.a1, fun g hg => h.a2 g (by rw [← hov]; exact hg)⟩, hov, hN⟩
    rw [htl]
    have hr := h.row
    rw [hv] at hr
    refine ((hr.cut hm).same (fun q hq => setCell_else _ _ _ _ _ (fun e => h.a0 (by rw [← hov, hq, e])))).congr (fun j hj => ?_)
    unfold pc
    rw [List.getD_eq_getElem?_getD, List.getD_eq_getElem?_getD (l := c.take m), List.getElem?_take, if_pos (show j / 2 < m by omega)])
  rw [hv] at c0 HFIN ⊢
  have hfirst : Hid (∀ q, c.length ≤ q → c.getD q none = none) := hide (fun q hq => by rw [List.getD_eq_getElem?_getD, List.getElem?_eq_none hq]; rfl)
  clear h hv
  go_enter Tryz.func95, Tryz.ntmps95
  go_wp2_with fail
  go_loopw [2] (fun ev wr => wr = w ∧ ∃ m : Nat, ev = .int .i64 (m : Nat) ∧ m ≤ c.length ∧ ∀ q, m ≤ q → c.getD q none = none) (fun ev _ => (intOf ev).toNat)
  case atStart => exact ⟨rfl, c.length, rfl, Nat.le_refl _, unhide hfirst⟩
  case round =>
    obtain ⟨rfl, m, rfl, hm, hz⟩ := hrel
    have HZ := hide hz
    clear hz hfirst
    by_cases m0 : m = 0
    · subst m0
      have HF := hide (unhide HFIN 0 hm (unhide HZ) (.inl rfl))
      clear HFIN HZ hcs
      go_wp2
      go_end0
      exact ⟨rfl, unhide HF⟩
    · obtain ⟨p, rfl⟩ : ∃ p, m = p + 1 := ⟨m - 1, by omega⟩
      obtain ⟨g, hga, hcell⟩ := hcs p (by omega)
      subst hga
      have d1 : decide ((0 : Int) < ((p + 1 : Nat) : Int)) = true := decide_eq_true (by omega)
      cases hx : c.getD p none with
      | none =>
        rw [hx] at hcell
        have HZ2 : Hid (∀ q, p ≤ q → c.getD q none = none) := hide (fun q hq => by
          by_cases e : q = p
          · rw [e]; exact hx
          · exact unhide HZ q (by omega))
        clear HFIN HZ hcs hx
        simp only [Option.isSome] at hcell
        go_wp2
        go_roundw
        case rel => exact ⟨trivial, p, by first | rfl | (congr 1; omega), by omega, unhide HZ2⟩
        case measure => simp [intOf]
      | some y =>
        have HF := hide (unhide HFIN (p + 1) hm (unhide HZ) (.inr (by rw [Nat.add_sub_cancel, hx]; simp)))
        rw [hx] at hcell
        clear HFIN HZ hcs hx
        simp only [Option.isSome] at hcell
        go_wp2
        go_end0
        exact ⟨rfl, unhide HF⟩
end Go.Proofs.YtidfllgaeiopjaaGreat
