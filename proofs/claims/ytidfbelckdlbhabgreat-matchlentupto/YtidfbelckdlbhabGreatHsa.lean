/- lentHeld: its state while it walks: Y: what the places were asked for (number, value, bytes), Z: answers that are not yet on the shelf, X: blocks that hold still. -/
import Derived.Test.YtidfbelckdlbhabGreatHdb
namespace Go.Proofs.YtidfbelckdlbhabGreat
open Go.ChangeShapes Go.WideShapes Go.ChangeAt Go.RowKit
set_option linter.unusedVariables false
set_option linter.unusedSimpArgs false
set_option maxRecDepth 20000
set_option maxHeartbeats 4000000

/-- the shelf at N + 1, the places at N + 2, N + 3, N + 4 -/
def tag0 (N b : Nat) : Nat := if b = N + 1 then 4 else if b = N + 1 + 1 then 1 else if b = N + 1 + 2 then 2 else if b = N + 1 + 3 then 3 else 0
theorem plE_nil {W : World} {S : Nat → Prop} {pa : Nat} (h : W.heap[pa]? = some (.cells #[.slice none 0 0, .slice none 0 0] 76 (0, 0))) (hS : S pa) : PlE W S pa :=
  ⟨none, 0, none, 0, 0, 0, fun _ => undef, fun _ => undef, [], h, .inl ⟨rfl, rfl⟩, .inl ⟨rfl, rfl⟩, fun q => absurd q (Nat.not_lt_zero _), fun g e => by simp [Value.ownBlock] at e, hS, fun g e => by simp [Value.ownBlock] at e, fun g e => by simp [Value.ownBlock] at e, fun q => absurd q (Nat.not_lt_zero _), Nat.zero_le _, Nat.zero_le _⟩
theorem HdAt.start {W : World} (N : Nat) (h1 : W.heap[N + 1]? = some (.cells (shC (.slice none 0 0) (.slice none 0 0) 0) 73 (0, 0))) (h2 : W.heap[N + 1 + 1]? = some (.cells #[.slice none 0 0, .slice none 0 0] 76 (0, 0))) (h3 : W.heap[N + 1 + 2]? = some (.cells #[.slice none 0 0, .slice none 0 0] 76 (0, 0))) (h4 : W.heap[N + 1 + 3]? = some (.cells #[.slice none 0 0, .slice none 0 0] 76 (0, 0))) : HdAt W (tag0 N) (fun k => N + 1 + k) (N + 1) 0 := by
  refine ⟨fun k k1 k3 => ?_, none, 0, none, 0, 0, fun _ => undef, fun _ => undef, fun _ => [], ⟨h1, .inl ⟨rfl, rfl⟩, .inl ⟨rfl, rfl⟩, fun j hj => absurd hj (Nat.not_lt_zero _), fun j hj => absurd hj (Nat.not_lt_zero _), fun i j g hi => absurd hi (Nat.not_lt_zero _), fun g e => by simp [Value.ownBlock] at e, fun j hj => absurd hj (Nat.not_lt_zero _), by decide⟩, ?_, fun g e => by simp [Value.ownBlock] at e, fun g e => by simp [Value.ownBlock] at e, fun j g hj => absurd hj (Nat.not_lt_zero _), fun j g hj => absurd hj (Nat.not_lt_zero _)⟩
  · rcases (by omega : k = 1 ∨ k = 2 ∨ k = 3) with rfl | rfl | rfl
    · refine plE_nil h2 ?_
      show tag0 N (N + 1 + 1) = 1
      unfold tag0
      rw [if_neg (by omega), if_pos rfl]
    · refine plE_nil h3 ?_
      show tag0 N (N + 1 + 2) = 2
      unfold tag0
      rw [if_neg (by omega), if_neg (by omega), if_pos rfl]
    · refine plE_nil h4 ?_
      show tag0 N (N + 1 + 3) = 3
      unfold tag0
      rw [if_neg (by omega), if_neg (by omega), if_neg (by omega), if_pos rfl]
  · show tag0 N (N + 1) = 4
    unfold tag0
    rw [if_pos rfl]
end Go.Proofs.YtidfbelckdlbhabGreat
namespace Go.Proofs.YtidfbelckdlbhabGreat
open Go.ChangeShapes Go.WideShapes Go.ChangeAt Go.RowKit
set_option linter.unusedVariables false
set_option linter.unusedSimpArgs false
set_option maxRecDepth 20000
set_option maxHeartbeats 4000000

structure HsT (w1 W : World) (tg : Nat → Nat) (N sz : Nat) (Y : List (Nat × Value × List Nat)) (Z : List (Value × List Nat)) (X : List (Nat × Obj)) : Prop where
  hd : HdAt W tg (fun k => N + 1 + k) (N + 1) sz
  old : ∀ b, b ≤ N → tg b = 0
  row : ∀ y ∈ Y, Rws W 5 1 y.2.1 y.2.2.length (byV y.2.2) ∧ (∀ g, y.2.1.ownBlock = some g → tg g = y.1) ∧ 1 ≤ y.1 ∧ y.1 ≤ 3
  pen : ∀ z ∈ Z, Rws W 5 1 z.1 z.2.length (byV z.2) ∧ ∀ g, z.1.ownBlock = some g → tg g = 0 ∧ N < g
  apart : Z.Pairwise (fun x y => ∀ g, x.1.ownBlock = some g → y.1.ownBlock ≠ some g)
  blk : ∀ x ∈ X, tg x.1 = 0 ∧ W.heap[x.1]? = some x.2 ∧ ∀ z ∈ Z, z.1.ownBlock ≠ some x.1
  kept : Kept (fun b => N < b) w1 W
  sz1 : N < w1.heap.size
def Hs (w1 W : World) (N sz : Nat) (Y : List (Nat × Value × List Nat)) (Z : List (Value × List Nat)) (X : List (Nat × Obj)) : Prop := ∃ tg, HsT w1 W tg N sz Y Z X
theorem HsT.lt {w1 W : World} {tg : Nat → Nat} {N sz : Nat} {Y : List (Nat × Value × List Nat)} {Z : List (Value × List Nat)} {X : List (Nat × Obj)} (h : HsT w1 W tg N sz Y Z X) : N < W.heap.size := Nat.lt_of_lt_of_le h.sz1 h.kept.size
theorem HsT.below {w1 W W' : World} {tg : Nat → Nat} {N sz : Nat} {Y : List (Nat × Value × List Nat)} {Z : List (Value × List Nat)} {X : List (Nat × Obj)} (h : HsT w1 W tg N sz Y Z X) (hb : Below W.heap.size W W') : HsT w1 W' (tagN tg W.heap.size 0) N sz Y Z X := by
  have hN := h.lt
  refine ⟨h.hd.below hb, fun b q => (tagN_old (by omega)).trans (h.old b q), fun y hy => ?_, fun z hz => ?_, h.apart, fun x hx => ?_, h.kept.trans (Kept.below hb), h.sz1⟩
  · obtain ⟨r1, r2, r3⟩ := h.row y hy
    exact ⟨r1.below hb, fun g hg => (tagN_old (r1.lt g hg)).trans (r2 g hg), r3⟩
  · obtain ⟨r1, r2⟩ := h.pen z hz
    exact ⟨r1.below hb, fun g hg => ⟨(tagN_old (r1.lt g hg)).trans (r2 g hg).1, (r2 g hg).2⟩⟩
  · obtain ⟨r1, r2, r3⟩ := h.blk x hx
    exact ⟨(tagN_old (block_lt r2)).trans r1, (hb.block _ (block_lt r2)).trans r2, r3⟩
theorem Hs.below {w1 W W' : World} {N sz : Nat} {Y : List (Nat × Value × List Nat)} {Z : List (Value × List Nat)} {X : List (Nat × Obj)} (h : Hs w1 W N sz Y Z X) (hb : Below W.heap.size W W') : Hs w1 W' N sz Y Z X := by
  obtain ⟨tg, h⟩ := h
  exact ⟨_, h.below hb⟩
/-- a new block -/
theorem Hs.block {w1 W W' : World} {N sz : Nat} {Y : List (Nat × Value × List Nat)} {Z : List (Value × List Nat)} {X : List (Nat × Obj)} (h : Hs w1 W N sz Y Z X) (hb : Below W.heap.size W W') (b : Nat) (o : Obj) (hB : W.heap.size ≤ b) (ho : W'.heap[b]? = some o) : Hs w1 W' N sz Y Z ((b, o) :: X) := by
  obtain ⟨tg, h⟩ := h
  have q := h.below hb
  refine ⟨_, ⟨q.hd, q.old, q.row, q.pen, q.apart, fun x hx => ?_, q.kept, q.sz1⟩⟩
  rcases List.mem_cons.1 hx with rfl | hx
  · exact ⟨tagN_new hB, ho, fun z hz e => by have := (h.pen z hz).1.lt _ e; have : W.heap.size ≤ b := hB; simp only at *; omega⟩
  · exact q.blk x hx
/-- a new answer -/
theorem Hs.answer {w1 W W' : World} {N sz : Nat} {Y : List (Nat × Value × List Nat)} {Z : List (Value × List Nat)} {X : List (Nat × Obj)} (h : Hs w1 W N sz Y Z X) (hb : Below W.heap.size W W') (v : Value) (l : List Nat) (hv : OwnB W' W.heap.size v l) : Hs w1 W' N sz Y (Z ++ [(v, l)]) X := by
  obtain ⟨tg, h⟩ := h
  have q := h.below hb
  have hN := h.lt
  refine ⟨_, ⟨q.hd, q.old, q.row, fun z hz => ?_, ?_, fun x hx => ?_, q.kept, q.sz1⟩⟩
  · rcases List.mem_append.1 hz with hz | hz
    · exact q.pen z hz
    · obtain rfl := List.mem_singleton.1 hz
      exact ⟨hv.rws, fun g hg => ⟨tagN_new (hv.ge g hg), by have := hv.ge g hg; omega⟩⟩
  · refine List.pairwise_append.2 ⟨h.apart, List.pairwise_singleton .., fun x hx y hy g hg e => ?_⟩
    obtain rfl := List.mem_singleton.1 hy
    have h1 := (h.pen x hx).1.lt g hg
    have h2 := hv.ge g e
    omega
  · obtain ⟨r1, r2, r3⟩ := q.blk x hx
    refine ⟨r1, r2, fun z hz => ?_⟩
    rcases List.mem_append.1 hz with hz | hz
    · exact r3 z hz
    · obtain rfl := List.mem_singleton.1 hz
      intro e
      have h1 := hv.ge _ e
      have h2 := block_lt (h.blk x hx).2.1
      omega
/-- two at once -/
theorem Hs.answers {w1 W W' : World} {N sz : Nat} {Y : List (Nat × Value × List Nat)} {Z : List (Value × List Nat)} {X : List (Nat × Obj)} (h : Hs w1 W N sz Y Z X) (hb : Below W.heap.size W W') (v u : Value) (l k : List Nat) (hv : OwnB W' W.heap.size v l) (hu : OwnB W' W.heap.size u k) (ha : ∀ g, v.ownBlock = some g → u.ownBlock ≠ some g) : Hs w1 W' N sz Y (Z ++ [(v, l), (u, k)]) X := by
  obtain ⟨tg, h⟩ := h
  have q := h.below hb
  have hN := h.lt
  refine ⟨_, ⟨q.hd, q.old, q.row, fun z hz => ?_, ?_, fun x hx => ?_, q.kept, q.sz1⟩⟩
  · rcases List.mem_append.1 hz with hz | hz
    · exact q.pen z hz
    · rcases List.mem_cons.1 hz with rfl | hz
      · exact ⟨hv.rws, fun g hg => ⟨tagN_new (hv.ge g hg), by have := hv.ge g hg; omega⟩⟩
      · obtain rfl := List.mem_singleton.1 hz
        exact ⟨hu.rws, fun g hg => ⟨tagN_new (hu.ge g hg), by have := hu.ge g hg; omega⟩⟩
  · refine List.pairwise_append.2 ⟨h.apart, List.Pairwise.cons (fun y hy g hg => ?_) (List.pairwise_singleton ..), fun x hx y hy g hg e => ?_⟩
    · obtain rfl := List.mem_singleton.1 hy
      exact ha g hg
    · have h1 := (h.pen x hx).1.lt g hg
      rcases List.mem_cons.1 hy with rfl | hy
      · have h2 := hv.ge g e
        omega
      · obtain rfl := List.mem_singleton.1 hy
        have h2 := hu.ge g e
        omega
  · obtain ⟨r1, r2, r3⟩ := q.blk x hx
    have h2 := block_lt (h.blk x hx).2.1
    refine ⟨r1, r2, fun z hz => ?_⟩
    rcases List.mem_append.1 hz with hz | hz
    · exact r3 z hz
    · rcases List.mem_cons.1 hz with rfl | hz
      · intro e
        have h1 := hv.ge _ e
        omega
      · obtain rfl := List.mem_singleton.1 hz
        intro e
        have h1 := hu.ge _ e
        omega
theorem Hs.forget {w1 W : World} {N sz : Nat} {Y Y' : List (Nat × Value × List Nat)} {Z : List (Value × List Nat)} {X X' : List (Nat × Obj)} (h : Hs w1 W N sz Y Z X) (hY : ∀ y ∈ Y', y ∈ Y) (hX : ∀ x ∈ X', x ∈ X) : Hs w1 W N sz Y' Z X' := by
  obtain ⟨tg, h⟩ := h
  exact ⟨tg, h.hd, h.old, fun y hy => h.row y (hY y hy), h.pen, h.apart, fun x hx => h.blk x (hX x hx), h.kept, h.sz1⟩
/-- Place.Bytes -/
theorem Hs.place {w1 W0 W : World} {N sz : Nat} {Y : List (Nat × Value × List Nat)} {Z : List (Value × List Nat)} {X : List (Nat × Obj)} (h : Hs w1 W0 N sz Y Z X) (hb : Below W0.heap.size W0 W) (k : Nat) (k1 : 1 ≤ k) (k3 : k ≤ 3) (hY : ∀ y ∈ Y, y.1 ≠ k) (ba : Option Addr) (bc : Nat) (l : List Nat) (hB : Bytes W ba l) (h0 : ∀ b off, 0 < l.length → ba = some ⟨b, off, none⟩ → b ≤ N ∨ W0.heap.size ≤ b) (hl : l.length ≤ 1073741824) :
    Calls Tryz.prog 22 #[.pointer (some ⟨N + 1 + k, 0, none⟩), .slice ba l.length bc] W fun e w' => ∃ va vc, e = .returned (.slice va l.length vc) ∧ Hid (Hs w1 w' N sz ((k, .slice va l.length vc, l) :: Y) Z X) := by
  obtain ⟨tg0, h0'⟩ := h
  have h := h0'.below hb
  have hN := h0'.lt
  refine (hplace_any W (tagN tg0 W0.heap.size 0) (fun k => N + 1 + k) (N + 1) sz k bc ba l h.hd k1 k3 hB (fun b off hp e => ?_) hl).mono ?_
  · rcases h0 b off hp e with q | q
    · exact h.old b q
    · exact tagN_new q
  · rintro e w' ⟨va, vc, rfl, hq⟩
    obtain ⟨q1, q2, q3, q4⟩ := unhide hq
    generalize tagN tg0 W0.heap.size 0 = tg at *
    have hNW := h.lt
    have fr : ∀ b, b < W.heap.size → tg b ≠ k → w'.heap[b]? = W.heap[b]? := fun b hb e => q2.blk b hb e
    refine ⟨va, vc, rfl, hide ⟨_, ⟨q1, fun b q => (tagN_old (by omega)).trans (h.old b q), fun y hy => ?_, fun z hz => ?_, h.apart, fun x hx => ?_, h.kept.trans ⟨q2.os, q2.tape, q2.output, q2.size, fun b hb hS => fr b hb (fun e => by have := h.old b (by omega); omega)⟩, h.sz1⟩⟩⟩
    · rcases List.mem_cons.1 hy with rfl | hy
      · exact ⟨q3, q4, k1, k3⟩
      · obtain ⟨r1, r2, r3, r4⟩ := h.row y hy
        exact ⟨r1.same (fun g hg => fr g (r1.lt g hg) (fun e => hY y hy (by rw [← r2 g hg]; exact e))), fun g hg => (tagN_old (r1.lt g hg)).trans (r2 g hg), r3, r4⟩
    · obtain ⟨r1, r2⟩ := h.pen z hz
      exact ⟨r1.same (fun g hg => fr g (r1.lt g hg) (fun e => by have := (r2 g hg).1; omega)), fun g hg => ⟨(tagN_old (r1.lt g hg)).trans (r2 g hg).1, (r2 g hg).2⟩⟩
    · obtain ⟨r1, r2, r3⟩ := h.blk x hx
      exact ⟨(tagN_old (block_lt r2)).trans r1, (fr _ (block_lt r2) (by omega)).trans r2, r3⟩
/-- Shelf.Bytes -/
theorem Hs.shelf {w1 W0 W : World} {N sz : Nat} {Y : List (Nat × Value × List Nat)} {Z : List (Value × List Nat)} {X : List (Nat × Obj)} {va : Option Addr} {vc : Nat} {l : List Nat} (h : Hs w1 W0 N sz Y ((.slice va l.length vc, l) :: Z) X) (hb : Below W0.heap.size W0 W) (hsz : sz ≤ 1099511627776) (hl : l.length ≤ 1099511627776) :
    Calls Tryz.prog 26 #[.pointer (some ⟨N + 1, 0, none⟩), .slice va l.length vc] W fun e w' => e = .returned (.tuple #[]) ∧ Hid (Hs w1 w' N (sz + l.length + 50) Y Z X) := by
  obtain ⟨tg0, h0'⟩ := h
  have h := h0'.below hb
  generalize tagN tg0 W0.heap.size 0 = tg at *
  have hv := h.pen _ (List.mem_cons_self ..)
  refine (hshelf_any W tg (fun k => N + 1 + k) (N + 1) sz vc va l h.hd hv.1 (fun g hg => (hv.2 g hg).1) hsz hl).mono ?_
  rintro e w' ⟨rfl, hq⟩
  obtain ⟨q1, q2⟩ := unhide hq
  have hNW := h.lt
  have fr : ∀ b, b < W.heap.size → tg b ≠ 4 → w'.heap[b]? = W.heap[b]? := fun b hb e => q2.blk b hb e
  have ap := List.pairwise_cons.1 h.apart
  refine ⟨rfl, hide ⟨_, ⟨q1, fun b q => (tagS_old (by omega) (fun e => by have := (hv.2 b e).2; omega)).trans (h.old b q), fun y hy => ?_, fun z hz => ?_, ap.2, fun x hx => ?_, h.kept.trans ⟨q2.os, q2.tape, q2.output, q2.size, fun b hb hS => fr b hb (fun e => by have := h.old b (by omega); omega)⟩, h.sz1⟩⟩⟩
  · obtain ⟨r1, r2, r3, r4⟩ := h.row y hy
    exact ⟨r1.same (fun g hg => fr g (r1.lt g hg) (fun e => by have := r2 g hg; omega)), fun g hg => (tagS_old (r1.lt g hg) (fun e => by have := (hv.2 g e).1; have := r2 g hg; omega)).trans (r2 g hg), r3, r4⟩
  · obtain ⟨r1, r2⟩ := h.pen z (List.mem_cons_of_mem _ hz)
    exact ⟨r1.same (fun g hg => fr g (r1.lt g hg) (fun e => by have := (r2 g hg).1; omega)), fun g hg => ⟨(tagS_old (r1.lt g hg) (fun e => ap.1 z hz g e hg)).trans (r2 g hg).1, (r2 g hg).2⟩⟩
  · obtain ⟨r1, r2, r3⟩ := h.blk x hx
    exact ⟨(tagS_old (block_lt r2) (r3 _ (List.mem_cons_self ..))).trans r1, (fr _ (block_lt r2) (by omega)).trans r2, fun z hz => r3 z (List.mem_cons_of_mem _ hz)⟩
/-- Shelf.Given -/
theorem Hs.given {w1 W : World} {N sz : Nat} {Y : List (Nat × Value × List Nat)} {Z : List (Value × List Nat)} {X : List (Nat × Obj)} (h : Hs w1 W N sz Y Z X) :
    Calls Tryz.prog 27 #[.pointer (some ⟨N + 1, 0, none⟩)] W fun e w' => e = .returned (.bool true) ∧ Hid (Kept (fun b => N < b) w1 w') := by
  obtain ⟨tg, h⟩ := h
  refine (hgiven_any W tg (fun k => N + 1 + k) (N + 1) sz h.hd).mono ?_
  rintro e w' ⟨rfl, hq⟩
  have q2 := unhide hq
  exact ⟨rfl, hide (h.kept.trans ⟨q2.os, q2.tape, q2.output, q2.size, fun b hb hS => q2.blk b hb (fun e => by have := h.old b (by omega); omega)⟩)⟩
/-- bytes that came in -/
theorem Hs.bytes {w1 W : World} {N sz : Nat} {Y : List (Nat × Value × List Nat)} {Z : List (Value × List Nat)} {X : List (Nat × Obj)} (h : Hs w1 W N sz Y Z X) {a : Option Addr} {l : List Nat} (hB : Bytes w1 a l) (h0 : ∀ b off, 0 < l.length → a = some ⟨b, off, none⟩ → b ≤ N) : Bytes W a l := by
  obtain ⟨tg, h⟩ := h
  rcases hB with e | ⟨b, off, rfl, hb, hc⟩
  · exact .inl e
  · rcases Nat.eq_zero_or_pos l.length with q | q
    · exact .inl (List.eq_nil_of_length_eq_zero q)
    · have hbN := h0 b off q rfl
      have hblk := h.kept.blk b hb (by omega)
      refine .inr ⟨b, off, rfl, Nat.lt_of_lt_of_le hb h.kept.size, fun i hi => ?_⟩
      rw [← hc i hi]
      unfold World.cell?
      rw [hblk]
theorem Hs.cell {w1 W : World} {N sz : Nat} {Y : List (Nat × Value × List Nat)} {Z : List (Value × List Nat)} {X : List (Nat × Obj)} (h : Hs w1 W N sz Y Z X) {b j : Nat} (hb : b ≤ N) : W.cell? ⟨b, j, none⟩ = w1.cell? ⟨b, j, none⟩ := by
  obtain ⟨tg, h⟩ := h
  have hblk := h.kept.blk b (Nat.lt_of_le_of_lt hb h.sz1) (by omega)
  unfold World.cell?
  rw [hblk]
theorem Hs.size {w1 W : World} {N sz : Nat} {Y : List (Nat × Value × List Nat)} {Z : List (Value × List Nat)} {X : List (Nat × Obj)} (h : Hs w1 W N sz Y Z X) : N < W.heap.size := by
  obtain ⟨tg, h⟩ := h
  exact h.lt
theorem Hs.rowY {w1 W : World} {N sz : Nat} {Y : List (Nat × Value × List Nat)} {Z : List (Value × List Nat)} {X : List (Nat × Obj)} (h : Hs w1 W N sz Y Z X) (k : Nat) (v : Value) (l : List Nat) (hy : (k, v, l) ∈ Y) : Rws W 5 1 v l.length (byV l) := by
  obtain ⟨tg, h⟩ := h
  exact (h.row _ hy).1
theorem Hs.rowZ {w1 W : World} {N sz : Nat} {Y : List (Nat × Value × List Nat)} {Z : List (Value × List Nat)} {X : List (Nat × Obj)} (h : Hs w1 W N sz Y Z X) (v : Value) (l : List Nat) (hz : (v, l) ∈ Z) : Rws W 5 1 v l.length (byV l) := by
  obtain ⟨tg, h⟩ := h
  exact (h.pen _ hz).1
theorem Hs.at {w1 W : World} {N sz : Nat} {Y : List (Nat × Value × List Nat)} {Z : List (Value × List Nat)} {X : List (Nat × Obj)} (h : Hs w1 W N sz Y Z X) (b : Nat) (o : Obj) (hx : (b, o) ∈ X) : W.heap[b]? = some o := by
  obtain ⟨tg, h⟩ := h
  exact (h.blk _ hx).2.1
theorem Hs.start {W : World} (N : Nat) (h1 : W.heap[N + 1]? = some (.cells (shC (.slice none 0 0) (.slice none 0 0) 0) 73 (0, 0))) (h2 : W.heap[N + 1 + 1]? = some (.cells #[.slice none 0 0, .slice none 0 0] 76 (0, 0))) (h3 : W.heap[N + 1 + 2]? = some (.cells #[.slice none 0 0, .slice none 0 0] 76 (0, 0))) (h4 : W.heap[N + 1 + 3]? = some (.cells #[.slice none 0 0, .slice none 0 0] 76 (0, 0))) : Hs W W N 0 [] [] [] :=
  ⟨tag0 N, HdAt.start N h1 h2 h3 h4, fun b hb => by unfold tag0; rw [if_neg (by omega), if_neg (by omega), if_neg (by omega), if_neg (by omega)], fun y hy => (by cases hy), fun z hz => (by cases hz), List.Pairwise.nil, fun x hx => (by cases hx), Kept.refl _ _, by have := block_lt h1; omega⟩
end Go.Proofs.YtidfbelckdlbhabGreat
