/- The state of a walk with a Told: the book at pb, the Told at pb + 1; Z: lists that the book has not been handed yet, X: blocks that hold still. -/
import Derived.Test.YtecfgbjnjgjkoaaGreatDoorApb
namespace Go.Proofs.YtecfgbjnjgjkoaaGreatDoor
open Go.ChangeShapes Go.WideShapes Go.ChangeAt Go.RowKit
set_option linter.unusedVariables false
set_option linter.unusedSimpArgs false
set_option maxRecDepth 20000
set_option maxHeartbeats 4000000

structure TdT (w1 W : World) (pb : Nat) (tg : Nat → Nat) (S : Bk.BookSt) (m : Int) (Z : List (Value × List Nat)) (X : List (Nat × Obj)) : Prop where
  bk : Bk.BookAt W (pb) 0 tg S
  bud : W.heap[pb + 1]? = some (.cells #[.pointer (some ⟨pb, 0, none⟩), .int .i64 m] 50 (0, 0))
  tb : tg (pb + 1) = 0
  old : ∀ b, b < pb → tg b = 0
  pen : ∀ z ∈ Z, Rws W 5 1 z.1 z.2.length (byV z.2) ∧ ∀ g, z.1.ownBlock = some g → tg g = 0 ∧ pb + 1 < g
  apart : Z.Pairwise (fun x y => ∀ g, x.1.ownBlock = some g → y.1.ownBlock ≠ some g)
  blk : ∀ x ∈ X, tg x.1 = 0 ∧ pb + 1 < x.1 ∧ W.heap[x.1]? = some x.2 ∧ ∀ z ∈ Z, z.1.ownBlock ≠ some x.1
  kept : Kept (fun b => pb ≤ b) w1 W
  sz1 : pb ≤ w1.heap.size
def Td (w1 W : World) (pb t : Nat) (m : Int) (Z : List (Value × List Nat)) (X : List (Nat × Obj)) : Prop := ∃ tg S, S.turn ≤ t ∧ TdT w1 W pb tg S m Z X
theorem TdT.lt {w1 W : World} {pb : Nat} {m : Int} {tg : Nat → Nat} {S : Bk.BookSt} {Z : List (Value × List Nat)} {X : List (Nat × Obj)} (h : TdT w1 W pb tg S m Z X) : pb + 1 < W.heap.size := block_lt h.bud
theorem TdT.below {w1 W W' : World} {pb : Nat} {m : Int} {tg : Nat → Nat} {S : Bk.BookSt} {Z : List (Value × List Nat)} {X : List (Nat × Obj)} (h : TdT w1 W pb tg S m Z X) (hb : Below W.heap.size W W') : TdT w1 W' pb tg S m Z X := by
  have hN := h.lt
  refine ⟨bookAt_keep h.bk hb.size (fun g hg => hb.block g (h.bk.un g hg)) (hb.block _ (by omega)), (hb.block _ hN).trans h.bud, h.tb, h.old, fun z hz => ?_, h.apart, fun x hx => ?_, h.kept.trans (Kept.below hb), h.sz1⟩
  · obtain ⟨r1, r2⟩ := h.pen z hz
    exact ⟨r1.below hb, r2⟩
  · obtain ⟨r1, r2, r3, r4⟩ := h.blk x hx
    exact ⟨r1, r2, (hb.block _ (block_lt r3)).trans r3, r4⟩
theorem Td.below {w1 W W' : World} {pb t : Nat} {m : Int} {Z : List (Value × List Nat)} {X : List (Nat × Obj)} (h : Td w1 W pb t m Z X) (hb : Below W.heap.size W W') : Td w1 W' pb t m Z X := by
  obtain ⟨tg, S, ht, h⟩ := h
  exact ⟨tg, S, ht, h.below hb⟩
theorem Td.lt {w1 W : World} {pb t : Nat} {m : Int} {Z : List (Value × List Nat)} {X : List (Nat × Obj)} (h : Td w1 W pb t m Z X) : pb + 1 < W.heap.size := by
  obtain ⟨tg, S, ht, h⟩ := h
  exact h.lt
/-- new lists and new blocks -/
theorem Td.more {w1 W W' : World} {pb t : Nat} {m : Int} {X : List (Nat × Obj)} (h : Td w1 W pb t m [] X) (hb : Below W.heap.size W W') (Z : List (Value × List Nat)) (hZ : ∀ z ∈ Z, Rws W' 5 1 z.1 z.2.length (byV z.2) ∧ ∀ g, z.1.ownBlock = some g → W.heap.size ≤ g) (ap : Z.Pairwise (fun x y => ∀ g, x.1.ownBlock = some g → y.1.ownBlock ≠ some g)) (X' : List (Nat × Obj)) (hX : ∀ x ∈ X', W.heap.size ≤ x.1 ∧ W'.heap[x.1]? = some x.2 ∧ ∀ z ∈ Z, z.1.ownBlock ≠ some x.1) : Td w1 W' pb t m Z (X' ++ X) := by
  obtain ⟨tg, S, ht, h⟩ := h
  have q := h.below hb
  have hN := h.lt
  have t0 : ∀ g, W.heap.size ≤ g → tg g = 0 := fun g hg => Classical.byContradiction (fun e => by have := h.bk.un g e; omega)
  refine ⟨tg, S, ht, ⟨q.bk, q.bud, q.tb, q.old, fun z hz => ⟨(hZ z hz).1, fun g hg => ⟨t0 g ((hZ z hz).2 g hg), by have := (hZ z hz).2 g hg; omega⟩⟩, ap, fun x hx => ?_, q.kept, q.sz1⟩⟩
  rcases List.mem_append.1 hx with hx | hx
  · obtain ⟨r1, r2, r3⟩ := hX x hx
    exact ⟨t0 _ r1, by omega, r2, r3⟩
  · obtain ⟨r1, r2, r3, -⟩ := q.blk x hx
    refine ⟨r1, r2, r3, fun z hz e => ?_⟩
    have h1 := (hZ z hz).2 _ e
    have h2 := block_lt (h.blk x hx).2.2.1
    omega
theorem Td.forget {w1 W : World} {pb t : Nat} {m : Int} {Z : List (Value × List Nat)} {X : List (Nat × Obj)} (h : Td w1 W pb t m Z X) : Td w1 W pb t m Z [] := by
  obtain ⟨tg, S, ht, h⟩ := h
  exact ⟨tg, S, ht, ⟨h.bk, h.bud, h.tb, h.old, h.pen, h.apart, fun x hx => (by cases hx), h.kept, h.sz1⟩⟩
theorem Td.later {w1 W : World} {pb t t' : Nat} {m : Int} {Z : List (Value × List Nat)} {X : List (Nat × Obj)} (h : Td w1 W pb t m Z X) (ht : t ≤ t') : Td w1 W pb t' m Z X := by
  obtain ⟨tg, S, hS, h⟩ := h
  exact ⟨tg, S, Nat.le_trans hS ht, h⟩
/-- the budget's cell -/
theorem Td.spend {w1 W : World} {pb t : Nat} {m k : Int} {Z : List (Value × List Nat)} {X : List (Nat × Obj)} (h : Td w1 W pb t m Z X) : Td w1 (W.setCell ⟨pb + 1, 1, none⟩ (.int .i64 k)) pb t k Z X := by
  obtain ⟨tg, S, ht, h⟩ := h
  have hN := h.lt
  have sz : (W.setCell ⟨pb + 1, 1, none⟩ (.int .i64 k)).heap.size = W.heap.size := by simp
  have oth : ∀ g, g ≠ pb + 1 → (W.setCell ⟨pb + 1, 1, none⟩ (.int .i64 k)).heap[g]? = W.heap[g]? := fun g hg => Bk.setCell_else W _ _ g _ hg
  refine ⟨tg, S, ht, ⟨bookAt_keep h.bk (by omega) (fun g hg => oth g (fun e => hg (by rw [e]; exact h.tb))) (oth _ (by omega)), ?_, h.tb, h.old, fun z hz => ?_, h.apart, fun x hx => ?_, h.kept.trans ⟨rfl, rfl, rfl, by omega, fun b hb hS => oth b (by omega)⟩, h.sz1⟩⟩
  · rw [Bk.setCell_block W _ 1 _ _ _ _ h.bud]; rfl
  · obtain ⟨r1, r2⟩ := h.pen z hz
    exact ⟨r1.same (fun g hg => oth g (by have := (r2 g hg).2; omega)), r2⟩
  · obtain ⟨r1, r2, r3, r4⟩ := h.blk x hx
    exact ⟨r1, r2, (oth _ (by omega)).trans r3, r4⟩
theorem Td.budget {w1 W : World} {pb t : Nat} {m : Int} {Z : List (Value × List Nat)} {X : List (Nat × Obj)} (h : Td w1 W pb t m Z X) : W.heap[pb + 1]? = some (.cells #[.pointer (some ⟨pb, 0, none⟩), .int .i64 m] 50 (0, 0)) := by
  obtain ⟨tg, S, ht, h⟩ := h
  exact h.bud
/-- Book.Bytes -/
theorem Td.hand {w1 W0 W : World} {pb t : Nat} {m : Int} {Z : List (Value × List Nat)} {X : List (Nat × Obj)} {v : Value} {l : List Nat} (h : Td w1 W0 pb t m ((v, l) :: Z) X) (hb : Below W0.heap.size W0 W) (ht : t < 1000000) (hl : l.length ≤ 281474976710656) :
    Calls Tryz.prog 48 #[.pointer (some ⟨pb, 0, none⟩), v] W fun e w' => e = .returned (.tuple #[]) ∧ Hid (Td w1 w' pb (t + 1) m Z X) := by
  obtain ⟨tg, S, hS, h0⟩ := h
  have h := h0.below hb
  have hN := h.lt
  have hv := h.pen _ (List.mem_cons_self ..)
  refine (Bk.take_bytes h.bk (by omega) v l.length (byV l) hv.1.line (fun g hg => ⟨(hv.2 g hg).1, by have := (hv.2 g hg).2; omega⟩) hl).mono ?_
  rintro e w' ⟨rfl, tag', S', b1, b2, b3⟩
  have ap := List.pairwise_cons.1 h.apart
  have at0 : ∀ g, tg g = 0 → v.ownBlock ≠ some g → Bk.tagAt tg v (10 + 2 * (S.turn + 1)) g = 0 := fun g h1 h2 => by unfold Bk.tagAt; rw [if_neg h2]; exact h1
  have kp : ∀ g, g < W.heap.size → g ≠ pb → tg g = 0 → v.ownBlock ≠ some g → w'.heap[g]? = W.heap[g]? ∧ tag' g = 0 := fun g h1 h2 h3 h4 => ⟨b3.blk g h1 (at0 g h3 h4) h2, (b3.tg g h1).trans (at0 g h3 h4)⟩
  have nv : ∀ g, g ≤ pb + 1 → v.ownBlock ≠ some g := fun g hg e => by have := (hv.2 g e).2; omega
  refine ⟨rfl, hide ⟨tag', S', by omega, ⟨b1, ?_, ?_, fun b hb => ?_, fun z hz => ?_, ap.2, fun x hx => ?_, h.kept.trans ⟨b3.os, b3.tape, b3.output, b3.size, fun b hb hS => (kp b hb (by omega) (h.old b (by omega)) (nv b (by omega))).1⟩, h.sz1⟩⟩⟩
  · exact (kp _ hN (by omega) h.tb (nv _ (Nat.le_refl _))).1.trans h.bud
  · exact (kp _ hN (by omega) h.tb (nv _ (Nat.le_refl _))).2
  · exact (kp b (by omega) (by omega) (h.old b hb) (nv b (by omega))).2
  · obtain ⟨r1, r2⟩ := h.pen z (List.mem_cons_of_mem _ hz)
    have k := fun g hg => kp g (r1.lt g hg) (by have := (r2 g hg).2; omega) (r2 g hg).1 (fun e => ap.1 z hz g e hg)
    exact ⟨r1.same (fun g hg => (k g hg).1), fun g hg => ⟨(k g hg).2, (r2 g hg).2⟩⟩
  · obtain ⟨r1, r2, r3, r4⟩ := h.blk x hx
    have k := kp x.1 (block_lt r3) (by omega) r1 (r4 _ (List.mem_cons_self ..))
    exact ⟨k.2, r2, k.1.trans r3, fun z hz => r4 z (List.mem_cons_of_mem _ hz)⟩
/-- Book.Look -/
theorem Td.look {w1 W : World} {pb t : Nat} {m : Int} {Z : List (Value × List Nat)} {X : List (Nat × Obj)} (h : Td w1 W pb t m Z X) :
    Calls Tryz.prog 56 #[.pointer (some ⟨pb, 0, none⟩)] W fun e w' => e = .returned (.bool true) ∧ Hid (Td w1 w' pb t m Z X) := by
  obtain ⟨tg, S, hS, h⟩ := h
  have hN := h.lt
  refine (Bk.look_any h.bk).mono ?_
  rintro e w' ⟨rfl, tag', S', b1, b2, b3⟩
  have kp : ∀ g, g < W.heap.size → g ≠ pb → tg g = 0 → w'.heap[g]? = W.heap[g]? ∧ tag' g = 0 := fun g h1 h2 h3 => ⟨b3.blk g h1 h3 h2, (b3.tg g h1).trans h3⟩
  refine ⟨rfl, hide ⟨tag', S', by omega, ⟨b1, ?_, ?_, fun b hb => ?_, fun z hz => ?_, h.apart, fun x hx => ?_, h.kept.trans ⟨b3.os, b3.tape, b3.output, b3.size, fun b hb hS => (kp b hb (by omega) (h.old b (by omega))).1⟩, h.sz1⟩⟩⟩
  · exact (kp _ hN (by omega) h.tb).1.trans h.bud
  · exact (kp _ hN (by omega) h.tb).2
  · exact (kp b (by omega) (by omega) (h.old b hb)).2
  · obtain ⟨r1, r2⟩ := h.pen z hz
    have k := fun g hg => kp g (r1.lt g hg) (by have := (r2 g hg).2; omega) (r2 g hg).1
    exact ⟨r1.same (fun g hg => (k g hg).1), fun g hg => ⟨(k g hg).2, (r2 g hg).2⟩⟩
  · obtain ⟨r1, r2, r3, r4⟩ := h.blk x hx
    have k := kp x.1 (block_lt r3) (by omega) r1
    exact ⟨k.2, r2, k.1.trans r3, r4⟩
theorem Td.bytes {w1 W : World} {pb t : Nat} {m : Int} {Z : List (Value × List Nat)} {X : List (Nat × Obj)} (h : Td w1 W pb t m Z X) {a : Option Addr} {l : List Nat} (hB : Bytes w1 a l) (h0 : ∀ b off, 0 < l.length → a = some ⟨b, off, none⟩ → b < pb) : Bytes W a l := by
  obtain ⟨tg, S, hS, h⟩ := h
  rcases hB with e | ⟨b, off, rfl, hb, hc⟩
  · exact .inl e
  · rcases Nat.eq_zero_or_pos l.length with q | q
    · exact .inl (List.eq_nil_of_length_eq_zero q)
    · have hbN := h0 b off q rfl
      have hblk := h.kept.blk b hb (by omega)
      refine .inr ⟨b, off, rfl, Nat.lt_of_lt_of_le hb h.kept.size, fun i hi => ?_⟩
      rw [← hc i hi]
      unfold World.cell?
      rw [hblk]
theorem Td.cell {w1 W : World} {pb t : Nat} {m : Int} {Z : List (Value × List Nat)} {X : List (Nat × Obj)} (h : Td w1 W pb t m Z X) {b j : Nat} (hb : b < pb) : W.cell? ⟨b, j, none⟩ = w1.cell? ⟨b, j, none⟩ := by
  obtain ⟨tg, S, hS, h⟩ := h
  have hblk := h.kept.blk b (Nat.lt_of_lt_of_le hb h.sz1) (by omega)
  unfold World.cell?
  rw [hblk]
theorem Td.at {w1 W : World} {pb t : Nat} {m : Int} {Z : List (Value × List Nat)} {X : List (Nat × Obj)} (h : Td w1 W pb t m Z X) (b : Nat) (o : Obj) (hx : (b, o) ∈ X) : W.heap[b]? = some o := by
  obtain ⟨tg, S, hS, h⟩ := h
  exact (h.blk _ hx).2.2.1
theorem Td.kept {w1 W : World} {pb t : Nat} {m : Int} {Z : List (Value × List Nat)} {X : List (Nat × Obj)} (h : Td w1 W pb t m Z X) : Kept (fun b => pb ≤ b) w1 W := by
  obtain ⟨tg, S, hS, h⟩ := h
  exact h.kept
theorem Td.drop {w1 W : World} {pb t : Nat} {m : Int} {Z : List (Value × List Nat)} {X : List (Nat × Obj)} {z : Value × List Nat} (h : Td w1 W pb t m (z :: Z) X) : Td w1 W pb t m Z X := by
  obtain ⟨tg, S, hS, h⟩ := h
  exact ⟨tg, S, hS, ⟨h.bk, h.bud, h.tb, h.old, fun z hz => h.pen z (List.mem_cons_of_mem _ hz), (List.pairwise_cons.1 h.apart).2, fun x hx => ⟨(h.blk x hx).1, (h.blk x hx).2.1, (h.blk x hx).2.2.1, fun z hz => (h.blk x hx).2.2.2 z (List.mem_cons_of_mem _ hz)⟩, h.kept, h.sz1⟩⟩
theorem Td.told {w1 W : World} {pb t : Nat} {m : Int} {Z : List (Value × List Nat)} {X : List (Nat × Obj)} {va : Option Addr} {n vc : Nat} {l : List Nat} (h : Td w1 W pb t m ((.slice va n vc, l) :: Z) X) (hn : n = l.length) (ht : t < 1000000) (hl : n ≤ 1099511627776) (hm : -4611686018427387904 ≤ m ∧ m ≤ 4611686018427387904) :
    Calls Tryz.prog 24 #[.pointer (some ⟨pb + 1, 0, none⟩), .slice va n vc] W fun e w' => e = .returned (.tuple #[]) ∧ Hid (Td w1 w' pb (t + 1) (m - n - 10) Z X) := by
  obtain ⟨W2, hW2⟩ : ∃ W2, W2 = W.setCell ⟨pb + 1, 1, none⟩ (.int .i64 (m - n - 10)) := ⟨_, rfl⟩
  have H2 : Hid (Td w1 W2 pb t (m - n - 10) ((.slice va n vc, l) :: Z) X) := hide (by rw [hW2]; exact h.spend)
  have c1 : W.cell? ⟨pb + 1, 1, none⟩ = some (.int .i64 m) := by rw [cell_of_row _ _ _ _ _ _ h.budget]; rfl
  have c2 : W.frozen? ⟨pb + 1, 1, none⟩ = false := by simp only [World.frozen?, h.budget]; simp
  have d0 : W2.cell? ⟨pb + 1, 0, none⟩ = some (.pointer (some ⟨pb, 0, none⟩)) := by rw [cell_of_row _ _ _ _ _ _ (unhide H2).budget]; rfl
  have d1 : W2.cell? ⟨pb + 1, 1, none⟩ = some (.int .i64 (m - n - 10)) := by rw [cell_of_row _ _ _ _ _ _ (unhide H2).budget]; rfl
  rw [hW2] at d0 d1
  have CB : Hid (Calls Tryz.prog 48 #[.pointer (some ⟨pb, 0, none⟩), .slice va n vc] (W.setCell ⟨pb + 1, 1, none⟩ (.int .i64 (m - n - 10))) fun e w' => e = .returned (.tuple #[]) ∧ Hid (Td w1 w' pb (t + 1) (m - n - 10) Z X)) := hide (by rw [← hW2]; exact (unhide H2).hand (Below.refl _ _) ht (by omega))
  have HD : Hid (Td w1 (W.setCell ⟨pb + 1, 1, none⟩ (.int .i64 (m - n - 10))) pb (t + 1) (m - n - 10) Z X) := hide (by rw [← hW2]; exact ((unhide H2).drop).later (Nat.le_succ _))
  clear h H2 hW2 hn
  have r1 : -4611686018427387904 ≤ m := hm.1
  have r2 : m ≤ 4611686018427387904 := hm.2
  have r3 : (n : Int) ≤ 1099511627776 := by omega
  have r4 : (0 : Int) ≤ (n : Int) := by omega
  by_cases q : 0 ≤ m - (n : Int) - 10
  · have f1 : decide (0 ≤ m - (n : Int) - 10) = true := decide_eq_true q
    have f2 : decide (m - (n : Int) - 10 ≥ 0) = true := decide_eq_true q
    go_enter Tryz.func24, Tryz.ntmps24
    go_wp2_with (go_at_call 48; refine (unhide CB).mono ?_; rintro e w2 ⟨rfl, k2⟩)
    all_goals go_end0
    all_goals exact ⟨rfl, k2⟩
  · have f1 : decide (0 ≤ m - (n : Int) - 10) = false := decide_eq_false q
    have f2 : decide (m - (n : Int) - 10 ≥ 0) = false := decide_eq_false q
    go_enter Tryz.func24, Tryz.ntmps24
    go_wp2
    all_goals go_end0
    all_goals exact ⟨rfl, HD⟩
theorem Td.looked {w1 W : World} {pb t : Nat} {m : Int} {Z : List (Value × List Nat)} {X : List (Nat × Obj)} (h : Td w1 W pb t m Z X) :
    Calls Tryz.prog 32 #[.pointer (some ⟨pb + 1, 0, none⟩)] W fun e w' => e = .returned (.bool true) ∧ Hid (Td w1 w' pb t m Z X) := by
  have d0 : W.cell? ⟨pb + 1, 0, none⟩ = some (.pointer (some ⟨pb, 0, none⟩)) := by rw [cell_of_row _ _ _ _ _ _ h.budget]; rfl
  have CL : Hid (Calls Tryz.prog 56 #[.pointer (some ⟨pb, 0, none⟩)] W fun e w' => e = .returned (.bool true) ∧ Hid (Td w1 w' pb t m Z X)) := hide h.look
  clear h
  go_enter Tryz.func32, Tryz.ntmps32
  go_wp2_with (go_at_call 56; refine (unhide CL).mono ?_; rintro e w2 ⟨rfl, k2⟩)
  all_goals go_ret
  all_goals exact ⟨rfl, k2⟩
end Go.Proofs.YtecfgbjnjgjkoaaGreatDoor
