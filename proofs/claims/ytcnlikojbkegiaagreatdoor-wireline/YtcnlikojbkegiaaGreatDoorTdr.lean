/- The state of a walk with a Told whose book has rows. -/
import Derived.Test.YtcnlikojbkegiaaGreatDoorApb
import Derived.Test.YtcnlikojbkegiaaGreatDoorBrc
import Derived.Test.YtcnlikojbkegiaaGreatDoorBrg
import Derived.Test.YtcnlikojbkegiaaGreatDoorUnt
import Derived.Deep.RegionHeld3
namespace Go.Proofs.YtcnlikojbkegiaaGreatDoor.Br
open Go.ChangeShapes Go.WideShapes Go.ChangeAt Go.RowKit Go.Proofs.YtcnlikojbkegiaaGreatDoor
set_option linter.unusedVariables false
set_option linter.unusedSimpArgs false
set_option maxRecDepth 20000
set_option maxHeartbeats 4000000

theorem bookAtR_keep {w w' : World} {pb o : Nat} {tag : Nat → Nat} {S : BookSt} (h : BookAt w pb o tag S) (hs : w.heap.size ≤ w'.heap.size) (hb : ∀ g, tag g ≠ 0 → w'.heap[g]? = w.heap[g]?) (hp : w'.heap[pb]? = w.heap[pb]?) : BookAt w' pb o tag S :=
  ⟨h.fl.same hp hs, h.hb.same hb (Nat.le_refl _), h.hu.same hb (Nat.le_refl _), fun g hg => Nat.lt_of_lt_of_le (h.un g hg) hs, h.tp, h.eb, h.eu, h.nb, h.nu, h.cnt, h.us, h.tn⟩
structure TdT (w1 W : World) (pb : Nat) (tg : Nat → Nat) (S : BookSt) (m : Int) (Z : List (Value × List Nat)) (X : List (Nat × Obj)) : Prop where
  bk : BookAt W (pb) 0 tg S
  bud : W.heap[pb + 1]? = some (.cells #[.pointer (some ⟨pb, 0, none⟩), .int .i64 m] 50 (0, 0))
  tb : tg (pb + 1) = 0
  old : ∀ b, b < pb → tg b = 0
  pen : ∀ z ∈ Z, Rws W 5 1 z.1 z.2.length (byV z.2) ∧ ∀ g, z.1.ownBlock = some g → tg g = 0 ∧ pb + 1 < g
  apart : Z.Pairwise (fun x y => ∀ g, x.1.ownBlock = some g → y.1.ownBlock ≠ some g)
  blk : ∀ x ∈ X, tg x.1 = 0 ∧ pb + 1 < x.1 ∧ W.heap[x.1]? = some x.2 ∧ ∀ z ∈ Z, z.1.ownBlock ≠ some x.1
  kept : Kept (fun b => pb ≤ b) w1 W
  sz1 : pb ≤ w1.heap.size
def Td (w1 W : World) (pb t : Nat) (m : Int) (Z : List (Value × List Nat)) (X : List (Nat × Obj)) : Prop := ∃ tg S, S.turn ≤ t ∧ TdT w1 W pb tg S m Z X
theorem TdT.lt {w1 W : World} {pb : Nat} {m : Int} {tg : Nat → Nat} {S : BookSt} {Z : List (Value × List Nat)} {X : List (Nat × Obj)} (h : TdT w1 W pb tg S m Z X) : pb + 1 < W.heap.size := block_lt h.bud
theorem TdT.below {w1 W W' : World} {pb : Nat} {m : Int} {tg : Nat → Nat} {S : BookSt} {Z : List (Value × List Nat)} {X : List (Nat × Obj)} (h : TdT w1 W pb tg S m Z X) (hb : Below W.heap.size W W') : TdT w1 W' pb tg S m Z X := by
  have hN := h.lt
  refine ⟨bookAtR_keep h.bk hb.size (fun g hg => hb.block g (h.bk.un g hg)) (hb.block _ (by omega)), (hb.block _ hN).trans h.bud, h.tb, h.old, fun z hz => ?_, h.apart, fun x hx => ?_, h.kept.trans (Kept.below hb), h.sz1⟩
  · obtain ⟨r1, r2⟩ := h.pen z hz
    exact ⟨r1.below hb, r2⟩
  · obtain ⟨r1, r2, r3, r4⟩ := h.blk x hx
    exact ⟨r1, r2, (hb.block _ (block_lt r3)).trans r3, r4⟩
theorem Td.below {w1 W W' : World} {pb t : Nat} {m : Int} {Z : List (Value × List Nat)} {X : List (Nat × Obj)} (h : Td w1 W pb t m Z X) (hb : Below W.heap.size W W') : Td w1 W' pb t m Z X := by
  obtain ⟨tg, S, ht, h⟩ := h
  exact ⟨tg, S, ht, h.below hb⟩
theorem Td.lt {w1 W : World} {pb t : Nat} {m : Int} {Z : List (Value × List Nat)} {X : List (Nat × Obj)} (h : Td w1 W pb t m Z X) : pb + 1 < W.heap.size := by
  obtain ⟨tg, S, ht, h⟩ := h
  exact h.lt
/-- new lists and new blocks -/
theorem Td.more {w1 W W' : World} {pb t : Nat} {m : Int} {X : List (Nat × Obj)} (h : Td w1 W pb t m [] X) (hb : Below W.heap.size W W') (Z : List (Value × List Nat)) (hZ : ∀ z ∈ Z, Rws W' 5 1 z.1 z.2.length (byV z.2) ∧ ∀ g, z.1.ownBlock = some g → W.heap.size ≤ g) (ap : Z.Pairwise (fun x y => ∀ g, x.1.ownBlock = some g → y.1.ownBlock ≠ some g)) (X' : List (Nat × Obj)) (hX : ∀ x ∈ X', W.heap.size ≤ x.1 ∧ W'.heap[x.1]? = some x.2 ∧ ∀ z ∈ Z, z.1.ownBlock ≠ some x.1) : Td w1 W' pb t m Z (X' ++ X) := by
  obtain ⟨tg, S, ht, h⟩ := h
  have q := h.below hb
  have hN := h.lt
  have t0 : ∀ g, W.heap.size ≤ g → tg g = 0 := fun g hg => Classical.byContradiction (fun e => by have := h.bk.un g e; omega)
  refine ⟨tg, S, ht, ⟨q.bk, q.bud, q.tb, q.old, fun z hz => ⟨(hZ z hz).1, fun g hg => ⟨t0 g ((hZ z hz).2 g hg), by have := (hZ z hz).2 g hg; omega⟩⟩, ap, fun x hx => ?_, q.kept, q.sz1⟩⟩
  rcases List.mem_append.1 hx with hx | hx
  · obtain ⟨r1, r2, r3⟩ := hX x hx
    exact ⟨t0 _ r1, by omega, r2, r3⟩
  · obtain ⟨r1, r2, r3, -⟩ := q.blk x hx
    refine ⟨r1, r2, r3, fun z hz e => ?_⟩
    have h1 := (hZ z hz).2 _ e
    have h2 := block_lt (h.blk x hx).2.2.1
    omega
theorem Td.forget {w1 W : World} {pb t : Nat} {m : Int} {Z : List (Value × List Nat)} {X : List (Nat × Obj)} (h : Td w1 W pb t m Z X) : Td w1 W pb t m Z [] := by
  obtain ⟨tg, S, ht, h⟩ := h
  exact ⟨tg, S, ht, ⟨h.bk, h.bud, h.tb, h.old, h.pen, h.apart, fun x hx => (by cases hx), h.kept, h.sz1⟩⟩
theorem Td.later {w1 W : World} {pb t t' : Nat} {m : Int} {Z : List (Value × List Nat)} {X : List (Nat × Obj)} (h : Td w1 W pb t m Z X) (ht : t ≤ t') : Td w1 W pb t' m Z X := by
  obtain ⟨tg, S, hS, h⟩ := h
  exact ⟨tg, S, Nat.le_trans hS ht, h⟩
/-- the budget's cell -/
theorem Td.spend {w1 W : World} {pb t : Nat} {m k : Int} {Z : List (Value × List Nat)} {X : List (Nat × Obj)} (h : Td w1 W pb t m Z X) : Td w1 (W.setCell ⟨pb + 1, 1, none⟩ (.int .i64 k)) pb t k Z X := by
  obtain ⟨tg, S, ht, h⟩ := h
  have hN := h.lt
  have sz : (W.setCell ⟨pb + 1, 1, none⟩ (.int .i64 k)).heap.size = W.heap.size := by simp
  have oth : ∀ g, g ≠ pb + 1 → (W.setCell ⟨pb + 1, 1, none⟩ (.int .i64 k)).heap[g]? = W.heap[g]? := fun g hg => Bk.setCell_else W _ _ g _ hg
  refine ⟨tg, S, ht, ⟨bookAtR_keep h.bk (by omega) (fun g hg => oth g (fun e => hg (by rw [e]; exact h.tb))) (oth _ (by omega)), ?_, h.tb, h.old, fun z hz => ?_, h.apart, fun x hx => ?_, h.kept.trans ⟨rfl, rfl, rfl, by omega, fun b hb hS => oth b (by omega)⟩, h.sz1⟩⟩
  · rw [Bk.setCell_block W _ 1 _ _ _ _ h.bud]; rfl
  · obtain ⟨r1, r2⟩ := h.pen z hz
    exact ⟨r1.same (fun g hg => oth g (by have := (r2 g hg).2; omega)), r2⟩
  · obtain ⟨r1, r2, r3, r4⟩ := h.blk x hx
    exact ⟨r1, r2, (oth _ (by omega)).trans r3, r4⟩
theorem Td.budget {w1 W : World} {pb t : Nat} {m : Int} {Z : List (Value × List Nat)} {X : List (Nat × Obj)} (h : Td w1 W pb t m Z X) : W.heap[pb + 1]? = some (.cells #[.pointer (some ⟨pb, 0, none⟩), .int .i64 m] 50 (0, 0)) := by
  obtain ⟨tg, S, ht, h⟩ := h
  exact h.bud
/-- Book.Bytes -/
theorem Td.hand {w1 W0 W : World} {pb t : Nat} {m : Int} {Z : List (Value × List Nat)} {X : List (Nat × Obj)} {v : Value} {l : List Nat} (h : Td w1 W0 pb t m ((v, l) :: Z) X) (hb : Below W0.heap.size W0 W) (ht : t < 1000000) (hl : l.length ≤ 281474976710656) :
    Calls Tryz.prog 48 #[.pointer (some ⟨pb, 0, none⟩), v] W fun e w' => e = .returned (.tuple #[]) ∧ Hid (Td w1 w' pb (t + 1) m Z X) := by
  obtain ⟨tg, S, hS, h0⟩ := h
  have h := h0.below hb
  have hN := h.lt
  have hv := h.pen _ (List.mem_cons_self ..)
  refine (take_bytes h.bk (by omega) v l.length (byV l) hv.1.line (fun g hg => ⟨(hv.2 g hg).1, by have := (hv.2 g hg).2; omega⟩) hl).mono ?_
  rintro e w' ⟨rfl, tag', S', b1, b2, b3⟩
  have ap := List.pairwise_cons.1 h.apart
  have at0 : ∀ g, tg g = 0 → v.ownBlock ≠ some g → Bk.tagAt tg v (10 + 2 * (S.turn + 1)) g = 0 := fun g h1 h2 => by unfold Bk.tagAt; rw [if_neg h2]; exact h1
  have kp : ∀ g, g < W.heap.size → g ≠ pb → tg g = 0 → v.ownBlock ≠ some g → w'.heap[g]? = W.heap[g]? ∧ tag' g = 0 := fun g h1 h2 h3 h4 => ⟨b3.blk g h1 (at0 g h3 h4) h2, (b3.tg g h1).trans (at0 g h3 h4)⟩
  have nv : ∀ g, g ≤ pb + 1 → v.ownBlock ≠ some g := fun g hg e => by have := (hv.2 g e).2; omega
  refine ⟨rfl, hide ⟨tag', S', by omega, ⟨b1, ?_, ?_, fun b hb => ?_, fun z hz => ?_, ap.2, fun x hx => ?_, h.kept.trans ⟨b3.os, b3.tape, b3.output, b3.size, fun b hb hS => (kp b hb (by omega) (h.old b (by omega)) (nv b (by omega))).1⟩, h.sz1⟩⟩⟩
  · exact (kp _ hN (by omega) h.tb (nv _ (Nat.le_refl _))).1.trans h.bud
  · exact (kp _ hN (by omega) h.tb (nv _ (Nat.le_refl _))).2
  · exact (kp b (by omega) (by omega) (h.old b hb) (nv b (by omega))).2
  · obtain ⟨r1, r2⟩ := h.pen z (List.mem_cons_of_mem _ hz)
    have k := fun g hg => kp g (r1.lt g hg) (by have := (r2 g hg).2; omega) (r2 g hg).1 (fun e => ap.1 z hz g e hg)
    exact ⟨r1.same (fun g hg => (k g hg).1), fun g hg => ⟨(k g hg).2, (r2 g hg).2⟩⟩
  · obtain ⟨r1, r2, r3, r4⟩ := h.blk x hx
    have k := kp x.1 (block_lt r3) (by omega) r1 (r4 _ (List.mem_cons_self ..))
    exact ⟨k.2, r2, k.1.trans r3, fun z hz => r4 z (List.mem_cons_of_mem _ hz)⟩
/-- Book.Look -/
theorem Td.look {w1 W : World} {pb t : Nat} {m : Int} {Z : List (Value × List Nat)} {X : List (Nat × Obj)} (h : Td w1 W pb t m Z X) :
    Calls Tryz.prog 56 #[.pointer (some ⟨pb, 0, none⟩)] W fun e w' => e = .returned (.bool true) ∧ Hid (Td w1 w' pb t m Z X) := by
  obtain ⟨tg, S, hS, h⟩ := h
  have hN := h.lt
  refine (look_any h.bk).mono ?_
  rintro e w' ⟨rfl, tag', S', b1, b2, b3⟩
  have kp : ∀ g, g < W.heap.size → g ≠ pb → tg g = 0 → w'.heap[g]? = W.heap[g]? ∧ tag' g = 0 := fun g h1 h2 h3 => ⟨b3.blk g h1 h3 h2, (b3.tg g h1).trans h3⟩
  refine ⟨rfl, hide ⟨tag', S', by omega, ⟨b1, ?_, ?_, fun b hb => ?_, fun z hz => ?_, h.apart, fun x hx => ?_, h.kept.trans ⟨b3.os, b3.tape, b3.output, b3.size, fun b hb hS => (kp b hb (by omega) (h.old b (by omega))).1⟩, h.sz1⟩⟩⟩
  · exact (kp _ hN (by omega) h.tb).1.trans h.bud
  · exact (kp _ hN (by omega) h.tb).2
  · exact (kp b (by omega) (by omega) (h.old b hb)).2
  · obtain ⟨r1, r2⟩ := h.pen z hz
    have k := fun g hg => kp g (r1.lt g hg) (by have := (r2 g hg).2; omega) (r2 g hg).1
    exact ⟨r1.same (fun g hg => (k g hg).1), fun g hg => ⟨(k g hg).2, (r2 g hg).2⟩⟩
  · obtain ⟨r1, r2, r3, r4⟩ := h.blk x hx
    have k := kp x.1 (block_lt r3) (by omega) r1
    exact ⟨k.2, r2, k.1.trans r3, r4⟩
theorem Td.bytes {w1 W : World} {pb t : Nat} {m : Int} {Z : List (Value × List Nat)} {X : List (Nat × Obj)} (h : Td w1 W pb t m Z X) {a : Option Addr} {l : List Nat} (hB : Bytes w1 a l) (h0 : ∀ b off, 0 < l.length → a = some ⟨b, off, none⟩ → b < pb) : Bytes W a l := by
  obtain ⟨tg, S, hS, h⟩ := h
  rcases hB with e | ⟨b, off, rfl, hb, hc⟩
  · exact .inl e
  · rcases Nat.eq_zero_or_pos l.length with q | q
    · exact .inl (List.eq_nil_of_length_eq_zero q)
    · have hbN := h0 b off q rfl
      have hblk := h.kept.blk b hb (by omega)
      refine .inr ⟨b, off, rfl, Nat.lt_of_lt_of_le hb h.kept.size, fun i hi => ?_⟩
      rw [← hc i hi]
      unfold World.cell?
      rw [hblk]
theorem Td.cell {w1 W : World} {pb t : Nat} {m : Int} {Z : List (Value × List Nat)} {X : List (Nat × Obj)} (h : Td w1 W pb t m Z X) {b j : Nat} (hb : b < pb) : W.cell? ⟨b, j, none⟩ = w1.cell? ⟨b, j, none⟩ := by
  obtain ⟨tg, S, hS, h⟩ := h
  have hblk := h.kept.blk b (Nat.lt_of_lt_of_le hb h.sz1) (by omega)
  unfold World.cell?
  rw [hblk]
theorem Td.at {w1 W : World} {pb t : Nat} {m : Int} {Z : List (Value × List Nat)} {X : List (Nat × Obj)} (h : Td w1 W pb t m Z X) (b : Nat) (o : Obj) (hx : (b, o) ∈ X) : W.heap[b]? = some o := by
  obtain ⟨tg, S, hS, h⟩ := h
  exact (h.blk _ hx).2.2.1
theorem Td.kept {w1 W : World} {pb t : Nat} {m : Int} {Z : List (Value × List Nat)} {X : List (Nat × Obj)} (h : Td w1 W pb t m Z X) : Kept (fun b => pb ≤ b) w1 W := by
  obtain ⟨tg, S, hS, h⟩ := h
  exact h.kept
theorem Td.drop {w1 W : World} {pb t : Nat} {m : Int} {Z : List (Value × List Nat)} {X : List (Nat × Obj)} {z : Value × List Nat} (h : Td w1 W pb t m (z :: Z) X) : Td w1 W pb t m Z X := by
  obtain ⟨tg, S, hS, h⟩ := h
  exact ⟨tg, S, hS, ⟨h.bk, h.bud, h.tb, h.old, fun z hz => h.pen z (List.mem_cons_of_mem _ hz), (List.pairwise_cons.1 h.apart).2, fun x hx => ⟨(h.blk x hx).1, (h.blk x hx).2.1, (h.blk x hx).2.2.1, fun z hz => (h.blk x hx).2.2.2 z (List.mem_cons_of_mem _ hz)⟩, h.kept, h.sz1⟩⟩
theorem Td.told {w1 W : World} {pb t : Nat} {m : Int} {Z : List (Value × List Nat)} {X : List (Nat × Obj)} {va : Option Addr} {n vc : Nat} {l : List Nat} (h : Td w1 W pb t m ((.slice va n vc, l) :: Z) X) (hn : n = l.length) (ht : t < 1000000) (hl : n ≤ 1099511627776) (hm : -4611686018427387904 ≤ m ∧ m ≤ 4611686018427387904) :
    Calls Tryz.prog 24 #[.pointer (some ⟨pb + 1, 0, none⟩), .slice va n vc] W fun e w' => e = .returned (.tuple #[]) ∧ Hid (Td w1 w' pb (t + 1) (m - n - 10) Z X) := by
  obtain ⟨W2, hW2⟩ : ∃ W2, W2 = W.setCell ⟨pb + 1, 1, none⟩ (.int .i64 (m - n - 10)) := ⟨_, rfl⟩
  have H2 : Hid (Td w1 W2 pb t (m - n - 10) ((.slice va n vc, l) :: Z) X) := hide (by rw [hW2]; exact h.spend)
  have c1 : W.cell? ⟨pb + 1, 1, none⟩ = some (.int .i64 m) := by rw [cell_of_row _ _ _ _ _ _ h.budget]; rfl
  have c2 : W.frozen? ⟨pb + 1, 1, none⟩ = false := by simp only [World.frozen?, h.budget]; simp
  have d0 : W2.cell? ⟨pb + 1, 0, none⟩ = some (.pointer (some ⟨pb, 0, none⟩)) := by rw [cell_of_row _ _ _ _ _ _ (unhide H2).budget]; rfl
  have d1 : W2.cell? ⟨pb + 1, 1, none⟩ = some (.int .i64 (m - n - 10)) := by rw [cell_of_row _ _ _ _ _ _ (unhide H2).budget]; rfl
  rw [hW2] at d0 d1
  have CB : Hid (Calls Tryz.prog 48 #[.pointer (some ⟨pb, 0, none⟩), .slice va n vc] (W.setCell ⟨pb + 1, 1, none⟩ (.int .i64 (m - n - 10))) fun e w' => e = .returned (.tuple #[]) ∧ Hid (Td w1 w' pb (t + 1) (m - n - 10) Z X)) := hide (by rw [← hW2]; exact (unhide H2).hand (Below.refl _ _) ht (by omega))
  have HD : Hid (Td w1 (W.setCell ⟨pb + 1, 1, none⟩ (.int .i64 (m - n - 10))) pb (t + 1) (m - n - 10) Z X) := hide (by rw [← hW2]; exact ((unhide H2).drop).later (Nat.le_succ _))
  clear h H2 hW2 hn
  have r1 : -4611686018427387904 ≤ m := hm.1
  have r2 : m ≤ 4611686018427387904 := hm.2
  have r3 : (n : Int) ≤ 1099511627776 := by omega
  have r4 : (0 : Int) ≤ (n : Int) := by omega
  by_cases q : 0 ≤ m - (n : Int) - 10
  · have f1 : decide (0 ≤ m - (n : Int) - 10) = true := decide_eq_true q
    have f2 : decide (m - (n : Int) - 10 ≥ 0) = true := decide_eq_true q
    go_enter Tryz.func24, Tryz.ntmps24
    go_wp2_with (go_at_call 48; refine (unhide CB).mono ?_; rintro e w2 ⟨rfl, k2⟩)
    all_goals go_end0
    all_goals exact ⟨rfl, k2⟩
  · have f1 : decide (0 ≤ m - (n : Int) - 10) = false := decide_eq_false q
    have f2 : decide (m - (n : Int) - 10 ≥ 0) = false := decide_eq_false q
    go_enter Tryz.func24, Tryz.ntmps24
    go_wp2
    all_goals go_end0
    all_goals exact ⟨rfl, HD⟩
theorem Td.looked {w1 W : World} {pb t : Nat} {m : Int} {Z : List (Value × List Nat)} {X : List (Nat × Obj)} (h : Td w1 W pb t m Z X) :
    Calls Tryz.prog 32 #[.pointer (some ⟨pb + 1, 0, none⟩)] W fun e w' => e = .returned (.bool true) ∧ Hid (Td w1 w' pb t m Z X) := by
  have d0 : W.cell? ⟨pb + 1, 0, none⟩ = some (.pointer (some ⟨pb, 0, none⟩)) := by rw [cell_of_row _ _ _ _ _ _ h.budget]; rfl
  have CL : Hid (Calls Tryz.prog 56 #[.pointer (some ⟨pb, 0, none⟩)] W fun e w' => e = .returned (.bool true) ∧ Hid (Td w1 w' pb t m Z X)) := hide h.look
  clear h
  go_enter Tryz.func32, Tryz.ntmps32
  go_wp2_with (go_at_call 56; refine (unhide CL).mono ?_; rintro e w2 ⟨rfl, k2⟩)
  all_goals go_ret
  all_goals exact ⟨rfl, k2⟩
/-- a row of lists that the book has not been handed yet: its block holds still -/
def RowX (v : Value) (Zr : List (Value × List Nat)) (xs : List (Nat × Obj)) : Prop := (v = .slice none 0 0 ∧ Zr = [] ∧ xs = []) ∨ ∃ g cap cur, v = .slice (some ⟨g, 0, none⟩) Zr.length cap ∧ xs = [(g, .cells cur 25 (0, 0))] ∧ Zr.length ≤ cap ∧ cap ≤ maxLen ∧ cur.size = cap ∧ ∀ j, j < Zr.length → cur[j]? = some (Zr.getD j (undef, [])).1
theorem RowX.shape {v : Value} {Zr : List (Value × List Nat)} {xs : List (Nat × Obj)} (h : RowX v Zr xs) : ∃ a cap, v = .slice a Zr.length cap := by
  rcases h with ⟨rfl, rfl, rfl⟩ | ⟨g, cap, cur, rfl, _⟩
  · exact ⟨none, 0, rfl⟩
  · exact ⟨_, cap, rfl⟩
/-- Book.Rows -/
theorem Td.rows {w1 W : World} {pb t : Nat} {m : Int} {Zr Z : List (Value × List Nat)} {xs X : List (Nat × Obj)} {a0 : Option Addr} {n cap0 : Nat} (h : Td w1 W pb t m (Zr ++ Z) (xs ++ X)) (hr : RowX (.slice a0 n cap0) Zr xs) (hn : n = Zr.length) (hn1 : n ≤ 1000000) (ht : t + n < 1000000) (hl : ∀ z ∈ Zr, z.2.length ≤ 281474976710656) (hX : ∀ x ∈ X, (Value.slice a0 n cap0).ownBlock ≠ some x.1) :
    Calls Tryz.prog 45 #[.pointer (some ⟨pb, 0, none⟩), .slice a0 n cap0] W fun e w' => e = .returned (.tuple #[]) ∧ Hid (Td w1 w' pb (t + n + 1) m Z X) := by
  have fi : ∀ i, i < n → (Zr.getD i (undef, [])) ∈ Zr ∧ Zr.drop i = Zr.getD i (undef, []) :: Zr.drop (i + 1) := fun i hi => by
    have hil : i < Zr.length := by omega
    rw [List.drop_eq_getElem_cons hil]
    simp [List.getD, hil]
  refine (take_rows (w := W) (pb := pb) (o := 0) (fun i W' => Td w1 W' pb (t + i) m (Zr.drop i ++ Z) (xs ++ X)) (fun W' tag S => TdT w1 W' pb tag S m Z (xs ++ X) ∧ S.turn ≤ t + n) a0 n cap0 (fun i => (Zr.getD i (undef, [])).1) hn1 h (fun i hi W' hP => ?_) (fun W' hP => ?_)).mono ?_
  · constructor
    · rcases hr with ⟨e, rfl, rfl⟩ | ⟨g, cap, cur, e, rfl, h1, h2, h3, h4⟩
      · simp at hn; omega
      · simp only [Value.slice.injEq] at e
        refine ⟨g, e.1, ?_⟩
        have hb := hP.at g (.cells cur 25 (0, 0)) (by simp)
        rw [cell_of_row _ _ _ _ _ _ hb]
        exact h4 i (by omega)
    · have hP' : Td w1 W' pb (t + i) m (((Zr.getD i (undef, [])).1, (Zr.getD i (undef, [])).2) :: (Zr.drop (i + 1) ++ Z)) (xs ++ X) := by
        have := hP
        rw [(fi i hi).2] at this
        exact this
      refine (hP'.hand (Below.refl _ _) (by omega) (hl _ (fi i hi).1)).mono ?_
      rintro e w' ⟨rfl, k⟩
      exact ⟨rfl, by have := unhide k; rw [show t + i + 1 = t + (i + 1) by omega] at this; exact this⟩
  · have hP' : Td w1 W' pb (t + n) m Z (xs ++ X) := by
      have h1 : Zr.drop n = [] := List.drop_eq_nil_of_le (by omega)
      have := hP
      rw [h1] at this
      exact this
    obtain ⟨tg, S, hS, h0⟩ := hP'
    refine ⟨tg, S, ⟨h0, hS⟩, h0.bk, by omega, ?_, fun g hg => ?_⟩
    · rcases hr with ⟨e, rfl, rfl⟩ | ⟨g, cap, cur, e, rfl, h1, h2, h3, h4⟩
      · exact .inl ⟨e, by simpa using hn⟩
      · rw [e, ← hn]
        exact .inr ⟨g, cap, cur, rfl, (h0.blk _ (List.mem_append_left _ (List.mem_singleton_self _))).2.2.1, by omega, h2, h3, fun j hj => h4 j (by omega)⟩
    · rcases hr with ⟨e, rfl, rfl⟩ | ⟨g', cap, cur, e, rfl, h1, h2, h3, h4⟩
      · rw [e] at hg; simp [Value.ownBlock] at hg
      · rw [e] at hg
        have : g' = g := by simpa [Value.ownBlock] using hg
        subst this
        have := h0.blk _ (List.mem_append_left _ (List.mem_singleton_self _))
        exact ⟨this.1, by have := this.2.1; omega⟩
  · rintro e w' ⟨rfl, W', tg, S, tag', S', ⟨h0, hS⟩, b0, b1, b2, b3⟩
    have hN := h0.lt
    have vg : ∀ g, (Value.slice a0 n cap0).ownBlock = some g → ∃ o, xs = [(g, o)] ∧ tg g = 0 ∧ pb + 1 < g := fun g hg => by
      rcases hr with ⟨e, rfl, rfl⟩ | ⟨g', cap, cur, e, rfl, h1, h2, h3, h4⟩
      · rw [e] at hg; simp [Value.ownBlock] at hg
      · rw [e] at hg
        have : g' = g := by simpa [Value.ownBlock] using hg
        subst this
        have := h0.blk _ (List.mem_append_left _ (List.mem_singleton_self _))
        exact ⟨_, rfl, this.1, this.2.1⟩
    have at0 : ∀ g, tg g = 0 → (Value.slice a0 n cap0).ownBlock ≠ some g → Bk.tagAt tg (.slice a0 n cap0) (10 + 2 * (S.turn + 1) + 1) g = 0 := fun g h1 h2 => by unfold Bk.tagAt; rw [if_neg h2]; exact h1
    have kp : ∀ g, g < W'.heap.size → g ≠ pb → tg g = 0 → (Value.slice a0 n cap0).ownBlock ≠ some g → w'.heap[g]? = W'.heap[g]? ∧ tag' g = 0 := fun g h1 h2 h3 h4 => ⟨b3.blk g h1 (at0 g h3 h4) h2, (b3.tg g h1).trans (at0 g h3 h4)⟩
    have nv : ∀ g, g ≤ pb + 1 → (Value.slice a0 n cap0).ownBlock ≠ some g := fun g hg e => by obtain ⟨_, _, _, h3⟩ := vg g e; omega
    refine ⟨rfl, hide ⟨tag', S', by omega, ⟨b1, ?_, ?_, fun b hb => ?_, fun z hz => ?_, h0.apart, fun x hx => ?_, h0.kept.trans ⟨b3.os, b3.tape, b3.output, b3.size, fun b hb hS => (kp b hb (by omega) (h0.old b (by omega)) (nv b (by omega))).1⟩, h0.sz1⟩⟩⟩
    · exact (kp _ hN (by omega) h0.tb (nv _ (Nat.le_refl _))).1.trans h0.bud
    · exact (kp _ hN (by omega) h0.tb (nv _ (Nat.le_refl _))).2
    · exact (kp b (by omega) (by omega) (h0.old b hb) (nv b (by omega))).2
    · obtain ⟨r1, r2⟩ := h0.pen z hz
      have nz : ∀ g, z.1.ownBlock = some g → (Value.slice a0 n cap0).ownBlock ≠ some g := fun g hg e => by
        obtain ⟨o, hx, _⟩ := vg g e
        have := (h0.blk (g, o) (by rw [hx]; simp)).2.2.2 z hz
        exact this hg
      have k := fun g hg => kp g (r1.lt g hg) (by have := (r2 g hg).2; omega) (r2 g hg).1 (nz g hg)
      exact ⟨r1.same (fun g hg => (k g hg).1), fun g hg => ⟨(k g hg).2, (r2 g hg).2⟩⟩
    · obtain ⟨r1, r2, r3, r4⟩ := h0.blk x (List.mem_append_right _ hx)
      have k := kp x.1 (block_lt r3) (by omega) r1 (hX x hx)
      exact ⟨k.2, r2, k.1.trans r3, r4⟩
/-- how much a row of lists takes of what is left -/
def spendR : List (Value × List Nat) → Int
  | [] => 0
  | z :: r => (z.2.length : Nat) + 10 + spendR r
theorem spendR_nn : ∀ l, 0 ≤ spendR l
  | [] => Int.le_refl _
  | z :: r => by have := spendR_nn r; unfold spendR; omega
theorem spendR_le (B : Nat) : ∀ l : List (Value × List Nat), (∀ z ∈ l, z.2.length ≤ B) → spendR l ≤ (l.length : Int) * ((B : Int) + 10)
  | [], _ => by simp [spendR]
  | z :: r, h => by
    have h1 := spendR_le B r (fun y hy => h y (List.mem_cons_of_mem _ hy))
    have h2 := h z (List.mem_cons_self ..)
    unfold spendR
    rw [List.length_cons]
    have e : ((r.length + 1 : Nat) : Int) * ((B : Int) + 10) = (r.length : Int) * ((B : Int) + 10) + ((B : Int) + 10) := by
      rw [Int.natCast_add, Int.add_mul]
      simp
    rw [e]
    omega
theorem spendR_take (l : List (Value × List Nat)) : ∀ i, i < l.length → spendR (l.take (i + 1)) = spendR (l.take i) + ((l.getD i (undef, [])).2.length : Nat) + 10 := by
  induction l with
  | nil => intro i h; simp at h
  | cons z r ih =>
    intro i hi
    cases i with
    | zero => simp [spendR]
    | succ i =>
      have := ih i (by simpa using hi)
      simp only [List.take_succ_cons, spendR]
      rw [this]
      simp [List.getD]
      omega
/-- Told.rows -/
theorem Td.toldR {w1 W : World} {pb t : Nat} {m : Int} {Zr : List (Value × List Nat)} {xs : List (Nat × Obj)} {a0 : Option Addr} {n cap0 : Nat} (h : Td w1 W pb t m Zr xs) (hr : RowX (.slice a0 n cap0) Zr xs) (hn : n = Zr.length) (hn1 : n ≤ 2000) (ht : t + n < 1000000) (hl : ∀ z ∈ Zr, z.2.length ≤ 2000) (hm : -4611686018427387904 ≤ m ∧ m ≤ 4611686018427387904) :
    Calls Tryz.prog 19 #[.pointer (some ⟨pb + 1, 0, none⟩), .slice a0 n cap0] W fun e w' => e = .returned (.tuple #[]) ∧ Hid (Td w1 w' pb (t + n + 1) (m - spendR Zr - 10) [] []) := by
  have HS0 : Hid (Td w1 W pb t (m - spendR (Zr.take 0)) Zr xs) := hide (by simpa [spendR] using h)
  have hsb : ∀ i, i ≤ n → 0 ≤ spendR (Zr.take i) ∧ spendR (Zr.take i) ≤ 6000000 := fun i hi => ⟨spendR_nn _, by
    have h1 := spendR_le 2000 (Zr.take i) (fun z hz => hl z (List.mem_of_mem_take hz))
    have h2 : (Zr.take i).length ≤ 2000 := by simp; omega
    have h3 : ((Zr.take i).length : Int) * ((2000 : Int) + 10) ≤ 2000 * 2010 := by
      have : ((Zr.take i).length : Int) ≤ 2000 := by omega
      omega
    have e : ((2000 : Nat) : Int) = 2000 := rfl
    rw [e] at h1
    omega⟩
  have HSB := hide hsb
  have HR := hide hr
  have HRC : Hid (∀ i, i < n → ∃ g va vn vc, a0 = some ⟨g, 0, none⟩ ∧ (Zr.getD i (undef, [])).1 = .slice va vn vc ∧ vn = (Zr.getD i (undef, [])).2.length ∧ ∀ W' mm, Td w1 W' pb t mm Zr xs → W'.cell? ⟨g, i, none⟩ = some (.slice va vn vc)) := hide (fun i hi => by
    rcases hr with ⟨e, rfl, rfl⟩ | ⟨g, cap, cur, e, rfl, h1, h2, h3, h4⟩
    · simp at hn; omega
    · simp only [Value.slice.injEq] at e
      have hmem : Zr.getD i (undef, []) ∈ Zr := by
        have hil : i < Zr.length := by omega
        simp [List.getD, hil]
      obtain ⟨tg, S, _, hT⟩ := h
      obtain ⟨va, vc, hv⟩ := (hT.pen _ hmem).1.shape
      refine ⟨g, va, _, vc, e.1, hv, rfl, fun W' mm hW' => ?_⟩
      have hb := hW'.at g (.cells cur 25 (0, 0)) (by simp)
      rw [cell_of_row _ _ _ _ _ _ hb, h4 i (by omega), hv])
  have HFIN : Hid (∀ W', Td w1 W' pb t (m - spendR Zr - 10) Zr xs → Calls Tryz.prog 45 #[.pointer (some ⟨pb, 0, none⟩), .slice a0 n cap0] W' fun e w' => e = .returned (.tuple #[]) ∧ Hid (Td w1 w' pb (t + n + 1) (m - spendR Zr - 10) [] [])) := hide (fun W' hW' => Td.rows (Z := []) (X := []) (by simpa using hW') hr hn (by omega) ht (fun z hz => by have := hl z hz; omega) (fun x hx => by cases hx))
  have HALL : Hid (∀ W', Td w1 W' pb t (m - spendR Zr - 10) Zr xs → Td w1 W' pb (t + n + 1) (m - spendR Zr - 10) [] []) := hide (fun W' hW' => by
    have h1 := hW'.forget
    clear h HS0
    obtain ⟨tg, S, hS, h2⟩ := h1
    exact ⟨tg, S, by omega, ⟨h2.bk, h2.bud, h2.tb, h2.old, fun z hz => (by cases hz), List.Pairwise.nil, fun x hx => (by cases hx), h2.kept, h2.sz1⟩⟩)
  have HTK : Hid (∀ i, i < n → spendR (Zr.take (i + 1)) = spendR (Zr.take i) + ((Zr.getD i (undef, [])).2.length : Nat) + 10) := hide (fun i hi => spendR_take Zr i (by omega))
  have HTN : Hid (spendR (Zr.take n) = spendR Zr) := hide (by rw [hn, List.take_length])
  have HLN : Hid (∀ i, i < n → (Zr.getD i (undef, [])).2.length ≤ 2000) := hide (fun i hi => hl _ (by
    have hil : i < Zr.length := by omega
    simp [List.getD, hil]))
  have r1 : -4611686018427387904 ≤ m := hm.1
  have r2 : m ≤ 4611686018427387904 := hm.2
  clear h hr hl hsb hm hn
  go_enter Tryz.func19, Tryz.ntmps19
  go_wp2_with fail
  go_loopw [4] (fun iv wr => ∃ i : Nat, iv = .int .i64 (i : Nat) ∧ i ≤ n ∧ Hid (Td w1 wr pb t (m - spendR (Zr.take i)) Zr xs)) (fun iv _ => n - (intOf iv).toNat)
  case atStart => exact ⟨0, rfl, Nat.zero_le _, HS0⟩
  case round =>
    obtain ⟨i, rfl, hin, HT⟩ := hrel
    rename World => wr
    obtain ⟨sp, hsp⟩ : ∃ sp, sp = spendR (Zr.take i) := ⟨_, rfl⟩
    obtain ⟨b1, b2⟩ := unhide HSB i hin
    rw [← hsp] at HT b1 b2
    have HSP := hide hsp
    clear hsp
    have c1 : wr.cell? ⟨pb + 1, 1, none⟩ = some (.int .i64 (m - sp)) := by rw [cell_of_row _ _ _ _ _ _ (unhide HT).budget]; rfl
    have c1f : wr.frozen? ⟨pb + 1, 1, none⟩ = false := by simp only [World.frozen?, (unhide HT).budget]; simp
    by_cases hlt : i < n
    · have d1 : decide ((i : Int) < (n : Int)) = true := decide_eq_true (by omega)
      have y0 : (0 : Int) ≤ (i : Int) := by omega
      have y1 : (i : Int) < (n : Int) := by omega
      obtain ⟨g, va, vn, vc, rfl, hv, hvn, hcell⟩ := unhide HRC i hlt
      have ci := hcell wr _ (unhide HT)
      have hv2 := unhide HLN i hlt
      rw [← hvn] at hv2
      have hw1 : -9223372036854775808 ≤ m - sp - (vn : Int) := by omega
      have hw2 : m - sp - (vn : Int) ≤ 9223372036854775807 := by omega
      have hwr1 : IntKind.i64.wrap (m - sp - (vn : Int)) = m - sp - (vn : Int) := by rw [IntKind.wrap_i64]; omega
      have hwr2 : IntKind.i64.wrap (m - sp - (vn : Int) - 10) = m - sp - (vn : Int) - 10 := by rw [IntKind.wrap_i64]; omega
      have HEN : Hid (∀ W', W' = wr ∨ (∃ k, W' = wr.drewN k) → Td w1 (W'.setCell ⟨pb + 1, 1, none⟩ (.int .i64 (m - sp - (vn : Int) - 10))) pb t (m - spendR (Zr.take (i + 1))) Zr xs) := hide (fun W' hW' => by
        rw [unhide HTK i hlt, ← unhide HSP, ← hvn, show m - (sp + (vn : Nat) + 10) = m - sp - (vn : Int) - 10 by omega]
        have hbel : Below wr.heap.size wr W' := by
          rcases hW' with rfl | ⟨k, rfl⟩
          · exact Below.refl _ _
          · exact ⟨rfl, rfl, rfl, Nat.le_refl _, fun _ _ => rfl⟩
        exact ((unhide HT).below hbel).spend)
      clear hv hvn hcell HT HSP
      go_wp2_with fail
      have hSS : (fun w' => w'.cell? ⟨pb + 1, 1, none⟩ = some (.int .i64 (m - sp)) ∧ w'.cell? ⟨g, i, none⟩ = some (.slice va vn vc)) wr.drew := ⟨c1, ci⟩
      refine till_begin (fun w' => w'.cell? ⟨pb + 1, 1, none⟩ = some (.int .i64 (m - sp)) ∧ w'.cell? ⟨g, i, none⟩ = some (.slice va vn vc)) 14 (by kernel_rfl) ?_
      refine AnyTill.take 0 (v := ?_) rfl (by kernel_rfl) (by kernel_rfl) (by kernel_rfl) (by kernel_rfl) (fun _ _ _ h => h) ?_ rfl hSS ?_
      rotate_left
      · intro w hSw
        obtain ⟨s1, s2⟩ := hSw
        go_simp
        all_goals with_reducible rfl
      try simp only [Act.put, List.getElem_toArray, List.getElem_cons_succ, List.getElem_cons_zero, List.setIfInBounds_toArray, List.set_cons_zero, List.set_cons_succ]
      refine AnyTill.take 1 (v := ?_) rfl (by kernel_rfl) (by kernel_rfl) (by kernel_rfl) (by kernel_rfl) (fun _ _ _ h => h) ?_ rfl hSS ?_
      rotate_left
      · intro w hSw
        obtain ⟨s1, s2⟩ := hSw
        go_simp
        all_goals with_reducible rfl
      try simp only [Act.put, List.getElem_toArray, List.getElem_cons_succ, List.getElem_cons_zero, List.setIfInBounds_toArray, List.set_cons_zero, List.set_cons_succ]
      refine AnyTill.take 2 (v := ?_) rfl (by kernel_rfl) (by kernel_rfl) (by kernel_rfl) (by kernel_rfl) (fun _ _ _ h => h) ?_ rfl hSS ?_
      rotate_left
      · intro w hSw
        obtain ⟨s1, s2⟩ := hSw
        go_simp
        all_goals with_reducible rfl
      try simp only [Act.put, List.getElem_toArray, List.getElem_cons_succ, List.getElem_cons_zero, List.setIfInBounds_toArray, List.set_cons_zero, List.set_cons_succ]
      refine AnyTill.take 3 (v := ?_) rfl (by kernel_rfl) (by kernel_rfl) (by kernel_rfl) (by kernel_rfl) (fun _ _ _ h => h) ?_ rfl hSS ?_
      rotate_left
      · intro w hSw
        obtain ⟨s1, s2⟩ := hSw
        go_simp
        all_goals with_reducible rfl
      try simp only [Act.put, List.getElem_toArray, List.getElem_cons_succ, List.getElem_cons_zero, List.setIfInBounds_toArray, List.set_cons_zero, List.set_cons_succ]
      refine AnyTill.take 4 (v := ?_) rfl (by kernel_rfl) (by kernel_rfl) (by kernel_rfl) (by kernel_rfl) (fun _ _ _ h => h) ?_ rfl hSS ?_
      rotate_left
      · intro w hSw
        obtain ⟨s1, s2⟩ := hSw
        go_simp
        all_goals with_reducible rfl
      try simp only [Act.put, List.getElem_toArray, List.getElem_cons_succ, List.getElem_cons_zero, List.setIfInBounds_toArray, List.set_cons_zero, List.set_cons_succ]
      refine AnyTill.take 5 (v := ?_) rfl (by kernel_rfl) (by kernel_rfl) (by kernel_rfl) (by kernel_rfl) (fun _ _ _ h => h) ?_ rfl hSS ?_
      rotate_left
      · intro w hSw
        obtain ⟨s1, s2⟩ := hSw
        go_simp
        all_goals with_reducible rfl
      try simp only [Act.put, List.getElem_toArray, List.getElem_cons_succ, List.getElem_cons_zero, List.setIfInBounds_toArray, List.set_cons_zero, List.set_cons_succ]
      refine AnyTill.take 6 (v := ?_) rfl (by kernel_rfl) (by kernel_rfl) (by kernel_rfl) (by kernel_rfl) (fun _ _ _ h => h) ?_ rfl hSS ?_
      rotate_left
      · intro w hSw
        obtain ⟨s1, s2⟩ := hSw
        go_simp
        all_goals with_reducible rfl
      try simp only [Act.put, List.getElem_toArray, List.getElem_cons_succ, List.getElem_cons_zero, List.setIfInBounds_toArray, List.set_cons_zero, List.set_cons_succ]
      refine AnyTill.take 7 (v := ?_) rfl (by kernel_rfl) (by kernel_rfl) (by kernel_rfl) (by kernel_rfl) (fun _ _ _ h => h) ?_ rfl hSS ?_
      rotate_left
      · intro w hSw
        obtain ⟨s1, s2⟩ := hSw
        go_simp
        all_goals with_reducible rfl
      try simp only [Act.put, List.getElem_toArray, List.getElem_cons_succ, List.getElem_cons_zero, List.setIfInBounds_toArray, List.set_cons_zero, List.set_cons_succ]
      refine AnyTill.take 8 (v := ?_) rfl (by kernel_rfl) (by kernel_rfl) (by kernel_rfl) (by kernel_rfl) (fun _ _ _ h => h) ?_ rfl hSS ?_
      rotate_left
      · intro w hSw
        obtain ⟨s1, s2⟩ := hSw
        go_simp
        all_goals with_reducible rfl
      try simp only [Act.put, List.getElem_toArray, List.getElem_cons_succ, List.getElem_cons_zero, List.setIfInBounds_toArray, List.set_cons_zero, List.set_cons_succ]
      refine AnyTill.take 9 (v := ?_) rfl (by kernel_rfl) (by kernel_rfl) (by kernel_rfl) (by kernel_rfl) (fun _ _ _ h => h) ?_ rfl hSS ?_
      rotate_left
      · intro w hSw
        obtain ⟨s1, s2⟩ := hSw
        go_simp
        all_goals with_reducible rfl
      try simp only [Act.put, List.getElem_toArray, List.getElem_cons_succ, List.getElem_cons_zero, List.setIfInBounds_toArray, List.set_cons_zero, List.set_cons_succ]
      refine AnyTill.take 10 (v := ?_) rfl (by kernel_rfl) (by kernel_rfl) (by kernel_rfl) (by kernel_rfl) (fun _ _ _ h => h) ?_ rfl hSS ?_
      rotate_left
      · intro w hSw
        obtain ⟨s1, s2⟩ := hSw
        go_simp
        all_goals with_reducible rfl
      try simp only [Act.put, List.getElem_toArray, List.getElem_cons_succ, List.getElem_cons_zero, List.setIfInBounds_toArray, List.set_cons_zero, List.set_cons_succ]
      refine AnyTill.take 11 (v := ?_) rfl (by kernel_rfl) (by kernel_rfl) (by kernel_rfl) (by kernel_rfl) (fun _ _ _ h => h) ?_ rfl hSS ?_
      rotate_left
      · intro w hSw
        obtain ⟨s1, s2⟩ := hSw
        go_simp
        all_goals with_reducible rfl
      try simp only [Act.put, List.getElem_toArray, List.getElem_cons_succ, List.getElem_cons_zero, List.setIfInBounds_toArray, List.set_cons_zero, List.set_cons_succ]
      refine AnyTill.one (i := 12) (by kernel_rfl) (AnyTill.op rfl rfl fun K hK => ?_)
      go_simp
      refine hK _ _ (fun _ => hSS) ?_
      clear hK K
      try simp only [Act.put, List.getElem_toArray, List.getElem_cons_succ, List.getElem_cons_zero, List.setIfInBounds_toArray, List.set_cons_zero, List.set_cons_succ]
      refine AnyTill.one (i := 13) (by kernel_rfl) (AnyTill.op rfl rfl fun K hK => ?_)
      go_simp
      refine hK _ _ (fun _ => hSS) ?_
      clear hK K
      try simp only [Act.put, List.getElem_toArray, List.getElem_cons_succ, List.getElem_cons_zero, List.setIfInBounds_toArray, List.set_cons_zero, List.set_cons_succ]
      have c1d : wr.drew.cell? ⟨pb + 1, 1, none⟩ = some (.int .i64 (m - sp)) := c1
      have c1fd : wr.drew.frozen? ⟨pb + 1, 1, none⟩ = false := c1f
      refine AnyTill.one (i := 14) (by kernel_rfl) (AnyTill.op rfl rfl fun K hK => ?_)
      go_simp
      refine hK _ _ (fun h => absurd rfl h) ?_
      clear hK K
      try simp only [Act.put, List.getElem_toArray, List.getElem_cons_succ, List.getElem_cons_zero, List.setIfInBounds_toArray, List.set_cons_zero, List.set_cons_succ]
      refine AnyTill.done (by kernel_rfl) ?_
      go_wp2_with fail
      go_roundw
      case rel => exact ⟨i + 1, by go_num, by omega, hide (unhide HEN wr.drew (.inr ⟨1, rfl⟩))⟩
      case measure => simp [intOf]; omega
    · obtain rfl : i = n := by omega
      have d1 : decide ((i : Int) < (i : Int)) = false := decide_eq_false (by omega)
      have hsR : sp = spendR Zr := by rw [unhide HSP, unhide HTN]
      have HD : Hid (Td w1 (wr.setCell ⟨pb + 1, 1, none⟩ (.int .i64 (m - sp - 10))) pb t (m - sp - 10) Zr xs) := hide (unhide HT).spend
      have e0 : (wr.setCell ⟨pb + 1, 1, none⟩ (.int .i64 (m - sp - 10))).cell? ⟨pb + 1, 0, none⟩ = some (.pointer (some ⟨pb, 0, none⟩)) := by rw [cell_of_row _ _ _ _ _ _ (unhide HD).budget]; rfl
      have e1 : (wr.setCell ⟨pb + 1, 1, none⟩ (.int .i64 (m - sp - 10))).cell? ⟨pb + 1, 1, none⟩ = some (.int .i64 (m - sp - 10)) := by rw [cell_of_row _ _ _ _ _ _ (unhide HD).budget]; rfl
      have HF2 := hide (unhide HFIN (wr.setCell ⟨pb + 1, 1, none⟩ (.int .i64 (m - sp - 10))) (by have := unhide HD; rw [hsR] at this ⊢; exact this))
      have HA2 := hide (unhide HALL (wr.setCell ⟨pb + 1, 1, none⟩ (.int .i64 (m - sp - 10))) (by have := unhide HD; rw [hsR] at this ⊢; exact this))
      clear HD hsR HSP HFIN HALL HT HRC HTK HTN HLN HS0 HSB HR
      by_cases q : 0 ≤ m - sp - 10
      · have f1 : decide (0 ≤ m - sp - 10) = true := decide_eq_true q
        have f2 : decide (m - sp - 10 ≥ 0) = true := decide_eq_true q
        go_wp2_with (go_at_call 45; with_reducible refine (unhide HF2).mono ?_; rintro e w2 ⟨rfl, k2⟩)
        all_goals go_end0
        all_goals exact ⟨rfl, k2⟩
      · have f1 : decide (0 ≤ m - sp - 10) = false := decide_eq_false q
        have f2 : decide (m - sp - 10 ≥ 0) = false := decide_eq_false q
        go_wp2
        all_goals go_end0
        all_goals exact ⟨rfl, HA2⟩
end Go.Proofs.YtcnlikojbkegiaaGreatDoor.Br
