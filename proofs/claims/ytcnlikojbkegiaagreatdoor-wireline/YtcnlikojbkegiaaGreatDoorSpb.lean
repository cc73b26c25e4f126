/- spares. -/
import Derived.Test.YtcnlikojbkegiaaGreatDoorSam
import Derived.Test.YtcnlikojbkegiaaGreatDoorWrb
namespace Go.Proofs.YtcnlikojbkegiaaGreatDoor
open Go.ChangeShapes Go.WideShapes Go.ChangeAt Go.RowKit
set_option linter.unusedVariables false
set_option linter.unusedSimpArgs false
set_option maxRecDepth 20000
set_option maxHeartbeats 4000000

/-- arguments that lie in memory, or none -/
def ArgsO (w : World) (a : Option Addr) (L : List (List Nat)) : Prop := L = [] ∨ ∃ b off, a = some ⟨b, off, none⟩ ∧ ArgsAt w b off L
theorem ArgsAt.below {w w' : World} {b off : Nat} {L : List (List Nat)} (h : ArgsAt w b off L) (hb : Below w.heap.size w w') : ArgsAt w' b off L :=
  ⟨Nat.lt_of_lt_of_le h.1 hb.size, fun k T hT => by
    obtain ⟨a, c, h1, h2, h3⟩ := h.2 k T hT
    exact ⟨a, c, (hb.cell (p := ⟨b, off + k, none⟩) h.1).trans h1, h2.below hb, h3⟩⟩
theorem ArgsO.below {w w' : World} {a : Option Addr} {L : List (List Nat)} (h : ArgsO w a L) (hb : Below w.heap.size w w') : ArgsO w' a L := by
  rcases h with h | ⟨b, off, rfl, h⟩
  · exact .inl h
  · exact .inr ⟨b, off, rfl, h.below hb⟩
def tn (L : List (List Nat)) (k : Nat) : Nat := (L.getD k []).length
/-- a text with its room: list k of the full ones, and what stands in m -/
abbrev fuV (L : List (List Nat)) (G : Nat → Nat) (k : Nat) : Value := .slice (some ⟨G k, 0, none⟩) (tn L k + 3) (tn L k + 3)
abbrev inV (L : List (List Nat)) (G : Nat → Nat) (k : Nat) : Value := .slice (some ⟨G k, 0, none⟩) (tn L k) (tn L k + 3)
/-- while the lists are made: i of them stand -/
structure Spr (w wr : World) (gm n : Nat) (fv : Value) (L : List (List Nat)) (i : Nat) (G : Nat → Nat) : Prop where
  bel : Below w.heap.size w wr
  gmb : w.heap.size ≤ gm
  m : Rws wr 25 1 (.slice (some ⟨gm, 0, none⟩) (n + 1) (n + 1)) (n + 1) (fun k => if k < i then inV L G k else .slice none 0 0)
  full : Rws wr 25 1 fv i (fun k => fuV L G k)
  own : ∀ g, fv.ownBlock = some g → w.heap.size ≤ g ∧ g ≠ gm
  row : ∀ k, k < i → w.heap.size ≤ G k ∧ Rws wr 5 1 (fuV L G k) (tn L k + 3) (byV (L.getD k [] ++ [7, 7, 7]))
  one : ∀ j k, j < i → k < i → G j = G k → j = k
theorem Spr.below {w wr wr' : World} {gm n : Nat} {fv : Value} {L : List (List Nat)} {i : Nat} {G : Nat → Nat} (h : Spr w wr gm n fv L i G) (hb : Below wr.heap.size wr wr') : Spr w wr' gm n fv L i G :=
  ⟨h.bel.trans (hb.mono h.bel.size), h.gmb, h.m.below hb, h.full.below hb, h.own, fun k hk => ⟨(h.row k hk).1, (h.row k hk).2.below hb⟩, h.one⟩
theorem made_row (z : Value) (N k : Nat) (h : k < N) : (madeCells #[z] N)[k]? = some z := by
  unfold madeCells
  simp [h, Nat.mod_one]
theorem Spr.start (w : World) (n : Nat) (L : List (List Nat)) (hn : n + 1 ≤ maxLen) : Spr w (w.alloc (.cells (madeCells #[.slice none 0 0] (n + 1)) 25)) w.heap.size n (.slice none 0 0) L 0 (fun _ => 0) := by
  refine ⟨(Below.refl _ _).alloc (Nat.le_refl _) _, Nat.le_refl _, .inr ⟨w.heap.size, n + 1, _, rfl, heap_alloc_new w _, Nat.le_refl _, hn, by simp [madeCells], fun k hk => ?_⟩, .inl ⟨rfl, rfl⟩, fun g hg => by simp [Value.ownBlock] at hg, fun k hk => by omega, fun j k hj => by omega⟩
  show _ = some (if k < 0 then inV L (fun _ => 0) k else Value.slice none 0 0)
  rw [if_neg (by omega)]
  exact made_row _ _ k (by omega)
/-- the next list is made and stands among the full ones, not yet in m -/
structure Spm (w wr : World) (gm n : Nat) (fv : Value) (L : List (List Nat)) (i : Nat) (G : Nat → Nat) : Prop where
  bel : Below w.heap.size w wr
  gmb : w.heap.size ≤ gm
  m : Rws wr 25 1 (.slice (some ⟨gm, 0, none⟩) (n + 1) (n + 1)) (n + 1) (fun k => if k < i then inV L G k else .slice none 0 0)
  full : Rws wr 25 1 fv (i + 1) (fun k => fuV L G k)
  own : ∀ g, fv.ownBlock = some g → w.heap.size ≤ g ∧ g ≠ gm
  row : ∀ k, k < i + 1 → w.heap.size ≤ G k ∧ Rws wr 5 1 (fuV L G k) (tn L k + 3) (byV (L.getD k [] ++ [7, 7, 7]))
  one : ∀ j k, j < i + 1 → k < i + 1 → G j = G k → j = k
theorem Spr.mid {w wr w1 w3 : World} {gm n : Nat} {fv v' : Value} {L : List (List Nat)} {i : Nat} {G : Nat → Nat} (h : Spr w wr gm n fv L i G)
    (h1 : Rws w1 5 1 (.slice (some ⟨wr.heap.size, 0, none⟩) (tn L i + 3) (tn L i + 3)) (tn L i + 3) (byV (L.getD i [] ++ [7, 7, 7])) ∧ Below wr.heap.size wr w1)
    (h3 : Rws w3 25 1 v' (i + 1) (fun k => if k < i * 1 then fuV L G k else [Value.slice (some ⟨wr.heap.size, 0, none⟩) (tn L i + 3) (tn L i + 3)].getD (k - i * 1) undef))
    (hG : Gr 25 (i * 1) 1 (w1.alloc (.cells #[.slice (some ⟨wr.heap.size, 0, none⟩) (tn L i + 3) (tn L i + 3)] 25)) w3 fv v') :
    Spm w w3 gm n v' L i (fun k => if k < i then G k else wr.heap.size) := by
  have hb0 := h.below h1.2
  have hw1 : wr.heap.size < w1.heap.size := h1.1.lt wr.heap.size rfl
  obtain ⟨w2, hw2⟩ : ∃ w2, w2 = w1.alloc (.cells #[.slice (some ⟨wr.heap.size, 0, none⟩) (tn L i + 3) (tn L i + 3)] 25) := ⟨_, rfl⟩
  have b12 : Below w1.heap.size w1 w2 := by rw [hw2]; exact (Below.refl _ _).alloc (Nat.le_refl _) _
  rw [← hw2] at hG
  have hb2 := hb0.below b12
  have r2 := h1.1.below b12
  have hbs := h.bel.size
  have h12 := h1.2.size
  have h23 := b12.size
  have c1 : ∀ k, k < i → (fun k => if k < i then G k else wr.heap.size) k = G k := fun k hk => if_pos hk
  have keep : ∀ {v : Value} {t : TypeId} {s n : Nat} {f : Nat → Value}, Rws w2 t s v n f → (∀ g, v.ownBlock = some g → fv.ownBlock ≠ some g) → Rws w3 t s v n f := fun {v t s n f} hr hn => hr.same (fun g hg => hG.other g (hr.lt g hg) (hn g hg))
  have apart5 : ∀ {v : Value} {n : Nat} {f : Nat → Value}, Rws w2 5 1 v n f → ∀ g, v.ownBlock = some g → fv.ownBlock ≠ some g := fun hr g hg => hr.apart hb2.full (by decide) g hg
  refine ⟨?_, h.gmb, ?_, h3.congr (fun k hk => ?_), ?_, fun k hk => ?_, fun j k hj hk e => ?_⟩
  · exact hb2.bel.trans (hG.below _ hb2.bel.size (fun g hg => (h.own g hg).1))
  · refine (keep hb2.m (fun g hg e => ?_)).congr (fun k hk => ?_)
    · have := (h.own g e).2
      simp [Value.ownBlock] at hg
      omega
    · by_cases q : k < i
      · simp only [if_pos q, inV]
      · simp only [if_neg q]
  · by_cases q : k < i
    · simp only [show k < i * 1 by omega, if_true, q, fuV]
    · have hki : k = i := by omega
      subst hki
      simp
  · intro g hg
    rcases hG.how with ⟨g', cur, cur', a1, a2, _⟩ | ⟨a2, _⟩
    · rw [hg] at a2; cases a2; exact h.own g a1
    · rw [hg] at a2; cases a2
      have := h.m.lt gm rfl
      exact ⟨by omega, by omega⟩
  · by_cases q : k < i
    · simp only [fuV, if_pos q]
      exact ⟨(hb2.row k q).1, keep (hb2.row k q).2 (apart5 (hb2.row k q).2)⟩
    · have hki : k = i := by omega
      subst hki
      simp only [fuV, if_neg q]
      exact ⟨hbs, keep r2 (apart5 r2)⟩
  · by_cases q1 : j < i <;> by_cases q2 : k < i <;> simp only [q1, q2, if_true, if_false] at e
    · exact h.one j k q1 q2 e
    · have := (h.row j q1).2.lt (G j) rfl; omega
    · have := (h.row k q2).2.lt (G k) rfl; omega
    · omega
/-- and it is laid into m -/
theorem Spm.put {w wr : World} {gm n : Nat} {fv : Value} {L : List (List Nat)} {i : Nat} {G : Nat → Nat} (h : Spm w wr gm n fv L i G) (hi : i < n) : Spr w (wr.drew.setCell ⟨gm, i, none⟩ (inV L G i)) gm n fv L (i + 1) G := by
  have bd : Below wr.heap.size wr wr.drew := (Below.refl _ _).drew
  have oth : ∀ g, g ≠ gm → (wr.drew.setCell ⟨gm, i, none⟩ (inV L G i)).heap[g]? = wr.heap[g]? := fun g hg => Bk.setCell_else wr.drew gm i g _ hg
  have hgm := h.gmb
  refine ⟨?_, h.gmb, ((h.m.below bd).put (g := gm) rfl i (inV L G i)).congr (fun k hk => ?_), h.full.same (fun g hg => oth g (h.own g hg).2), h.own, fun k hk => ⟨(h.row k hk).1, (h.row k hk).2.same (fun g hg => oth g (fun e => ?_))⟩, h.one⟩
  · exact h.bel.trans ⟨rfl, rfl, rfl, by simp, fun b hb => oth b (by omega)⟩
  · by_cases q : k = i
    · subst q; rw [if_pos rfl, if_pos (by omega)]
    · rw [if_neg q]
      by_cases t : k < i
      · rw [if_pos t, if_pos (by omega)]
      · rw [if_neg t, if_neg (by omega)]
  · exact (h.row k hk).2.apart h.m (by decide) g hg (by rw [e]; rfl)
/-- all is made; a last list stands in m behind them -/
structure Spd (w wr : World) (gm n g9 : Nat) (fv : Value) (L : List (List Nat)) (G : Nat → Nat) : Prop where
  bel : Below w.heap.size w wr
  gmb : w.heap.size ≤ gm
  m : Rws wr 25 1 (.slice (some ⟨gm, 0, none⟩) (n + 1) (n + 1)) (n + 1) (fun k => if k < n then inV L G k else .slice (some ⟨g9, 0, none⟩) 1 1)
  full : Rws wr 25 1 fv n (fun k => fuV L G k)
  row : ∀ k, k < n → w.heap.size ≤ G k ∧ Rws wr 5 1 (fuV L G k) (tn L k + 3) (byV (L.getD k [] ++ [7, 7, 7]))
  one : ∀ j k, j < n → k < n → G j = G k → j = k
  nine : Bytes wr (some ⟨g9, 0, none⟩) [9]
  nin : ∀ k, k < n → G k ≠ g9
theorem Spr.done {w wr : World} {gm n : Nat} {fv : Value} {L : List (List Nat)} {G : Nat → Nat} (h : Spr w wr gm n fv L n G) : Spd w ((wr.alloc (.cells #[.int .u8 9] 5)).setCell ⟨gm, n, none⟩ (.slice (some ⟨wr.heap.size, 0, none⟩) 1 1)) gm n wr.heap.size fv L G := by
  have b1 : Below wr.heap.size wr (wr.alloc (.cells #[.int .u8 9] 5)) := (Below.refl _ _).alloc (Nat.le_refl _) _
  have h1 := h.below b1
  have g9 := heap_alloc_new wr (.cells #[.int .u8 9] 5)
  have hgm := h.gmb
  have hgl := h.m.lt gm rfl
  have oth : ∀ g, g ≠ gm → ((wr.alloc (.cells #[.int .u8 9] 5)).setCell ⟨gm, n, none⟩ (.slice (some ⟨wr.heap.size, 0, none⟩) 1 1)).heap[g]? = (wr.alloc (.cells #[.int .u8 9] 5)).heap[g]? := fun g hg => Bk.setCell_else _ gm n g _ hg
  refine ⟨?_, h.gmb, (h1.m.put (g := gm) rfl n _).congr (fun k hk => ?_), h1.full.same (fun g hg => oth g (h.own g hg).2), fun k hk => ⟨(h1.row k hk).1, (h1.row k hk).2.same (fun g hg => oth g (fun e => ?_))⟩, h.one, ?_, fun k hk e => ?_⟩
  · exact h1.bel.trans ⟨rfl, rfl, rfl, by simp, fun b hb => oth b (by omega)⟩
  · by_cases q : k = n
    · subst q; rw [if_pos rfl, if_neg (by omega)]
    · rw [if_neg q]
      rw [if_pos (by omega), if_pos (by omega)]
  · exact (h1.row k hk).2.apart h1.m (by decide) g hg (by rw [e]; rfl)
  · refine .inr ⟨wr.heap.size, 0, rfl, by simp, fun i hi => ?_⟩
    have hi0 : i = 0 := by simpa using hi
    subst hi0
    rw [cell_of_row _ _ _ _ _ _ ((oth wr.heap.size (by omega)).trans g9)]
    rfl
  · have := (h.row k hk).2.lt (G k) rfl
    omega
end Go.Proofs.YtcnlikojbkegiaaGreatDoor
