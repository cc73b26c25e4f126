/- The document's pieces: a struct of 257 cells; byteAt. -/
import Derived.Test.YtjmnddcombepaaaPcs
import Derived.Deep.MidRow
import Derived.Deep.WholeRow
import Derived.Great.BuildSlice
namespace Go.Proofs.Ytjmnddcombepaaa
open Go.ChangeShapes Go.WideShapes Go.ChangeAt Go.RowKit
set_option linter.unusedVariables false
set_option maxRecDepth 100000

/-- nothing fits -/
def zp : Array Value := Array.replicate 257 (.bool false)
theorem zp_size : zp.size = 257 := by unfold zp; simp
theorem zp_at (k : Nat) (h : k < 257) : zp[k]? = some (.bool false) := by unfold zp; simp [h]
theorem Try.zero128 : (Try.prog.info? 128).map (fun i => (i.zero, i.size, i.bytes)) = some (some (.agg zp), 257, 257) := by kernel_rfl
theorem size91 {C : Array Value} (h : C.size = 257) : (Try.prog.info? 128).map (fun i => i.size) = some C.size := by rw [h]; kernel_rfl
/-- the cells of a piece -/
structure IsP (C : Array Value) (s : Bool) (f : Nat → Bool) : Prop where
  size : C.size = 257
  star : C[0]? = some (.bool s)
  fits : ∀ k, k < 256 → C[1 + k]? = some (.bool (f k))
theorem IsP.zero : IsP zp false (fun _ => false) := ⟨zp_size, zp_at 0 (by decide), fun k hk => zp_at _ (by omega)⟩
theorem IsP.one {C : Array Value} {s : Bool} {f : Nat → Bool} (h : IsP C s f) : C.all (fun v => v.oneCell') = true := by
  rw [Array.all_eq_true]
  intro i hi
  have hs := h.size
  by_cases e : i = 0
  · subst e
    have := h.star
    rw [Array.getElem?_eq_getElem hi] at this
    rw [Option.some.inj this]; rfl
  · have := h.fits (i - 1) (by omega)
    rw [show 1 + (i - 1) = i by omega, Array.getElem?_eq_getElem hi] at this
    rw [Option.some.inj this]; rfl
theorem IsP.set {C : Array Value} {s : Bool} {f : Nat → Bool} (h : IsP C s f) (k : Nat) (hk : k < 256) (v : Bool) : IsP (C.setIfInBounds (1 + k) (.bool v)) s (fun c => if c = k then v else f c) := by
  have hs := h.size
  refine ⟨by simpa using hs, by rw [Array.getElem?_setIfInBounds, if_neg (by omega)]; exact h.star, fun c hc => ?_⟩
  rw [Array.getElem?_setIfInBounds]
  by_cases e : c = k
  · subst e; rw [if_pos rfl, if_pos (by omega)]; simp
  · rw [if_neg (by omega), h.fits c hc]; simp [e]
theorem IsP.setStar {C : Array Value} {s : Bool} {f : Nat → Bool} (h : IsP C s f) (v : Bool) : IsP (C.setIfInBounds 0 (.bool v)) v f := by
  have hs := h.size
  exact ⟨by simpa using hs, by rw [Array.getElem?_setIfInBounds, if_pos rfl, if_pos (by omega)], fun c hc => by rw [Array.getElem?_setIfInBounds, if_neg (by omega)]; exact h.fits c hc⟩
theorem IsP.congr {C : Array Value} {s : Bool} {f g : Nat → Bool} (h : IsP C s f) (e : ∀ k, k < 256 → f k = g k) : IsP C s g := ⟨h.size, h.star, fun k hk => by rw [h.fits k hk, e k hk]⟩

/-- a block changed, nothing else -/
structure Turn (g : Nat) (w w' : World) : Prop where
  os : w'.os = w.os
  tape : w'.tape = w.tape
  output : w'.output = w.output
  size : w'.heap.size = w.heap.size
  other : ∀ k, k ≠ g → w'.heap[k]? = w.heap[k]?
theorem Turn.below {g B : Nat} {a w w' : World} (h : Turn g w w') (hb : Below B a w) (hg : B ≤ g) : Below B a w' :=
  ⟨h.os.trans hb.os, h.tape.trans hb.tape, h.output.trans hb.output, by have := h.size; have := hb.size; omega, fun k hk => by rw [h.other k (by omega), hb.block k hk]⟩
theorem setCell_row (w : World) (g k : Nat) (u : Value) (cur : Array Value) (e : TypeId) (fr : Nat × Nat) (hg : w.heap[g]? = some (.cells cur e fr)) : (w.setCell ⟨g, k, none⟩ u).heap[g]? = some (.cells (cur.setIfInBounds k u) e fr) := by
  simp only [World.setCell, Array.getElem?_modify, if_true, hg, Option.map_some]
  rfl
theorem setCell_turn (w : World) (g k : Nat) (u : Value) : Turn g w (w.setCell ⟨g, k, none⟩ u) :=
  ⟨rfl, rfl, rfl, by simp [World.setCell], fun j hj => Below.heap_setCell _ _ _ _ hj⟩

section
variable {ops : Array Oper} {rest : List Oper} {o : Oper} {a : Act} {w : World} {Q : Exit → Act → World → Prop}
theorem wpList_alloc91 (hgd : o.guard = none) (ho : o.op = .alloc 128) (g : Nat) (hg : w.heap.size = g)
    (h : ∀ w', Hid (w'.heap[g]? = some (.cells zp 128 (0, 0)) ∧ w'.heap.size = g + 1 ∧ Below g w w') → wpList Try.prog ops Q rest (a.put o.dst (.pointer (some ⟨g, 0, none⟩))) w') : wpList Try.prog ops Q (o :: rest) a w := by
  subst hg
  obtain ⟨i, hi, h1⟩ := Option.map_eq_some_iff.1 Try.zero128
  simp only [Prod.mk.injEq] at h1
  refine wpList_plain hgd fun _ hK => ?_
  have hr : (execOp a.eval o).run Try.prog w = .ok (.value (.pointer (some ⟨w.heap.size, 0, none⟩))) (w.alloc (.cells zp 128)) := by
    unfold execOp
    simp only [ho]
    simp [Instr.alloc, zeroValue, typeInfo, hi, h1.1, newVar, newRow, Value.cells]
  unfold Oper.wp
  rw [hr, Oper.upon_value]
  exact hK _ _ (h _ (hide ⟨heap_alloc_last w _, by simp, (Below.refl _ _).alloc (Nat.le_refl _) _⟩))
theorem wpList_store91 (hgd : o.guard = none) (x y : Operand) (ho : o.op = .store 128 x y) (hd : o.dst = none) (g : Nat) (C : Array Value) (hx : a.eval x = .pointer (some ⟨g, 0, none⟩)) (hy : a.eval y = .agg C)
    (old : Array Value) (hg : w.heap[g]? = some (.cells old 128 (0, 0))) (hs : C.size = 257) (hold : old.size = 257) (h1 : C.all (fun v => v.oneCell') = true)
    (h : ∀ w', Hid (w'.heap[g]? = some (.cells C 128 (0, 0)) ∧ Turn g w w') → wpList Try.prog ops Q rest a w') : wpList Try.prog ops Q (o :: rest) a w :=
  wpList_store_rowTo hgd 128 x y ho hd g C hx hy 128 old hg (size91 hs) (by omega) h1 (h _ (hide ⟨setRow_heap w g old C 128 _ hg, ⟨rfl, rfl, rfl, by simp [World.setRow], fun k hk => setRow_other w g k _ hk⟩⟩))
theorem wpList_load91 (hgd : o.guard = none) (x : Operand) (ho : o.op = .load 128 x) (g : Nat) (hx : a.eval x = .pointer (some ⟨g, 0, none⟩)) (C : Array Value) (hg : w.heap[g]? = some (.cells C 128 (0, 0))) (hs : C.size = 257)
    (h : wpList Try.prog ops Q rest (a.put o.dst (.agg C)) w) : wpList Try.prog ops Q (o :: rest) a w :=
  wpList_load_row hgd 128 x ho g hx 128 C (0, 0) _ hg Try.underlying128 rfl (size91 hs) h
end

/-- the byte at i, and how many bytes say it -/
theorem rbyteAt_any (a : Option Addr) (cap : Nat) (w : World) (p : List Nat) (i : Nat) (hl : p.length ≤ 140737488355328) (hs : Small p) (hB : Bytes w a p) (hi : i < p.length) :
    Calls Try.prog 90 #[.slice a p.length cap, .int .i64 (i : Nat)] w fun e w' => e = .returned (.tuple #[.int .i64 ((Larder.byteAt p i).1 : Nat), .int .i64 (((Larder.byteAt p i).2 - i : Nat) : Nat)]) ∧ w' = w := by
  rcases hB with h | ⟨b, off, rfl, hb, hc⟩
  · subst h; simp at hi
  have c0 := hc i hi
  have k0 := hs i hi
  unfold Larder.byteAt
  by_cases h1 : p.getD i 0 = 92
  · by_cases h2 : i + 1 < p.length
    · have c1 := hc (i + 1) h2
      have k1 := hs (i + 1) h2
      rw [if_pos ⟨h1, h2⟩]
      rw [h1] at c0
      have d2 : decide ((i : Int) + 1 < (p.length : Int)) = true := decide_eq_true (by omega)
      show Calls _ _ _ _ fun e w' => e = .returned (.tuple #[.int .i64 (p.getD (i + 1) 0 : Nat), .int .i64 ((i + 2 - i : Nat) : Nat)]) ∧ w' = w
      rw [show i + 2 - i = 2 by omega]
      generalize p.getD (i + 1) 0 = x1 at *
      generalize p.length = n at *
      clear hc hs h1
      go_enter Try.func90, Try.ntmps90
      go_wp2
      all_goals go_ret2
      all_goals exact ⟨rfl, rfl⟩
    · rw [if_neg (fun h => h2 h.2)]
      rw [h1] at c0 ⊢
      have d2 : decide ((i : Int) + 1 < (p.length : Int)) = false := decide_eq_false (by omega)
      show Calls _ _ _ _ fun e w' => e = .returned (.tuple #[.int .i64 (92 : Nat), .int .i64 ((i + 1 - i : Nat) : Nat)]) ∧ w' = w
      rw [show i + 1 - i = 1 by omega]
      generalize p.length = n at *
      clear hc hs h1
      go_enter Try.func90, Try.ntmps90
      go_wp2
      all_goals go_ret2
      all_goals exact ⟨rfl, rfl⟩
  · rw [if_neg (fun h => h1 h.1)]
    show Calls _ _ _ _ fun e w' => e = .returned (.tuple #[.int .i64 (p.getD i 0 : Nat), .int .i64 ((i + 1 - i : Nat) : Nat)]) ∧ w' = w
    rw [show i + 1 - i = 1 by omega]
    generalize p.getD i 0 = x0 at *
    generalize p.length = n at *
    have d1 : ((x0 : Int) == 92) = false := by rw [beq_eq_false_iff_ne]; omega
    clear hc hs h1
    go_enter Try.func90, Try.ntmps90
    go_wp2
    all_goals go_ret2
    all_goals exact ⟨rfl, rfl⟩
end Go.Proofs.Ytjmnddcombepaaa
