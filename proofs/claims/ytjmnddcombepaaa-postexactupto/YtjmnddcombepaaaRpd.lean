/- The document's pieces, one behind the other: laws. -/
import Derived.Test.YtjmnddcombepaaaRpc
import Derived.Great.FillDense
import Derived.Laws.AppendOwn
namespace Larder
/-- the cells of pieces, one behind the other -/
structure PsL (xs : List Go.Value) (L : List (Option (Nat → Bool))) : Prop where
  len : xs.length = L.length * 257
  star : ∀ j x, L[j]? = some x → xs[j * 257]? = some (.bool x.isNone)
  fits : ∀ j f, L[j]? = some (some f) → ∀ c, c < 256 → xs[j * 257 + (1 + c)]? = some (.bool (f c))
theorem PsL.nil : PsL [] [] := ⟨rfl, fun j x h => by simp at h, fun j f h => by simp at h⟩
end Larder
namespace Go.Proofs.Ytjmnddcombepaaa
open Go.ChangeShapes Go.WideShapes Go.ChangeAt Go.RowKit
set_option linter.unusedVariables false
set_option maxRecDepth 20000
set_option maxHeartbeats 1000000

theorem psl_snoc {xs : List Value} {L : List (Option (Nat → Bool))} (h : Larder.PsL xs L) {C : Array Value} {s : Bool} {f : Nat → Bool} (hC : IsP C s f) (x : Option (Nat → Bool)) (hx : x.isNone = s) (hf : ∀ g, x = some g → ∀ c, c < 256 → f c = g c) : Larder.PsL (xs ++ C.toList) (L ++ [x]) := by
  have hs := hC.size
  have hl : C.toList.length = 257 := by simpa using hs
  have key : ∀ j y, (L ++ [x])[j]? = some y → (j < L.length ∧ L[j]? = some y) ∨ (j = L.length ∧ y = x) := fun j y hj => by
    by_cases e : j < L.length
    · rw [List.getElem?_append_left e] at hj; exact .inl ⟨e, hj⟩
    · rw [List.getElem?_append_right (by omega)] at hj
      have : j - L.length = 0 := by
        have := (List.getElem?_eq_some_iff.1 hj).1
        simp at this; omega
      rw [this] at hj
      simp at hj
      exact .inr ⟨by omega, hj.symm⟩
  refine ⟨by rw [List.length_append, List.length_append, h.len, hl]; simp only [List.length_singleton]; omega, fun j y hj => ?_, fun j g hj c hc => ?_⟩
  · rcases key j y hj with ⟨e, hj⟩ | ⟨rfl, rfl⟩
    · rw [List.getElem?_append_left (by rw [h.len]; omega)]; exact h.star j y hj
    · rw [List.getElem?_append_right (by rw [h.len]; omega), h.len, Nat.sub_self, Array.getElem?_toList, hC.star, hx]
  · rcases key j _ hj with ⟨e, hj⟩ | ⟨rfl, hy⟩
    · rw [List.getElem?_append_left (by rw [h.len]; omega)]; exact h.fits j g hj c hc
    · rw [List.getElem?_append_right (by rw [h.len]; omega), h.len, Nat.add_sub_cancel_left, Array.getElem?_toList, hC.fits c hc, hf g hy.symm c hc]

/-- the class at i, with or without a caret -/
theorem rclass_any (b off : Nat) (cap : Nat) (w : World) (p : List Nat) (i : Nat) (hl : p.length ≤ 1073741824) (hs : Small p) (hb : b < w.heap.size) (hc : ∀ i, i < p.length → w.cell? ⟨b, off + i, none⟩ = some (.int .u8 (p.getD i 0 : Nat))) (hi : i < p.length) :
    Calls Try.prog 89 #[.slice (some ⟨b, off, none⟩) p.length cap, .int .i64 (i : Nat)] w fun e w' => ∃ (C : Array Value) (N : Nat), e = .returned (.tuple #[.agg C, .int .i64 (N : Nat)]) ∧ Hid (IsP C false (Larder.clsAt p (i + 1)).1 ∧ min N p.length = (Larder.clsAt p (i + 1)).2 ∧ i < N ∧ N ≤ p.length + 1 ∧ Below w.heap.size w w') := by
  unfold Larder.clsAt Larder.caret
  by_cases h : i + 1 < p.length ∧ p.getD (i + 1) 0 = 94
  · rw [decide_eq_true h]
    have hp := Larder.memsK_prog p p.length (i + 2) (fun _ => false) h.1
    refine (rclass_not b off cap w p i hl hs hb hc hi h).mono ?_
    rintro e w' ⟨C, rfl, h1, h2⟩
    exact ⟨C, _, rfl, hide ⟨h1, rfl, by omega, by omega, h2⟩⟩
  · rw [decide_eq_false h]
    have hp := Larder.memsK_prog p p.length (i + 1) (fun _ => false) hi
    refine (rclass_in b off cap w p i hl hs hb hc hi h).mono ?_
    rintro e w' ⟨C, rfl, h1, h2⟩
    exact ⟨C, _, rfl, hide ⟨h1, rfl, by omega, by omega, h2⟩⟩

theorem own_same {w w' : World} {base : Nat} {e : TypeId} {size : Nat} {v : Value} {n : Nat} {xs : List Value} (h : w.ownsRow base e size v n xs) (hb : ∀ g, v.ownBlock = some g → w'.heap[g]? = w.heap[g]?) : w'.ownsRow base e size v n xs := by
  obtain ⟨h1, h2⟩ := h
  refine ⟨h1, ?_⟩
  rcases h2 with h2 | ⟨g, cap, cur, rfl, hg, hh, r⟩
  · exact .inl h2
  · exact .inr ⟨g, cap, cur, rfl, hg, by rw [hb g rfl]; exact hh, r⟩
theorem own_lt {w : World} {base : Nat} {e : TypeId} {size : Nat} {v : Value} {n : Nat} {xs : List Value} (h : w.ownsRow base e size v n xs) (g : Nat) (hg : v.ownBlock = some g) : g < w.heap.size ∧ base ≤ g := by
  rcases h.2 with ⟨rfl, _⟩ | ⟨g', cap, cur, rfl, hb, hh, r⟩
  · simp [Value.ownBlock] at hg
  · simp [Value.ownBlock] at hg
    subst hg
    exact ⟨(Array.getElem?_eq_some_iff.1 hh).1, hb⟩
theorem own_shape {w : World} {base : Nat} {e : TypeId} {size : Nat} {v : Value} {n : Nat} {xs : List Value} (h : w.ownsRow base e size v n xs) : ∃ a cap, v = .slice a n cap ∧ (a = none → n = 0) := by
  rcases h.2 with ⟨rfl, rfl⟩ | ⟨g', cap, cur, rfl, hb, hh, r⟩
  · exact ⟨none, 0, rfl, fun _ => rfl⟩
  · exact ⟨_, cap, rfl, fun h => by cases h⟩

/-- the pieces so far, and the one under way in block g -/
structure Pst (w W : World) (g : Nat) (C : Array Value) (lv : Value) (n : Nat) (xs : List Value) : Prop where
  own : W.ownsRow w.heap.size 128 257 lv n xs
  blk : W.heap[g]? = some (.cells C 128 (0, 0))
  ne : lv.ownBlock ≠ some g
  bel : Below w.heap.size w W
  ge : w.heap.size ≤ g
theorem Pst.start {w W w1 w2 : World} {g : Nat} {C : Array Value} {lv : Value} {n : Nat} {xs : List Value} (ho : W.ownsRow w.heap.size 128 257 lv n xs) (hb : Below w.heap.size w W) (hg : g = W.heap.size) (h1 : w1.heap[g]? = some (.cells zp 128 (0, 0)) ∧ w1.heap.size = g + 1 ∧ Below g W w1) (h2 : w2.heap[g]? = some (.cells C 128 (0, 0)) ∧ Turn g w1 w2) : Pst w w2 g C lv n xs := by
  subst hg
  have hw := hb.size
  exact ⟨own_same ho (fun k hk => by have := (own_lt ho k hk).1; rw [h2.2.other k (by omega), h1.2.2.block k this]), h2.1, fun e => by have := (own_lt ho _ e).1; omega, h2.2.below (hb.trans (h1.2.2.mono hw)) hw, hw⟩
theorem Pst.set {w W : World} {g : Nat} {C : Array Value} {lv : Value} {n : Nat} {xs : List Value} (h : Pst w W g C lv n xs) (k : Nat) (u : Value) : Pst w (W.setCell ⟨g, k, none⟩ u) g (C.setIfInBounds k u) lv n xs := by
  have t := setCell_turn W g k u
  exact ⟨own_same h.own (fun j hj => t.other j (fun e => by subst e; exact h.ne hj)), setCell_row W g k u C 128 _ h.blk, h.ne, t.below h.bel h.ge, h.ge⟩
theorem Pst.at {w W : World} {g : Nat} {C : Array Value} {lv : Value} {n : Nat} {xs : List Value} {s : Bool} {f : Nat → Bool} (h : Pst w W g C lv n xs) (hp : IsP C s f) : W.cell? ⟨g, 0, none⟩ = some (.bool s) ∧ (∀ k, W.frozen? ⟨g, k, none⟩ = false) ∧ ∀ k, k < 256 → W.cell? ⟨g, 1 + k, none⟩ = some (.bool (f k)) := by
  refine ⟨by rw [cell_of_row _ _ _ _ _ _ h.blk]; exact hp.star, fun k => ?_, fun k hk => by rw [cell_of_row _ _ _ _ _ _ h.blk]; exact hp.fits k hk⟩
  simp only [World.frozen?, h.blk]
  simp
section
variable {ops : Array Oper} {rest : List Oper} {o : Oper} {a : Act} {w : World} {Q : Exit → Act → World → Prop}
theorem wpList_box91 (hgd : o.guard = none) (x : Operand) (ho : o.op = .buildSlice 123 1 #[(0, x)]) (C : Array Value) (hx : a.eval x = .agg C) (hs : C.size = 257)
    (h : ∀ w', Hid (w'.heap[w.heap.size]? = some (.cells C 128 (0, 0)) ∧ w'.heap.size = w.heap.size + 1 ∧ Below w.heap.size w w') → wpList Try.prog ops Q rest (a.put o.dst (.slice (some ⟨w.heap.size, 0, none⟩) 1 1)) w') : wpList Try.prog ops Q (o :: rest) a w := by
  obtain ⟨i, hi, h1⟩ := Option.map_eq_some_iff.1 Try.zero128
  simp only [Prod.mk.injEq] at h1
  refine wpList_buildSlice hgd 123 128 1 _ ho C i (.agg zp) Try.underlying123 hi h1.1 (by rw [h1.2.1]; decide) (by rw [h1.2.1]; decide) ?_ (h _ (hide ⟨heap_alloc_last w _, by simp, (Below.refl _ _).alloc (Nat.le_refl _) _⟩))
  have e := Go.Great.fill_whole (s := 257) (by decide) [.agg C] ((Array.range (1 * i.size)).map ((Value.agg zp).cells[· % (Value.agg zp).cells.size]!)) (fun v hv => by simp at hv; subst hv; exact hs) (by rw [h1.2.1]; simp)
  rw [h1.2.1] at e ⊢
  simp only [List.zipIdx_cons, List.zipIdx_nil, List.map_cons, List.map_nil, List.flatMap_cons, List.flatMap_nil, List.append_nil] at e
  have e2 : ((#[((0 : Nat), x)] : Array (Nat × Operand)).map fun (i, x) => (i, a.eval x)).toList = [(0, .agg C)] := by simp [hx]
  rw [e2, e]
  simp [Value.cells]
theorem wpList_append91 (hgd : o.guard = none) (s x : Operand) (ho : o.op = .call { callee := .builtin .append, args := #[s, x], argTypes := #[123, 123] }) (B : Nat)
    (v : Value) (n : Nat) (xs : List Value) (hs : a.eval s = v) (hown : w.ownsRow B 128 257 v n xs) (g : Nat) (hx : a.eval x = .slice (some ⟨g, 0, none⟩) 1 1) (C : Array Value) (st : Bool) (f : Nat → Bool) (hg : w.heap[g]? = some (.cells C 128 (0, 0))) (hC : IsP C st f) (hn : n ≤ 2147483648) (hB : B ≤ w.heap.size)
    (h : ∀ v' w', w'.ownsRow B 128 257 v' (n + 1) (xs ++ C.toList) → w.grownBy w' v.ownBlock → wpList Try.prog ops Q rest (a.put o.dst v') w') : wpList Try.prog ops Q (o :: rest) a w := by
  obtain ⟨i, hi, h1⟩ := Option.map_eq_some_iff.1 Try.zero128
  simp only [Prod.mk.injEq] at h1
  have hs2 := hC.size
  refine wpList_append_own w hgd s x 123 ho B 128 i (.agg zp) 257 257 Try.underlying123 hi h1.1 h1.2.1 h1.2.2 zp_size (by decide) v n xs hs hown ⟨g, 0, none⟩ 1 1 C.toList hx (by simpa using hs2) (fun j u hj => ?_) (fun u hu => ?_) (by simp only [maxLen]; omega) (by omega) hB (fun v' w' q1 q2 _ => h v' w' q1 q2)
  · rw [Addr.add_mid, Nat.zero_add, cell_of_row _ _ _ _ _ _ hg, ← hj, Array.getElem?_toList]
  · have := hC.one
    rw [Array.all_eq_true] at this
    obtain ⟨k, hk, rfl⟩ := List.mem_iff_getElem.1 hu
    exact this k (by simpa using hk)
end
end Go.Proofs.Ytjmnddcombepaaa
