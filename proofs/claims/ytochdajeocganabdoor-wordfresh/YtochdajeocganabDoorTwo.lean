/- Two rows of lists side by side: what was got, what was wanted. -/
import Derived.Test.YtochdajeocganabDoorBookTake
namespace Go.Proofs.YtochdajeocganabDoor
open Go.ChangeShapes Go.WideShapes Go.ChangeAt Go.RowKit
set_option linter.unusedVariables false
set_option maxRecDepth 100000
set_option maxHeartbeats 4000000

/-- a list that can be read -/
def Rd (w : World) (v : Value) (n : Nat) (f : Nat → Value) : Prop := ∃ a cap, v = .slice a n cap ∧ (n = 0 ∨ ∃ g, a = some ⟨g, 0, none⟩ ∧ ∀ j, j < n → w.cell? ⟨g, j, none⟩ = some (f j)) ∧ ∀ g, v.ownBlock = some g → g < w.heap.size
theorem Rd.lt {w : World} {v : Value} {n : Nat} {f : Nat → Value} (h : Rd w v n f) : ∀ g, v.ownBlock = some g → g < w.heap.size := by
  obtain ⟨_, _, _, _, h⟩ := h
  exact h
theorem Rd.same {w w' : World} {v : Value} {n : Nat} {f : Nat → Value} (h : Rd w v n f) (hs : w.heap.size ≤ w'.heap.size) (hb : ∀ g, v.ownBlock = some g → w'.heap[g]? = w.heap[g]?) : Rd w' v n f := by
  obtain ⟨a, cap, rfl, h1, h2⟩ := h
  refine ⟨a, cap, rfl, ?_, fun g hg => Nat.lt_of_lt_of_le (h2 g hg) hs⟩
  rcases h1 with h1 | ⟨g, rfl, h1⟩
  · exact .inl h1
  · exact .inr ⟨g, rfl, fun j hj => (World.cell?_of_block (a := ⟨g, j, none⟩) (hb g rfl)).trans (h1 j hj)⟩
theorem Line.rd {w : World} {e : TypeId} {v : Value} {n : Nat} {f : Nat → Value} (h : Line w e v n f) : Rd w v n f := by
  by_cases h0 : n = 0
  · obtain ⟨a, cap, hv⟩ := h.shape
    exact ⟨a, cap, hv, .inl h0, h.lt⟩
  · obtain ⟨g, cap, hv, _, hc⟩ := h.at (by omega)
    exact ⟨_, cap, hv, .inr ⟨g, rfl, fun j hj => (hc j hj).1⟩, h.lt⟩
theorem Grew.apartR {e : TypeId} {n n2 k k2 : Nat} {u : Value} {w w' : World} {v v' v2 : Value} {f2 : Nat → Value} {tag : Nat → Nat} (h : Grew e n u w w' v v') (h2 : Rd w v2 n2 f2) (hv : ∀ q, v.ownBlock = some q → tag q = k) (hv2 : ∀ q, v2.ownBlock = some q → tag q = k2) (hne : k ≠ k2) : Rd w' v2 n2 f2 :=
  h2.same h.size (fun q hq => h.other q (h2.lt q hq) (fun e => hne ((hv q e).symm.trans (hv2 q hq))))
structure TwoSt where
  vg : Value
  vw : Value
  G : List Value
  W : List Value
  X : List (List Nat)
def TwoSt.none : TwoSt := ⟨.slice Option.none 0 0, .slice Option.none 0 0, [], [], []⟩
/-- c tells which: all its tags have that remainder modulo 2 -/
structure Two (c : Nat) (te tl : TypeId) (mk : Nat → Value) (w : World) (pl : Nat) (lt : Nat → Nat) (F0 F1 : Value) (T : TwoSt) : Prop where
  c0 : w.cell? ⟨pl, 0, none⟩ = some F0
  c1 : w.cell? ⟨pl, 1, none⟩ = some F1
  f0 : w.frozen? ⟨pl, 0, none⟩ = false
  f1 : w.frozen? ⟨pl, 1, none⟩ = false
  lp : pl < w.heap.size
  tp : lt pl = 2 + c
  rg : Line w tl T.vg T.G.length (fun j => T.G.getD j undef)
  rw : Line w tl T.vw T.W.length (fun j => T.W.getD j undef)
  tg : ∀ g, T.vg.ownBlock = some g → lt g = 4 + c
  tw : ∀ g, T.vw.ownBlock = some g → lt g = 6 + c
  eg : ∀ j, j < T.G.length → Line w te (T.G.getD j undef) (T.X.getD j []).length (fun k => mk ((T.X.getD j []).getD k 0)) ∧ ∀ g, (T.G.getD j undef).ownBlock = some g → lt g = 30 + 2 * j + c
  ew : ∀ j, j < T.W.length → Rd w (T.W.getD j undef) (T.X.getD j []).length (fun k => mk ((T.X.getD j []).getD k 0)) ∧ ∀ g, (T.W.getD j undef).ownBlock = some g → lt g = 8 + c
theorem Two.conf {c : Nat} {te tl : TypeId} {mk : Nat → Value} {w w' : World} {pl : Nat} {lt lt' : Nat → Nat} {F0 F1 : Value} {T : TwoSt} (h : Two c te tl mk w pl lt F0 F1 T) (hs : w.heap.size ≤ w'.heap.size) (hb : ∀ g, g < w.heap.size → lt g ≠ 0 → lt g % 2 = c % 2 → w'.heap[g]? = w.heap[g]?) (ht : ∀ g, g < w.heap.size → lt g ≠ 0 → lt g % 2 = c % 2 → lt' g = lt g) : Two c te tl mk w' pl lt' F0 F1 T := by
  have hp := hb pl h.lp (by rw [h.tp]; omega) (by rw [h.tp]; omega)
  have b1 : ∀ {e : TypeId} {v : Value} {n : Nat} {f : Nat → Value} (k : Nat), Line w e v n f → (∀ g, v.ownBlock = some g → lt g = k) → k ≠ 0 → k % 2 = c % 2 → Line w' e v n f ∧ ∀ g, v.ownBlock = some g → lt' g = k := fun {e v n f} k hl hk h0 h2 => ⟨hl.same (fun g hg => hb g (hl.lt g hg) (by rw [hk g hg]; exact h0) (by rw [hk g hg]; exact h2)), fun g hg => (ht g (hl.lt g hg) (by rw [hk g hg]; exact h0) (by rw [hk g hg]; exact h2)).trans (hk g hg)⟩
  have b2 : ∀ {v : Value} {n : Nat} {f : Nat → Value} (k : Nat), Rd w v n f → (∀ g, v.ownBlock = some g → lt g = k) → k ≠ 0 → k % 2 = c % 2 → Rd w' v n f ∧ ∀ g, v.ownBlock = some g → lt' g = k := fun {v n f} k hl hk h0 h2 => ⟨hl.same hs (fun g hg => hb g (hl.lt g hg) (by rw [hk g hg]; exact h0) (by rw [hk g hg]; exact h2)), fun g hg => (ht g (hl.lt g hg) (by rw [hk g hg]; exact h0) (by rw [hk g hg]; exact h2)).trans (hk g hg)⟩
  have r1 := b1 _ h.rg h.tg (by omega) (by omega)
  have r2 := b1 _ h.rw h.tw (by omega) (by omega)
  exact ⟨(World.cell?_of_block (a := ⟨pl, 0, none⟩) hp).trans h.c0, (World.cell?_of_block (a := ⟨pl, 1, none⟩) hp).trans h.c1, (World.frozen?_of_block (a := ⟨pl, 0, none⟩) hp).trans h.f0, (World.frozen?_of_block (a := ⟨pl, 1, none⟩) hp).trans h.f1, Nat.lt_of_lt_of_le h.lp hs, (ht pl h.lp (by rw [h.tp]; omega) (by rw [h.tp]; omega)).trans h.tp, r1.1, r2.1, r1.2, r2.2, fun j hj => b1 _ (h.eg j hj).1 (h.eg j hj).2 (by omega) (by omega), fun j hj => b2 _ (h.ew j hj).1 (h.ew j hj).2 (by omega) (by omega)⟩
theorem Two.below {c : Nat} {te tl : TypeId} {mk : Nat → Value} {w w' : World} {pl : Nat} {lt : Nat → Nat} {F0 F1 : Value} {T : TwoSt} (h : Two c te tl mk w pl lt F0 F1 T) (hb : Below w.heap.size w w') : Two c te tl mk w' pl lt F0 F1 T :=
  h.conf hb.size (fun g hg _ _ => hb.block g hg) (fun _ _ _ _ => rfl)
theorem Two.setG {c : Nat} {te tl : TypeId} {mk : Nat → Value} {w : World} {pl : Nat} {lt : Nat → Nat} {F0 F1 : Value} {T : TwoSt} (h : Two c te tl mk w pl lt F0 F1 T) (hc : c ≤ 1) (v : Value) : Two c te tl mk (w.setCell ⟨pl, 0, none⟩ v) pl lt v F1 T := by
  have hne : ∀ {e : TypeId} {x : Value} {n k : Nat} {f : Nat → Value}, Line w e x n f → (∀ g, x.ownBlock = some g → lt g = k) → k ≠ 2 + c → Line (w.setCell ⟨pl, 0, none⟩ v) e x n f := fun hl hk hkn => hl.same (fun g hg => setCell_else w pl 0 g v (fun e => hkn (by rw [← hk g hg, e]; exact h.tp)))
  have hnR : ∀ {x : Value} {n k : Nat} {f : Nat → Value}, Rd w x n f → (∀ g, x.ownBlock = some g → lt g = k) → k ≠ 2 + c → Rd (w.setCell ⟨pl, 0, none⟩ v) x n f := fun hl hk hkn => hl.same (by simp) (fun g hg => setCell_else w pl 0 g v (fun e => hkn (by rw [← hk g hg, e]; exact h.tp)))
  exact ⟨World.cell?_setCell_same _ _ _ h.c0, (World.cell?_setCell_other _ _ _ _ (fun e => by injection e with e1 e2; omega)).trans h.c1, by rw [World.frozen?_setCell]; exact h.f0, by rw [World.frozen?_setCell]; exact h.f1, by simpa using h.lp, h.tp, hne h.rg h.tg (by omega), hne h.rw h.tw (by omega), h.tg, h.tw, fun j hj => ⟨hne (h.eg j hj).1 (h.eg j hj).2 (by omega), (h.eg j hj).2⟩, fun j hj => ⟨hnR (h.ew j hj).1 (h.ew j hj).2 (by omega), (h.ew j hj).2⟩⟩
theorem Two.setW {c : Nat} {te tl : TypeId} {mk : Nat → Value} {w : World} {pl : Nat} {lt : Nat → Nat} {F0 F1 : Value} {T : TwoSt} (h : Two c te tl mk w pl lt F0 F1 T) (hc : c ≤ 1) (v : Value) : Two c te tl mk (w.setCell ⟨pl, 1, none⟩ v) pl lt F0 v T := by
  have hne : ∀ {e : TypeId} {x : Value} {n k : Nat} {f : Nat → Value}, Line w e x n f → (∀ g, x.ownBlock = some g → lt g = k) → k ≠ 2 + c → Line (w.setCell ⟨pl, 1, none⟩ v) e x n f := fun hl hk hkn => hl.same (fun g hg => setCell_else w pl 1 g v (fun e => hkn (by rw [← hk g hg, e]; exact h.tp)))
  have hnR : ∀ {x : Value} {n k : Nat} {f : Nat → Value}, Rd w x n f → (∀ g, x.ownBlock = some g → lt g = k) → k ≠ 2 + c → Rd (w.setCell ⟨pl, 1, none⟩ v) x n f := fun hl hk hkn => hl.same (by simp) (fun g hg => setCell_else w pl 1 g v (fun e => hkn (by rw [← hk g hg, e]; exact h.tp)))
  exact ⟨(World.cell?_setCell_other _ _ _ _ (fun e => by injection e with e1 e2; omega)).trans h.c0, World.cell?_setCell_same _ _ _ h.c1, by rw [World.frozen?_setCell]; exact h.f0, by rw [World.frozen?_setCell]; exact h.f1, by simpa using h.lp, h.tp, hne h.rg h.tg (by omega), hne h.rw h.tw (by omega), h.tg, h.tw, fun j hj => ⟨hne (h.eg j hj).1 (h.eg j hj).2 (by omega), (h.eg j hj).2⟩, fun j hj => ⟨hnR (h.ew j hj).1 (h.ew j hj).2 (by omega), (h.ew j hj).2⟩⟩
/-- a list that was free gets a tag -/
theorem Two.free {c : Nat} {te tl : TypeId} {mk : Nat → Value} {w : World} {pl : Nat} {lt : Nat → Nat} {F0 F1 : Value} {T : TwoSt} (h : Two c te tl mk w pl lt F0 F1 T) (x : Value) (k : Nat) (hx : ∀ g, x.ownBlock = some g → lt g = 0) : Two c te tl mk w pl (tagAt lt x k) F0 F1 T :=
  h.conf (Nat.le_refl _) (fun _ _ _ _ => rfl) (fun g _ h0 _ => by unfold tagAt; rw [if_neg (fun e => h0 (hx g e))])
theorem Two.addG {c : Nat} {te tl : TypeId} {mk : Nat → Value} {w w' : World} {pl : Nat} {lt : Nat → Nat} {F0 F1 : Value} {T : TwoSt} (hc : c ≤ 1) (h : Two c te tl mk w pl lt F0 F1 T) {x v' : Value} {l : List Nat} (hX : T.X.length = T.G.length) (hW : T.W.length ≤ T.G.length) (hg : Grew tl T.G.length x w w' T.vg v') (hl : Line w' tl v' (T.G.length + 1) (fun j => if j < T.G.length then T.G.getD j undef else x))
    (hx : Line w te x l.length (fun k => mk (l.getD k 0))) (hxt : ∀ g, x.ownBlock = some g → lt g = 30 + 2 * T.G.length + c) : Two c te tl mk w' pl (tagAt lt v' (4 + c)) F0 F1 { T with vg := v', G := T.G ++ [x], X := T.X ++ [l] } := by
  have ht := tagAt_old hg h.tg
  have b1 : ∀ {e : TypeId} {v : Value} {n k : Nat} {f : Nat → Value}, Line w e v n f → (∀ g, v.ownBlock = some g → lt g = k) → k ≠ 4 + c → Line w' e v n f ∧ ∀ g, v.ownBlock = some g → tagAt lt v' (4 + c) g = k := fun hl hk hn => ⟨hg.apart hl h.tg hk (fun e => hn e.symm), fun g hgg => (ht g (hl.lt g hgg)).trans (hk g hgg)⟩
  have b2 : ∀ {v : Value} {n k : Nat} {f : Nat → Value}, Rd w v n f → (∀ g, v.ownBlock = some g → lt g = k) → k ≠ 4 + c → Rd w' v n f ∧ ∀ g, v.ownBlock = some g → tagAt lt v' (4 + c) g = k := fun hl hk hn => ⟨hg.apartR hl h.tg hk (fun e => hn e.symm), fun g hgg => (ht g (hl.lt g hgg)).trans (hk g hgg)⟩
  have hp : w'.heap[pl]? = w.heap[pl]? := hg.other pl h.lp (fun e => by have := h.tg pl e; rw [h.tp] at this; omega)
  have r2 := b1 h.rw h.tw (by omega)
  have hX' : ∀ j, j < T.G.length → (T.X ++ [l]).getD j [] = T.X.getD j [] := fun j hj => by
    rw [List.getD_eq_getElem?_getD, List.getElem?_append_left (by omega), ← List.getD_eq_getElem?_getD]
  have hG' : ∀ j, j < T.G.length → (T.G ++ [x]).getD j undef = T.G.getD j undef := fun j hj => by
    rw [List.getD_eq_getElem?_getD, List.getElem?_append_left hj, ← List.getD_eq_getElem?_getD]
  refine ⟨(World.cell?_of_block (a := ⟨pl, 0, none⟩) hp).trans h.c0, (World.cell?_of_block (a := ⟨pl, 1, none⟩) hp).trans h.c1, (World.frozen?_of_block (a := ⟨pl, 0, none⟩) hp).trans h.f0, (World.frozen?_of_block (a := ⟨pl, 1, none⟩) hp).trans h.f1, Nat.lt_of_lt_of_le h.lp hg.size, (ht pl h.lp).trans h.tp, ?_, r2.1, fun g hgg => tagAt_self lt v' _ g hgg, r2.2, fun j hj => ?_, fun j hj => ?_⟩
  · show Line w' tl v' (T.G ++ [x]).length _
    rw [List.length_append, List.length_singleton]
    refine hl.congr (fun j hj => ?_)
    show _ = (T.G ++ [x]).getD j undef
    by_cases hlt : j < T.G.length
    · rw [if_pos hlt, hG' j hlt]
    · have : j = T.G.length := by omega
      subst this
      rw [if_neg hlt, getD_last _ _ _ _ rfl]
  · have hj' : j < T.G.length + 1 := by simpa using hj
    show Line w' te ((T.G ++ [x]).getD j undef) ((T.X ++ [l]).getD j []).length (fun k => mk (((T.X ++ [l]).getD j []).getD k 0)) ∧ ∀ g, ((T.G ++ [x]).getD j undef).ownBlock = some g → tagAt lt v' (4 + c) g = 30 + 2 * j + c
    by_cases hlt : j < T.G.length
    · rw [hG' j hlt, hX' j hlt]
      exact b1 (h.eg j hlt).1 (h.eg j hlt).2 (by omega)
    · have : j = T.G.length := by omega
      subst this
      rw [getD_last _ _ _ _ rfl, getD_last _ _ _ _ hX]
      exact b1 hx hxt (by omega)
  · have hj' : j < T.W.length := hj
    show Rd w' (T.W.getD j undef) ((T.X ++ [l]).getD j []).length (fun k => mk (((T.X ++ [l]).getD j []).getD k 0)) ∧ ∀ g, (T.W.getD j undef).ownBlock = some g → tagAt lt v' (4 + c) g = 8 + c
    rw [hX' j (by omega)]
    exact b2 (h.ew j hj').1 (h.ew j hj').2 (by omega)
theorem Two.addW {c : Nat} {te tl : TypeId} {mk : Nat → Value} {w w' : World} {pl : Nat} {lt : Nat → Nat} {F0 F1 : Value} {T : TwoSt} (hc : c ≤ 1) (h : Two c te tl mk w pl lt F0 F1 T) {x v' : Value} {l : List Nat} (hX : T.X.getD T.W.length [] = l) (hg : Grew tl T.W.length x w w' T.vw v') (hl : Line w' tl v' (T.W.length + 1) (fun j => if j < T.W.length then T.W.getD j undef else x))
    (hx : Rd w x l.length (fun k => mk (l.getD k 0))) (hxt : ∀ g, x.ownBlock = some g → lt g = 8 + c) : Two c te tl mk w' pl (tagAt lt v' (6 + c)) F0 F1 { T with vw := v', W := T.W ++ [x] } := by
  have ht := tagAt_old hg h.tw
  have b1 : ∀ {e : TypeId} {v : Value} {n k : Nat} {f : Nat → Value}, Line w e v n f → (∀ g, v.ownBlock = some g → lt g = k) → k ≠ 6 + c → Line w' e v n f ∧ ∀ g, v.ownBlock = some g → tagAt lt v' (6 + c) g = k := fun hl hk hn => ⟨hg.apart hl h.tw hk (fun e => hn e.symm), fun g hgg => (ht g (hl.lt g hgg)).trans (hk g hgg)⟩
  have b2 : ∀ {v : Value} {n k : Nat} {f : Nat → Value}, Rd w v n f → (∀ g, v.ownBlock = some g → lt g = k) → k ≠ 6 + c → Rd w' v n f ∧ ∀ g, v.ownBlock = some g → tagAt lt v' (6 + c) g = k := fun hl hk hn => ⟨hg.apartR hl h.tw hk (fun e => hn e.symm), fun g hgg => (ht g (hl.lt g hgg)).trans (hk g hgg)⟩
  have hp : w'.heap[pl]? = w.heap[pl]? := hg.other pl h.lp (fun e => by have := h.tw pl e; rw [h.tp] at this; omega)
  have r2 := b1 h.rg h.tg (by omega)
  have hG' : ∀ j, j < T.W.length → (T.W ++ [x]).getD j undef = T.W.getD j undef := fun j hj => by
    rw [List.getD_eq_getElem?_getD, List.getElem?_append_left hj, ← List.getD_eq_getElem?_getD]
  refine ⟨(World.cell?_of_block (a := ⟨pl, 0, none⟩) hp).trans h.c0, (World.cell?_of_block (a := ⟨pl, 1, none⟩) hp).trans h.c1, (World.frozen?_of_block (a := ⟨pl, 0, none⟩) hp).trans h.f0, (World.frozen?_of_block (a := ⟨pl, 1, none⟩) hp).trans h.f1, Nat.lt_of_lt_of_le h.lp hg.size, (ht pl h.lp).trans h.tp, r2.1, ?_, r2.2, fun g hgg => tagAt_self lt v' _ g hgg, fun j hj => b1 (h.eg j hj).1 (h.eg j hj).2 (by omega), fun j hj => ?_⟩
  · show Line w' tl v' (T.W ++ [x]).length _
    rw [List.length_append, List.length_singleton]
    refine hl.congr (fun j hj => ?_)
    show _ = (T.W ++ [x]).getD j undef
    by_cases hlt : j < T.W.length
    · rw [if_pos hlt, hG' j hlt]
    · have : j = T.W.length := by omega
      subst this
      rw [if_neg hlt, getD_last _ _ _ _ rfl]
  · have hj' : j < T.W.length + 1 := by simpa using hj
    show Rd w' ((T.W ++ [x]).getD j undef) (T.X.getD j []).length (fun k => mk ((T.X.getD j []).getD k 0)) ∧ ∀ g, ((T.W ++ [x]).getD j undef).ownBlock = some g → tagAt lt v' (6 + c) g = 8 + c
    by_cases hlt : j < T.W.length
    · rw [hG' j hlt]
      exact b2 (h.ew j hlt).1 (h.ew j hlt).2 (by omega)
    · have : j = T.W.length := by omega
      subst this
      rw [getD_last _ _ _ _ rfl, hX]
      exact b2 hx hxt (by omega)
end Go.Proofs.YtochdajeocganabDoor
