/- Marks laid over a list, and behind it. -/
import Derived.Test.YtjmnddcombepaaaDo
namespace Go.Proofs.Ytjmnddcombepaaa
open Go.ChangeShapes Go.WideShapes Go.ChangeAt Go.RowKit Go.Maps
set_option linter.unusedVariables false
set_option linter.unusedSimpArgs false
set_option maxRecDepth 100000
set_option maxHeartbeats 8000000
/-- so many marks laid -/
def fillF (c : List Value) (f : Nat → Value) (i : Nat) : Nat → Value := fun k => if k < i * c.length then mkF c k else f k
theorem fill_end {w : World} {e : TypeId} {s : Nat} {v : Value} {n : Nat} {c : List Value} {f : Nat → Value} (h : Rws w e s v n (fillF c f n)) (hc : c.length = s) : Rws w e s v n (mkF c) :=
  h.congr fun j hj => by unfold fillF; rw [if_pos (by rw [hc]; exact hj)]
theorem fill_begin {w : World} {e : TypeId} {s : Nat} {v : Value} {n : Nat} {c : List Value} {f : Nat → Value} (h : Rws w e s v n f) : Rws w e s v n (fillF c f 0) :=
  h.congr fun j hj => by unfold fillF; rw [if_neg (by omega)]
theorem set_heap1 (w : World) (g o : Nat) (cur : Array Value) (t : TypeId) (x : Value) (hg : w.heap[g]? = some (.cells cur t (0, 0))) : (w.setCell ⟨g, o, none⟩ x).heap[g]? = some (.cells (cur.setIfInBounds o x) t (0, 0)) ∧ Fl [⟨.slice (some ⟨g, 0, none⟩) 0 0, 0, []⟩] w (w.setCell ⟨g, o, none⟩ x) := by
  refine ⟨heap_setCell_same w g o cur t x hg, rfl, rfl, rfl, by simp [World.setCell], fun b hb hn => Below.heap_setCell w ⟨g, o, none⟩ x b (fun e => ?_)⟩
  exact hn _ (List.mem_singleton.2 rfl) (by simp [Value.ownBlock]; exact e.symm)
theorem fl_own {L M : List Ent} {w w' : World} (h : Fl L w w') (hs : ∀ x ∈ L, ∀ g, x.v.ownBlock = some g → ∃ y ∈ M, y.v.ownBlock = some g) : Fl M w w' :=
  ⟨h.os, h.tape, h.output, h.size, fun b hb hn => h.block b hb (fun x hx e => by
    obtain ⟨y, hy, e2⟩ := hs x hx b e
    exact hn y hy e2)⟩
theorem put_cells {c : List Value} {f : Nat → Value} {n i cap : Nat} {s : Nat} {cur cur' : Array Value} (hc : c.length = s) (hf : ∀ k, k < n * s → cur[k]? = some (fillF c f i k)) (hn : n ≤ cap) (hi : i < n) (hsz : cur.size = cap * s)
    (h1 : ∀ j, j < s → cur'[i * s + j]? = c[j]?) (h2 : ∀ k, (k < i * s ∨ i * s + s ≤ k) → cur'[k]? = cur[k]?) : ∀ k, k < n * s → cur'[k]? = some (fillF c f (i + 1) k) := by
  intro k hk
  by_cases hin : i * s ≤ k ∧ k < i * s + s
  · have e : k = i * s + (k - i * s) := by omega
    have hj : k - i * s < s := by omega
    rw [e, h1 _ hj]
    unfold fillF
    rw [if_pos (by rw [hc, Nat.add_mul]; omega), ← hc, mkF_shift]
    unfold mkF
    rw [hc, Nat.mod_eq_of_lt hj, List.getD_eq_getElem?_getD, List.getElem?_eq_getElem (by omega)]
    rfl
  · rw [h2 k (by omega), hf k hk]
    unfold fillF
    rw [hc]
    by_cases h3 : k < i * s
    · rw [if_pos h3, if_pos (by rw [Nat.add_mul]; omega)]
    · rw [if_neg h3, if_neg (by rw [Nat.add_mul]; omega)]
/-- one mark laid over a place -/
theorem fill_put2 {w : World} {e : TypeId} {g n cap i : Nat} {x y : Value} {f : Nat → Value} (h : Rws w e 2 (.slice (some ⟨g, 0, none⟩) n cap) n (fillF [x, y] f i)) (hi : i < n) :
    w.there g (i * 2) 2 ∧ Rws (w.setCells g (i * 2) [x, y]) e 2 (.slice (some ⟨g, 0, none⟩) n cap) n (fillF [x, y] f (i + 1)) ∧ Fl [⟨.slice (some ⟨g, 0, none⟩) n cap, n, [x, y]⟩] w (w.setCells g (i * 2) [x, y]) := by
  rcases h with ⟨h0, -⟩ | ⟨g', cap', cur, e1, hg, hn, hcm, hsz, hf⟩
  · cases h0
  · cases e1
    have hlt : i * 2 + 1 < cur.size := by rw [hsz]; omega
    have hw : w.setCells g (i * 2) [x, y] = (w.setCell ⟨g, i * 2, none⟩ x).setCell ⟨g, i * 2 + 1, none⟩ y := rfl
    obtain ⟨k1, f1⟩ := set_heap1 w g (i * 2) cur e x hg
    obtain ⟨k2, f2⟩ := set_heap1 (w.setCell ⟨g, i * 2, none⟩ x) g (i * 2 + 1) _ e y k1
    refine ⟨fun j hj => ?_, .inr ⟨g, cap, _, rfl, by rw [hw]; exact k2, hn, hcm, by simpa using hsz, ?_⟩, ?_⟩
    · constructor
      · rw [cell_of_row w g (i * 2 + j) cur e (0, 0) hg, Array.getElem?_eq_getElem (by omega)]; rfl
      · simp [World.frozen?, hg]
    · refine put_cells (s := 2) rfl hf hn hi hsz (fun j hj => ?_) (fun k hk => ?_)
      · have : j = 0 ∨ j = 1 := by omega
        rcases this with rfl | rfl
        · rw [Array.getElem?_setIfInBounds_ne (by omega), Nat.add_zero, Array.getElem?_setIfInBounds_self_of_lt (by omega)]; rfl
        · rw [Array.getElem?_setIfInBounds_self_of_lt (by simpa using hlt)]; rfl
      · rw [Array.getElem?_setIfInBounds_ne (by omega), Array.getElem?_setIfInBounds_ne (by omega)]
    · rw [hw]
      refine fl_own (f1.trans f2 (fun x hx => .inl hx)) (fun x hx g' e' => ?_)
      rw [List.mem_singleton.1 hx] at e'
      exact ⟨_, List.mem_singleton.2 rfl, e'⟩
theorem fill_put1 {w : World} {e : TypeId} {g n cap i : Nat} {x : Value} {f : Nat → Value} (h : Rws w e 1 (.slice (some ⟨g, 0, none⟩) n cap) n (fillF [x] f i)) (hi : i < n) :
    (∃ u, w.cell? ⟨g, i, none⟩ = some u) ∧ w.frozen? ⟨g, i, none⟩ = false ∧ Rws (w.setCell ⟨g, i, none⟩ x) e 1 (.slice (some ⟨g, 0, none⟩) n cap) n (fillF [x] f (i + 1)) ∧ Fl [⟨.slice (some ⟨g, 0, none⟩) n cap, n, [x]⟩] w (w.setCell ⟨g, i, none⟩ x) := by
  rcases h with ⟨h0, -⟩ | ⟨g', cap', cur, e1, hg, hn, hcm, hsz, hf⟩
  · cases h0
  · cases e1
    have hlt : i < cur.size := by rw [hsz]; omega
    obtain ⟨k1, f1⟩ := set_heap1 w g i cur e x hg
    refine ⟨⟨cur[i], by rw [cell_of_row w g i cur e (0, 0) hg, Array.getElem?_eq_getElem hlt]⟩, by simp [World.frozen?, hg], .inr ⟨g, cap, _, rfl, k1, hn, hcm, by simpa using hsz, ?_⟩, ?_⟩
    · refine put_cells (s := 1) rfl hf hn hi hsz (fun j hj => ?_) (fun k hk => ?_)
      · obtain rfl : j = 0 := by omega
        rw [Nat.add_zero, Nat.mul_one, Array.getElem?_setIfInBounds_self_of_lt hlt]; rfl
      · rw [Array.getElem?_setIfInBounds_ne (by omega)]
    · refine fl_own f1 (fun x hx g' e' => ?_)
      rw [List.mem_singleton.1 hx] at e'
      exact ⟨_, List.mem_singleton.2 rfl, e'⟩
theorem fill_put3 {w : World} {e : TypeId} {g n cap i : Nat} {x y z : Value} {f : Nat → Value} (h : Rws w e 3 (.slice (some ⟨g, 0, none⟩) n cap) n (fillF [x, y, z] f i)) (hi : i < n) :
    w.there g (i * 3) 3 ∧ Rws (w.setCells g (i * 3) [x, y, z]) e 3 (.slice (some ⟨g, 0, none⟩) n cap) n (fillF [x, y, z] f (i + 1)) ∧ Fl [⟨.slice (some ⟨g, 0, none⟩) n cap, n, [x, y, z]⟩] w (w.setCells g (i * 3) [x, y, z]) := by
  rcases h with ⟨h0, -⟩ | ⟨g', cap', cur, e1, hg, hn, hcm, hsz, hf⟩
  · cases h0
  · cases e1
    have hlt : i * 3 + 2 < cur.size := by rw [hsz]; omega
    have hw : w.setCells g (i * 3) [x, y, z] = ((w.setCell ⟨g, i * 3, none⟩ x).setCell ⟨g, i * 3 + 1, none⟩ y).setCell ⟨g, i * 3 + 2, none⟩ z := rfl
    obtain ⟨k1, f1⟩ := set_heap1 w g (i * 3) cur e x hg
    obtain ⟨k2, f2⟩ := set_heap1 (w.setCell ⟨g, i * 3, none⟩ x) g (i * 3 + 1) _ e y k1
    obtain ⟨k3, f3⟩ := set_heap1 ((w.setCell ⟨g, i * 3, none⟩ x).setCell ⟨g, i * 3 + 1, none⟩ y) g (i * 3 + 2) _ e z k2
    refine ⟨fun j hj => ?_, .inr ⟨g, cap, _, rfl, by rw [hw]; exact k3, hn, hcm, by simpa using hsz, ?_⟩, ?_⟩
    · constructor
      · rw [cell_of_row w g (i * 3 + j) cur e (0, 0) hg, Array.getElem?_eq_getElem (by omega)]; rfl
      · simp [World.frozen?, hg]
    · refine put_cells (s := 3) rfl hf hn hi hsz (fun j hj => ?_) (fun k hk => ?_)
      · have : j = 0 ∨ j = 1 ∨ j = 2 := by omega
        rcases this with rfl | rfl | rfl
        · rw [Array.getElem?_setIfInBounds_ne (by omega), Array.getElem?_setIfInBounds_ne (by omega), Nat.add_zero, Array.getElem?_setIfInBounds_self_of_lt (by omega)]; rfl
        · rw [Array.getElem?_setIfInBounds_ne (by omega), Array.getElem?_setIfInBounds_self_of_lt (by simp; omega)]; rfl
        · rw [Array.getElem?_setIfInBounds_self_of_lt (by simpa using hlt)]; rfl
      · rw [Array.getElem?_setIfInBounds_ne (by omega), Array.getElem?_setIfInBounds_ne (by omega), Array.getElem?_setIfInBounds_ne (by omega)]
    · rw [hw]
      refine fl_own ((f1.trans f2 (fun x hx => .inl hx)).trans f3 (fun x hx => .inl hx)) (fun x hx g' e' => ?_)
      rw [List.mem_singleton.1 hx] at e'
      exact ⟨_, List.mem_singleton.2 rfl, e'⟩
/-- a list that is written over and appended to: the lists L that come of it, all with its mark -/
structure Ap (W wr : World) (B0 : Nat) (e : TypeId) (s : Nat) (l0 : Ent) (L : List Ent) : Prop where
  kl : KL wr e s B0 L
  fl : Fl [l0] W wr
  own : ∀ x ∈ L, ∀ g, x.v.ownBlock = some g → l0.v.ownBlock = some g ∨ W.heap.size ≤ g
  c : ∀ x ∈ L, x.c = l0.c
  b0 : B0 ≤ W.heap.size
theorem Ap.begin {W wr : World} {B0 : Nat} {e : TypeId} {s : Nat} {l0 : Ent} (hB : B0 ≤ W.heap.size) (hr : Rws wr e s l0.v l0.n (mkF l0.c)) (hc : l0.c.length = s) (hf : Fl [l0] W wr) (hg : ∀ g, l0.v.ownBlock = some g → B0 ≤ g) : Ap W wr B0 e s l0 [l0] :=
  ⟨⟨fun x hx => by rw [List.mem_singleton.1 hx]; exact ⟨hr, hc⟩, fun x hx g q => by rw [List.mem_singleton.1 hx] at q; exact hg g q, fun x hx y hy g _ _ => by rw [List.mem_singleton.1 hx, List.mem_singleton.1 hy]⟩, hf, fun x hx g q => by rw [List.mem_singleton.1 hx] at q; exact .inl q, fun x hx => by rw [List.mem_singleton.1 hx], hB⟩
theorem Ap.sub {W wr : World} {B0 : Nat} {e : TypeId} {s : Nat} {l0 : Ent} {L M : List Ent} (h : Ap W wr B0 e s l0 L) (hs : ∀ x ∈ M, x ∈ L) : Ap W wr B0 e s l0 M :=
  ⟨h.kl.sub hs, h.fl, fun x hx => h.own x (hs x hx), fun x hx => h.c x (hs x hx), h.b0⟩
theorem Ap.app {W wr w3 w' : World} {B0 : Nat} {e : TypeId} {s : Nat} {l0 : Ent} {L : List Ent} (h : Ap W wr B0 e s l0 L) (hb : Below wr.heap.size wr w3) {x : Ent} (hx : x ∈ L) {v' : Value} {n : Nat} (hn : n = x.n) {c : List Value} (hc : c = x.c)
    (hr : Rws w' e s v' (n + 1) (fun k => if k < n * s then mkF c k else c.getD (k - n * s) undef)) (hg : Gr e (n * s) c.length w3 w' x.v v') : Ap W w' B0 e s l0 (L ++ [⟨v', n + 1, c⟩]) := by
  subst hn hc
  have hcl := (h.kl.row x hx).2
  have kb := h.kl.below hb
  have fb : Fl [l0] W w3 := ⟨hb.os.trans h.fl.os, hb.tape.trans h.fl.tape, hb.output.trans h.fl.output, Nat.le_trans h.fl.size hb.size, fun b hbs hn => (hb.block b (Nat.lt_of_lt_of_le hbs h.fl.size)).trans (h.fl.block b hbs hn)⟩
  refine ⟨kb.app (q := 1) (news := x.c) (Nat.le_trans h.b0 fb.size) hx hr (by rw [hcl, Nat.one_mul]) hg (fun j hj => ?_), ?_, fun y hy g q => ?_, fun y hy => ?_, h.b0⟩
  · unfold mkF
    rw [Nat.mod_eq_of_lt hj]
  · refine fb.trans (Fl.gr (L := L) hx hg) (fun y hy => .inr fun g q => ?_)
    rcases h.own y hy g q with z | z
    · exact .inr ⟨l0, List.mem_singleton.2 rfl, z⟩
    · exact .inl z
  · rcases List.mem_append.1 hy with hy | hy
    · exact h.own y hy g q
    · rw [List.mem_singleton.1 hy] at q
      rcases hg.how with ⟨g', cur, cur', k1, k2, -⟩ | ⟨k2, -⟩
      · have : some g' = some g := k2.symm.trans q
        cases this
        exact h.own x hx _ k1
      · have : some w3.heap.size = some g := k2.symm.trans q
        cases this
        exact .inr fb.size
  · rcases List.mem_append.1 hy with hy | hy
    · exact h.c y hy
    · rw [List.mem_singleton.1 hy]; exact h.c x hx
end Go.Proofs.Ytjmnddcombepaaa
