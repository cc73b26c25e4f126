/- record: Read: what it finds, in memory. -/
import Derived.Test.YtljeedgnjgeopaaYq
namespace Larder
set_option linter.unusedVariables false
theorem offR_ge (es : List EntP) : ∀ q, q ≤ es.length → 26 * q ≤ offR es q := by
  intro q
  induction q with
  | zero => intro _; omega
  | succ q ih =>
    intro hq
    obtain ⟨e, he⟩ : ∃ e, es[q]? = some e := ⟨_, List.getElem?_eq_getElem (by omega)⟩
    have h1 := ih (by omega)
    have h2 := recE_pos e
    rw [offR_succ he]
    omega
end Larder
namespace Go.Proofs.Ytljeedgnjgeopaa
open Go.ChangeShapes Go.WideShapes Go.ChangeAt Go.RowKit Go.Shelf
set_option linter.unusedVariables false
set_option linter.unusedSimpArgs false
set_option maxRecDepth 100000
set_option maxHeartbeats 4000000
theorem info41 : (Try.prog.info? 41).map (fun i => (i.zero, i.size, i.bytes)) = some (some (.agg #[.int .i64 0, .int .u64 0, .slice none 0 0]), 3, 40) := by kernel_rfl
/-- records gives its iterator -/
theorem records_any (W : World) (a : Option Addr) (n c : Nat) : Calls Try.prog 38 #[.slice a n c] W fun e w' => e = .returned (.func (.func 47) #[] #[.pointer (some ⟨W.heap.size, 0, none⟩)]) ∧ w' = W.alloc (.cells #[.slice a n c] 27) := by
  go_enter Try.func38, Try.ntmps38
  go_wp2
  go_ret
  exact ⟨rfl, rfl⟩
/-- entries, all in rows of their own -/
def EL (w : World) (v : Value) (xs : List Larder.EntP) : Prop := ∃ f, Rws w 41 3 v xs.length f ∧ ∀ i x, xs[i]? = some x → ∃ ai ci, f (i * 3) = .int .i64 (x.seq : Nat) ∧ f (i * 3 + 1) = .int .u64 (x.now : Nat) ∧ f (i * 3 + 2) = .slice ai x.group.length ci ∧ AL w (.slice ai x.group.length ci) x.group
theorem EL.same {w w' : World} {v : Value} {xs : List Larder.EntP} {p : TypeId → Prop} (h : EL w v xs) (hv : ∀ g, v.ownBlock = some g → w'.heap[g]? = w.heap[g]?) (hk : Kt p w w') (h64 : p 64) (h27 : p 27) (h5 : p 5) : EL w' v xs := by
  obtain ⟨f, h1, h2⟩ := h
  refine ⟨f, h1.same hv, fun i T hT => ?_⟩
  obtain ⟨ai, ci, q1, q2, q3, q4⟩ := h2 i T hT
  exact ⟨ai, ci, q1, q2, q3, q4.kt hk h64 h27 h5⟩
theorem EL.kt {w w' : World} {v : Value} {xs : List Larder.EntP} (h : EL w v xs) (hk : Kt (fun _ => True) w w') : EL w' v xs := by
  refine h.same (p := fun _ => True) (fun g hg => ?_) hk trivial trivial trivial
  obtain ⟨f, h1, -⟩ := h
  obtain ⟨c, hc⟩ := h1.type g hg
  exact hk g c 41 (0, 0) hc trivial
theorem EL.lt {w : World} {v : Value} {xs : List Larder.EntP} (h : EL w v xs) : ∀ g, v.ownBlock = some g → g < w.heap.size := h.choose_spec.1.lt
theorem EL.nil (w : World) : EL w (.slice none 0 0) [] := ⟨fun _ => undef, .inl ⟨rfl, rfl⟩, fun i T h => by cases h⟩
theorem EL.push {w w' : World} {v v' : Value} {xs : List Larder.EntP} {e : Larder.EntP} {a : Option Addr} {c gn : Nat} {f : Nat → Value} {n m cc : Nat} (hn : n = xs.length) (hf : ∀ i x, xs[i]? = some x → ∃ ai ci, f (i * 3) = .int .i64 (x.seq : Nat) ∧ f (i * 3 + 1) = .int .u64 (x.now : Nat) ∧ f (i * 3 + 2) = .slice ai x.group.length ci ∧ AL w (.slice ai x.group.length ci) x.group) (hr : Rws w 41 3 v n f) (hgn : gn = e.group.length) (hV : AL w (.slice a gn c) e.group) (hw : Rws w' 41 3 v' (n + 1) (fun k => if k < n * 3 then f k else [Value.int .i64 (e.seq : Nat), .int .u64 (e.now : Nat), Value.slice a gn c].getD (k - n * 3) undef)) (hg : Ga 41 cc m w w' v v') : EL w' v' (xs ++ [e]) := by
  subst hgn
  have hk := Kt.ga hg hr
  refine ⟨_, by rw [List.length_append, ← hn]; exact hw, fun i x hx => ?_⟩
  by_cases hi : i < n
  · rw [if_pos (by omega), if_pos (by omega), if_pos (by omega)]
    rw [List.getElem?_append_left (by omega)] at hx
    obtain ⟨ai, ci, q1, q2, q3, q4⟩ := hf i x hx
    exact ⟨ai, ci, q1, q2, q3, q4.kt hk (by decide) (by decide) (by decide)⟩
  · rw [if_neg (by omega), if_neg (by omega), if_neg (by omega)]
    rw [List.getElem?_append_right (by omega)] at hx
    have hi2 : i - xs.length = 0 := by
      rcases Nat.eq_zero_or_pos (i - xs.length) with e | e
      · exact e
      · rw [List.getElem?_eq_none (by simp; omega)] at hx; cases hx
    rw [hi2] at hx
    cases hx
    have e1 : i * 3 - n * 3 = 0 := by omega
    have e2 : i * 3 + 1 - n * 3 = 1 := by omega
    have e3 : i * 3 + 2 - n * 3 = 2 := by omega
    rw [e1, e2, e3]
    exact ⟨a, c, rfl, rfl, rfl, hV.kt hk (by decide) (by decide) (by decide)⟩
/-- Read under way: found, size and the log's box lie behind w -/
structure RdS (w : World) (lg : Value) (es : List Larder.EntP) (q : Nat) (W : World) : Prop where
  bel : Below w.heap.size w W
  lt : w.heap.size + 5 ≤ W.heap.size
  fnd : ∃ v, W.heap[w.heap.size]? = some (.cells #[v] 26 (0, 0)) ∧ EL W v (es.take q) ∧ ∀ g, v.ownBlock = some g → w.heap.size + 5 ≤ g
  sz : W.heap[w.heap.size + 1]? = some (.cells #[.int .i64 ((Larder.offR es q : Nat) : Int)] 3 (0, 0))
  bx : W.heap[w.heap.size + 2]? = some (.cells #[lg] 27 (0, 0))
theorem RdS.mono {w : World} {lg : Value} {es : List Larder.EntP} {q : Nat} {W W' : World} (h : RdS w lg es q W) (hb : Below w.heap.size W W') (hs : W.heap.size ≤ W'.heap.size) (h3 : ∀ k, w.heap.size ≤ k → k < w.heap.size + 3 → W'.heap[k]? = W.heap[k]?) (hv : ∀ v, W.heap[w.heap.size]? = some (.cells #[v] 26 (0, 0)) → ∀ g, v.ownBlock = some g → W'.heap[g]? = W.heap[g]?) (hk : Kt (fun t => t ≠ 41) W W') : RdS w lg es q W' := by
  obtain ⟨v, f1, f2, f3⟩ := h.fnd
  exact ⟨h.bel.trans hb, Nat.le_trans h.lt hs, ⟨v, (h3 _ (Nat.le_refl _) (by omega)).trans f1, f2.same (hv v f1) hk (by decide) (by decide) (by decide), f3⟩, (h3 _ (by omega) (by omega)).trans h.sz, (h3 _ (by omega) (by omega)).trans h.bx⟩
theorem RdS.below {w : World} {lg : Value} {es : List Larder.EntP} {q : Nat} {W W' : World} (h : RdS w lg es q W) (hb : Below W.heap.size W W') : RdS w lg es q W' := by
  have h5 := h.lt
  refine h.mono (hb.mono (by omega)) hb.size (fun k h1 h2 => hb.block k (by omega)) (fun v hv g hg => ?_) (Kt.of hb)
  obtain ⟨v', f1, f2, f3⟩ := h.fnd
  rw [hv] at f1
  cases f1
  exact hb.block g (f2.lt g hg)
theorem RdS.obj {w : World} {lg : Value} {es : List Larder.EntP} {q L : Nat} {W : World} {o o' : Obj} (h : RdS w lg es q W) (hL : w.heap.size + 3 ≤ L) (ho : W.heap[L]? = some o) (hc : o.isCells = false) : RdS w lg es q (W.putObj L o') := by
  have hne : ∀ (b : Nat) (C : Array Value) (t : TypeId) (f : Nat × Nat), W.heap[b]? = some (.cells C t f) → b ≠ L := fun b C t f hb e => by
    rw [e, ho] at hb
    cases hb
    cases hc
  refine h.mono ⟨rfl, rfl, rfl, by simp, fun b hb => World.putObj_heap_other (by omega)⟩ (by simp) (fun k h1 h2 => World.putObj_heap_other (by omega)) (fun v hv g hg => ?_) (fun b C t f hb _ => World.putObj_heap_other (hne b C t f hb))
  obtain ⟨v', f1, f2, f3⟩ := h.fnd
  rw [hv] at f1
  cases f1
  obtain ⟨f, r1, -⟩ := f2
  obtain ⟨c, hc2⟩ := r1.type g hg
  exact World.putObj_heap_other (hne _ _ _ _ hc2)
/-- a block of the iterator's own -/
def RdX (w : World) (W : World) (k : Nat) : Prop := w.heap.size + 5 ≤ k ∧ (∃ C f, W.heap[k]? = some (.cells C 41 f)) ∧ ∀ v, W.cell? ⟨w.heap.size, 0, none⟩ = some v → v.ownBlock ≠ some k
theorem RdS.new {w : World} {lg : Value} {es : List Larder.EntP} {q : Nat} {W : World} (h : RdS w lg es q W) (C : Array Value) : RdX w (W.alloc (.cells C 41)) W.heap.size := by
  have h5 := h.lt
  refine ⟨h.lt, ⟨_, _, heap_alloc_new W _⟩, fun v hv e => ?_⟩
  obtain ⟨v', f1, f2, f3⟩ := h.fnd
  have h1 := cell_blk ((heap_alloc_old W (.cells C 41) (show w.heap.size < W.heap.size by omega)).trans f1) 0
  rw [hv] at h1
  cases h1
  have := f2.lt _ e
  omega
theorem RdX.below {w W W' : World} {k : Nat} (h : RdX w W k) (hk : k < W.heap.size) (hb : Below W.heap.size W W') : RdX w W' k := by
  obtain ⟨h1, ⟨C, f, h2⟩, h3⟩ := h
  exact ⟨h1, ⟨C, f, (hb.block k hk).trans h2⟩, fun v hv => h3 v ((hb.cell (p := ⟨w.heap.size, 0, none⟩) (show w.heap.size < _ by omega)).symm.trans hv)⟩
theorem RdX.set {w W : World} {k k' i : Nat} {u : Value} (h : RdX w W k) (h' : RdX w W k') : RdX w (W.setCell ⟨k', i, none⟩ u) k := by
  obtain ⟨h1, ⟨C, f, h2⟩, h3⟩ := h
  have h4 := h'.1
  refine ⟨h1, ?_, fun v hv => h3 v ?_⟩
  · by_cases e : k = k'
    · subst e
      exact ⟨_, _, set_block W k i u C 41 f h2⟩
    · exact ⟨C, f, (set_else W k' i k u e).trans h2⟩
  · rw [← hv]
    simp only [World.cell?]
    rw [set_else W k' i _ u (by omega)]
theorem RdS.set {w : World} {lg : Value} {es : List Larder.EntP} {q k i : Nat} {u : Value} {W : World} (h : RdS w lg es q W) (hx : RdX w W k) : RdS w lg es q (W.setCell ⟨k, i, none⟩ u) := by
  obtain ⟨h1, ⟨C, f, h2⟩, h3⟩ := hx
  refine h.mono ⟨rfl, rfl, rfl, by simp, fun b hb => set_else W k i b u (by omega)⟩ (by simp) (fun b hb1 hb2 => set_else W k i b u (by omega)) (fun v hv g hg => ?_) (fun b C' t f' hb ht => ?_)
  · refine set_else W k i g u (fun e => ?_)
    exact h3 v (cell_blk hv 0) (by rw [hg, e])
  · refine set_else W k i b u (fun e => ?_)
    rw [e, h2] at hb
    cases hb
    exact ht rfl
/-- one more is found -/
theorem RdS.push {w : World} {lg : Value} {es : List Larder.EntP} {q : Nat} {W W2 : World} {v v' : Value} {e : Larder.EntP} {ga : Option Addr} {gn gc cc m : Nat} {f : Nat → Value} (h : RdS w lg es q W) (he : es[q]? = some e) (hv : W.heap[w.heap.size]? = some (.cells #[v] 26 (0, 0)))
    (hf : ∀ i x, (es.take q)[i]? = some x → ∃ ai ci, f (i * 3) = .int .i64 (x.seq : Nat) ∧ f (i * 3 + 1) = .int .u64 (x.now : Nat) ∧ f (i * 3 + 2) = .slice ai x.group.length ci ∧ AL W (.slice ai x.group.length ci) x.group) (hr : Rws W 41 3 v q f) (hgn : gn = e.group.length) (hA : AL W (.slice ga gn gc) e.group)
    (hw : Rws W2 41 3 v' (q + 1) (fun k => if k < q * 3 then f k else [Value.int .i64 (e.seq : Nat), .int .u64 (e.now : Nat), Value.slice ga gn gc].getD (k - q * 3) undef)) (hg : Ga 41 cc m (W.alloc (.cells #[.int .i64 (e.seq : Nat), .int .u64 (e.now : Nat), .slice ga gn gc] 41)) W2 v v') (L D : Nat) (hL : L < w.heap.size + 5) (hD : D < w.heap.size + 5) (hL3 : w.heap.size + 2 < L) (hD3 : w.heap.size + 2 < D) :
    W2.cell? ⟨w.heap.size, 0, none⟩ = some v ∧ W2.frozen? ⟨w.heap.size, 0, none⟩ = false ∧ (W2.setCell ⟨w.heap.size, 0, none⟩ v').cell? ⟨w.heap.size + 1, 0, none⟩ = some (.int .i64 ((Larder.offR es q : Nat) : Int)) ∧ (W2.setCell ⟨w.heap.size, 0, none⟩ v').frozen? ⟨w.heap.size + 1, 0, none⟩ = false ∧
    Hid (RdS w lg es (q + 1) ((W2.setCell ⟨w.heap.size, 0, none⟩ v').setCell ⟨w.heap.size + 1, 0, none⟩ (.int .i64 ((Larder.offR es (q + 1) : Nat) : Int))) ∧ RcK (RdX w) W ((W2.setCell ⟨w.heap.size, 0, none⟩ v').setCell ⟨w.heap.size + 1, 0, none⟩ (.int .i64 ((Larder.offR es (q + 1) : Nat) : Int))) ∧ ((W2.setCell ⟨w.heap.size, 0, none⟩ v').setCell ⟨w.heap.size + 1, 0, none⟩ (.int .i64 ((Larder.offR es (q + 1) : Nat) : Int))).heap[L]? = W.heap[L]? ∧ ((W2.setCell ⟨w.heap.size, 0, none⟩ v').setCell ⟨w.heap.size + 1, 0, none⟩ (.int .i64 ((Larder.offR es (q + 1) : Nat) : Int))).heap[D]? = W.heap[D]?) := by
  have h5 := h.lt
  obtain ⟨v0, f1, f2, f3⟩ := h.fnd
  rw [hv] at f1
  cases f1
  have hal := (Below.refl W.heap.size W).alloc (Nat.le_refl _) (.cells #[.int .i64 (e.seq : Nat), .int .u64 (e.now : Nat), .slice ga gn gc] 41)
  have hqe : q < es.length := (List.getElem?_eq_some_iff.1 he).1
  have hqn : q = (es.take q).length := by rw [List.length_take]; omega
  obtain ⟨W1, hW1⟩ : ∃ W1, W.alloc (.cells #[.int .i64 (e.seq : Nat), .int .u64 (e.now : Nat), .slice ga gn gc] 41) = W1 := ⟨_, rfl⟩
  rw [hW1] at hg hal
  have hkt : Kt (fun _ => True) W W1 := Kt.of hal
  have hf1 : ∀ i x, (es.take q)[i]? = some x → ∃ ai ci, f (i * 3) = .int .i64 (x.seq : Nat) ∧ f (i * 3 + 1) = .int .u64 (x.now : Nat) ∧ f (i * 3 + 2) = .slice ai x.group.length ci ∧ AL W1 (.slice ai x.group.length ci) x.group := fun i x hx => by
    obtain ⟨ai, ci, q1, q2, q3, q4⟩ := hf i x hx
    exact ⟨ai, ci, q1, q2, q3, q4.kt hkt trivial trivial trivial⟩
  have hEL := EL.push hqn hf1 (hr.below hal) hgn (hA.kt hkt trivial trivial trivial) hw hg
  rw [show es.take q ++ [e] = es.take (q + 1) by rw [List.take_add_one, he]; rfl] at hEL
  -- what the append kept
  have hs2 : W.heap.size ≤ W2.heap.size := by
    rcases hg with ⟨rfl, -⟩ | hg
    · exact hal.size
    · exact Nat.le_trans hal.size hg.size
  have hoth : ∀ k, k < W.heap.size → v.ownBlock ≠ some k → W2.heap[k]? = W.heap[k]? := fun k hk hn => by
    rcases hg with ⟨rfl, -⟩ | hg
    · exact hal.block k hk
    · exact (hg.other k (Nat.lt_of_lt_of_le hk hal.size) hn).trans (hal.block k hk)
  have hown : ∀ g, v'.ownBlock = some g → v.ownBlock = some g ∨ W.heap.size ≤ g := fun g hg' => by
    rcases hg with ⟨-, rfl⟩ | hg
    · exact .inl hg'
    · rcases hg.how with ⟨g', _, _, z1, z2, _⟩ | ⟨z2, _⟩
      · rw [hg'] at z2; cases z2; exact .inl z1
      · rw [hg'] at z2; cases z2; exact .inr hal.size
  have hlow : ∀ k, k < w.heap.size + 5 → W2.heap[k]? = W.heap[k]? := fun k hk => hoth k (by omega) (fun e => by have := f3 k e; omega)
  have hW2b : Below w.heap.size w W2 := by
    rcases hg with ⟨rfl, -⟩ | hg
    · exact h.bel.trans (hal.mono (by omega))
    · exact h.bel.trans ((hal.mono (by omega)).trans (hg.below _ (by have := hal.size; omega) (fun g hg' => by have := f3 g hg'; omega)))
  have x1 : W2.heap[w.heap.size]? = some (.cells #[v] 26 (0, 0)) := (hlow _ (by omega)).trans hv
  have x2 : W2.heap[w.heap.size + 1]? = _ := (hlow _ (by omega)).trans h.sz
  have x3 : W2.heap[w.heap.size + 2]? = _ := (hlow _ (by omega)).trans h.bx
  have y1 := set_block W2 w.heap.size 0 v' _ _ _ x1
  have y2 : (W2.setCell ⟨w.heap.size, 0, none⟩ v').heap[w.heap.size + 1]? = _ := (set_else W2 w.heap.size 0 (w.heap.size + 1) v' (by omega)).trans x2
  have z2 := set_block _ (w.heap.size + 1) 0 (.int .i64 ((Larder.offR es (q + 1) : Nat) : Int)) _ _ _ y2
  have zel : ∀ k, k ≠ w.heap.size → k ≠ w.heap.size + 1 → ((W2.setCell ⟨w.heap.size, 0, none⟩ v').setCell ⟨w.heap.size + 1, 0, none⟩ (.int .i64 ((Larder.offR es (q + 1) : Nat) : Int))).heap[k]? = W2.heap[k]? := fun k h1 h2 => (set_else _ _ _ _ _ h2).trans (set_else _ _ _ _ _ h1)
  have z1 : ((W2.setCell ⟨w.heap.size, 0, none⟩ v').setCell ⟨w.heap.size + 1, 0, none⟩ (.int .i64 ((Larder.offR es (q + 1) : Nat) : Int))).heap[w.heap.size]? = some (.cells #[v'] 26 (0, 0)) := (set_else _ _ _ _ _ (by omega)).trans y1
  have zkt : Kt (fun _ => True) W2 W2 := fun _ _ _ _ _ _ => rfl
  refine ⟨cell_blk x1 0, frz x1 0, cell_blk y2 0, frz y2 0, hide ⟨⟨hW2b.trans ⟨rfl, rfl, rfl, by simp, fun b hb => zel b (by omega) (by omega)⟩, by simpa using Nat.le_trans h5 hs2, ⟨v', z1, ?_, fun g hg' => ?_⟩, z2, (zel _ (by omega) (by omega)).trans x3⟩, ⟨by simpa using hs2, fun k hk hx => ?_⟩, (zel _ (by omega) (by omega)).trans (hlow _ hL), (zel _ (by omega) (by omega)).trans (hlow _ hD)⟩⟩
  · refine hEL.same (p := fun t => t ≠ 26 ∧ t ≠ 3) (fun g hg' => zel g ?_ ?_) (fun b C t f' hb ht => zel b (fun e => ?_) (fun e => ?_)) (by decide) (by decide) (by decide)
    · rcases hown g hg' with e | e
      · have := f3 g e; omega
      · omega
    · rcases hown g hg' with e | e
      · have := f3 g e; omega
      · omega
    · rw [e, x1] at hb; cases hb; exact ht.1 rfl
    · rw [e, x2] at hb; cases hb; exact ht.2 rfl
  · rcases hown g hg' with e | e
    · exact f3 g e
    · omega
  · obtain ⟨k1, ⟨C, f', k2⟩, k3⟩ := hx
    have hn := k3 v (cell_blk hv 0)
    have hk2 := (zel k (by omega) (by omega)).trans (hoth k hk hn)
    refine ⟨hk2, k1, ⟨C, f', hk2.trans k2⟩, fun u hu e => ?_⟩
    rw [cell_blk z1 0] at hu
    cases hu
    rcases hown k e with e | e
    · exact hn e
    · omega
end Go.Proofs.Ytljeedgnjgeopaa
