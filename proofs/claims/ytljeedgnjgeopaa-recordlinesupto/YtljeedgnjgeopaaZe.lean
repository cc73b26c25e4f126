/- record: the law's row: what it holds. -/
import Derived.Test.YtljeedgnjgeopaaZd
namespace Larder
set_option linter.unusedVariables false
/-- the log's entries, as they were numbered -/
structure Numd (f s : Nat) (es : List EntP) : Prop where
  few : es.length ≤ 40
  each : ∀ i e, es[i]? = some e → e.seq = f + i ∧ e.now = i * s ∧ OkE e
theorem Numd.nil (f s : Nat) : Numd f s [] := ⟨by simp, fun i e h => by cases h⟩
theorem Numd.push {f s : Nat} {es : List EntP} {e : EntP} (h : Numd f s es) (hl : es.length < 40) (h1 : e.seq = f + es.length) (h2 : e.now = es.length * s) (h3 : OkE e) : Numd f s (es ++ [e]) := by
  refine ⟨by simp; omega, fun i x hx => ?_⟩
  by_cases hi : i < es.length
  · rw [List.getElem?_append_left hi] at hx
    exact h.each i x hx
  · rw [List.getElem?_append_right (by omega)] at hx
    have hi2 : i - es.length = 0 := by
      rcases Nat.eq_zero_or_pos (i - es.length) with e | e
      · exact e
      · rw [List.getElem?_eq_none (by simp; omega)] at hx; cases hx
    rw [hi2] at hx
    cases hx
    have : i = es.length := by omega
    subst this
    exact ⟨h1, h2, h3⟩
theorem offR_len (es : List EntP) : offR es es.length = (es.flatMap recE).length := by unfold offR; rw [List.take_length]
theorem offR_app (es : List EntP) (e : EntP) (q : Nat) (h : q ≤ es.length) : offR (es ++ [e]) q = offR es q := by
  unfold offR
  rw [List.take_append_of_le_length h]
theorem encT_le {t : List Nat} (h : OkT t) : (encT t).length ≤ 4100 := by
  unfold encT
  rw [List.length_append, bigN_len]
  have := h.len; omega
theorem flat_le {α : Type} (f : α → List Nat) (B : Nat) : ∀ l : List α, (∀ x ∈ l, (f x).length ≤ B) → (l.flatMap f).length ≤ l.length * B
  | [], _ => by simp
  | a :: l, h => by
    rw [List.flatMap_cons, List.length_append, List.length_cons, Nat.succ_mul]
    have h1 := h a (List.mem_cons_self ..)
    have h2 := flat_le f B l (fun x hx => h x (List.mem_cons_of_mem _ hx))
    omega
theorem encA_le {a : ActP} (h : OkA a) : (encA a).length ≤ 524805 := by
  unfold encA
  rw [List.length_append, List.length_append, bigN_len, bigN_len]
  have h1 := flat_le encT 4100 a.2 (fun x hx => encT_le (h.each x hx))
  have h2 := Nat.mul_le_mul_right 4100 h.len
  omega
theorem recE_le {e : EntP} (h : OkE e) : (recE e).length ≤ 33587566 := by
  unfold recE
  rw [frame_len]
  unfold body
  rw [List.length_append, List.length_append, List.length_append, bigN_len, bigN_len, bigN_len]
  have h1 := flat_le encA 524805 e.group (fun x hx => encA_le (h.each x hx))
  have h2 := Nat.mul_le_mul_right 524805 h.len
  omega
theorem Numd.log {f s : Nat} {es : List EntP} (h : Numd f s es) : (es.flatMap recE).length ≤ 1343502640 := by
  have h1 := flat_le recE 33587566 es (fun x hx => by
    obtain ⟨i, hi⟩ := List.getElem?_of_mem hx
    exact recE_le (h.each i x hi).2.2)
  have h2 := Nat.mul_le_mul_right 33587566 h.few
  omega
end Larder
namespace Go.Proofs.Ytljeedgnjgeopaa
open Go.ChangeShapes Go.WideShapes Go.ChangeAt Go.RowKit Go.Shelf
set_option linter.unusedVariables false
set_option linter.unusedSimpArgs false
set_option maxRecDepth 100000
set_option maxHeartbeats 4000000
theorem info3 : (Try.prog.info? 3).map (fun i => (i.zero, i.size, i.bytes)) = some (some (.int .i64 0), 1, 8) := by kernel_rfl
/-- groups that came in -/
def GG (w : World) (a : Option Addr) (gs : List (List Larder.ActI)) : Prop := gs = [] ∨ ∃ b off, a = some ⟨b, off, none⟩ ∧ b < w.heap.size ∧ ∀ i g, gs[i]? = some g → ∃ xa xc, w.cell? ⟨b, off + i, none⟩ = some (.slice xa g.length xc) ∧ GrpI w xa g
theorem GG.below {w w' : World} {a : Option Addr} {gs : List (List Larder.ActI)} (h : GG w a gs) (hb : Below w.heap.size w w') : GG w' a gs := by
  rcases h with h | ⟨b, off, e, hl, hc⟩
  · exact .inl h
  · refine .inr ⟨b, off, e, Nat.lt_of_lt_of_le hl hb.size, fun i g hg => ?_⟩
    obtain ⟨xa, xc, q1, q2⟩ := hc i g hg
    exact ⟨xa, xc, (hb.cell (p := ⟨b, _, none⟩) hl).trans q1, q2.below hb⟩
/-- row under way -/
structure RowS (w : World) (cs : Array Value) (f s : Nat) (es : List Larder.EntP) (la : Option Addr) (lc : Nat) (ga : Option Addr) (gn gc : Nat) (na : Option Addr) (nc : Nat) (W : World) : Prop where
  bel : Below w.heap.size w W
  box : W.heap[w.heap.size]? = some (.cells cs 25 (0, 0))
  num : Larder.Numd f s es
  lst : ∃ F, Rws W 41 3 (.slice la es.length lc) es.length F ∧ ∀ i x, es[i]? = some x → ∃ ai ci, F (i * 3) = .int .i64 (x.seq : Nat) ∧ F (i * 3 + 1) = .int .u64 (x.now : Nat) ∧ F (i * 3 + 2) = .slice ai x.group.length ci ∧ GrpAt w ai x.group
  log : gn = (es.flatMap Larder.recE).length ∧ RB W (.slice ga gn gc) (es.flatMap Larder.recE)
  ends : Rws W 3 1 (.slice na es.length nc) es.length (fun k => .int .i64 ((Larder.offR es (k + 1) : Nat) : Int))
  own1 : ∀ q, (Value.slice la es.length lc).ownBlock = some q → w.heap.size + 1 ≤ q
  own2 : ∀ q, (Value.slice ga gn gc).ownBlock = some q → w.heap.size + 1 ≤ q
  own3 : ∀ q, (Value.slice na es.length nc).ownBlock = some q → w.heap.size + 1 ≤ q
theorem RowS.below {w W W' : World} {cs : Array Value} {f s lc gn gc nc : Nat} {es : List Larder.EntP} {la ga na : Option Addr} (h : RowS w cs f s es la lc ga gn gc na nc W) (hb : Below W.heap.size W W') : RowS w cs f s es la lc ga gn gc na nc W' := by
  have hlt := blk_lt h.box
  obtain ⟨F, h1, h2⟩ := h.lst
  exact ⟨h.bel.trans (hb.mono (by omega)), (hb.block _ hlt).trans h.box, h.num, ⟨F, h1.below hb, h2⟩, ⟨h.log.1, h.log.2.below hb⟩, h.ends.below hb, h.own1, h.own2, h.own3⟩
theorem Ga.low {e : TypeId} {c m B : Nat} {w w' : World} {v v' : Value} (h : Ga e c m w w' v v') (hB : B ≤ w.heap.size) (hv : ∀ g, v.ownBlock = some g → B ≤ g) : Below B w w' ∧ w.heap.size ≤ w'.heap.size ∧ ∀ g, v'.ownBlock = some g → B ≤ g := by
  rcases h with ⟨rfl, rfl⟩ | h
  · exact ⟨Below.refl _ _, Nat.le_refl _, hv⟩
  · exact ⟨h.below B hB hv, h.size, h.own B hB hv⟩
/-- one entry more -/
theorem RowS.push {w W W2 W2' W3 W4' W4 : World} {cs : Array Value} {f s lc gn gc nc c1 m1 c2 m2 c3 m3 bn : Nat} {es : List Larder.EntP} {la ga na xa : Option Addr} {xn xc : Nat} {e : Larder.EntP} {v2 v3 v4 : Value} {F : Nat → Value}
    (h : RowS w cs f s es la lc ga gn gc na nc W) (hnum : Larder.Numd f s (es ++ [e])) (hxn : xn = e.group.length) (hx : GrpAt w xa e.group)
    (r1 : Rws W 41 3 (.slice la es.length lc) es.length F) (r2 : ∀ i x, es[i]? = some x → ∃ ai ci, F (i * 3) = .int .i64 (x.seq : Nat) ∧ F (i * 3 + 1) = .int .u64 (x.now : Nat) ∧ F (i * 3 + 2) = .slice ai x.group.length ci ∧ GrpAt w ai x.group)
    (a1 : Below W.heap.size W W2')
    (h5 : Rws W2 41 3 v2 (es.length + 1) (fun k => if k < es.length * 3 then F k else [Value.int .i64 (e.seq : Nat), .int .u64 (e.now : Nat), .slice xa xn xc].getD (k - es.length * 3) undef)) (k5 : Ga 41 c1 m1 W2' W2 (.slice la es.length lc) v2)
    (hbn : bn = (Larder.recE e).length) (h6 : RB W3 v3 (es.flatMap Larder.recE ++ Larder.recE e)) (k6 : Ga 5 c2 m2 W2 W3 (.slice ga gn gc) v3)
    (a2 : Below W3.heap.size W3 W4')
    (h7 : Rws W4 3 1 v4 (es.length + 1) (fun k => if k < es.length * 1 then .int .i64 ((Larder.offR es (k + 1) : Nat) : Int) else [Value.int .i64 ((gn + bn : Nat) : Int)].getD (k - es.length * 1) undef)) (k7 : Ga 3 c3 m3 W4' W4 (.slice na es.length nc) v4) :
    ∃ la' lc' ga' gc' na' nc', v2 = .slice la' (es.length + 1) lc' ∧ v3 = .slice ga' (gn + bn) gc' ∧ v4 = .slice na' (es.length + 1) nc' ∧ RowS w cs f s (es ++ [e]) la' lc' ga' (gn + bn) gc' na' nc' W4 := by
  have hlt := blk_lt h.box
  have s1 := a1.size
  obtain ⟨b1, s2, o1⟩ := k5.low (B := w.heap.size + 1) (by omega) h.own1
  obtain ⟨b2, s3, o2⟩ := k6.low (B := w.heap.size + 1) (by omega) h.own2
  have s4 := a2.size
  obtain ⟨b3, s5, o3⟩ := k7.low (B := w.heap.size + 1) (by omega) h.own3
  have hgn := h.log.1
  have hlen : (es.flatMap Larder.recE ++ Larder.recE e).length = gn + bn := by rw [List.length_append, hgn, hbn]
  -- the blocks of one type are kept by the appends of the others
  have K5 : Kt (fun t => t ≠ 41) W2' W2 := Kt.ga k5 (r1.below a1)
  have K6 : Kt (fun t => t ≠ 5) W2 W3 := Kt.ga k6 ((h.log.2.below a1).kt K5 (by decide))
  have E3 : Rws W3 3 1 (.slice na es.length nc) es.length (fun k => .int .i64 ((Larder.offR es (k + 1) : Nat) : Int)) := (((h.ends.below a1).kt K5 (by decide)).kt K6 (by decide))
  have K7 : Kt (fun t => t ≠ 3) W4' W4 := Kt.ga k7 (E3.below a2)
  have K4 : Kt (fun _ => True) W3 W4' := Kt.of a2
  obtain ⟨la', lc', e2⟩ := h5.shape
  obtain ⟨ga', gc', e3⟩ := h6.shape
  obtain ⟨na', nc', e4⟩ := h7.shape
  rw [hlen] at e3
  subst e2 e3 e4
  have hB : Below (w.heap.size + 1) W W4 := (a1.mono (by omega)).trans (b1.trans (b2.trans ((a2.mono (by omega)).trans b3)))
  have hll : (es ++ [e]).length = es.length + 1 := by simp
  have hfl : (es ++ [e]).flatMap Larder.recE = es.flatMap Larder.recE ++ Larder.recE e := by rw [List.flatMap_append, List.flatMap_singleton]
  refine ⟨la', lc', ga', gc', na', nc', rfl, rfl, rfl, ⟨h.bel.trans (hB.mono (by omega)), (hB.block _ (by omega)).trans h.box, hnum, ⟨_, by rw [hll]; exact ((h5.kt K6 (by decide)).kt K4 trivial).kt K7 (by decide), fun i x hi => ?_⟩, ⟨by rw [hfl, hlen], by rw [hfl]; exact (Rws.kt (Rws.kt h6 K4 trivial) K7 (by decide))⟩, ?_, by rw [hll]; exact o1, o2, by rw [hll]; exact o3⟩⟩
  · by_cases hi2 : i < es.length
    · rw [List.getElem?_append_left hi2] at hi
      rw [if_pos (by omega), if_pos (by omega), if_pos (by omega)]
      exact r2 i x hi
    · rw [List.getElem?_append_right (by omega)] at hi
      have hi3 : i - es.length = 0 := by
        rcases Nat.eq_zero_or_pos (i - es.length) with e | e
        · exact e
        · rw [List.getElem?_eq_none (by simp; omega)] at hi; cases hi
      rw [hi3] at hi
      cases hi
      rw [if_neg (by omega), if_neg (by omega), if_neg (by omega), show i * 3 - es.length * 3 = 0 by omega, show i * 3 + 1 - es.length * 3 = 1 by omega, show i * 3 + 2 - es.length * 3 = 2 by omega, ← hxn]
      exact ⟨xa, xc, rfl, rfl, rfl, hx⟩
  · rw [hll]
    refine h7.congr fun k hk => ?_
    by_cases hk2 : k < es.length * 1
    · rw [if_pos hk2, Larder.offR_app _ _ _ (by omega)]
    · rw [if_neg hk2, show k - es.length * 1 = 0 by omega, show k + 1 = es.length + 1 by omega]
      have : Larder.offR (es ++ [e]) (es.length + 1) = gn + bn := by
        have := Larder.offR_len (es ++ [e])
        rw [hll, hfl, hlen] at this
        exact this
      rw [this]
      rfl
end Go.Proofs.Ytljeedgnjgeopaa
