/- PostHears: the seats that are put behind what came in: a region that draws its order. -/
import Derived.Test.YtjmnddcombepaaaHpc
import Derived.Deep.RegionWith
import Derived.Deep.RegionHeld3
import Derived.Laws.OwnMore
namespace Go.Proofs.Ytjmnddcombepaaa
open Go.ChangeShapes Go.WideShapes Go.ChangeAt Go.RowKit Go.Maps Go.Sort
set_option linter.unusedVariables false
set_option linter.unusedSimpArgs false
set_option maxRecDepth 100000
set_option maxHeartbeats 8000000
theorem op_append {P : Program} {o : Oper} {a : Act} {w w' : World} {K : Act → World → Prop} {Q : Exit → Act → World → Prop} {t : TypeId} {u v v' : Value} (s x : Operand) (hop : o.op = Op.call { callee := Callee.builtin Builtin.append, args := #[s, x], argTypes := #[t, t] })
    (hs : a.eval s = u) (hx : a.eval x = v) (hr : (Builtin.append_ #[t, t] o.type #[u, v]).run P w = .ok v' w') (hK : K (a.put o.dst v') w') : Oper.wp P o a w K Q := by
  unfold Oper.wp
  simp [execOp, hop, resolve, invoke, builtin, hs, hx, hr, Result.andThen]
  exact hK
/-- the world where the star's block has its mark -/
theorem conv_star (W : World) (g : Nat) (h : W.heap[g]? = some (.cells #[.int .u8 42] 5 (0, 0))) : (convert 23 23 (.slice (some ⟨g, 0, none⟩) 1 1)).run Try.prog W = .ok (.slice (some ⟨g, 0, none⟩) 1 1) (W.freeze ⟨g, 1, none⟩ 1) := by
  have hsh : W.shape? g = some (5, 1) := by
    simp [World.shape?, h]
  simp [convert, run_underlying Try.underlying23, markStringish, Question.forced, hsh, Result.andThen]
theorem frz_size (W : World) (g : Nat) : (W.freeze ⟨g, 1, none⟩ 1).heap.size = W.heap.size := by simp [World.freeze]
theorem frz_old (W : World) (g j : Nat) (hj : j ≠ g) : (W.freeze ⟨g, 1, none⟩ 1).heap[j]? = W.heap[j]? := by
  simp [World.freeze, Array.getElem?_modify, Ne.symm hj]
theorem frz_new (W : World) (g : Nat) (h : W.heap[g]? = some (.cells #[.int .u8 42] 5 (0, 0))) : ∃ fr, (W.freeze ⟨g, 1, none⟩ 1).heap[g]? = some (.cells #[.int .u8 42] 5 fr) := by
  simp [World.freeze, Array.getElem?_modify, h]
theorem flat_get3 (l : List Sv) (i : Nat) (x : Sv) (hi : l[i]? = some x) (j : Nat) (hj : j < 3) : (l.flatMap seatC)[i * 3 + j]? = (seatC x)[j]? := by
  induction l generalizing i with
  | nil => simp at hi
  | cons y r ih =>
    rw [List.flatMap_cons]
    cases i with
    | zero =>
      obtain rfl : y = x := by simpa using hi
      rw [List.getElem?_append_left (by simp [seatC]; omega)]
      simp
    | succ i =>
      rw [List.getElem?_append_right (by simp [seatC]; omega)]
      have : (i + 1) * 3 + j - (seatC y).length = i * 3 + j := by simp [seatC]; omega
      rw [this]
      exact ih i (by simpa using hi)
/-- how far it has come: w0 begins, B its size; the box at bx holds the seats and the channel -/
structure OpenSt (w0 W : World) (bx : Nat) (sv cv xi xn : Value) (l : List Sv) (g19 : Option Nat) (v22 : Option Value) (g23 : Option Nat) (fz : Bool) (g29 : Option (Nat × Nat)) : Prop where
  bel : Below w0.heap.size w0 W
  bxl : bx < w0.heap.size
  box : w0.heap[bx]? = some (.cells #[sv, cv, xi, xn] 25 (0, 0))
  f19 : ∀ g, g19 = some g → W.heap[g]? = some (.cells #[] 40 (0, 0)) ∧ w0.heap.size ≤ g
  f22 : ∀ v, v22 = some v → W.ownsRow w0.heap.size 40 3 v l.length (l.flatMap seatC)
  f23 : ∀ g, g23 = some g → (∃ fr, W.heap[g]? = some (.cells #[.int .u8 42] 5 fr) ∧ (fz = false → fr = (0, 0))) ∧ w0.heap.size ≤ g
  f29 : ∀ p, g29 = some p → W.heap[p.1]? = some (.cells #[.int .i64 5, .slice (some ⟨p.2, 0, none⟩) 1 1, .bool true, .int .i64 2, cv, .bool false] 40 (0, 0)) ∧ g23 = some p.2
section
variable {w0 W : World} {bx : Nat} {sv cv xi xn : Value} {l : List Sv} {g19 : Option Nat} {v22 : Option Value} {g23 : Option Nat} {fz : Bool} {g29 : Option (Nat × Nat)}
theorem OpenSt.cells (h : OpenSt w0 W bx sv cv xi xn l g19 v22 g23 fz g29) : W.cell? ⟨bx, 0, none⟩ = some sv ∧ W.cell? ⟨bx, 1, none⟩ = some cv := by
  have hb := (h.bel.block bx h.bxl).trans h.box
  exact ⟨cell_blk hb 0, cell_blk hb 1⟩
theorem OpenSt.below {W' : World} (h : OpenSt w0 W bx sv cv xi xn l g19 v22 g23 fz g29) (hb : Below W.heap.size W W') : OpenSt w0 W' bx sv cv xi xn l g19 v22 g23 fz g29 :=
  ⟨h.bel.trans (hb.mono h.bel.size), h.bxl, h.box, fun g e => ⟨(hb.block g (blk_lt (h.f19 g e).1)).trans (h.f19 g e).1, (h.f19 g e).2⟩,
    fun v e => World.ownsRow.kept (h.f22 v e) (grown_of hb) (by cases v.ownBlock <;> simp),
    fun g e => by
      obtain ⟨⟨fr, h1, h2⟩, h3⟩ := h.f23 g e
      exact ⟨⟨fr, (hb.block g (blk_lt h1)).trans h1, h2⟩, h3⟩,
    fun p e => ⟨(hb.block p.1 (blk_lt (h.f29 p e).1)).trans (h.f29 p e).1, (h.f29 p e).2⟩⟩
theorem OpenSt.s19 (h : OpenSt w0 W bx sv cv xi xn l none v22 g23 fz g29) : OpenSt w0 (W.alloc (.cells #[] 40)) bx sv cv xi xn l (some W.heap.size) v22 g23 fz g29 := by
  have h1 := h.below ((Below.refl _ _).alloc (Nat.le_refl _) (.cells #[] 40))
  exact ⟨h1.bel, h1.bxl, h1.box, fun g e => by cases e; exact ⟨heap_alloc_new _ _, h.bel.size⟩, h1.f22, h1.f23, h1.f29⟩
theorem OpenSt.s23 (h : OpenSt w0 W bx sv cv xi xn l g19 v22 none false none) : OpenSt w0 (W.alloc (.cells #[.int .u8 42] 5)) bx sv cv xi xn l g19 v22 (some W.heap.size) false none := by
  have h1 := h.below ((Below.refl _ _).alloc (Nat.le_refl _) (.cells #[.int .u8 42] 5))
  exact ⟨h1.bel, h1.bxl, h1.box, h1.f19, h1.f22, fun g e => by cases e; exact ⟨⟨_, heap_alloc_new _ _, fun _ => rfl⟩, h.bel.size⟩, fun p e => by cases e⟩
theorem OpenSt.s24 {g : Nat} (h : OpenSt w0 W bx sv cv xi xn l g19 v22 (some g) false none) : ∃ W', (convert 23 23 (.slice (some ⟨g, 0, none⟩) 1 1)).run Try.prog W = .ok (.slice (some ⟨g, 0, none⟩) 1 1) W' ∧ Hid (OpenSt w0 W' bx sv cv xi xn l g19 v22 (some g) true none) := by
  obtain ⟨⟨fr, h1, h2⟩, h3⟩ := h.f23 g rfl
  obtain rfl := h2 rfl
  refine ⟨_, conv_star W g h1, hide ⟨⟨h.bel.os, h.bel.tape, h.bel.output, by rw [frz_size]; exact h.bel.size, fun k hk => ?_⟩, h.bxl, h.box, fun g' e => ⟨?_, (h.f19 g' e).2⟩, fun v e => ?_, fun g' e => ?_, fun p e => by cases e⟩⟩
  · rw [frz_old W g k (by omega)]
    exact h.bel.block k hk
  · rw [frz_old W g g' (fun e2 => by
      have := (h.f19 g' e).1
      rw [e2, h1] at this
      cases this)]
    exact (h.f19 g' e).1
  · obtain ⟨q1, q2⟩ := h.f22 v e
    refine ⟨q1, q2.imp id ?_⟩
    rintro ⟨b, cap, cur, rfl, hb, hg, r⟩
    refine ⟨b, cap, cur, rfl, hb, ?_, r⟩
    rw [frz_old W g b (fun e2 => by rw [e2, h1] at hg; cases hg)]
    exact hg
  · cases e
    obtain ⟨fr, hf⟩ := frz_new W g h1
    exact ⟨⟨fr, hf, fun e => by cases e⟩, h3⟩
theorem OpenSt.s29 {g : Nat} (h : OpenSt w0 W bx sv cv xi xn l g19 v22 (some g) true none) : OpenSt w0 (W.alloc (.cells #[.int .i64 5, .slice (some ⟨g, 0, none⟩) 1 1, .bool true, .int .i64 2, cv, .bool false] 40)) bx sv cv xi xn l g19 v22 (some g) true (some (W.heap.size, g)) := by
  have h1 := h.below ((Below.refl _ _).alloc (Nat.le_refl _) (.cells #[.int .i64 5, .slice (some ⟨g, 0, none⟩) 1 1, .bool true, .int .i64 2, cv, .bool false] 40))
  exact ⟨h1.bel, h1.bxl, h1.box, h1.f19, h1.f22, h1.f23, fun p e => by cases e; exact ⟨heap_alloc_new _ _, rfl⟩⟩
theorem OpenSt.s22 {g : Nat} {a : Option Addr} {n cap : Nat} (ty : TypeId) (h : OpenSt w0 W bx sv cv xi xn l (some g) none g23 fz g29) (hl : SvAt w0 a l) (hn : n = l.length) (hnil : a = none → cap = 0 ∧ l = []) (hbig : l.length ≤ 2000000) :
    ∃ a' c' W', (Builtin.append_ #[22, 22] ty #[.slice (some ⟨g, 0, none⟩) 0 0, .slice a n cap]).run Try.prog W = .ok (.slice a' n c') W' ∧ Hid (OpenSt w0 W' bx sv cv xi xn l none (some (.slice a' n c')) g23 fz g29) := by
  obtain ⟨hg, hge⟩ := h.f19 g rfl
  have hown : W.ownsRow w0.heap.size 40 3 (.slice (some ⟨g, 0, none⟩) 0 0) 0 [] := ⟨by simp, .inr ⟨g, 0, #[], rfl, hge, hg, Nat.le_refl _, Nat.zero_le _, by simp, by simp⟩⟩
  obtain ⟨i0, hi0, hz0, hz1, hz2⟩ := info_parts info40
  have hfin : ∀ (v' : Value) (W' : World), W'.ownsRow w0.heap.size 40 3 v' n (l.flatMap seatC) → W.grownBy W' (Value.slice (some ⟨g, 0, none⟩) 0 0).ownBlock → (∀ b, b < W.heap.size → b ≠ g → W'.heap[b]? = W.heap[b]?) → Hid (OpenSt w0 W' bx sv cv xi xn l none (some v') g23 fz g29) := fun v' W' ho hgr hsame => by
    refine hide ⟨⟨hgr.os.trans h.bel.os, hgr.tape.trans h.bel.tape, hgr.output.trans h.bel.output, Nat.le_trans h.bel.size hgr.size, fun k hk => ?_⟩, h.bxl, h.box, fun g' e => (by cases e), fun v e => ?_, fun g' e => ?_, fun p e => ⟨?_, (h.f29 p e).2⟩⟩
    · rw [hsame k (Nat.lt_of_lt_of_le hk h.bel.size) (by omega)]
      exact h.bel.block k hk
    · cases e
      rw [← hn]; exact ho
    · obtain ⟨⟨fr, h1, h2⟩, h3⟩ := h.f23 g' e
      refine ⟨⟨fr, ?_, h2⟩, h3⟩
      rw [hsame g' (blk_lt h1) (fun e2 => by rw [e2, hg] at h1; cases h1)]
      exact h1
    · have h1 := (h.f29 p e).1
      rw [hsame p.1 (blk_lt h1) (fun e2 => by rw [e2, hg] at h1; cases h1)]
      exact h1
  have hlen : (l.flatMap seatC).length = n * 3 := by
    rw [hn]
    clear hl hn hnil hbig hown hfin h
    induction l with
    | nil => rfl
    | cons x r ih => rw [List.flatMap_cons, List.length_append, ih, List.length_cons]; simp [seatC]; omega
  have hone : ∀ u ∈ l.flatMap seatC, u.oneCell' = true := fun u hu => by
    obtain ⟨x, -, hx⟩ := List.mem_flatMap.1 hu
    simp only [seatC, List.mem_cons, List.not_mem_nil, or_false] at hx
    rcases hx with rfl | rfl | rfl <;> rfl
  cases a with
  | none =>
    obtain ⟨rfl, rfl⟩ := hnil rfl
    subst hn
    have hr := run_append_owned_none (P := Try.prog) (w := W) w0.heap.size 22 ty 40 i0 3 Try.underlying22 hi0 _ 0 [] hown
    exact ⟨_, _, W, hr, hfin _ W (by simpa using hown) ⟨rfl, rfl, rfl, Nat.le_refl _, fun _ _ _ => rfl⟩ (fun _ _ _ => rfl)⟩
  | some ad =>
    have hcells : ∀ j u, (l.flatMap seatC)[j]? = some u → W.cell? (ad.add j) = some u := fun j u hu => by
      have hj : j < l.length * 3 := by rw [← hn, ← hlen]; exact (List.getElem?_eq_some_iff.1 hu).1
      rcases hl with h0 | ⟨b, off, e, hb, hc⟩
      · rw [h0] at hj; simp at hj
      · cases e
        have hq : j / 3 < l.length := by omega
        obtain ⟨c0, c1, c2⟩ := hc (j / 3) (l[j / 3]) (List.getElem?_eq_getElem hq)
        have e1 : ((⟨b, off, none⟩ : Addr).add j) = ⟨b, off + j, none⟩ := by
          unfold Addr.add
          split <;> simp_all
        rw [e1, (h.bel.cell (p := ⟨b, off + j, none⟩) hb)]
        have hfl := flat_get3 l (j / 3) (l[j / 3]) (List.getElem?_eq_getElem hq) (j % 3) (Nat.mod_lt _ (by omega))
        have e2 : j / 3 * 3 + j % 3 = j := by omega
        rw [e2, hu] at hfl
        have hm : j % 3 = 0 ∨ j % 3 = 1 ∨ j % 3 = 2 := by omega
        rcases hm with h3 | h3 | h3
        · rw [h3] at hfl
          rw [show off + j = off + j / 3 * 3 by omega, c0]
          exact hfl.symm
        · rw [h3] at hfl
          rw [show off + j = off + j / 3 * 3 + 1 by omega, c1]
          exact hfl.symm
        · rw [h3] at hfl
          rw [show off + j = off + j / 3 * 3 + 2 by omega, c2]
          exact hfl.symm
    obtain ⟨v', W', hr, ho, hgr, -, hat⟩ := run_append_own_at (P := Try.prog) W w0.heap.size 22 ty 40 i0 _ 3 40 Try.underlying22 hi0 hz0 hz1 hz2 rfl (by decide) _ 0 [] hown ad n cap (l.flatMap seatC) hlen hcells hone (by unfold maxLen; omega) (by omega) h.bel.size
    rw [Nat.zero_add, List.nil_append] at ho
    have hv : ∃ a' c', v' = .slice a' n c' := by
      rcases ho.2 with ⟨e, h0⟩ | ⟨g', cap', cur, e, -⟩
      · exact ⟨none, 0, by rw [e, h0]⟩
      · exact ⟨_, _, e⟩
    obtain ⟨a', c', rfl⟩ := hv
    exact ⟨a', c', W', hr, hfin _ W' ho hgr (fun b hb hne => hgr.block b hb (fun e => hne (by simp [Value.ownBlock] at e; exact e)))⟩
/-- what the region leaves -/
structure OpenEnd (w0 W : World) (bx : Nat) (cv : Value) (l : List Sv) (g n c gs : Nat) : Prop where
  bel : Below w0.heap.size w0 W
  own : W.ownsRow w0.heap.size 40 3 (.slice (some ⟨g, 0, none⟩) n c) n (l.flatMap seatC ++ [.int .i64 5, .slice (some ⟨gs, 0, none⟩) 1 1, .bool true, .int .i64 2, cv, .bool false])
  len : n = l.length + 2
  star : ∃ fr, W.heap[gs]? = some (.cells #[.int .u8 42] 5 fr)
  ne : g ≠ gs ∧ w0.heap.size ≤ gs
theorem OpenSt.s30 {g gs n c : Nat} {a : Option Addr} (ty : TypeId) (h : OpenSt w0 W bx sv cv xi xn l none (some (.slice a n c)) (some gs) true (some (g, gs))) (hn : n = l.length) (hcv : ∃ ca cn cc, cv = .slice ca cn cc) (hbig : l.length ≤ 2000000) :
    ∃ g' n' c' W', (Builtin.append_ #[22, 22] ty #[.slice a n c, .slice (some ⟨g, 0, none⟩) 2 2]).run Try.prog W = .ok (.slice (some ⟨g', 0, none⟩) n' c') W' ∧ Hid (OpenEnd w0 W' bx cv l g' n' c' gs) := by
  obtain ⟨i0, hi0, hz0, hz1, hz2⟩ := info_parts info40
  have hown := h.f22 _ rfl
  obtain ⟨hg, -⟩ := h.f29 _ rfl
  obtain ⟨⟨fr, hgs, -⟩, hge⟩ := h.f23 gs rfl
  obtain ⟨v', W', hr, ho, hgr, -, hat⟩ := run_append_own_at (P := Try.prog) W w0.heap.size 22 ty 40 i0 _ 3 40 Try.underlying22 hi0 hz0 hz1 hz2 rfl (by decide) _ l.length (l.flatMap seatC) hown ⟨g, 0, none⟩ 2 2 [.int .i64 5, .slice (some ⟨gs, 0, none⟩) 1 1, .bool true, .int .i64 2, cv, .bool false] rfl (fun j u hu => by
    have e1 : ((⟨g, 0, none⟩ : Addr).add j) = ⟨g, j, none⟩ := by unfold Addr.add; split <;> simp_all
    rw [e1, cell_blk hg]
    simpa using hu) (by obtain ⟨ca, cn, cc, rfl⟩ := hcv; simp [Value.oneCell']) (by unfold maxLen; omega) (by omega) h.bel.size
  rcases ho.2 with ⟨e, h0⟩ | ⟨g', cap', cur, e, hbase, hblk, hr2⟩
  · omega
  · subst e
    have hne : ∀ k, (Value.slice a n c).ownBlock = some k → w0.heap.size ≤ k := fun k hk => (World.ownsRow.lt hown k hk).1
    have hown40 : ∀ k, (Value.slice a n c).ownBlock = some k → k ≠ gs := fun k hk e2 => by
      rcases hown.2 with ⟨e3, -⟩ | ⟨b, cap2, cur2, e3, -, hb2, -⟩
      · rw [e3] at hk; cases hk
      · rw [e3] at hk; cases hk
        have e4 : b = gs := e2
        rw [e4, hgs] at hb2
        cases hb2
    have hstar : W'.heap[gs]? = some (.cells #[.int .u8 42] 5 fr) := by
      rw [hgr.block gs (blk_lt hgs) (fun e2 => hown40 gs e2.symm rfl)]
      exact hgs
    refine ⟨g', _, cap', W', hr, hide ⟨(h.bel).grown hgr h.bel.size hne, ho, rfl, ⟨fr, hstar⟩, ⟨fun e2 => ?_, hge⟩⟩⟩
    rw [e2, hstar] at hblk
    cases hblk
end
end Go.Proofs.Ytjmnddcombepaaa
