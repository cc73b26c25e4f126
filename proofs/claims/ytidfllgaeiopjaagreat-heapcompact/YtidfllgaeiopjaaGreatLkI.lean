/- look: the contract. -/
import Derived.Test.YtidfllgaeiopjaaGreatCpP
import Derived.Deep.RegionHeld3
import Derived.Test.YtidfllgaeiopjaaGreatPool4
import Derived.Test.YtidfllgaeiopjaaGreatStA
namespace Go.Proofs.YtidfllgaeiopjaaGreat
open Go.ChangeShapes Go.WideShapes Go.ChangeAt Go.RowKit
set_option linter.unusedVariables false
set_option linter.unusedSimpArgs false
set_option maxRecDepth 100000
set_option maxHeartbeats 1000000

/-- a block beside what is seen -/
def OffV (V : SeenC) (px g : Nat) : Prop := g ≠ px ∧ V.vS.ownBlock ≠ some g ∧ V.vB.ownBlock ≠ some g ∧ V.vW.ownBlock ≠ some g
/-- a small one more -/
theorem SeenAt.small {w w1 w2 w' : World} {b0 px N gW i : Nat} {M : Hp} {k : Wk} {V : SeenC} {v' : Value} (h : SeenAt w b0 px M N k V) (hiN : i < N) (ho : V.vW.ownBlock = some gW) (hb0 : b0 ≤ w.heap.size)
    (s1 : Still (w.setCell ⟨gW, i, none⟩ (.int .u64 (refW M i : Nat))) w1) (hL : Line w2 30 v' (k.cop.length + 1) (fun j => if j < k.cop.length then .int .u64 (refW M (k.cop.getD j 0) : Nat) else .int .u64 (refW M i : Nat)))
    (hg : Grew 30 k.cop.length (.int .u64 (refW M i : Nat)) (w1.alloc (.cells #[.int .u64 (refW M i : Nat)] 30)) w2 V.vS v') (s2 : Still ((w2.setCell ⟨px, 0, none⟩ v').setCell ⟨px, 3, none⟩ (.int .i64 ((wordsK M k + osz (ob M i) : Nat) : Int))) w') :
    SeenAt w' b0 px M N ⟨k.cop ++ [i], k.lin⟩ ⟨v', V.vB, V.vW⟩ ∧ Below b0 w w' ∧ ∀ g, g < w.heap.size → OffV V px g → w'.heap[g]? = w.heap[g]? ∧ OffV ⟨v', V.vB, V.vW⟩ px g := by
  obtain ⟨g1, g2, g3, g4, g5, g6, g7, g8⟩ := grow_blocks s1 hg s2
  have hlo := h.lo
  have hgx : gW ≠ px := (hlo.2 gW (.inr (.inr ho))).2
  have hSx : V.vS.ownBlock ≠ some px := fun e => (hlo.2 px (.inl e)).2 rfl
  have hSW : V.vS.ownBlock ≠ some gW := fun e => h.d2 gW e ho
  have hpx := h.lt
  have hp2 := g4 hpx (Ne.symm hgx) hSx
  have hv'x : v'.ownBlock ≠ some px := fun e => by
    rcases g5 px e with q | q
    · exact hSx q
    · omega
  have hc : ∀ o, o ≠ 0 → o ≠ 3 → w'.cell? ⟨px, o, none⟩ = w.cell? ⟨px, o, none⟩ := fun o n0 n3 => by
    have e1 : w'.cell? ⟨px, o, none⟩ = ((w2.setCell ⟨px, 0, none⟩ v').setCell ⟨px, 3, none⟩ (.int .i64 ((wordsK M k + osz (ob M i) : Nat) : Int))).cell? ⟨px, o, none⟩ := s2.cell _
    rw [e1, World.cell?_setCell_other _ _ _ _ (by intro e; cases e; exact n3 rfl), World.cell?_setCell_other _ _ _ _ (by intro e; cases e; exact n0 rfl)]
    simp only [World.cell?, hp2]
  have hc2 : ∀ o, w2.cell? ⟨px, o, none⟩ = w.cell? ⟨px, o, none⟩ := fun o => by simp only [World.cell?, hp2]
  have hc0 : w'.cell? ⟨px, 0, none⟩ = some v' := by
    have e1 : w'.cell? ⟨px, 0, none⟩ = ((w2.setCell ⟨px, 0, none⟩ v').setCell ⟨px, 3, none⟩ (.int .i64 ((wordsK M k + osz (ob M i) : Nat) : Int))).cell? ⟨px, 0, none⟩ := s2.cell _
    rw [e1, World.cell?_setCell_other _ _ _ _ (by intro e; cases e)]
    exact World.cell?_setCell_same' w2 ⟨px, 0, none⟩ _ (by rw [hc2 0, h.c0]; rfl)
  have hc3 : w'.cell? ⟨px, 3, none⟩ = some (.int .i64 ((wordsK M k + osz (ob M i) : Nat) : Int)) := by
    have e1 : w'.cell? ⟨px, 3, none⟩ = ((w2.setCell ⟨px, 0, none⟩ v').setCell ⟨px, 3, none⟩ (.int .i64 ((wordsK M k + osz (ob M i) : Nat) : Int))).cell? ⟨px, 3, none⟩ := s2.cell _
    rw [e1]
    exact World.cell?_setCell_same' _ ⟨px, 3, none⟩ _ (by rw [World.cell?_setCell_other _ _ _ _ (by intro e; cases e), hc2 3, h.c3]; rfl)
  have hbl : ∀ g, g < w.heap.size → g ≠ px → V.vS.ownBlock ≠ some g → g ≠ gW → w'.heap[g]? = w.heap[g]? := fun g a b c d => by rw [g2 g a b c, setCell_else _ _ _ _ _ d]
  refine ⟨⟨hc0, (hc 1 (by decide) (by decide)).trans h.c1, (hc 2 (by decide) (by decide)).trans h.c2, by rw [hc3, words_app], (hc 4 (by decide) (by decide)).trans h.c4, fun o ho => ?_, ?_, ?_, ?_, ⟨hlo.1, fun g e => ?_⟩, fun g e e2 => ?_, fun g e e2 => ?_, h.d3⟩, ⟨g6, g7, g8, g1, fun g hg' => ?_⟩, fun g hl hO => ⟨hbl g hl hO.1 hO.2.1 (fun e => hO.2.2.2 (by rw [e]; exact ho)), hO.1, (fun e => by rcases g5 g e with z | z; exact hO.2.1 z; omega), hO.2.2.1, hO.2.2.2⟩⟩
  · have e1 : w'.frozen? ⟨px, o, none⟩ = ((w2.setCell ⟨px, 0, none⟩ v').setCell ⟨px, 3, none⟩ (.int .i64 ((wordsK M k + osz (ob M i) : Nat) : Int))).frozen? ⟨px, o, none⟩ := by simp only [World.frozen?, s2.heap]
    rw [e1, World.frozen?_setCell, World.frozen?_setCell, ← h.fz o ho]
    simp only [World.frozen?, hp2]
  · have := (hL.same (w' := w') fun g e => g3 g (fun q => hv'x (by rw [← q]; exact e))).congr (fun j hj => app_get M k.cop i j hj)
    simpa using this
  · exact h.b.same fun g e => hbl g (h.b.lt g e) (hlo.2 g (.inr (.inl e))).2 (fun q => h.d1 g q e) (fun q => h.d3 g e (by rw [q]; exact ho))
  · have h1 := h.h.put ho i (.int .u64 (refW M i : Nat)) hiN
    have h2 := h1.same (w' := w') fun g e => by
      have : g = gW := by rw [ho] at e; cases e; rfl
      subst this
      exact g2 g (h.h.lt g ho) hgx hSW
    refine h2.congr fun j hj => ?_
    by_cases e : j = i
    · subst e
      rw [if_pos rfl]
      unfold whr
      rw [if_pos (by simp)]
    · rw [if_neg e]
      unfold whr
      simp [e]
  · rcases e with e | e | e
    · rcases g5 g e with q | q
      · exact hlo.2 g (.inl q)
      · exact ⟨by omega, by omega⟩
    · exact hlo.2 g (.inr (.inl e))
    · exact hlo.2 g (.inr (.inr e))
  · rcases g5 g e with q | q
    · exact h.d1 g q e2
    · have := h.b.lt g e2; omega
  · rcases g5 g e with q | q
    · exact h.d2 g q e2
    · have := h.h.lt g e2; omega
  · refine hbl g (by omega) (by omega) (fun e => ?_) (by have := (hlo.2 gW (.inr (.inr ho))).1; omega)
    have := (hlo.2 g (.inl e)).1
    omega
/-- a large one more -/
theorem SeenAt.big {w w1 w2 w' : World} {b0 px N gW i : Nat} {M : Hp} {k : Wk} {V : SeenC} {v' : Value} (h : SeenAt w b0 px M N k V) (hiN : i < N) (ho : V.vW.ownBlock = some gW) (hb0 : b0 ≤ w.heap.size)
    (s1 : Still (w.setCell ⟨gW, i, none⟩ (.int .u64 (refW M i : Nat))) w1) (hL : Line w2 30 v' (k.lin.length + 1) (fun j => if j < k.lin.length then .int .u64 (refW M (k.lin.getD j 0) : Nat) else .int .u64 (refW M i : Nat)))
    (hg : Grew 30 k.lin.length (.int .u64 (refW M i : Nat)) (w1.alloc (.cells #[.int .u64 (refW M i : Nat)] 30)) w2 V.vB v') (s2 : Still ((w2.setCell ⟨px, 1, none⟩ v').setCell ⟨px, 4, none⟩ (.int .i64 ((largeK M k + osz (ob M i) + 1 : Nat) : Int))) w') :
    SeenAt w' b0 px M N ⟨k.cop, k.lin ++ [i]⟩ ⟨V.vS, v', V.vW⟩ ∧ Below b0 w w' ∧ ∀ g, g < w.heap.size → OffV V px g → w'.heap[g]? = w.heap[g]? ∧ OffV ⟨V.vS, v', V.vW⟩ px g := by
  obtain ⟨g1, g2, g3, g4, g5, g6, g7, g8⟩ := grow_blocks s1 hg s2
  have hlo := h.lo
  have hgx : gW ≠ px := (hlo.2 gW (.inr (.inr ho))).2
  have hSx : V.vB.ownBlock ≠ some px := fun e => (hlo.2 px (.inr (.inl e))).2 rfl
  have hSW : V.vB.ownBlock ≠ some gW := fun e => h.d3 gW e ho
  have hpx := h.lt
  have hp2 := g4 hpx (Ne.symm hgx) hSx
  have hv'x : v'.ownBlock ≠ some px := fun e => by
    rcases g5 px e with q | q
    · exact hSx q
    · omega
  have hc : ∀ o, o ≠ 1 → o ≠ 4 → w'.cell? ⟨px, o, none⟩ = w.cell? ⟨px, o, none⟩ := fun o n0 n3 => by
    have e1 : w'.cell? ⟨px, o, none⟩ = ((w2.setCell ⟨px, 1, none⟩ v').setCell ⟨px, 4, none⟩ (.int .i64 ((largeK M k + osz (ob M i) + 1 : Nat) : Int))).cell? ⟨px, o, none⟩ := s2.cell _
    rw [e1, World.cell?_setCell_other _ _ _ _ (by intro e; cases e; exact n3 rfl), World.cell?_setCell_other _ _ _ _ (by intro e; cases e; exact n0 rfl)]
    simp only [World.cell?, hp2]
  have hc2 : ∀ o, w2.cell? ⟨px, o, none⟩ = w.cell? ⟨px, o, none⟩ := fun o => by simp only [World.cell?, hp2]
  have hc0 : w'.cell? ⟨px, 1, none⟩ = some v' := by
    have e1 : w'.cell? ⟨px, 1, none⟩ = ((w2.setCell ⟨px, 1, none⟩ v').setCell ⟨px, 4, none⟩ (.int .i64 ((largeK M k + osz (ob M i) + 1 : Nat) : Int))).cell? ⟨px, 1, none⟩ := s2.cell _
    rw [e1, World.cell?_setCell_other _ _ _ _ (by intro e; cases e)]
    exact World.cell?_setCell_same' w2 ⟨px, 1, none⟩ _ (by rw [hc2 1, h.c1]; rfl)
  have hc3 : w'.cell? ⟨px, 4, none⟩ = some (.int .i64 ((largeK M k + osz (ob M i) + 1 : Nat) : Int)) := by
    have e1 : w'.cell? ⟨px, 4, none⟩ = ((w2.setCell ⟨px, 1, none⟩ v').setCell ⟨px, 4, none⟩ (.int .i64 ((largeK M k + osz (ob M i) + 1 : Nat) : Int))).cell? ⟨px, 4, none⟩ := s2.cell _
    rw [e1]
    exact World.cell?_setCell_same' _ ⟨px, 4, none⟩ _ (by rw [World.cell?_setCell_other _ _ _ _ (by intro e; cases e), hc2 4, h.c4]; rfl)
  have hbl : ∀ g, g < w.heap.size → g ≠ px → V.vB.ownBlock ≠ some g → g ≠ gW → w'.heap[g]? = w.heap[g]? := fun g a b c d => by rw [g2 g a b c, setCell_else _ _ _ _ _ d]
  refine ⟨⟨(hc 0 (by decide) (by decide)).trans h.c0, hc0, (hc 2 (by decide) (by decide)).trans h.c2, (hc 3 (by decide) (by decide)).trans h.c3, by rw [hc3, large_app], fun o ho => ?_, ?_, ?_, ?_, ⟨hlo.1, fun g e => ?_⟩, fun g e e2 => ?_, h.d2, fun g e e2 => ?_⟩, ⟨g6, g7, g8, g1, fun g hg' => ?_⟩, fun g hl hO => ⟨hbl g hl hO.1 hO.2.2.1 (fun e => hO.2.2.2 (by rw [e]; exact ho)), hO.1, hO.2.1, (fun e => by rcases g5 g e with z | z; exact hO.2.2.1 z; omega), hO.2.2.2⟩⟩
  · have e1 : w'.frozen? ⟨px, o, none⟩ = ((w2.setCell ⟨px, 1, none⟩ v').setCell ⟨px, 4, none⟩ (.int .i64 ((largeK M k + osz (ob M i) + 1 : Nat) : Int))).frozen? ⟨px, o, none⟩ := by simp only [World.frozen?, s2.heap]
    rw [e1, World.frozen?_setCell, World.frozen?_setCell, ← h.fz o ho]
    simp only [World.frozen?, hp2]
  · exact h.s.same fun g e => hbl g (h.s.lt g e) (hlo.2 g (.inl e)).2 (fun q => h.d1 g e q) (fun q => h.d2 g e (by rw [q]; exact ho))
  · have := (hL.same (w' := w') fun g e => g3 g (fun q => hv'x (by rw [← q]; exact e))).congr (fun j hj => app_get M k.lin i j hj)
    simpa using this
  · have h1 := h.h.put ho i (.int .u64 (refW M i : Nat)) hiN
    have h2 := h1.same (w' := w') fun g e => by
      have : g = gW := by rw [ho] at e; cases e; rfl
      subst this
      exact g2 g (h.h.lt g ho) hgx hSW
    refine h2.congr fun j hj => ?_
    by_cases e : j = i
    · subst e
      rw [if_pos rfl]
      unfold whr
      rw [if_pos (by simp)]
    · rw [if_neg e]
      unfold whr
      simp [e]
  · rcases e with e | e | e
    · exact hlo.2 g (.inl e)
    · rcases g5 g e with q | q
      · exact hlo.2 g (.inr (.inl q))
      · exact ⟨by omega, by omega⟩
    · exact hlo.2 g (.inr (.inr e))
  · rcases g5 g e2 with q | q
    · exact h.d1 g e q
    · have := h.s.lt g e; omega
  · rcases g5 g e with q | q
    · exact h.d3 g q e2
    · have := h.h.lt g e2; omega
  · refine hbl g (by omega) (by omega) (fun e => ?_) (by have := (hlo.2 gW (.inr (.inr ho))).1; omega)
    have := (hlo.2 g (.inr (.inl e))).1
    omega
theorem Inv.nobj {ps ph lim n : Nat} {k : Kp} {M : Hp} {w : World} (h : Inv ps ph lim n k M w) : M.objs.length ≤ n + 1 := by
  obtain ⟨tag, st, H, ns, C, last, b, bd⟩ := h
  exact bd.ob

theorem Inv.nodeL {ps ph lim n : Nat} {k : Kp} {M : Hp} {w : World} (h : Inv ps ph lim n k M w) {i : Nat} (hi : Is M i) : ∃ gN cN ar cr aw cw, w.cell? ⟨ps, 1, none⟩ = some (.slice (some ⟨gN, 0, none⟩) M.objs.length cN) ∧ w.cell? ⟨gN, i * 3 + 1, none⟩ = some (.slice ar (ob M i).refs.length cr) ∧ w.cell? ⟨gN, i * 3 + 2, none⟩ = some (.slice aw (ob M i).raws.length cw) ∧ i < M.objs.length := by
  obtain ⟨tag, st, H, ns, C, last, b, bd⟩ := h
  have hl := b.he.wf.ln i hi
  have hd := b.gr.dt i hi
  obtain ⟨gN, cN, ar, cr, aw, cw, _, e1, _, _, e2, e3⟩ := b.sh.nodeAt (i := i) (by rw [b.gr.ln]; exact hl)
  rw [hd] at e2 e3
  rw [b.gr.ln] at e1
  exact ⟨gN, cN, ar, cr, aw, cw, e1, e2, e3, hl⟩
/-- reach, over what is seen -/
theorem reach_any {ps ph lim n px : Nat} {kk : Kp} {M : Hp} {w0 w : World} (iv : Inv ps ph lim n kk M w0) (q : Below w0.heap.size w0 w) {k : Wk} {V : SeenC} (h : SeenAt w w0.heap.size px M M.objs.length k V) (p : Pu M k) (hn : n ≤ 10000) {i : Nat} (hi : i = 0 ∨ Is M i) :
    Calls Tryz.prog 36 #[.pointer (some ⟨px, 0, none⟩), .pointer (some ⟨ps, 0, none⟩), .int .u64 (refW M i : Nat), .int .i64 (i : Nat)] w fun e w' => e = .returned (.bool true) ∧ Below w0.heap.size w0 w' ∧ ∃ V', SeenAt w' w0.heap.size px M M.objs.length (reachW M k i) V' ∧ ∀ g, g < w.heap.size → OffV V px g → w'.heap[g]? = w.heap[g]? ∧ OffV V' px g := by
  obtain ⟨wf, hlim, _, _⟩ := iv.wf
  have hob := iv.nobj
  have ok := wf.ok
  by_cases h0 : i = 0
  · subst h0
    refine (reach_none w).mono fun e w' ⟨e1, s⟩ => ⟨e1, q.trans (s.below.mono q.size), V, ?_, fun g _ o => ⟨by rw [s.heap], o⟩⟩
    unfold reachW
    rw [if_pos (.inl rfl)]
    exact h.below s.below
  · have hI := hi.resolve_left h0
    obtain ⟨gN, cN, ar, cr, aw, cw, x1, y1, y2, hl⟩ := iv.nodeL hI
    by_cases hs : i ∈ k.cop ∨ i ∈ k.lin
    · refine (reach_seen h ok p.all (by omega) hs hl).mono fun e w' ⟨e1, s⟩ => ⟨e1, q.trans (s.below.mono q.size), V, ?_, fun g _ o => ⟨by rw [s.heap], o⟩⟩
      unfold reachW
      rw [if_pos (.inr hs)]
      exact h.below s.below
    · obtain ⟨gW, cW, ev, ho, hc⟩ := h.h.at (by omega)
      have e0 := hc i hl
      rw [show whr M k i = 0 by unfold whr; rw [if_neg hs]] at e0
      have c2 := h.c2
      rw [ev] at c2
      have hlo := h.lo
      have hgW := hlo.2 gW (.inr (.inr ho))
      have hps := block_lt_of_cell x1
      have hgN := block_lt_of_cell y1
      dsimp only at hps hgN
      have l := p.lens
      have hsml : M.small.length ≤ 1000000 := by
        have h1 := ok.us
        have h2 := place_all M M.small
        have h3 := ok.u2; have h4 := wf.lm; have h5 := wf.l2
        have h6 : M.small.length ≤ (M.small.map fun i => osz (ob M i)).sum := by
          have : ∀ l : List Nat, l.length ≤ (l.map fun i => osz (ob M i)).sum := fun l => by
            induction l with
            | nil => simp
            | cons a l ih => simp only [List.map_cons, List.sum_cons, List.length_cons]; have := (show 1 ≤ osz (ob M a) by unfold osz; omega); omega
          exact this _
        omega
      have hwd := words_le ok p
      have hlg := large_le wf p
      have hu := ok.u2; have h2 := ok.h2; have hlm := wf.lm; have hl2 := wf.l2; have hsl := ok.sl
      have hnb : ¬ (i = 0 ∨ i ∈ k.cop ∨ i ∈ k.lin) := fun e => e.elim h0 hs
      have cx1 := (q.cell (p := ⟨ps, 1, none⟩) hps).trans x1
      have cy1 := (q.cell (p := ⟨gN, i * 3 + 1, none⟩) hgN).trans y1
      have cy2 := (q.cell (p := ⟨gN, i * 3 + 2, none⟩) hgN).trans y2
      have hneS : ∀ j, j < k.cop.length → refW M (k.cop.getD j 0) ≠ refW M i := fun j hj e => by
        have hm : k.cop.getD j 0 ∈ k.cop := by rw [List.getD_eq_getElem?_getD, List.getElem?_eq_getElem hj]; exact List.getElem_mem hj
        exact hs (.inl (ref_inj ok (p.all _ (.inl hm)) hI e ▸ hm))
      have hneB : ∀ j, j < k.lin.length → refW M (k.lin.getD j 0) ≠ refW M i := fun j hj e => by
        have hm : k.lin.getD j 0 ∈ k.lin := by rw [List.getD_eq_getElem?_getD, List.getElem?_eq_getElem hj]; exact List.getElem_mem hj
        exact hs (.inr (ref_inj ok (p.all _ (.inr hm)) hI e ▸ hm))
      by_cases hbg : (ob M i).big = true
      · have hsl2 : i ∈ M.slots := by
          rcases hI with z | z
          · exact absurd hbg (by rw [(ok.s1 i z).2.1]; decide)
          · exact z.2
        have hsz := wf.sb i h0 hsl2
        have hz2 : osz (ob M i) ≤ 100000000 := by
          have := sum_sub (fun i => if i = 0 then 0 else 1 + osz (ob M i)) [i] M.slots (by simp) (fun x hx => by rw [List.mem_singleton.1 hx]; exact hsl2)
          have hg := wf.lg
          unfold lgOf at hg
          simp [h0] at this
          omega
        unfold osz at hsz hz2
        refine (reach_big (fun j => refW M (k.cop.getD j 0)) (fun j => refW M (k.lin.getD j 0)) h.c0 h.c1 c2 h.c4 h.fz h.s h.b e0.1 e0.2 cx1 cy1 cy2 h0 hl hl (num_back ok hI).2.2 hneS hneB hsz hz2 (by omega) (by omega) (by omega) (by omega) hgW.2 (fun e => (hlo.2 px (.inr (.inl e))).2 rfl) (fun e => h.d3 gW e ho) (by omega) (by omega) (by omega) (by omega)).mono ?_
        rintro e w' ⟨rfl, w1, w2, v', s1, hL, hg, s2⟩
        obtain ⟨a1, a2, a3⟩ := h.big hl ho q.size s1 hL hg s2
        refine ⟨rfl, q.trans a2, ⟨V.vS, v', V.vW⟩, ?_, a3⟩
        unfold reachW
        rw [if_neg hnb, if_pos hbg]
        exact a1
      · have hsm : i ∈ M.small := by
          rcases hI with z | ⟨_, z⟩
          · exact z
          · obtain ⟨s, _, e⟩ := mem_slot z
            exact absurd (by have := (ok.b1 s (by rw [e]; exact h0)).1; rw [e] at this; exact this) hbg
        have hsz := wf.ss i hsm
        unfold osz at hsz
        refine (reach_small (fun j => refW M (k.cop.getD j 0)) (fun j => refW M (k.lin.getD j 0)) h.c0 h.c1 c2 h.c3 h.fz h.s h.b e0.1 e0.2 cx1 cy1 cy2 h0 hl hl (num_back ok hI).2.2 hneS hneB hsz (by omega) (by omega) (by omega) (by omega) hgW.2 (fun e => (hlo.2 px (.inl e)).2 rfl) (fun e => h.d2 gW e ho) (by omega) (by omega) (by omega) (by omega)).mono ?_
        rintro e w' ⟨rfl, w1, w2, v', s1, hL, hg, s2⟩
        obtain ⟨a1, a2, a3⟩ := h.small hl ho q.size s1 hL hg s2
        refine ⟨rfl, q.trans a2, ⟨v', V.vB, V.vW⟩, ?_, a3⟩
        unfold reachW
        rw [if_neg hnb, if_neg hbg]
        exact a1
end Go.Proofs.YtidfllgaeiopjaaGreat
namespace Go.Proofs.YtidfllgaeiopjaaGreat
open Go.ChangeShapes Go.WideShapes Go.ChangeAt Go.RowKit
set_option linter.unusedVariables false
set_option linter.unusedSimpArgs false
set_option maxRecDepth 100000
set_option maxHeartbeats 1000000

/-- a node of the shadow's that is there: its three cells and its rows -/
structure NodeM (w : World) (ps : Nat) (M : Hp) (i gN cN : Nat) (ar aw : Option Addr) (cr cw : Nat) : Prop where
  x1 : w.cell? ⟨ps, 1, none⟩ = some (.slice (some ⟨gN, 0, none⟩) M.objs.length cN)
  y0 : w.cell? ⟨gN, i * 3, none⟩ = some (.int .i64 ((ob M i).kind : Nat))
  y1 : w.cell? ⟨gN, i * 3 + 1, none⟩ = some (.slice ar (ob M i).refs.length cr)
  y2 : w.cell? ⟨gN, i * 3 + 2, none⟩ = some (.slice aw (ob M i).raws.length cw)
  rf : ∀ j, j < (ob M i).refs.length → ∃ g, ar = some ⟨g, 0, none⟩ ∧ w.cell? ⟨g, j, none⟩ = some (.int .i64 ((ob M i).refs.getD j 0 : Nat))
  rw : ∀ j, j < (ob M i).raws.length → ∃ g, aw = some ⟨g, 0, none⟩ ∧ w.cell? ⟨g, j, none⟩ = some (.int .u64 ((ob M i).raws.getD j 0 : Nat))
  lt : i < M.objs.length
theorem Inv.nodeM {ps ph lim n : Nat} {k : Kp} {M : Hp} {w : World} (h : Inv ps ph lim n k M w) {i : Nat} (hi : Is M i) : ∃ gN cN ar aw cr cw, NodeM w ps M i gN cN ar aw cr cw := by
  obtain ⟨tag, st, H, ns, C, last, b, bd⟩ := h
  have hl := b.he.wf.ln i hi
  have hd := b.gr.dt i hi
  have hl' : i < ns.length := by rw [b.gr.ln]; exact hl
  obtain ⟨gN, cN, ar, cr, aw, cw, _, e1, er, ew, e2, e3⟩ := b.sh.nodeAt (i := i) hl'
  obtain ⟨g', c', hv, _, hc⟩ := b.sh.nd.at (by omega)
  have h1 := b.sh.rf i hl'
  have h2 := b.sh.rw i hl'
  have c1 := b.sh.c1
  rw [e1] at c1
  have hcv := Option.some.inj c1
  rw [hv] at hcv
  have eg : g' = gN := by cases hcv; rfl
  subst eg
  have e0 := (hc (i * 3) (by omega)).1
  unfold ndCell ndField at e0
  rw [show i * 3 / 3 = i by omega, show i * 3 % 3 = 0 by omega, if_pos rfl] at e0
  rw [er] at h1
  rw [ew] at h2
  rw [hd] at e0 e2 e3 h1 h2
  rw [b.gr.ln] at e1
  refine ⟨_, _, _, _, _, _, e1, e0, e2, e3, fun j hj => ?_, fun j hj => ?_, hl⟩
  · obtain ⟨g, cap, z1, _, z3⟩ := h1.at (Nat.lt_of_le_of_lt (Nat.zero_le _) hj)
    cases z1
    exact ⟨g, rfl, (z3 j hj).1⟩
  · obtain ⟨g, cap, z1, _, z3⟩ := h2.at (Nat.lt_of_le_of_lt (Nat.zero_le _) hj)
    cases z1
    exact ⟨g, rfl, (z3 j hj).1⟩
theorem NodeM.below {w w' : World} {ps i gN cN : Nat} {M : Hp} {ar aw : Option Addr} {cr cw : Nat} (h : NodeM w ps M i gN cN ar aw cr cw) (q : Below w.heap.size w w') : NodeM w' ps M i gN cN ar aw cr cw := by
  have t : ∀ {a : Addr} {v : Value}, w.cell? a = some v → w'.cell? a = some v := fun {a v} e => (q.cell (p := a) (block_lt_of_cell e)).trans e
  exact ⟨t h.x1, t h.y0, t h.y1, t h.y2, fun j hj => by obtain ⟨g, e, z⟩ := h.rf j hj; exact ⟨g, e, t z⟩, fun j hj => by obtain ⟨g, e, z⟩ := h.rw j hj; exact ⟨g, e, t z⟩, h.lt⟩
theorem obj_ref {M : Hp} (ok : HpOk M) {i : Nat} (hI : Is M i) : objM M (refW M i) = ((ob M i).kind, (ob M i).refs.length, (ob M i).raws.length, 0) := by
  unfold objM
  rw [(num_back ok hI).1, if_neg (is_pos ok hI)]
theorem get_ref {M : Hp} (ok : HpOk M) {i : Nat} (hI : Is M i) {j : Nat} (hj : j < (ob M i).refs.length) : getM M (refW M i) (j : Int) = (refW M ((ob M i).refs.getD j 0), 0) := by
  unfold getM
  rw [(num_back ok hI).1, if_neg (is_pos ok hI), if_pos ⟨by omega, by unfold fldM; simp; omega⟩]
  unfold fldM
  simp only [Int.toNat_natCast, List.getD_eq_getElem?_getD]
  rw [List.getElem?_append_left (by simpa using hj), List.getElem?_map, List.getElem?_eq_getElem hj]
  rfl
theorem get_raw {M : Hp} (ok : HpOk M) {i : Nat} (hI : Is M i) {j : Nat} (hj : j < (ob M i).raws.length) : getM M (refW M i) (((ob M i).refs.length : Int) + (j : Int)) = ((ob M i).raws.getD j 0, 0) := by
  unfold getM
  rw [(num_back ok hI).1, if_neg (is_pos ok hI), if_pos ⟨by omega, by unfold fldM; simp; omega⟩]
  unfold fldM
  have e : (((ob M i).refs.length : Int) + (j : Int)).toNat = (ob M i).refs.length + j := by omega
  rw [e]
  simp only [List.getD_eq_getElem?_getD]
  rw [List.getElem?_append_right (by simp)]
  simp
end Go.Proofs.YtidfllgaeiopjaaGreat
namespace Go.Proofs.YtidfllgaeiopjaaGreat
open Go.ChangeShapes Go.WideShapes Go.ChangeAt Go.RowKit
set_option linter.unusedVariables false
set_option linter.unusedSimpArgs false
set_option maxRecDepth 100000
set_option maxHeartbeats 1000000

theorem take_more {l : List Nat} (i : Nat) (h : i < l.length) : l.take (i + 1) = l.take i ++ [l.getD i 0] := by
  rw [List.take_succ_eq_append_getElem h, List.getD_eq_getElem?_getD, List.getElem?_eq_getElem h]; rfl
theorem Inv.object {ps ph lim n : Nat} {k : Kp} {M : Hp} {w : World} (h : Inv ps ph lim n k M w) (x : Nat) (hx : x < 18446744073709551616) :
    Calls Tryz.prog 45 #[.pointer (some ⟨ph, 0, none⟩), .int .u64 (x : Nat)] w fun e w' => e = .returned (.tuple #[.int .i64 ((objM M x).1 : Nat), .int .i64 ((objM M x).2.1 : Nat), .int .i64 ((objM M x).2.2.1 : Nat), .int .i64 ((objM M x).2.2.2 : Nat)]) ∧ Below w.heap.size w w' := by
  obtain ⟨tag, st, H, ns, C, last, b, bd⟩ := h
  exact hobject_any b.he x hx
end Go.Proofs.YtidfllgaeiopjaaGreat
namespace Go.Proofs.YtidfllgaeiopjaaGreat
open Go.ChangeShapes Go.WideShapes Go.ChangeAt Go.RowKit
set_option linter.unusedVariables false
set_option linter.unusedSimpArgs false
set_option maxRecDepth 100000
set_option maxHeartbeats 2000000

/-- the image's words: 0, then of each object its header and its fields -/
structure ImgP (M : Hp) : Prop where
  z : 0 < M.used ∧ (imgM M).getD 0 0 = 0
  h : ∀ j, j < M.small.length → (imgM M).getD (place (shapes M M.small) j) 0 = (ob M (M.small.getD j 0)).kind + 256 * (ob M (M.small.getD j 0)).refs.length + 4294967296 * (ob M (M.small.getD j 0)).raws.length
  f : ∀ j k, j < M.small.length → k < (fldM M (M.small.getD j 0)).length → (imgM M).getD (place (shapes M M.small) j + 1 + k) 0 = (fldM M (M.small.getD j 0)).getD k 0
theorem Inv.get {ps ph lim n : Nat} {k : Kp} {M : Hp} {w : World} (h : Inv ps ph lim n k M w) (x : Nat) (hx : x < 18446744073709551616) (i : Int) :
    Calls Tryz.prog 29 #[.pointer (some ⟨ph, 0, none⟩), .int .u64 (x : Nat), .int .i64 i] w fun e w' => e = .returned (.tuple #[.int .u64 ((getM M x i).1 : Nat), .int .i64 ((getM M x i).2 : Nat)]) ∧ Below w.heap.size w w' := by
  obtain ⟨tag, st, H, ns, C, last, b, bd⟩ := h
  exact hget_any b.he x hx i
end Go.Proofs.YtidfllgaeiopjaaGreat
namespace Go.Proofs.YtidfllgaeiopjaaGreat
open Go.ChangeShapes Go.WideShapes Go.ChangeAt Go.RowKit
set_option linter.unusedVariables false
set_option linter.unusedSimpArgs false
set_option maxRecDepth 100000
set_option maxHeartbeats 1000000

/-- while a node is looked at: what is seen, and the box beside it -/
def LkSt (w0 : World) (px : Nat) (M : Hp) (bn : Nat) (box : Obj) (k : Wk) (w : World) : Prop := ∃ V, Below w0.heap.size w0 w ∧ SeenAt w w0.heap.size px M M.objs.length k V ∧ Pu M k ∧ OffV V px bn ∧ w.heap[bn]? = some box
theorem LkSt.below {w0 w w' : World} {px bn : Nat} {M : Hp} {box : Obj} {k : Wk} (h : LkSt w0 px M bn box k w) (q : Below w.heap.size w w') : LkSt w0 px M bn box k w' := by
  obtain ⟨V, h1, h2, h3, h4, h5⟩ := h
  exact ⟨V, h1.trans (q.mono h1.size), h2.below q, h3, h4, (q.block bn (Array.getElem?_eq_some_iff.1 h5).1).trans h5⟩
theorem foldl_more (M : Hp) (k : Wk) (l : List Nat) (j : Nat) (hj : j < l.length) : (l.take (j + 1)).foldl (reachW M) k = reachW M ((l.take j).foldl (reachW M) k) (l.getD j 0) := by
  rw [take_more j hj, List.foldl_append]
  rfl
theorem LkSt.reach {ps ph lim n px bn : Nat} {kk : Kp} {M : Hp} {w0 w : World} {box : Obj} {k : Wk} (iv : Inv ps ph lim n kk M w0) (hn : n ≤ 10000) (h : LkSt w0 px M bn box k w) {i : Nat} (hi : i = 0 ∨ Is M i) :
    Calls Tryz.prog 36 #[.pointer (some ⟨px, 0, none⟩), .pointer (some ⟨ps, 0, none⟩), .int .u64 (refW M i : Nat), .int .i64 (i : Nat)] w fun e w' => e = .returned (.bool true) ∧ LkSt w0 px M bn box (reachW M k i) w' := by
  obtain ⟨V, h1, h2, h3, h4, h5⟩ := h
  refine (reach_any iv h1 h2 h3 hn hi).mono fun e w' ⟨e1, e2, V', e3, e4⟩ => ⟨e1, V', e2, e3, h3.reach iv.wf.1.ok hi, ?_⟩
  obtain ⟨z1, z2⟩ := e4 bn (Array.getElem?_eq_some_iff.1 h5).1 h4
  exact ⟨z2, z1.trans h5⟩
theorem same_any {ps ph lim n px : Nat} {kk : Kp} {M : Hp} {w0 w : World} (iv : Inv ps ph lim n kk M w0) (q : Below w0.heap.size w0 w) {k : Wk} {V : SeenC} (h : SeenAt w w0.heap.size px M M.objs.length k V) (p : Pu M k) (hn : n ≤ 10000) {i : Nat} (hi : i ∈ k.cop ∨ i ∈ k.lin) :
    Calls Tryz.prog 38 #[.pointer (some ⟨px, 0, none⟩), .pointer (some ⟨ps, 0, none⟩), .int .i64 (i : Nat)] w fun e w' => e = .returned (.bool true) ∧ Below w0.heap.size w0 w' ∧ ∃ V', SeenAt w' w0.heap.size px M M.objs.length (lookW M k i) V' := by
  have wf := iv.wf.1
  have ok := wf.ok
  have hI := p.all i hi
  have hob := iv.nobj
  obtain ⟨gN, cN, ar, aw, cr, cw, nm⟩ := iv.nodeM hI
  have hl := nm.lt
  obtain ⟨gW, cW, ev, ho, hc⟩ := h.h.at (by omega)
  have e0 := (hc i hl).1
  rw [show whr M k i = refW M i by unfold whr; rw [if_pos hi]] at e0
  have c2 := h.c2
  rw [ev] at c2
  have nq := nm.below q
  obtain ⟨box, hbox⟩ : ∃ box : Obj, box = .cells #[.int .i64 ((ob M i).kind : Nat), .slice ar (ob M i).refs.length cr, .slice aw (ob M i).raws.length cw] 69 := ⟨_, rfl⟩
  have HB : Hid (LkSt w0 px M w.heap.size box k (w.alloc box)) := hide (by
    have hb : Below w.heap.size w (w.alloc box) := (Below.refl _ _).alloc (Nat.le_refl _) _
    exact ⟨V, q.trans (hb.mono q.size), h.below hb, p, ⟨by have := h.lt; omega, fun e => by have := h.s.lt _ e; omega, fun e => by have := h.b.lt _ e; omega, fun e => by have := h.h.lt _ e; omega⟩, (MapKept.heap_alloc w box).1⟩)
  have HCL : Hid (∀ k' W, Hid (LkSt w0 px M w.heap.size box k' W) → W.cell? ⟨ps, 0, none⟩ = some (.pointer (some ⟨ph, 0, none⟩)) ∧ W.cell? ⟨w.heap.size, 0, none⟩ = some (.int .i64 ((ob M i).kind : Nat)) ∧ W.cell? ⟨w.heap.size, 1, none⟩ = some (.slice ar (ob M i).refs.length cr) ∧ W.cell? ⟨w.heap.size, 2, none⟩ = some (.slice aw (ob M i).raws.length cw)) := hide (fun k' W hW => by
    obtain ⟨V', h1, h2, h3, h4, h5⟩ := unhide hW
    rw [hbox] at h5
    exact ⟨(iv.still h1).c0, by simp only [World.cell?, h5]; rfl, by simp only [World.cell?, h5]; rfl, by simp only [World.cell?, h5]; rfl⟩)
  have H45 : Hid (∀ k' W, Hid (LkSt w0 px M w.heap.size box k' W) → Calls Tryz.prog 45 #[.pointer (some ⟨ph, 0, none⟩), .int .u64 (refW M i : Nat)] W fun e w' => e = .returned (.tuple #[.int .i64 ((ob M i).kind : Nat), .int .i64 ((ob M i).refs.length : Nat), .int .i64 ((ob M i).raws.length : Nat), .int .i64 0]) ∧ Hid (LkSt w0 px M w.heap.size box k' w')) := hide (fun k' W hW => by
    obtain ⟨V', h1, _⟩ := unhide hW
    have := (iv.still h1).object (refW M i) (num_back ok hI).2.1
    rw [obj_ref ok hI] at this
    exact this.mono fun e w' ⟨q1, q2⟩ => ⟨q1, hide ((unhide hW).below q2)⟩)
  have H29 : Hid (∀ k' W j, j < (ob M i).refs.length → Hid (LkSt w0 px M w.heap.size box k' W) → Calls Tryz.prog 29 #[.pointer (some ⟨ph, 0, none⟩), .int .u64 (refW M i : Nat), .int .i64 (j : Nat)] W fun e w' => e = .returned (.tuple #[.int .u64 (refW M ((ob M i).refs.getD j 0) : Nat), .int .i64 0]) ∧ Hid (LkSt w0 px M w.heap.size box k' w')) := hide (fun k' W j hj hW => by
    obtain ⟨V', h1, _⟩ := unhide hW
    have := (iv.still h1).get (refW M i) (num_back ok hI).2.1 (j : Int)
    rw [get_ref ok hI hj] at this
    exact this.mono fun e w' ⟨q1, q2⟩ => ⟨q1, hide ((unhide hW).below q2)⟩)
  have H29w : Hid (∀ k' W j, j < (ob M i).raws.length → Hid (LkSt w0 px M w.heap.size box k' W) → Calls Tryz.prog 29 #[.pointer (some ⟨ph, 0, none⟩), .int .u64 (refW M i : Nat), .int .i64 (((ob M i).refs.length : Int) + (j : Int))] W fun e w' => e = .returned (.tuple #[.int .u64 ((ob M i).raws.getD j 0 : Nat), .int .i64 0]) ∧ Hid (LkSt w0 px M w.heap.size box k' w')) := hide (fun k' W j hj hW => by
    obtain ⟨V', h1, _⟩ := unhide hW
    have := (iv.still h1).get (refW M i) (num_back ok hI).2.1 (((ob M i).refs.length : Int) + (j : Int))
    rw [get_raw ok hI hj] at this
    exact this.mono fun e w' ⟨q1, q2⟩ => ⟨q1, hide ((unhide hW).below q2)⟩)
  have H36 : Hid (∀ k' W j, j < (ob M i).refs.length → Hid (LkSt w0 px M w.heap.size box k' W) → Calls Tryz.prog 36 #[.pointer (some ⟨px, 0, none⟩), .pointer (some ⟨ps, 0, none⟩), .int .u64 (refW M ((ob M i).refs.getD j 0) : Nat), .int .i64 ((ob M i).refs.getD j 0 : Nat)] W fun e w' => e = .returned (.bool true) ∧ Hid (LkSt w0 px M w.heap.size box (reachW M k' ((ob M i).refs.getD j 0)) w')) := hide (fun k' W j hj hW => by
    refine (LkSt.reach iv hn (unhide hW) (ok.rf i hI _ ?_)).mono fun e w' ⟨q1, q2⟩ => ⟨q1, hide q2⟩
    rw [List.getD_eq_getElem?_getD, List.getElem?_eq_getElem hj]; exact List.getElem_mem hj)
  have HRF : Hid (∀ k' W j, j < (ob M i).refs.length → Hid (LkSt w0 px M w.heap.size box k' W) → ∃ g, ar = some ⟨g, 0, none⟩ ∧ W.cell? ⟨g, j, none⟩ = some (.int .i64 ((ob M i).refs.getD j 0 : Nat))) := hide (fun k' W j hj hW => by
    obtain ⟨V', h1, _⟩ := unhide hW
    exact (nm.below h1).rf j hj)
  have HRW : Hid (∀ k' W j, j < (ob M i).raws.length → Hid (LkSt w0 px M w.heap.size box k' W) → ∃ g, aw = some ⟨g, 0, none⟩ ∧ W.cell? ⟨g, j, none⟩ = some (.int .u64 ((ob M i).raws.getD j 0 : Nat))) := hide (fun k' W j hj hW => by
    obtain ⟨V', h1, _⟩ := unhide hW
    exact (nm.below h1).rw j hj)
  have HND : Hid (∀ k' W, Hid (LkSt w0 px M w.heap.size box k' W) → Below w0.heap.size w0 W ∧ ∃ V', SeenAt W w0.heap.size px M M.objs.length k' V') := hide (fun k' W hW => by
    obtain ⟨V', h1, h2, _⟩ := unhide hW
    exact ⟨h1, V', h2⟩)
  obtain ⟨hsz1, hsz2⟩ : (ob M i).refs.length ≤ 10000000 ∧ (ob M i).raws.length ≤ 10000000 := by
    rcases hI with z | ⟨z0, z⟩
    · have := wf.ss i z
      unfold osz at this
      omega
    · have := sum_sub (fun i => if i = 0 then 0 else 1 + osz (ob M i)) [i] M.slots (by simp) (fun x hx => by rw [List.mem_singleton.1 hx]; exact z)
      have hg := wf.lg
      have h1 := wf.lm
      have h2 := wf.l2
      unfold lgOf at hg
      simp [z0] at this
      unfold osz at this hg
      omega
  obtain ⟨x1, y0, y1, y2, _, _, _⟩ := nq
  have hFM := hide (fun j hj => foldl_more M k (ob M i).refs j hj)
  have hFE : Hid ((ob M i).refs.foldl (reachW M) k = lookW M k i) := hide rfl
  obtain ⟨R, hR⟩ : ∃ R, refW M i = R := ⟨_, rfl⟩
  rw [hR] at e0 H45 H29 H29w
  generalize hrl : (ob M i).refs = rl at *
  generalize hwl : (ob M i).raws = wl at *
  generalize hkd : (ob M i).kind = kd at *
  have i1 : (0 : Int) ≤ (i : Nat) := by omega
  have i2 : (i : Int) < (M.objs.length : Nat) := by omega
  obtain ⟨z0, _, _, _⟩ := unhide HCL _ _ HB
  rw [hbox] at z0
  clear iv q h p hi wf ok hI hob nm hl ev ho hc hR hrl hwl hkd
  subst hbox
  go_enter Tryz.func38, Tryz.ntmps38
  go_wp2_with fail
  refine (unhide H45 _ _ HB).mono ?_
  rintro e w2 ⟨rfl, hI2⟩
  clear HB
  generalize hbn : w.heap.size = bn at *
  clear hbn
  obtain ⟨c0, b0, b1, b2⟩ := unhide HCL _ _ hI2
  clear z0 x1 y0 y1 y2 c2 e0
  go_wp2_with fail
  go_loopw [13] (fun jv wr => ∃ j : Nat, jv = .int .i64 (j : Nat) ∧ j ≤ rl.length ∧ Hid (LkSt w0 px M bn _ ((rl.take j).foldl (reachW M) k) wr)) (fun jv _ => rl.length - (intOf jv).toNat)
  case atStart => exact ⟨0, rfl, Nat.zero_le _, hI2⟩
  case round =>
    obtain ⟨j, rfl, hj, hI⟩ := hrel
    obtain ⟨c0, b0, b1, b2⟩ := unhide HCL _ _ hI
    have w1 : IntKind.i64.wrap ((j : Int) + 1) = (j : Int) + 1 := wrap_small _ (by omega) (by omega)
    by_cases hjn : j < rl.length
    · have hG := hide (unhide H29 _ _ j hjn hI)
      have hH := hide (fun W hW => unhide H36 ((rl.take j).foldl (reachW M) k) W j hjn hW)
      have hZ := hide (fun W hW => unhide HRF ((rl.take j).foldl (reachW M) k) W j hjn hW)
      have hX := hide (unhide hFM j hjn)
      obtain ⟨g, rfl, _⟩ := unhide hZ _ hI
      obtain ⟨r, hr⟩ : ∃ r, rl.getD j 0 = r := ⟨_, rfl⟩
      rw [hr] at hG hX
      simp only [hr] at hH hZ
      clear hr
      have dl : decide ((j : Int) < (rl.length : Nat)) = true := decide_eq_true (by omega)
      have j1 : (0 : Int) ≤ (j : Nat) := by omega
      have j2 : (j : Int) < (rl.length : Nat) := by omega
      go_wp2_with fail
      refine (unhide hG).mono ?_
      rintro e w3 ⟨rfl, hI3⟩
      obtain ⟨c0, b0, b1, b2⟩ := unhide HCL _ _ hI3
      obtain ⟨g', eg, z0⟩ := unhide hZ _ hI3
      cases eg
      go_wp2_with fail
      refine (unhide hH _ hI3).mono ?_
      rintro e w4 ⟨rfl, hI4⟩
      clear c0 b0 b1 b2 z0
      rw [← unhide hX] at hI4
      go_wp2_with fail
      all_goals go_roundw
      all_goals first | exact ⟨j + 1, by simp, by omega, hI4⟩ | (simp [intOf]; omega)
    · have hje : j = rl.length := by omega
      have dl : decide ((j : Int) < (rl.length : Nat)) = false := decide_eq_false (by omega)
      have hI5 : Hid (LkSt w0 px M bn (Obj.cells #[.int .i64 (kd : Nat), .slice ar rl.length cr, .slice aw wl.length cw] 69) (lookW M k i) wr) := by
        rw [hje, List.take_length, unhide hFE] at hI
        exact hI
      clear hI hje
      go_wp2_with fail
      clear dl w1 hj hjn c0 b0 b1 b2
      go_loopw [16] (fun jv ws => ∃ t : Nat, jv = .int .i64 (t : Nat) ∧ t ≤ wl.length ∧ Hid (LkSt w0 px M bn (Obj.cells #[.int .i64 (kd : Nat), .slice ar rl.length cr, .slice aw wl.length cw] 69) (lookW M k i) ws)) (fun jv _ => wl.length - (intOf jv).toNat)
      case atStart => exact ⟨0, rfl, Nat.zero_le _, hI5⟩
      case round =>
        obtain ⟨t, rfl, ht, hI⟩ := hrel
        obtain ⟨c0, b0, b1, b2⟩ := unhide HCL _ _ hI
        have w1 : IntKind.i64.wrap ((t : Int) + 1) = (t : Int) + 1 := wrap_small _ (by omega) (by omega)
        by_cases htn : t < wl.length
        · have hG := hide (unhide H29w _ _ t htn hI)
          have hZ := hide (fun W hW => unhide HRW (lookW M k i) W t htn hW)
          obtain ⟨g, rfl, _⟩ := unhide hZ _ hI
          obtain ⟨r, hr⟩ : ∃ r, wl.getD t 0 = r := ⟨_, rfl⟩
          rw [hr] at hG
          simp only [hr] at hZ
          clear hr
          have dl : decide ((t : Int) < (wl.length : Nat)) = true := decide_eq_true (by omega)
          have j1 : (0 : Int) ≤ (t : Nat) := by omega
          have j2 : (t : Int) < (wl.length : Nat) := by omega
          have w2' : IntKind.i64.wrap ((rl.length : Int) + (t : Int)) = (rl.length : Int) + (t : Int) := wrap_small _ (by omega) (by omega)
          go_wp2_with fail
          refine (unhide hG).mono ?_
          rintro e w3 ⟨rfl, hI3⟩
          obtain ⟨c0, b0, b1, b2⟩ := unhide HCL _ _ hI3
          obtain ⟨g', eg, z0⟩ := unhide hZ _ hI3
          cases eg
          go_wp2_with fail
          all_goals go_roundw
          all_goals first | exact ⟨t + 1, by simp, by omega, hI3⟩ | (simp [intOf]; omega)
        · have dl : decide ((t : Int) < (wl.length : Nat)) = false := decide_eq_false (by omega)
          have HE := hide (unhide HND _ _ hI)
          clear hI
          go_wp2_with fail
          all_goals go_ret
          all_goals exact ⟨by simp, (unhide HE).1, (unhide HE).2⟩
end Go.Proofs.YtidfllgaeiopjaaGreat
namespace Go.Proofs.YtidfllgaeiopjaaGreat
open Go.ChangeShapes Go.WideShapes Go.ChangeAt Go.RowKit
set_option linter.unusedVariables false
set_option linter.unusedSimpArgs false
set_option maxRecDepth 100000
set_option maxHeartbeats 1000000

/-- what look has seen so far -/
def LkS (w0 : World) (px : Nat) (M : Hp) (k : Wk) (w : World) : Prop := ∃ V, Below w0.heap.size w0 w ∧ SeenAt w w0.heap.size px M M.objs.length k V ∧ Pu M k
theorem LkS.below {w0 w w' : World} {px : Nat} {M : Hp} {k : Wk} (h : LkS w0 px M k w) (q : Below w.heap.size w w') : LkS w0 px M k w' := by
  obtain ⟨V, h1, h2, h3⟩ := h
  exact ⟨V, h1.trans (q.mono h1.size), h2.below q, h3⟩
/-- the first of it: nothing seen -/
theorem seen_new (w0 : World) (M : Hp) (hN : M.objs.length ≤ 1048576) (hN0 : 0 < M.objs.length) : LkS w0 (w0.heap.size + 1) M ⟨[], []⟩ ((w0.alloc (.cells (madeCells #[.int .u64 0] M.objs.length) 30 (0, 0))).alloc (.cells #[.slice none 0 0, .slice none 0 0, .slice (some ⟨w0.heap.size, 0, none⟩) M.objs.length M.objs.length, .int .i64 1, .int .i64 0] 73)) := by
  generalize hA : (Obj.cells (madeCells #[.int .u64 0] M.objs.length) 30 (0, 0)) = A
  generalize hB : (Obj.cells #[.slice none 0 0, .slice none 0 0, .slice (some ⟨w0.heap.size, 0, none⟩) M.objs.length M.objs.length, .int .i64 1, .int .i64 0] 73) = B
  have k1 : Below w0.heap.size w0 ((w0.alloc A).alloc B) := ((Below.refl _ _).alloc (Nat.le_refl _) _).alloc (by simp) _
  have g1 : ((w0.alloc A).alloc B).heap[w0.heap.size]? = some A := by
    have : Below (w0.alloc A).heap.size (w0.alloc A) ((w0.alloc A).alloc B) := (Below.refl _ _).alloc (Nat.le_refl _) _
    rw [this.block w0.heap.size (by simp)]
    exact heap_alloc_new _ _
  have g2 : ((w0.alloc A).alloc B).heap[w0.heap.size + 1]? = some B := heap_alloc2_new _ _ _
  have hnn : ∀ g, (Value.slice none 0 0).ownBlock ≠ some g := fun g => by simp [Value.ownBlock]
  refine ⟨⟨.slice none 0 0, .slice none 0 0, .slice (some ⟨w0.heap.size, 0, none⟩) M.objs.length M.objs.length⟩, k1, ?_, ⟨⟨List.nodup_nil, List.nodup_nil⟩, fun i hi => absurd hi List.not_mem_nil, fun i hi => absurd hi List.not_mem_nil⟩⟩
  have hL : Line ((w0.alloc A).alloc B) 30 (.slice (some ⟨w0.heap.size, 0, none⟩) M.objs.length M.objs.length) M.objs.length (fun _ => .int .u64 0) := made_line (by rw [g1, ← hA]) hN
  refine ⟨?_, ?_, ?_, ?_, ?_, fun i hi => ?_, .inl ⟨rfl, rfl⟩, .inl ⟨rfl, rfl⟩, ?_, ⟨Nat.le_succ _, fun g hg => ?_⟩, fun g e => absurd e (hnn g), fun g e => absurd e (hnn g), fun g e => absurd e (hnn g)⟩
  · simp only [World.cell?, g2]; rw [← hB]; rfl
  · simp only [World.cell?, g2]; rw [← hB]; rfl
  · simp only [World.cell?, g2]; rw [← hB]; rfl
  · simp only [World.cell?, g2]; rw [← hB]; rfl
  · simp only [World.cell?, g2]; rw [← hB]; rfl
  · simp only [World.frozen?, g2]; rw [← hB]; simp
  · have e : (fun j => Value.int .u64 ((whr M ⟨[], []⟩ j : Nat) : Int)) = fun _ => .int .u64 0 := by
      funext j
      unfold whr
      rw [if_neg (by rintro (h | h) <;> exact absurd h List.not_mem_nil)]
      rfl
    rw [e]
    exact hL
  · rcases hg with e | e | e
    · exact absurd e (hnn g)
    · exact absurd e (hnn g)
    · simp [Value.ownBlock] at e
      omega
theorem LkS.reach {ps ph lim n px : Nat} {kk : Kp} {M : Hp} {w0 w : World} {k : Wk} (iv : Inv ps ph lim n kk M w0) (hn : n ≤ 10000) (h : LkS w0 px M k w) {i : Nat} (hi : i = 0 ∨ Is M i) :
    Calls Tryz.prog 36 #[.pointer (some ⟨px, 0, none⟩), .pointer (some ⟨ps, 0, none⟩), .int .u64 (refW M i : Nat), .int .i64 (i : Nat)] w fun e w' => e = .returned (.bool true) ∧ LkS w0 px M (reachW M k i) w' := by
  obtain ⟨V, h1, h2, h3⟩ := h
  exact (reach_any iv h1 h2 h3 hn hi).mono fun e w' ⟨e1, e2, V', e3, _⟩ => ⟨e1, V', e2, e3, h3.reach iv.wf.1.ok hi⟩
theorem LkS.node {ps ph lim n px : Nat} {kk : Kp} {M : Hp} {w0 w : World} {k : Wk} (iv : Inv ps ph lim n kk M w0) (hn : n ≤ 10000) (h : LkS w0 px M k w) {i : Nat} (hi : i ∈ k.cop ∨ i ∈ k.lin) :
    Calls Tryz.prog 37 #[.pointer (some ⟨px, 0, none⟩), .int .u64 (refW M i : Nat)] w fun e w' => e = .returned (.int .i64 (i : Nat)) ∧ LkS w0 px M k w' := by
  have hl := (iv.nodeM (h.choose_spec.2.2.all i hi))
  obtain ⟨gN, cN, ar, aw, cr, cw, nm⟩ := hl
  obtain ⟨V, h1, h2, h3⟩ := h
  have hob := iv.nobj
  exact (node_any h2 iv.wf.1.ok h3.all (by omega) hi nm.lt).mono fun e w' ⟨e1, s⟩ => ⟨e1, V, h1.trans (s.below.mono h1.size), h2.below s.below, h3⟩
theorem Pu.look {M : Hp} (ok : HpOk M) {k : Wk} (p : Pu M k) {i : Nat} (hi : i ∈ k.cop ∨ i ∈ k.lin) : Pu M (lookW M k i) :=
  Pu.fold ok _ p fun r hr => ok.rf i (p.all i hi) r hr
theorem LkS.same {ps ph lim n px : Nat} {kk : Kp} {M : Hp} {w0 w : World} {k : Wk} (iv : Inv ps ph lim n kk M w0) (hn : n ≤ 10000) (h : LkS w0 px M k w) {i : Nat} (hi : i ∈ k.cop ∨ i ∈ k.lin) :
    Calls Tryz.prog 38 #[.pointer (some ⟨px, 0, none⟩), .pointer (some ⟨ps, 0, none⟩), .int .i64 (i : Nat)] w fun e w' => e = .returned (.bool true) ∧ LkS w0 px M (lookW M k i) w' := by
  obtain ⟨V, h1, h2, h3⟩ := h
  exact (same_any iv h1 h2 h3 hn hi).mono fun e w' ⟨e1, e2, V', e3⟩ => ⟨e1, V', e2, e3, h3.look iv.wf.1.ok hi⟩
end Go.Proofs.YtidfllgaeiopjaaGreat
namespace Go.Proofs.YtidfllgaeiopjaaGreat
open Go.ChangeShapes Go.WideShapes Go.ChangeAt Go.RowKit
set_option linter.unusedVariables false
set_option maxRecDepth 100000
set_option maxHeartbeats 1000000

/-- a step, and what it has done -/
theorem Inv.step2 {ps ph lim n : Nat} {k : Kp} {M : Hp} {w : World} (h : Inv ps ph lim n k M w) (hn : n ≤ 10000) (q : MvL) (ok : DataOk k.w q.A q.V q.a q.c q.l) :
    Calls Tryz.prog 12 #[.pointer (some ⟨ps, 0, none⟩), mvV q.K q.A q.B q.C q.H q.G q.V (.slice q.a q.l.length q.c)] w fun e w' => e = .returned (.bool true) ∧ ∃ M' last, Inv ps ph lim (n + 1) k M' w' ∧ SameK k w w' ∧ w'.cell? ⟨ps, 3, none⟩ = some (.int .i64 (lim : Nat)) ∧ w'.cell? ⟨ps, 4, none⟩ = some (.int .i64 (last : Nat)) ∧ StepR q.K q.A q.B q.C M M' last := by
  obtain ⟨tag, st, H, ns, C, last, b, bd⟩ := h
  refine (step_any b bd hn q.K q.A q.B q.C q.H q.G q.V q.a q.c q.l ok).mono ?_
  rintro e w' ⟨rfl, t', s', M', H', n', C', l', b', bd', r⟩
  exact ⟨rfl, M', l', ⟨t', s', H', n', C', l', b', bd'⟩, b.sameK b', b'.sh.c3, b'.sh.c4, r⟩
end Go.Proofs.YtidfllgaeiopjaaGreat
namespace Go.Proofs.YtidfllgaeiopjaaGreat
open Go.ChangeShapes Go.WideShapes Go.ChangeAt Go.RowKit
set_option linter.unusedVariables false
set_option linter.unusedSimpArgs false
set_option maxRecDepth 100000
set_option maxHeartbeats 2000000

theorem small_len {M : Hp} (wf : HpWf M) : M.small.length ≤ 1000000 := by
  have ok := wf.ok
  have h1 := ok.us
  have h2 := place_all M M.small
  have h3 := ok.u2; have h4 := wf.lm; have h5 := wf.l2; have h7 := ok.h2
  have h6 : M.small.length ≤ (M.small.map fun i => osz (ob M i)).sum := by
    have : ∀ l : List Nat, l.length ≤ (l.map fun i => osz (ob M i)).sum := fun l => by
      induction l with
      | nil => simp
      | cons a l ih => simp only [List.map_cons, List.sum_cons, List.length_cons]; have := (show 1 ≤ osz (ob M a) by unfold osz; omega); omega
    exact this _
  omega
theorem Inv.hands {ps ph lim n : Nat} {k : Kp} {M : Hp} {w : World} (h : Inv ps ph lim n k M w) (hn : n ≤ 10000) : 1 ≤ M.objs.length ∧ M.roots.length ≤ 100000 ∧ ∃ aN cN aH cH, w.cell? ⟨ps, 1, none⟩ = some (.slice aN M.objs.length cN) ∧ w.cell? ⟨ps, 2, none⟩ = some (.slice aH M.roots.length cH) ∧ ∀ j, j < M.roots.length → ∃ g, aH = some ⟨g, 0, none⟩ ∧ w.cell? ⟨g, j, none⟩ = some (.int .i64 (hval (M.roots.getD j none))) := by
  obtain ⟨tag, st, H, ns, C, last, b, bd⟩ := h
  have hrt := bd.rt
  obtain ⟨aN, cN, eN⟩ := b.sh.nd.shape
  obtain ⟨aH, cH, eH⟩ := b.sh.hn.shape
  refine ⟨bd.o1, by omega, aN, cN, aH, cH, ?_, ?_, fun j hj => ?_⟩
  · rw [b.sh.c1, eN, b.gr.ln]
  · rw [b.sh.c2, eH]
  · obtain ⟨g, cap, ev, _, hc⟩ := b.sh.hn.at (by omega)
    rw [eH] at ev
    cases ev
    exact ⟨g, rfl, (hc j hj).1⟩
theorem Inv.at {ps ph lim n : Nat} {k : Kp} {M : Hp} {w : World} (h : Inv ps ph lim n k M w) (hn : n ≤ 10000) {m i : Nat} (hm : m < M.roots.length) (hi : M.roots.getD m none = some i) :
    Calls Tryz.prog 28 #[.pointer (some ⟨ph, 0, none⟩), .int .i64 ((m : Int) + 1)] w fun e w' => e = .returned (.tuple #[.int .u64 (refW M i : Nat), .int .i64 0]) ∧ Below w.heap.size w w' := by
  obtain ⟨tag, st, H, ns, C, last, b, bd⟩ := h
  have hrt := bd.rt
  exact at_held b.he (by omega) hm hi
theorem getD_mem0 {l : List Nat} {j : Nat} (h : j < l.length) : l.getD j 0 ∈ l := by
  rw [List.getD_eq_getElem?_getD, List.getElem?_eq_getElem h]
  exact List.getElem_mem h
theorem seen_any {ps ph lim n : Nat} {kk : Kp} {M : Hp} {w0 : World} (iv : Inv ps ph lim n kk M w0) (hn : n ≤ 10000) :
    Calls Tryz.prog 13 #[.pointer (some ⟨ps, 0, none⟩)] w0 fun e w' => ∃ px t, e = .returned (.tuple #[.pointer (some ⟨px, 0, none⟩), .bool true]) ∧ LkS w0 px M t.k w' ∧ Star M (stR M M.roots.length) t ∧ stepW M t = none := by
  have wf := iv.wf.1
  have ok := wf.ok
  have hob := iv.nobj
  have hsml := small_len wf
  have hsl := ok.sl
  obtain ⟨ho1, hrt, aN, cN, aH, cH, x1, x2, xh⟩ := iv.hands hn
  have x0 := iv.c0
  have mk1 := fun w' => run_make_row' (P := Tryz.prog) 44 30 (.int .u64 0) 8 Tryz.underlying44 Tryz.info30 rfl .i64 .i64 M.objs.length (by omega) (by omega) w'
  have HB : Hid (LkS w0 (w0.heap.size + 1) M (rootsW M 0) ((w0.alloc (.cells (madeCells #[.int .u64 0] M.objs.length) 30 (0, 0))).alloc (.cells #[.slice none 0 0, .slice none 0 0, .slice (some ⟨w0.heap.size, 0, none⟩) M.objs.length M.objs.length, .int .i64 1, .int .i64 0] 73))) := hide (seen_new w0 M (by omega) (by omega))
  have HI : ∀ px k W, Hid (LkS w0 px M k W) → Inv ps ph lim n kk M W := fun px k W h => by
    obtain ⟨V, h1, _⟩ := unhide h
    exact iv.still h1
  have HC : Hid (∀ px k W, Hid (LkS w0 px M k W) → W.cell? ⟨ps, 0, none⟩ = some (.pointer (some ⟨ph, 0, none⟩)) ∧ W.cell? ⟨ps, 2, none⟩ = some (.slice aH M.roots.length cH)) := hide (fun px k W h => by
    obtain ⟨V, h1, _⟩ := unhide h
    exact ⟨(iv.still h1).c0, (h1.cell (p := ⟨ps, 2, none⟩) (block_lt_of_cell x2)).trans x2⟩)
  have HH : Hid (∀ px k W j, j < M.roots.length → Hid (LkS w0 px M k W) → ∃ g, aH = some ⟨g, 0, none⟩ ∧ W.cell? ⟨g, j, none⟩ = some (.int .i64 (hval (M.roots.getD j none)))) := hide (fun px k W j hj h => by
    obtain ⟨V, h1, _⟩ := unhide h
    obtain ⟨g, e, c⟩ := xh j hj
    exact ⟨g, e, (h1.cell (p := ⟨g, j, none⟩) (block_lt_of_cell c)).trans c⟩)
  have H28 : Hid (∀ px k W j i, j < M.roots.length → M.roots.getD j none = some i → Hid (LkS w0 px M k W) → Calls Tryz.prog 28 #[.pointer (some ⟨ph, 0, none⟩), .int .i64 ((j : Int) + 1)] W fun e w' => e = .returned (.tuple #[.int .u64 (refW M i : Nat), .int .i64 0]) ∧ Hid (LkS w0 px M k w')) := hide (fun px k W j i hj hi h => (Inv.at (HI px k W h) hn hj hi).mono fun e w' ⟨e1, e2⟩ => ⟨e1, hide ((unhide h).below e2)⟩)
  have H36 : Hid (∀ px k W j i, j < M.roots.length → M.roots.getD j none = some i → Hid (LkS w0 px M k W) → Calls Tryz.prog 36 #[.pointer (some ⟨px, 0, none⟩), .pointer (some ⟨ps, 0, none⟩), .int .u64 (refW M i : Nat), .int .i64 (i : Nat)] W fun e w' => e = .returned (.bool true) ∧ Hid (LkS w0 px M (reachW M k i) w')) := hide (fun px k W j i hj hi h => (LkS.reach iv hn (unhide h) (root_is ok hj hi)).mono fun e w' ⟨e1, e2⟩ => ⟨e1, hide e2⟩)
  have H37 : Hid (∀ px k W i, (i ∈ k.cop ∨ i ∈ k.lin) → Hid (LkS w0 px M k W) → Calls Tryz.prog 37 #[.pointer (some ⟨px, 0, none⟩), .int .u64 (refW M i : Nat)] W fun e w' => e = .returned (.int .i64 (i : Nat)) ∧ Hid (LkS w0 px M k w')) := hide (fun px k W i hi h => (LkS.node iv hn (unhide h) hi).mono fun e w' ⟨e1, e2⟩ => ⟨e1, hide e2⟩)
  have H38 : Hid (∀ px k W i, (i ∈ k.cop ∨ i ∈ k.lin) → Hid (LkS w0 px M k W) → Calls Tryz.prog 38 #[.pointer (some ⟨px, 0, none⟩), .pointer (some ⟨ps, 0, none⟩), .int .i64 (i : Nat)] W fun e w' => e = .returned (.bool true) ∧ Hid (LkS w0 px M (lookW M k i) w')) := hide (fun px k W i hi h => (LkS.same iv hn (unhide h) hi).mono fun e w' ⟨e1, e2⟩ => ⟨e1, hide e2⟩)
  have HX : Hid (∀ px k W, Hid (LkS w0 px M k W) → (k.cop.length ≤ M.small.length ∧ k.lin.length ≤ M.slots.length) ∧ ∃ aS cS aB cB, W.cell? ⟨px, 0, none⟩ = some (.slice aS k.cop.length cS) ∧ W.cell? ⟨px, 1, none⟩ = some (.slice aB k.lin.length cB) ∧ (∀ j, j < k.cop.length → ∃ g, aS = some ⟨g, 0, none⟩ ∧ W.cell? ⟨g, j, none⟩ = some (.int .u64 (refW M (k.cop.getD j 0) : Nat))) ∧ ∀ j, j < k.lin.length → ∃ g, aB = some ⟨g, 0, none⟩ ∧ W.cell? ⟨g, j, none⟩ = some (.int .u64 (refW M (k.lin.getD j 0) : Nat))) := hide (fun px k W h => by
    obtain ⟨V, h1, h2, h3⟩ := unhide h
    obtain ⟨aS, cS, eS⟩ := h2.s.shape
    obtain ⟨aB, cB, eB⟩ := h2.b.shape
    refine ⟨h3.lens, aS, cS, aB, cB, by rw [h2.c0, eS], by rw [h2.c1, eB], fun j hj => ?_, fun j hj => ?_⟩
    · obtain ⟨g, cap, ev, _, hc⟩ := h2.s.at (by omega)
      rw [eS] at ev
      cases ev
      exact ⟨g, rfl, (hc j hj).1⟩
    · obtain ⟨g, cap, ev, _, hc⟩ := h2.b.at (by omega)
      rw [eB] at ev
      cases ev
      exact ⟨g, rfl, (hc j hj).1⟩)
  have HP : Hid (∀ px k W i, (i ∈ k.cop ∨ i ∈ k.lin) → Hid (LkS w0 px M k W) → i ≠ 0) := hide (fun px k W i hi h => by
    obtain ⟨V, h1, h2, h3⟩ := unhide h
    exact is_pos ok (h3.all i hi))
  have HR : Hid (∀ j, rootsW M (j + 1) = match M.roots.getD j none with | none => rootsW M j | some i => reachW M (rootsW M j) i) := hide (fun j => rootsW_succ M j)
  generalize hnr : M.roots.length = nR at *
  generalize hno : M.objs.length = nO at *
  clear iv wf ok hob xh HI hnr hno
  go_enter Tryz.func13, Tryz.ntmps13
  go_wp2_with fail
  clear x0 x1 x2 mk1
  generalize hpx : w0.heap.size + 1 = px at *
  generalize hW1 : World.alloc (World.alloc w0 _) _ = W1 at *
  clear hpx hW1
  go_loopw [5] (fun iv wr => ∃ i : Nat, iv = .int .i64 (i : Nat) ∧ i ≤ nR ∧ Hid (LkS w0 px M (rootsW M i) wr)) (fun iv _ => nR - (intOf iv).toNat)
  case atStart => exact ⟨0, rfl, Nat.zero_le _, HB⟩
  case round =>
    clear HB
    obtain ⟨j, rfl, hj, hL⟩ := hrel
    obtain ⟨c0, c2⟩ := unhide HC _ _ _ hL
    have w1 : IntKind.i64.wrap ((j : Int) + 1) = (j : Int) + 1 := wrap_small _ (by omega) (by omega)
    by_cases hjn : j < nR
    · have dl : decide ((j : Int) < (nR : Nat)) = true := decide_eq_true (by omega)
      have i1 : (0 : Int) ≤ (j : Nat) := by omega
      have i2 : (j : Int) < (nR : Nat) := by omega
      obtain ⟨g, rfl, e0⟩ := unhide HH _ _ _ j hjn hL
      have hrj := unhide HR j
      cases ho : M.roots.getD j none with
      | none =>
        rw [ho] at e0 hrj
        have e0' : wr.cell? ⟨g, j, none⟩ = some (.int .i64 (-1)) := e0
        have hL' : Hid (LkS w0 px M (rootsW M (j + 1)) wr) := by rw [hrj]; exact hL
        clear e0 hrj ho hL
        go_wp2_with fail
        all_goals go_roundw
        all_goals first | exact ⟨j + 1, by simp, by omega, hL'⟩ | (simp [intOf]; omega)
      | some r =>
        rw [ho] at e0 hrj
        have e0' : wr.cell? ⟨g, j, none⟩ = some (.int .i64 (r : Nat)) := e0
        have d0 : decide ((r : Int) < 0) = false := decide_eq_false (by omega)
        have h28 := hide (unhide H28 px _ wr j r hjn ho hL)
        have h36 := hide (fun W hW => unhide H36 px (rootsW M j) W j r hjn ho hW)
        have hH := hide (fun W hW => unhide HH px (rootsW M j) W j hjn hW)
        have HJ := hide hrj
        rw [ho] at hH
        clear e0 hrj hL ho
        go_wp2_with fail
        refine (unhide h28).mono ?_
        rintro e w3 ⟨rfl, hL3⟩
        obtain ⟨c0, c2⟩ := unhide HC _ _ _ hL3
        obtain ⟨g', eg, e0⟩ := unhide hH _ hL3
        cases eg
        have e0' : w3.cell? ⟨g, j, none⟩ = some (.int .i64 (r : Nat)) := e0
        clear e0 h28
        go_wp2_with fail
        refine (unhide h36 _ hL3).mono ?_
        rintro e w4 ⟨rfl, hL4⟩
        clear h36 c0 c2 e0' hL3
        rw [← unhide HJ] at hL4
        go_wp2_with fail
        all_goals go_roundw
        all_goals first | exact ⟨j + 1, by simp, by omega, hL4⟩ | (simp [intOf]; omega)
    · have hje : j = nR := by omega
      subst hje
      have dl : decide ((j : Int) < (j : Nat)) = false := decide_eq_false (by omega)
      go_wp2_with fail
      clear dl c0 c2 HH H28 H36 HR w1
      rename World => wo
      go_loopw [8, 9] (fun av bv wr => ∃ t : St, av = .int .i64 (t.a : Nat) ∧ bv = .int .i64 (t.b : Nat) ∧ Hid (Star M (stR M j) t ∧ Cl M t) ∧ Hid (LkS w0 px M t.k wr)) (fun av bv _ => M.small.length + M.slots.length - ((intOf av).toNat + (intOf bv).toNat))
      case atStart => exact ⟨stR M j, rfl, rfl, hide ⟨Star.refl _, cl_start M j⟩, hL⟩
      case round =>
        clear hL
        obtain ⟨⟨k, a, b⟩, rfl, rfl, hS, hL⟩ := hrel
        dsimp only at hL
        obtain ⟨⟨l1, l2⟩, aS, cS, aB, cB, c0, c1, hs, hb⟩ := unhide HX _ _ _ hL
        obtain ⟨hst, hcl⟩ := unhide hS
        have hca := hcl.1
        have hcb := hcl.2.1
        dsimp only at hca hcb
        by_cases hA : a < k.cop.length
        · obtain ⟨g, rfl, e0⟩ := hs a hA
          have hmem := getD_mem0 hA
          have dA : decide ((a : Int) < (k.cop.length : Nat)) = true := decide_eq_true (by omega)
          have i1 : (0 : Int) ≤ (a : Nat) := by omega
          have i2 : (a : Int) < (k.cop.length : Nat) := by omega
          have w1 : IntKind.i64.wrap ((a : Int) + 1) = (a : Int) + 1 := wrap_small _ (by omega) (by omega)
          obtain ⟨r, hr⟩ : ∃ r, k.cop.getD a 0 = r := ⟨_, rfl⟩
          rw [hr] at e0 hmem
          have h37 := hide (unhide H37 px k wr r (.inl hmem) hL)
          have h38 := hide (fun W hW => unhide H38 px k W r (.inl hmem) hW)
          have hr0 := unhide HP px k wr r (.inl hmem) hL
          have d0 : ((r : Int) == 0) = false := by simp; omega
          have d0' : ((r : Int) = 0) = False := by simp; omega
          have hstep : stepW M ⟨k, a, b⟩ = some ⟨lookW M k r, a + 1, b⟩ := by unfold stepW; rw [if_pos hA, hr]
          have HN : Hid (Star M (stR M j) ⟨lookW M k r, a + 1, b⟩ ∧ Cl M ⟨lookW M k r, a + 1, b⟩) := hide ⟨hst.more hstep, (hcl.step hstep).1⟩
          have HM : Hid (a < k.cop.length ∧ k.cop.length ≤ M.small.length ∧ k.lin.length ≤ M.slots.length ∧ a ≤ k.cop.length ∧ b ≤ k.lin.length) := hide ⟨hA, l1, l2, hca, hcb⟩
          clear hr hmem hr0 hstep hst hcl hs hb hS hL l1 l2
          go_wp2_with fail
          refine (unhide h37).mono ?_
          rintro e w3 ⟨rfl, hL3⟩
          clear h37 c0 c1 e0
          go_wp2_with fail
          refine (unhide h38 _ hL3).mono ?_
          rintro e w4 ⟨rfl, hL4⟩
          clear h38 hL3
          go_wp2_with fail
          all_goals go_roundw
          all_goals first | exact ⟨⟨lookW M k r, a + 1, b⟩, by simp, by simp, HN, hL4⟩ | (have := unhide HM; simp [intOf]; omega)
        · by_cases hB : b < k.lin.length
          · obtain ⟨g, rfl, e0⟩ := hb b hB
            have hmem := getD_mem0 hB
            have dA : decide ((a : Int) < (k.cop.length : Nat)) = false := decide_eq_false (by omega)
            have dB : decide ((b : Int) < (k.lin.length : Nat)) = true := decide_eq_true (by omega)
            have i1 : (0 : Int) ≤ (b : Nat) := by omega
            have i2 : (b : Int) < (k.lin.length : Nat) := by omega
            have w1 : IntKind.i64.wrap ((b : Int) + 1) = (b : Int) + 1 := wrap_small _ (by omega) (by omega)
            obtain ⟨r, hr⟩ : ∃ r, k.lin.getD b 0 = r := ⟨_, rfl⟩
            rw [hr] at e0 hmem
            have h37 := hide (unhide H37 px k wr r (.inr hmem) hL)
            have h38 := hide (fun W hW => unhide H38 px k W r (.inr hmem) hW)
            have hr0 := unhide HP px k wr r (.inr hmem) hL
            have d0 : ((r : Int) == 0) = false := by simp; omega
            have d0' : ((r : Int) = 0) = False := by simp; omega
            have hstep : stepW M ⟨k, a, b⟩ = some ⟨lookW M k r, a, b + 1⟩ := by unfold stepW; rw [if_neg hA, if_pos hB, hr]
            have HN : Hid (Star M (stR M j) ⟨lookW M k r, a, b + 1⟩ ∧ Cl M ⟨lookW M k r, a, b + 1⟩) := hide ⟨hst.more hstep, (hcl.step hstep).1⟩
            have HM : Hid (b < k.lin.length ∧ k.cop.length ≤ M.small.length ∧ k.lin.length ≤ M.slots.length ∧ a ≤ k.cop.length ∧ b ≤ k.lin.length) := hide ⟨hB, l1, l2, hca, hcb⟩
            clear hr hmem hr0 hstep hst hcl hs hb hS hL l1 l2
            go_wp2_with fail
            refine (unhide h37).mono ?_
            rintro e w3 ⟨rfl, hL3⟩
            clear h37 c0 c1 e0
            go_wp2_with fail
            refine (unhide h38 _ hL3).mono ?_
            rintro e w4 ⟨rfl, hL4⟩
            clear h38 hL3
            go_wp2_with fail
            all_goals go_roundw
            all_goals first | exact ⟨⟨lookW M k r, a, b + 1⟩, by simp, by simp, HN, hL4⟩ | (have := unhide HM; simp [intOf]; omega)
          · have dA : decide ((a : Int) < (k.cop.length : Nat)) = false := decide_eq_false (by omega)
            have dB : decide ((b : Int) < (k.lin.length : Nat)) = false := decide_eq_false (by omega)
            have hno : stepW M ⟨k, a, b⟩ = none := by unfold stepW; rw [if_neg hA, if_neg hB]
            have HF := hide (⟨unhide hL, hst, hno⟩ : _ ∧ _ ∧ _)
            clear hs hb hst hcl hS hno hL
            go_wp2_with fail
            all_goals go_ret2
            all_goals exact ⟨px, ⟨k, a, b⟩, rfl, (unhide HF).1, (unhide HF).2.1, (unhide HF).2.2⟩
end Go.Proofs.YtidfllgaeiopjaaGreat
