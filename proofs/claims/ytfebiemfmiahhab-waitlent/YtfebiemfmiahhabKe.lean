/- The lines in memory, changed at one place. -/
import Derived.Test.YtfebiemfmiahhabKd
namespace Go.Proofs.Ytfebiemfmiahhab
open Go.ChangeShapes Go.WideShapes Go.ChangeAt Go.RowKit Go.Maps
set_option linter.unusedVariables false
set_option linter.unusedSimpArgs false
set_option maxRecDepth 100000
set_option maxHeartbeats 4000000
/-- no line's row -/
def No3 (w : World) (b : Nat) : Prop := ∀ cur, w.heap[b]? ≠ some (.cells cur 3 (0, 0))
/-- all blocks but b are as they were -/
structure KeptB (b : Nat) (w w' : World) : Prop where
  os : w'.os = w.os
  tape : w'.tape = w.tape
  output : w'.output = w.output
  size : w.heap.size ≤ w'.heap.size
  blk : ∀ i, i < w.heap.size → i ≠ b → w'.heap[i]? = w.heap[i]?
theorem KeptB.of {b : Nat} {w w' : World} (h : Below w.heap.size w w') : KeptB b w w' := ⟨h.os, h.tape, h.output, h.size, fun i hi _ => h.block i hi⟩
theorem KeptB.trans {b : Nat} {w w' w'' : World} (h : KeptB b w w') (k : KeptB b w' w'') : KeptB b w w'' :=
  ⟨k.os.trans h.os, k.tape.trans h.tape, k.output.trans h.output, Nat.le_trans h.size k.size, fun i hi hne => (k.blk i (Nat.lt_of_lt_of_le hi h.size) hne).trans (h.blk i hi hne)⟩
theorem KeptB.turned {b : Nat} {w w' : World} (h : w.mapTurned w' b) : KeptB b w w' ∧ w'.heap.size = w.heap.size := by
  obtain ⟨es, clock, es', clock', hb, rfl⟩ := h
  exact ⟨⟨rfl, rfl, rfl, by simp [ChangeMaps.setBlock], fun i hi hne => ChangeMaps.heap_setBlock_other hb _ hne⟩, by simp [ChangeMaps.setBlock]⟩
theorem KeptB.set (w : World) (b j : Nat) (v : Value) : KeptB b w (w.setCell ⟨b, j, none⟩ v) := ⟨rfl, rfl, rfl, by simp, fun i _ hne => heap_setCell_other w ⟨b, j, none⟩ i v hne⟩
theorem Lines.keep {O O' : Nat → Prop} {w w' : World} {bl n b : Nat} {L : Pl → List Nat} (h : Lines O w bl n L) (k : KeptB b w w') (hb : b ≠ bl) (h3 : No3 w b) (hs : ∀ x, O x → O' x) : Lines O' w' bl n L := by
  obtain ⟨G, h1, h2, h4⟩ := h.ex
  refine ⟨G, h1.same (k.blk bl h1.lt hb.symm), fun p hp => ⟨(h2 p hp).1, fun hne => ?_⟩, h4⟩
  obtain ⟨v, g, e, og, hl⟩ := (h2 p hp).2 hne
  obtain ⟨cur, hc⟩ := hl.blk
  exact ⟨v, g, e, hs g og, hl.same (k.blk g (blk_lt hc) (fun e2 => h3 cur (e2 ▸ hc)))⟩
theorem Lines.mono {O : Nat → Prop} {w : World} {bl n n' : Nat} {L : Pl → List Nat} (h : Lines O w bl n L) (hn : n ≤ n') : Lines O w bl n' L := by
  obtain ⟨G, ⟨D, h1, h1'⟩, h2, h4⟩ := h.ex
  exact ⟨G, ⟨D, h1.mono hn, h1'⟩, h2, h4⟩
theorem Lines.eq {O : Nat → Prop} {w : World} {bl n : Nat} {L L' : Pl → List Nat} (h : Lines O w bl n L) (he : ∀ p, POk p → L' p = L p) : Lines O w bl n L' := by
  obtain ⟨G, h1, h2, h4⟩ := h.ex
  exact ⟨G, h1, fun p hp => by rw [he p hp]; exact h2 p hp, h4⟩
theorem info3 : (Try.prog.info? 3).map (fun i => (i.zero, i.size, i.bytes)) = some (some (.int .i64 0), 1, 8) := by kernel_rfl
theorem zero32 (w : World) : (zeroValue 51).run Try.prog w = .ok (.slice none 0 0) w := Try.zeroValue51 w
def updL (L : Pl → List Nat) (p : Pl) (l : List Nat) : Pl → List Nat := fun q => if q = p then l else L q
/-- what a change at one place leaves -/
structure Chg (w w' : World) (bl : Nat) : Prop where
  os : w'.os = w.os
  tape : w'.tape = w.tape
  output : w'.output = w.output
  size : w.heap.size ≤ w'.heap.size
  blk : ∀ i, i < w.heap.size → i ≠ bl → No3 w i → w'.heap[i]? = w.heap[i]?
/-- .. and of what is not ours nothing -/
def Own (O : Nat → Prop) (w w' : World) : Prop := ∀ i, i < w.heap.size → ¬ O i → w'.heap[i]? = w.heap[i]?
def ext (O : Nat → Prop) (w w' : World) (b : Nat) : Prop := O b ∨ (w.heap.size ≤ b ∧ b < w'.heap.size)
theorem LineAt.owns {w : World} {v : Value} {g : Nat} {l : List Nat} (h : LineAt w v g l) : w.ownsRow 0 3 1 v l.length (l.map (fun c => Value.int .i64 (c : Nat))) ∧ v.ownBlock = some g := by
  obtain ⟨cap, cur, rfl, h2, h3, h4, h5, h6⟩ := h.ex
  refine ⟨⟨by simp, .inr ⟨g, cap, cur, rfl, Nat.zero_le _, h2, h3, h5, by omega, ?_⟩⟩, rfl⟩
  apply List.ext_getElem?
  intro i
  by_cases hi : i < l.length
  · have hx : l[i]? = some l[i] := List.getElem?_eq_getElem hi
    rw [List.getElem?_take_of_lt (by omega), List.getElem?_map, hx, Array.getElem?_toList]
    simpa using h6 i _ hx
  · rw [List.getElem?_eq_none (by rw [List.length_take]; omega), List.getElem?_eq_none (by simp; omega)]
theorem LineAt.of {w : World} {v : Value} {g : Nat} {l : List Nat} (h : w.ownsRow 0 3 1 v l.length (l.map (fun c => Value.int .i64 (c : Nat)))) (hg : v.ownBlock = some g) : LineAt w v g l := by
  obtain ⟨h0, h⟩ := h
  rcases h with ⟨rfl, -⟩ | ⟨g', cap, cur, rfl, -, h2, h3, h5, h6, h7⟩
  · cases hg
  · obtain rfl : g' = g := by simpa [Value.ownBlock] using hg
    refine ⟨cap, cur, rfl, h2, h3, by omega, h5, fun i c hc => ?_⟩
    have hi : i < l.length := (List.getElem?_eq_some_iff.1 hc).1
    have := congrArg (fun z => z[i]?) h7
    simp only [List.getElem?_map, hc] at this
    rw [List.getElem?_take_of_lt (by omega)] at this
    rw [Array.getElem?_toList] at this
    simpa using this
/-- one more in line at a place -/
theorem Lines.add {O : Nat → Prop} {w : World} {bl n : Nat} {L : Pl → List Nat} (h : Lines O w bl n L) {p : Pl} (hp : POk p) (hn : n < maxLen) (hlen : (L p).length ≤ 1000) (c : Nat) (hlt : ∀ b, O b → b < w.heap.size) (hol : O bl) :
    ∃ v0 st w1, (Instr.mapEntry 64 (.map (some bl)) (plV p)).run Try.prog w = .ok (.tuple #[v0, goInt st]) w1 ∧ (KeptB bl w w1 ∧ w1.heap.size = w.heap.size) ∧
      ∀ w2 ad cc ty, Below w1.heap.size w1 w2 → w2.cell? ad = some (.int .i64 (c : Nat)) → ∃ v3 w3 w4, (Builtin.append_ #[51, 51] ty #[v0, .slice (some ad) 1 cc]).run Try.prog w2 = .ok v3 w3 ∧ (Instr.entryStore 64 (.map (some bl)) (goInt st) v3).run Try.prog w3 = .ok () w4 ∧
        Lines (ext O w w4) w4 bl (n + 1) (updL L p (L p ++ [c])) ∧ Chg w w4 bl ∧ Own O w w4 := by
  obtain ⟨G, h1, h2, h3⟩ := h.ex
  obtain ⟨st, w1, hr, ht, hst⟩ := h1.entry klawP (t := 64) (e := 51) Try.underlying64 (fun u => zero32 u) hn (x := p) hp
  obtain ⟨k1, s1⟩ := KeptB.turned ht
  refine ⟨_, st, w1, hr, ⟨k1, s1⟩, fun w2 ad cc ty hb hcell => ?_⟩
  obtain ⟨i0, hi0, hzz⟩ := Option.map_eq_some_iff.1 info3
  simp only [Prod.mk.injEq] at hzz
  obtain ⟨hz0, hz1, hz2⟩ := hzz
  -- what is in line so far, in the world w2
  have hold : ∃ v0, ((G p).map (·.1)).getD (.slice none 0 0) = v0 ∧ w2.ownsRow 0 3 1 v0 (L p).length ((L p).map (fun c => Value.int .i64 (c : Nat))) ∧ (L p = [] ∧ v0 = .slice none 0 0 ∨ L p ≠ [] ∧ ∃ v g, G p = some (v, g) ∧ v0 = v ∧ O g ∧ g < w.heap.size ∧ v0.ownBlock = some g ∧ LineAt w v g (L p)) := by
    by_cases hne : L p = []
    · rw [(h2 p hp).1 hne, hne]
      exact ⟨_, rfl, World.ownsRow_nil _ _ _ _, .inl ⟨rfl, rfl⟩⟩
    · obtain ⟨v, g, e, og, hl⟩ := (h2 p hp).2 hne
      rw [e]
      obtain ⟨cur, hc⟩ := hl.blk
      have hg := blk_lt hc
      have hgb : g ≠ bl := by
        intro e2
        obtain ⟨es, clock, hm⟩ := h1.blk
        rw [e2, hm] at hc
        cases hc
      have hl2 : LineAt w2 v g (L p) := hl.same ((hb.block g (by omega)).trans (k1.blk g hg hgb))
      exact ⟨v, rfl, hl2.owns.1, .inr ⟨hne, v, g, rfl, rfl, og, hg, hl.owns.2, hl⟩⟩
  obtain ⟨v0, hv0, hown, hcase⟩ := hold
  rw [hv0]
  have hsz2 : w.heap.size ≤ w2.heap.size := by have := hb.size; omega
  obtain ⟨v3, w3, ha, ho3, hg3, hnil3, hat3⟩ := run_append_own_at (P := Try.prog) w2 0 51 ty 3 i0 _ 1 8 Try.underlying51 hi0 hz0 hz1 hz2 rfl (by decide) v0 _ _ hown ad 1 cc [.int .i64 (c : Nat)] rfl (fun j u hj => by
    match j, hj with
    | 0, hj =>
      simp at hj
      subst hj
      simpa [Addr.add] using hcell) (by simp [Value.oneCell']) (by unfold maxLen; omega) (by omega) (Nat.zero_le _)
  have hbl : bl < w.heap.size := h1.lt
  have hrow : v0.ownBlock ≠ some bl := by
    rcases hcase with ⟨-, e⟩ | ⟨-, v, g, -, rfl, -, -, eb, hl⟩
    · rw [e]; simp [Value.ownBlock]
    · rw [eb]
      intro e2
      obtain rfl : g = bl := by injection e2
      obtain ⟨cur, hc⟩ := hl.blk
      obtain ⟨es, clock, hm⟩ := h1.blk
      rw [hm] at hc
      cases hc
  have hw3 : w3.heap[bl]? = w1.heap[bl]? := (hg3.block bl (by omega) (fun e => hrow e.symm)).trans (hb.block bl (by omega))
  obtain ⟨w4, hs4, hm4, ht4⟩ := hst w3 v3 hw3
  obtain ⟨k4, s4⟩ := KeptB.turned ht4
  refine ⟨v3, w3, w4, ha, hs4, ?_, ?_, ?_⟩
  · -- the lines
    have hv3g : ∃ g3, v3.ownBlock = some g3 := by
      obtain ⟨-, h0 | ⟨g', cap, cur, rfl, -⟩⟩ := ho3
      · exact absurd h0.2 (by simp)
      · exact ⟨g', rfl⟩
    obtain ⟨g3, hg3o⟩ := hv3g
    have hl3 : LineAt w3 v3 g3 (L p ++ [c]) := LineAt.of (by simpa using ho3) hg3o
    obtain ⟨cur3, hc3⟩ := hl3.blk
    have hg3b : g3 ≠ bl := by
      intro e2
      obtain ⟨es, clock, hm⟩ := h1.blk
      rw [e2, hw3] at hc3
      obtain ⟨es1, cl1, es1', cl1', hm1, rfl⟩ := ht
      rw [ChangeMaps.heap_setBlock_same hm1] at hc3
      cases hc3
    have hl4 : LineAt w4 v3 g3 (L p ++ [c]) := hl3.same (k4.blk g3 (blk_lt hc3) hg3b)
    -- where the new row lies
    have hwhere : (w.heap.size ≤ g3 ∧ g3 < w4.heap.size) ∨ ∃ v g, G p = some (v, g) ∧ O g ∧ g3 = g := by
      rcases hat3 with e | e
      · rw [hg3o] at e
        rcases hcase with ⟨-, e0⟩ | ⟨-, v, g, eG, rfl, og, -, eb, -⟩
        · rw [e0] at e; cases e
        · rw [eb] at e
          exact .inr ⟨_, g, eG, og, by injection e⟩
      · rw [hg3o] at e
        obtain rfl : g3 = w2.heap.size := by injection e
        exact .inl ⟨hsz2, by have := blk_lt hc3; omega⟩
    have hO3 : ext O w w4 g3 := by
      rcases hwhere with h | ⟨v, g, -, og, rfl⟩
      · exact .inr h
      · exact .inl og
    refine ⟨fun q => if q = p then some (v3, g3) else G q, ?_, fun q hq => ?_, fun q q' v v' g hq hq' e1 e2 => ?_⟩
    · have : (fun q => ((fun q => if q = p then some (v3, g3) else G q) q).map (·.1)) = upd (fun p => (G p).map (·.1)) p (some v3) := by
        funext q
        unfold upd
        by_cases e : q = p
        · simp [e]
        · simp [e]
      rw [this]
      obtain ⟨D, d1, d2⟩ := hm4.ex
      exact ⟨D, d1.mono (by split <;> omega), d2⟩
    · unfold updL
      by_cases e : q = p
      · simp only [if_pos e]
        exact ⟨fun h => absurd h (by simp), fun _ => ⟨v3, g3, rfl, hO3, hl4⟩⟩
      · simp only [if_neg e]
        refine ⟨(h2 q hq).1, fun hne => ?_⟩
        obtain ⟨v, g, eG, og, hl⟩ := (h2 q hq).2 hne
        obtain ⟨cur, hc⟩ := hl.blk
        have hg := blk_lt hc
        have hgb : g ≠ bl := by
          intro e2
          obtain ⟨es, clock, hm⟩ := h1.blk
          rw [e2, hm] at hc
          cases hc
        have hgr : v0.ownBlock ≠ some g := by
          rcases hcase with ⟨-, e0⟩ | ⟨-, v', g', eG', rfl, -, -, eb, -⟩
          · rw [e0]; simp [Value.ownBlock]
          · rw [eb]
            intro e2
            obtain rfl : g' = g := by injection e2
            exact e (h3 q p v _ g' hq hp eG eG')
        refine ⟨v, g, eG, .inl og, hl.same ?_⟩
        have hg3l : g < w3.heap.size := by have := hg3.size; omega
        exact (k4.blk g hg3l hgb).trans ((hg3.block g (by omega) (fun e2 => hgr e2.symm)).trans ((hb.block g (by omega)).trans (k1.blk g hg hgb)))
    · have hcross : ∀ x, x ≠ p → POk x → ∀ u, G x ≠ some (u, g3) := by
        intro x hxp hx u eG
        rcases hwhere with h | ⟨v', g', eG', -, rfl⟩
        · have hneL : L x ≠ [] := fun e0 => by rw [(h2 x hx).1 e0] at eG; cases eG
          obtain ⟨v2, g2, eG2, og2, -⟩ := (h2 x hx).2 hneL
          rw [eG2] at eG
          cases eG
          have := hlt g3 og2
          omega
        · exact hxp (h3 x p u v' _ hx hp eG eG')
      by_cases e : q = p
      · by_cases e' : q' = p
        · rw [e, e']
        · simp only [if_pos e] at e1
          simp only [if_neg e'] at e2
          cases e1
          exact absurd e2 (hcross q' e' hq' v')
      · by_cases e' : q' = p
        · simp only [if_neg e] at e1
          simp only [if_pos e'] at e2
          cases e2
          exact absurd e1 (hcross q e hq v)
        · simp only [if_neg e] at e1
          simp only [if_neg e'] at e2
          exact h3 q q' v v' g hq hq' e1 e2
  · refine ⟨k4.os.trans (hg3.os.trans (hb.os.trans k1.os)), k4.tape.trans (hg3.tape.trans (hb.tape.trans k1.tape)), k4.output.trans (hg3.output.trans (hb.output.trans k1.output)), by have := hg3.size; omega, fun i hi hib h3i => ?_⟩
    have hir : v0.ownBlock ≠ some i := by
      rcases hcase with ⟨-, e0⟩ | ⟨-, v', g', eG', rfl, -, -, eb, hl⟩
      · rw [e0]; simp [Value.ownBlock]
      · rw [eb]
        intro e2
        obtain rfl : g' = i := by injection e2
        obtain ⟨cur, hc⟩ := hl.blk
        exact h3i cur hc
    have hi3 : i < w3.heap.size := by have := hg3.size; omega
    exact (k4.blk i hi3 hib).trans ((hg3.block i (by omega) (fun e2 => hir e2.symm)).trans ((hb.block i (by omega)).trans (k1.blk i hi hib)))
  · intro i hi hno
    have hib : i ≠ bl := fun e => hno (e ▸ hol)
    have hir : v0.ownBlock ≠ some i := by
      rcases hcase with ⟨-, e0⟩ | ⟨-, v', g', eG', rfl, og, -, eb, hl⟩
      · rw [e0]; simp [Value.ownBlock]
      · rw [eb]
        intro e2
        obtain rfl : g' = i := by injection e2
        exact hno og
    have hi3 : i < w3.heap.size := by have := hg3.size; omega
    exact (k4.blk i hi3 hib).trans ((hg3.block i (by omega) (fun e2 => hir e2.symm)).trans ((hb.block i (by omega)).trans (k1.blk i hi hib)))
end Go.Proofs.Ytfebiemfmiahhab
