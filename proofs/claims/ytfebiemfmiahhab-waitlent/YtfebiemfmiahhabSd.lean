/- WaitLent: lentHeld: copies of the document's answers; the rows take up the lists. -/
import Derived.Test.YtfebiemfmiahhabSc
namespace Go.Proofs.Ytfebiemfmiahhab
open Go.ChangeShapes Go.WideShapes Go.ChangeAt Go.RowKit Go.Maps
set_option linter.unusedVariables false
set_option linter.unusedSimpArgs false
set_option maxRecDepth 100000
set_option maxHeartbeats 8000000
theorem cI_one (l : List Nat) : ∀ v ∈ cI l, v.oneCell' = true := fun v hv => by
  obtain ⟨y, -, rfl⟩ := List.mem_map.1 hv
  rfl
section
variable {w0 W W' : World} {X : Nat → Nat} {ps p r T : Nat} {E F : List En} {D : LD} {C : HC} {g k c bo t j : Nat} {o : Ol}
theorem Hq.ch15 (h : Hq k w0 W X ps p r T E F C t bo o) (hc : Ch X 15 W W') : Hq k w0 W' (upc X W W' 15) ps p r T E F C t bo o := ⟨h.lt.ch9 hc (by omega), h.hs.ch hc (by omega), h.tt, h.rp, h.rn, h.du⟩
/-- an append to a list of colour 15 -/
theorem Hq.into (h : Hq k w0 W X ps p r T E F C t bo o) {e : TypeId} {s m n : Nat} {f : Nat → Value} {v : Value} (hx : X g = 15) (hl : g < W.heap.size) (hr : Rws W' e s v (0 + n) f) (hg : Ga e (0 * s) m W W' (.slice (some ⟨g, 0, none⟩) 0 0) v) : ∃ X' g' c', v = .slice (some ⟨g', 0, none⟩) n c' ∧ Hq k w0 W' X' ps p r T E F C t bo o ∧ X' g' = 15 ∧ g' < W'.heap.size := by
  rw [Nat.zero_add] at hr
  rcases hg with ⟨rfl, rfl⟩ | hg
  · obtain ⟨a', c', e⟩ := hr.shape
    simp only [Value.slice.injEq] at e
    obtain ⟨e1, e2, e3⟩ := e
    exact ⟨X, g, 0, by rw [← e2], h, hx, hl⟩
  · have hc : Ch X 15 W W' := gr_ch hg (fun b hb => by cases hb; exact hx)
    have hown := gr_own (k := 15) h.lt.ls (by omega) hg (fun b hb => by cases hb; exact hx)
    rcases hr with ⟨e, e0⟩ | ⟨b, cap, cur, e, hb, hn, hm, hs, hf⟩
    · rw [e] at hg
      rcases hg.how with ⟨g', cur, cur', k1, k2, -⟩ | ⟨k2, k3, -⟩
      · cases k2
      · cases k2
    · subst e
      exact ⟨_, b, cap, rfl, h.ch15 hc, hown b rfl, blk_lt'' hb⟩
theorem HzP.src {a : Option Addr} {n : Nat} {l : List Pl} (h : HzP k w0 W ps p r C t bo o g a n l) : Rws W 46 2 (.slice (some ⟨g, 0, none⟩) 0 0) 0 (fun _ => undef) ∧ (cP l).length = n * 2 ∧ (a = none → n = 0) ∧ (∀ ad, a = some ad → ∀ (j : Nat) (x : Value), (cP l)[j]? = some x → W.cell? (ad.add j) = some x) ∧ n ≤ 64 := by
  obtain ⟨X, T, E, F, q, b, c, d, e, f, f2⟩ := h
  refine ⟨.inr ⟨g, 0, _, rfl, c, Nat.le_refl _, by simp only [maxLen]; omega, by simp, fun j hj => by omega⟩, by rw [flatP_len, f], fun ha => ?_, fun ad ha j x hj => ?_, f2⟩
  · rcases e with e | ⟨b, off, e, -⟩
    · rw [f, e]; rfl
    · rw [ha] at e; cases e
  · rcases e with e | ⟨b, off, e, hlt, hc⟩
    · rw [e] at hj; simp at hj
    · rw [ha] at e; cases e
      exact PlsAt.cells hc j x hj
theorem HzN.src {a : Option Addr} {n : Nat} {l : List Nat} (h : HzN k w0 W ps p r C t bo o g a n l) : Rws W 3 1 (.slice (some ⟨g, 0, none⟩) 0 0) 0 (fun _ => undef) ∧ (cI l).length = n * 1 ∧ (a = none → n = 0) ∧ (∀ ad, a = some ad → ∀ (j : Nat) (x : Value), (cI l)[j]? = some x → W.cell? (ad.add j) = some x) ∧ n ≤ 64 := by
  obtain ⟨X, T, E, F, q, b, c, d, d2, e, f, f2⟩ := h
  refine ⟨.inr ⟨g, 0, _, rfl, c, Nat.le_refl _, by simp only [maxLen]; omega, by simp, fun j hj => by omega⟩, by rw [List.length_map, f, Nat.mul_one], fun ha => ?_, fun ad ha j x hj => ?_, f2⟩
  · rcases e with e | ⟨b, off, e, -⟩
    · rw [f, e]; rfl
    · rw [ha] at e; cases e
  · rcases e with e | ⟨b, off, e, hlt, hc⟩
    · rw [e] at hj; simp at hj
    · rw [ha] at e; cases e
      have hadd : (⟨b, off, none⟩ : Addr).add j = ⟨b, off + j, none⟩ := by unfold Addr.add; split <;> simp_all
      rw [hadd]
      rw [List.getElem?_map] at hj
      cases hq : l[j]? with
      | none => rw [hq] at hj; cases hj
      | some y =>
        rw [hq] at hj
        cases hj
        exact hc j y hq
theorem HzP.copied {a : Option Addr} {n : Nat} {l : List Pl} (h : HzP 1 w0 W ps p r C t bo o g a n l) {v : Value} (hr : Rws W' 46 2 v (0 + n) (fun k => if k < 0 * 2 then undef else (cP l).getD (k - 0 * 2) undef)) (hg : Ga 46 (0 * 2) (cP l).length W W' (.slice (some ⟨g, 0, none⟩) 0 0) v) : ∃ g' c', v = .slice (some ⟨g', 0, none⟩) n c' ∧ Hx 0 w0 W' ps p r { C with Wd := C.Wd ++ [⟨.slice (some ⟨g', 0, none⟩) n c', n, cP l⟩] } t bo o := by
  obtain ⟨X, T, E, F, q, b, c, d, e, f, f2⟩ := h
  obtain ⟨X', g', c', rfl, q', x', l'⟩ := q.into b (blk_lt'' c) hr hg
  have hr' : Rws W' 46 2 (.slice (some ⟨g', 0, none⟩) n c') n (fun k => (cP l).getD k undef) := by
    rw [Nat.zero_add] at hr
    exact hr.congr fun j hj => by simp
  have hge := (q'.lt.ls.lt g' (by omega)).2
  refine ⟨g', c', rfl, _, T, E, F, q'.lt.pn (k := 9) (.inr (by omega)) ⟨l', hge⟩, q'.hs.addW (by omega) hr' f f2, q'.tt, ?_, ?_, fun z => by omega⟩
  · have := q'.rp
    simp [RelP] at this
    simp [RelP, this, d]
  · have := q'.rn
    simp [RelN] at this
    simp [RelN, this]
theorem HzN.copied3 {a : Option Addr} {n : Nat} {l : List Nat} (h : HzN 3 w0 W ps p r C t bo o g a n l) {v : Value} (hr : Rws W' 3 1 v (0 + n) (fun k => if k < 0 * 1 then undef else (cI l).getD (k - 0 * 1) undef)) (hg : Ga 3 (0 * 1) (cI l).length W W' (.slice (some ⟨g, 0, none⟩) 0 0) v) : ∃ g' c', v = .slice (some ⟨g', 0, none⟩) n c' ∧ Hx 4 w0 W' ps p r { C with Dd := C.Dd ++ [⟨.slice (some ⟨g', 0, none⟩) n c', n, cI l⟩] } t bo o := by
  obtain ⟨X, T, E, F, q, b, c, d, d2, e, f, f2⟩ := h
  obtain ⟨X', g', c', rfl, q', x', l'⟩ := q.into b (blk_lt'' c) hr hg
  have hr' : Rws W' 3 1 (.slice (some ⟨g', 0, none⟩) n c') n (fun k => (cI l).getD k undef) := by
    rw [Nat.zero_add] at hr
    exact hr.congr fun j hj => by simp
  have hge := (q'.lt.ls.lt g' (by omega)).2
  have hd := d rfl
  refine ⟨g', c', rfl, _, T, E, F, q'.lt.pn (k := 9) (.inr (by omega)) ⟨l', hge⟩, q'.hs.addD (by omega) hr' f f2, q'.tt, ?_, ?_, fun z => by omega⟩
  · have := q'.rp
    simp [RelP] at this
    simp [RelP, this]
  · have := q'.rn
    simp [RelN] at this
    simp [RelN, this, ← hd]
theorem HzN.copied4 {a : Option Addr} {n : Nat} {l : List Nat} (h : HzN 4 w0 W ps p r C t bo o g a n l) {v : Value} (hr : Rws W' 3 1 v (0 + n) (fun k => if k < 0 * 1 then undef else (cI l).getD (k - 0 * 1) undef)) (hg : Ga 3 (0 * 1) (cI l).length W W' (.slice (some ⟨g, 0, none⟩) 0 0) v) : ∃ g' c', v = .slice (some ⟨g', 0, none⟩) n c' ∧ Hx 0 w0 W' ps p r { C with Dd := C.Dd ++ [⟨.slice (some ⟨g', 0, none⟩) n c', n, cI l⟩] } t bo o := by
  obtain ⟨X, T, E, F, q, b, c, d, d2, e, f, f2⟩ := h
  obtain ⟨X', g', c', rfl, q', x', l'⟩ := q.into b (blk_lt'' c) hr hg
  have hr' : Rws W' 3 1 (.slice (some ⟨g', 0, none⟩) n c') n (fun k => (cI l).getD k undef) := by
    rw [Nat.zero_add] at hr
    exact hr.congr fun j hj => by simp
  have hge := (q'.lt.ls.lt g' (by omega)).2
  have hd := d2 rfl
  refine ⟨g', c', rfl, _, T, E, F, q'.lt.pn (k := 9) (.inr (by omega)) ⟨l', hge⟩, q'.hs.addD (by omega) hr' f f2, q'.tt, ?_, ?_, fun z => by omega⟩
  · have := q'.rp
    simp [RelP] at this
    simp [RelP, this]
  · have := q'.rn
    simp [RelN] at this
    simp [RelN, this, ← hd]
theorem news_at {L M : List LV} {n : Nat} (hn : n = L.length) : ∀ j, j < M.length → (M.map (·.v)).getD j undef = ((L ++ M).getD (n + j) lv0).v := fun j hj => by
  subst hn
  rw [List.getD_eq_getElem?_getD, List.getD_eq_getElem?_getD, List.getElem?_append_right (by omega), List.getElem?_map, show L.length + j - L.length = j by omega, List.getElem?_eq_getElem hj]
  rfl
theorem hx_apph {L M : List LV} (h : Hx k w0 W ps p r { C with H := L ++ M } t bo o) (hn : C.hn = L.length) : Rws W 38 1 (.slice C.ha C.hn C.hc) C.hn (fun j => ((L ++ M).getD j lv0).v) ∧ ∀ v W', Rws W' 38 1 v (C.hn + M.length) (fun j => if j < C.hn * 1 then ((L ++ M).getD j lv0).v else (M.map (·.v)).getD (j - C.hn * 1) undef) → Gr 38 (C.hn * 1) (M.map (·.v)).length W W' (.slice C.ha C.hn C.hc) v → ∃ a' c', v = .slice a' (C.hn + M.length) c' ∧ Hx k w0 W' ps p r { C with H := L ++ M, ha := a', hn := C.hn + M.length, hc := c' } t bo o := by
  obtain ⟨X, T, E, F, q⟩ := h
  refine ⟨q.hs.h.row, fun v W' hr hg => ?_⟩
  obtain ⟨a', c', rfl, hR, hc⟩ := q.hs.h.grow (by omega) (by omega) (q := M.length) (by rw [List.length_append, ← hn]; exact Nat.le_refl _) (news_at hn) hr hg
  have hz := q.hs
  refine ⟨a', c', rfl, _, T, E, F, q.lt.ch9 hc (by omega), ⟨hR, hz.w.ch hc (by omega) (by omega), hz.n.ch hc (by omega) (by omega), hz.d.ch hc (by omega) (by omega), hz.l.same fun g hg => hc.block g (hz.l.lt g hg) (by have := hz.xl g hg; omega), fun g hg => by rw [upc_old (hz.l.lt g hg)]; exact hz.xl g hg, hz.hp, hz.np⟩, q.tt, q.rp, q.rn, q.du⟩
theorem hx_appw {L M : List LV} (h : Hx k w0 W ps p r { C with Wd := L ++ M } t bo o) (hn : C.wn = L.length) : Rws W 38 1 (.slice C.wa C.wn C.wc) C.wn (fun j => ((L ++ M).getD j lv0).v) ∧ ∀ v W', Rws W' 38 1 v (C.wn + M.length) (fun j => if j < C.wn * 1 then ((L ++ M).getD j lv0).v else (M.map (·.v)).getD (j - C.wn * 1) undef) → Gr 38 (C.wn * 1) (M.map (·.v)).length W W' (.slice C.wa C.wn C.wc) v → ∃ a' c', v = .slice a' (C.wn + M.length) c' ∧ Hx k w0 W' ps p r { C with Wd := L ++ M, wa := a', wn := C.wn + M.length, wc := c' } t bo o := by
  obtain ⟨X, T, E, F, q⟩ := h
  refine ⟨q.hs.w.row, fun v W' hr hg => ?_⟩
  obtain ⟨a', c', rfl, hR, hc⟩ := q.hs.w.grow (by omega) (by omega) (q := M.length) (by rw [List.length_append, ← hn]; exact Nat.le_refl _) (news_at hn) hr hg
  have hz := q.hs
  refine ⟨a', c', rfl, _, T, E, F, q.lt.ch9 hc (by omega), ⟨hz.h.ch hc (by omega) (by omega), hR, hz.n.ch hc (by omega) (by omega), hz.d.ch hc (by omega) (by omega), hz.l.same fun g hg => hc.block g (hz.l.lt g hg) (by have := hz.xl g hg; omega), fun g hg => by rw [upc_old (hz.l.lt g hg)]; exact hz.xl g hg, hz.hp, hz.np⟩, q.tt, q.rp, q.rn, q.du⟩
theorem hx_appn {L M : List LV} (h : Hx k w0 W ps p r { C with N := L ++ M } t bo o) (hn : C.nn = L.length) : Rws W 51 1 (.slice C.na C.nn C.nc) C.nn (fun j => ((L ++ M).getD j lv0).v) ∧ ∀ v W', Rws W' 51 1 v (C.nn + M.length) (fun j => if j < C.nn * 1 then ((L ++ M).getD j lv0).v else (M.map (·.v)).getD (j - C.nn * 1) undef) → Gr 51 (C.nn * 1) (M.map (·.v)).length W W' (.slice C.na C.nn C.nc) v → ∃ a' c', v = .slice a' (C.nn + M.length) c' ∧ Hx k w0 W' ps p r { C with N := L ++ M, na := a', nn := C.nn + M.length, nc := c' } t bo o := by
  obtain ⟨X, T, E, F, q⟩ := h
  refine ⟨q.hs.n.row, fun v W' hr hg => ?_⟩
  obtain ⟨a', c', rfl, hR, hc⟩ := q.hs.n.grow (by omega) (by omega) (q := M.length) (by rw [List.length_append, ← hn]; exact Nat.le_refl _) (news_at hn) hr hg
  have hz := q.hs
  refine ⟨a', c', rfl, _, T, E, F, q.lt.ch9 hc (by omega), ⟨hz.h.ch hc (by omega) (by omega), hz.w.ch hc (by omega) (by omega), hR, hz.d.ch hc (by omega) (by omega), hz.l.same fun g hg => hc.block g (hz.l.lt g hg) (by have := hz.xl g hg; omega), fun g hg => by rw [upc_old (hz.l.lt g hg)]; exact hz.xl g hg, hz.hp, hz.np⟩, q.tt, q.rp, q.rn, q.du⟩
theorem hx_appd {L M : List LV} (h : Hx k w0 W ps p r { C with Dd := L ++ M } t bo o) (hn : C.dn = L.length) : Rws W 51 1 (.slice C.da C.dn C.dc) C.dn (fun j => ((L ++ M).getD j lv0).v) ∧ ∀ v W', Rws W' 51 1 v (C.dn + M.length) (fun j => if j < C.dn * 1 then ((L ++ M).getD j lv0).v else (M.map (·.v)).getD (j - C.dn * 1) undef) → Gr 51 (C.dn * 1) (M.map (·.v)).length W W' (.slice C.da C.dn C.dc) v → ∃ a' c', v = .slice a' (C.dn + M.length) c' ∧ Hx k w0 W' ps p r { C with Dd := L ++ M, da := a', dn := C.dn + M.length, dc := c' } t bo o := by
  obtain ⟨X, T, E, F, q⟩ := h
  refine ⟨q.hs.d.row, fun v W' hr hg => ?_⟩
  obtain ⟨a', c', rfl, hR, hc⟩ := q.hs.d.grow (by omega) (by omega) (q := M.length) (by rw [List.length_append, ← hn]; exact Nat.le_refl _) (news_at hn) hr hg
  have hz := q.hs
  refine ⟨a', c', rfl, _, T, E, F, q.lt.ch9 hc (by omega), ⟨hz.h.ch hc (by omega) (by omega), hz.w.ch hc (by omega) (by omega), hz.n.ch hc (by omega) (by omega), hR, hz.l.same fun g hg => hc.block g (hz.l.lt g hg) (by have := hz.xl g hg; omega), fun g hg => by rw [upc_old (hz.l.lt g hg)]; exact hz.xl g hg, hz.hp, hz.np⟩, q.tt, q.rp, q.rn, q.du⟩
end
end Go.Proofs.Ytfebiemfmiahhab
