/- The book with rows: marks of two bytes, what is kept. -/
import Derived.Test.YtcnlikojbkegiaaGreatDoorBookMid
namespace Go.Proofs.YtcnlikojbkegiaaGreatDoor.Br
open Go.ChangeShapes Go.WideShapes Go.ChangeAt Go.RowKit Go.Proofs.YtcnlikojbkegiaaGreatDoor.Bk
set_option linter.unusedVariables false
set_option maxRecDepth 100000
set_option maxHeartbeats 4000000

/-- a mark of two bytes in a block of its own, which nobody writes -/
def Good (w : World) (tag : Nat → Nat) (m : Nat) (u : Value) : Prop := ∃ g, u = .slice (some ⟨g, 0, none⟩) 2 2 ∧ w.heap[g]? = some (.cells #[bmk m 0, bmk m 1] 5 (0, 0)) ∧ tag g = 5
theorem Good.move {w w' : World} {tag tag' : Nat → Nat} {m : Nat} {u : Value} (h : Good w tag m u) (hb : ∀ g, g < w.heap.size → tag g = 5 → w'.heap[g]? = w.heap[g]? ∧ tag' g = 5) : Good w' tag' m u := by
  obtain ⟨g, h1, h2, h3⟩ := h
  have hk := hb g (Array.getElem?_eq_some_iff.1 h2).1 h3
  exact ⟨g, h1, hk.1.trans h2, hk.2⟩
/-- a list of such marks -/
def GL (w : World) (tag : Nat → Nat) (m : Nat) (v : Value) (n : Nat) : Prop := ∃ f, Line w 25 v n f ∧ ∀ k, k < n → Good w tag m (f k)
theorem GL.move {w w' : World} {tag tag' : Nat → Nat} {m n : Nat} {v : Value} (h : GL w tag m v n) (hv : ∀ g, v.ownBlock = some g → w'.heap[g]? = w.heap[g]?) (hb : ∀ g, g < w.heap.size → tag g = 5 → w'.heap[g]? = w.heap[g]? ∧ tag' g = 5) : GL w' tag' m v n := by
  obtain ⟨f, h1, h2⟩ := h
  exact ⟨f, h1.same hv, fun k hk => (h2 k hk).move hb⟩
theorem GL.lt {w : World} {tag : Nat → Nat} {m n : Nat} {v : Value} (h : GL w tag m v n) : ∀ g, v.ownBlock = some g → g < w.heap.size := by
  obtain ⟨f, h1, h2⟩ := h
  exact h1.lt
theorem GL.shape {w : World} {tag : Nat → Nat} {m n : Nat} {v : Value} (h : GL w tag m v n) : ∃ a cap, v = .slice a n cap := by
  obtain ⟨f, h1, h2⟩ := h
  exact h1.shape
/-- a list that may lie in the memory that grew -/
theorem Grew.line' {e e2 : TypeId} {n n2 : Nat} {u : Value} {w w' : World} {v v' v2 : Value} {f2 : Nat → Value} (h : Grew e n u w w' v v') (h2 : Line w e2 v2 n2 f2) : ∃ f', Line w' e2 v2 n2 f' ∧ ∀ j, f' j = f2 j ∨ ((∃ g, v2.ownBlock = some g ∧ v.ownBlock = some g) ∧ f' j = u) := by
  rcases h2 with h2 | ⟨g2, cap, cur2, rfl, hg2, hn, hc, hz, hh⟩
  · exact ⟨f2, .inl h2, fun j => .inl rfl⟩
  · have hlt := (Array.getElem?_eq_some_iff.1 hg2).1
    rcases h.how with ⟨g, cur, h1, _, hcur, ⟨cur', hw', hsz, hat, hoth⟩, _, hb⟩ | ⟨_, _, hb⟩
    · by_cases eg : g2 = g
      · subst eg
        rw [hcur] at hg2
        cases hg2
        refine ⟨fun j => if j = n then u else f2 j, .inr ⟨g2, cap, cur', rfl, hw', hn, hc, by omega, fun j hj => ?_⟩, fun j => ?_⟩
        · by_cases ej : j = n
          · subst ej
            rw [hat]
            show some u = some (if j = j then u else f2 j)
            rw [if_pos rfl]
          · rw [hoth j ej, hh j hj]
            show some (f2 j) = some (if j = n then u else f2 j)
            rw [if_neg ej]
        · by_cases ej : j = n
          · exact .inr ⟨⟨g2, rfl, h1⟩, if_pos ej⟩
          · exact .inl (if_neg ej)
      · exact ⟨f2, .inr ⟨g2, cap, cur2, rfl, by rw [hb g2 eg]; exact hg2, hn, hc, hz, hh⟩, fun j => .inl rfl⟩
    · exact ⟨f2, .inr ⟨g2, cap, cur2, rfl, by rw [hb g2 hlt]; exact hg2, hn, hc, hz, hh⟩, fun j => .inl rfl⟩
/-- the half of rows: tags 3 and 4 for its two rows, 10 + 2 m + 1 for the lists of mark m, 5 for the marks -/
structure HalfR (w : World) (tag : Nat → Nat) (T : Nat) (H : HalfSt) : Prop where
  rl : Line w 36 H.v H.L.length (fun j => H.L.getD j undef)
  ro : Line w 3 H.o H.M.length (fun j => intV (H.M.getD j 0))
  tl' : ∀ g, H.v.ownBlock = some g → tag g = 3
  to' : ∀ g, H.o.ownBlock = some g → tag g = 4
  ent : ∀ j, j < H.M.length → GL w tag (H.M.getD j 0) (H.L.getD j undef) (lenOf (H.L.getD j undef)) ∧ (∀ g, (H.L.getD j undef).ownBlock = some g → tag g = 10 + 2 * H.M.getD j 0 + 1) ∧ lenOf (H.L.getD j undef) ≤ 33554432 ∧ H.M.getD j 0 ≤ T
  fresh : ∀ j, H.n ≤ j → j < H.M.length → lenOf (H.L.getD j undef) ≤ 16777216
  le : H.M.length ≤ H.L.length
theorem HalfR.same {w w' : World} {tag : Nat → Nat} {T T' : Nat} {H : HalfSt} (h : HalfR w tag T H) (hb : ∀ g, tag g ≠ 0 → w'.heap[g]? = w.heap[g]?) (hT : T ≤ T') : HalfR w' tag T' H := by
  refine ⟨h.rl.same (fun g hg => hb g (by rw [h.tl' g hg]; omega)), h.ro.same (fun g hg => hb g (by rw [h.to' g hg]; omega)), h.tl', h.to', fun j hj => ?_, h.fresh, h.le⟩
  obtain ⟨h1, h2, h3, h4⟩ := h.ent j hj
  exact ⟨h1.move (fun g hg => hb g (by rw [h2 g hg]; omega)) (fun g _ hg => ⟨hb g (by omega), hg⟩), h2, h3, by omega⟩
theorem HalfR.conf {w w' : World} {tag tag' : Nat → Nat} {T : Nat} {H : HalfSt} (h : HalfR w tag T H) (k : Nat) (hb : ∀ g, g < w.heap.size → tag g ≠ k → w'.heap[g]? = w.heap[g]?) (ht : ∀ g, g < w.heap.size → tag' g = tag g) (k1 : k ≠ 3) (k2 : k ≠ 4) (k5 : k ≠ 5) (k3 : ∀ m, k ≠ 10 + 2 * m + 1) : HalfR w' tag' T H := by
  refine ⟨h.rl.same (fun g hg => hb g (h.rl.lt g hg) (by rw [h.tl' g hg]; omega)), h.ro.same (fun g hg => hb g (h.ro.lt g hg) (by rw [h.to' g hg]; omega)), fun g hg => (ht g (h.rl.lt g hg)).trans (h.tl' g hg), fun g hg => (ht g (h.ro.lt g hg)).trans (h.to' g hg), fun j hj => ?_, h.fresh, h.le⟩
  obtain ⟨h1, h2, h3, h4⟩ := h.ent j hj
  exact ⟨h1.move (fun g hg => hb g (h1.lt g hg) (by rw [h2 g hg]; exact fun e => k3 _ e.symm)) (fun g hl hg => ⟨hb g hl (by omega), (ht g hl).trans hg⟩), fun g hg => (ht g (h1.lt g hg)).trans (h2 g hg), h3, h4⟩
theorem HalfR.tags {w : World} {tag tag' : Nat → Nat} {T : Nat} {H : HalfSt} (h : HalfR w tag T H) (ht : ∀ g, tag g ≠ 0 → tag' g = tag g) : HalfR w tag' T H := by
  have hx : ∀ g k, tag g = k → k ≠ 0 → tag' g = k := fun g k e hk => by rw [ht g (by omega)]; exact e
  refine ⟨h.rl, h.ro, fun g hg => hx g _ (h.tl' g hg) (by omega), fun g hg => hx g _ (h.to' g hg) (by omega), fun j hj => ?_, h.fresh, h.le⟩
  obtain ⟨h1, h2, h3, h4⟩ := h.ent j hj
  exact ⟨h1.move (fun _ _ => rfl) (fun g _ hg => ⟨rfl, hx g 5 hg (by omega)⟩), fun g hg => hx g _ (h2 g hg) (by omega), h3, h4⟩
theorem HalfR.addL {w w' : World} {tag : Nat → Nat} {T : Nat} {H : HalfSt} (h : HalfR w tag T H) {x v' : Value} (hg : Grew 36 H.L.length x w w' H.v v') (hl : Line w' 36 v' (H.L.length + 1) (fun j => if j < H.L.length then H.L.getD j undef else x)) : HalfR w' (tagAt tag v' 3) T { H with v := v', L := H.L ++ [x] } := by
  have hle := h.le
  have hb : ∀ g, g < w.heap.size → tag g ≠ 3 → w'.heap[g]? = w.heap[g]? := fun g hlt hne => hg.other g hlt (fun e => hne (h.tl' g e))
  have ht := tagAt_old hg h.tl'
  have hgd : ∀ j, j < H.L.length → (H.L ++ [x]).getD j undef = H.L.getD j undef := fun j hj => by
    rw [List.getD_eq_getElem?_getD, List.getElem?_append_left hj, ← List.getD_eq_getElem?_getD]
  refine ⟨?_, h.ro.same (fun g hg => hb g (h.ro.lt g hg) (by rw [h.to' g hg]; omega)), fun g hg => by unfold tagAt; rw [if_pos hg], fun g hg => (ht g (h.ro.lt g hg)).trans (h.to' g hg), fun j hj => ?_, fun j h1 h2 => ?_, by simp; omega⟩
  · show Line w' 36 v' (H.L ++ [x]).length _
    rw [List.length_append, List.length_singleton]
    refine hl.congr (fun j hj => ?_)
    by_cases hlt : j < H.L.length
    · rw [if_pos hlt]; exact (hgd j hlt).symm
    · have : j = H.L.length := by omega
      subst this
      rw [if_neg hlt]
      show x = (H.L ++ [x]).getD H.L.length undef
      simp [List.getD_eq_getElem?_getD]
  · have hj' : j < H.M.length := hj
    obtain ⟨h1, h2, h3, h4⟩ := h.ent j hj'
    show GL w' (tagAt tag v' 3) (H.M.getD j 0) ((H.L ++ [x]).getD j undef) (lenOf ((H.L ++ [x]).getD j undef)) ∧ (∀ g, ((H.L ++ [x]).getD j undef).ownBlock = some g → _) ∧ lenOf ((H.L ++ [x]).getD j undef) ≤ _ ∧ _
    rw [hgd j (by omega)]
    exact ⟨h1.move (fun g hg => hb g (h1.lt g hg) (by rw [h2 g hg]; omega)) (fun g hl hg => ⟨hb g hl (by omega), (ht g hl).trans hg⟩), fun g hg => (ht g (h1.lt g hg)).trans (h2 g hg), h3, h4⟩
  · show lenOf ((H.L ++ [x]).getD j undef) ≤ _
    have h2' : j < H.M.length := h2
    rw [hgd j (by omega)]
    exact h.fresh j h1 h2'
theorem HalfR.addO {w w' : World} {tag : Nat → Nat} {T : Nat} {H : HalfSt} (h : HalfR w tag T H) (hlen : H.L.length = H.M.length + 1) {m : Nat} {o' : Value} (hg : Grew 3 H.M.length (intV m) w w' H.o o') (hl : Line w' 3 o' (H.M.length + 1) (fun j => if j < H.M.length then intV (H.M.getD j 0) else intV m))
    (hn : GL w tag m (H.L.getD H.M.length undef) (lenOf (H.L.getD H.M.length undef))) (htg : ∀ g, (H.L.getD H.M.length undef).ownBlock = some g → tag g = 10 + 2 * m + 1) (hz : lenOf (H.L.getD H.M.length undef) ≤ 33554432) (hmT : m ≤ T) (hf : H.n ≤ H.M.length → lenOf (H.L.getD H.M.length undef) ≤ 16777216) :
    HalfR w' (tagAt tag o' 4) T { H with o := o', M := H.M ++ [m] } := by
  have hb : ∀ g, g < w.heap.size → tag g ≠ 4 → w'.heap[g]? = w.heap[g]? := fun g hlt hne => hg.other g hlt (fun e => hne (h.to' g e))
  have ht := tagAt_old hg h.to'
  have hgd : ∀ j, j < H.M.length → (H.M ++ [m]).getD j 0 = H.M.getD j 0 := fun j hj => by
    rw [List.getD_eq_getElem?_getD, List.getElem?_append_left hj, ← List.getD_eq_getElem?_getD]
  have hgl : (H.M ++ [m]).getD H.M.length 0 = m := by simp [List.getD_eq_getElem?_getD]
  refine ⟨h.rl.same (fun g hg => hb g (h.rl.lt g hg) (by rw [h.tl' g hg]; omega)), ?_, fun g hg => (ht g (h.rl.lt g hg)).trans (h.tl' g hg), fun g hg => by unfold tagAt; rw [if_pos hg], fun j hj => ?_, fun j h1 h2 => ?_, by simp; omega⟩
  · show Line w' 3 o' (H.M ++ [m]).length _
    rw [List.length_append, List.length_singleton]
    refine hl.congr (fun j hj => ?_)
    show _ = intV ((H.M ++ [m]).getD j 0)
    by_cases hlt : j < H.M.length
    · rw [if_pos hlt, hgd j hlt]
    · have : j = H.M.length := by omega
      subst this
      rw [if_neg hlt, hgl]
  · have hj' : j < H.M.length + 1 := by simpa using hj
    show GL w' (tagAt tag o' 4) ((H.M ++ [m]).getD j 0) (H.L.getD j undef) (lenOf (H.L.getD j undef)) ∧ (∀ g, (H.L.getD j undef).ownBlock = some g → tagAt tag o' 4 g = 10 + 2 * (H.M ++ [m]).getD j 0 + 1) ∧ lenOf (H.L.getD j undef) ≤ _ ∧ (H.M ++ [m]).getD j 0 ≤ T
    by_cases hlt : j < H.M.length
    · obtain ⟨h1, h2, h3, h4⟩ := h.ent j hlt
      rw [hgd j hlt]
      exact ⟨h1.move (fun g hg => hb g (h1.lt g hg) (by rw [h2 g hg]; omega)) (fun g hl hg => ⟨hb g hl (by omega), (ht g hl).trans hg⟩), fun g hg => (ht g (h1.lt g hg)).trans (h2 g hg), h3, h4⟩
    · have : j = H.M.length := by omega
      subst this
      rw [hgl]
      exact ⟨hn.move (fun g hg => hb g (hn.lt g hg) (by rw [htg g hg]; omega)) (fun g hl hg => ⟨hb g hl (by omega), (ht g hl).trans hg⟩), fun g hg => (ht g (hn.lt g hg)).trans (htg g hg), hz, hmT⟩
  · have hj' : j < H.M.length + 1 := by simpa using h2
    by_cases hlt : j < H.M.length
    · exact h.fresh j h1 hlt
    · have : j = H.M.length := by omega
      subst this
      exact hf h1
theorem HalfR.growIn {w w' : World} {tag : Nat → Nat} {T : Nat} {H : HalfSt} (h : HalfR w tag T H) {m n : Nat} {u g g' : Value} (hg : Grew 25 n u w w' g g') (hu : Good w tag m u) (hv : ∀ q, g.ownBlock = some q → tag q = 10 + 2 * m + 1) : HalfR w' (tagAt tag g' (10 + 2 * m + 1)) T H := by
  have hb : ∀ q, q < w.heap.size → tag q ≠ 10 + 2 * m + 1 → w'.heap[q]? = w.heap[q]? := fun q hlt hne => hg.other q hlt (fun e => hne (hv q e))
  have ht := tagAt_old hg hv
  have hgd : ∀ q, q < w.heap.size → tag q = 5 → w'.heap[q]? = w.heap[q]? ∧ tagAt tag g' (10 + 2 * m + 1) q = 5 := fun q hl e => ⟨hb q hl (by omega), (ht q hl).trans e⟩
  refine ⟨h.rl.same (fun q hq => hb q (h.rl.lt q hq) (by rw [h.tl' q hq]; omega)), h.ro.same (fun q hq => hb q (h.ro.lt q hq) (by rw [h.to' q hq]; omega)), fun q hq => (ht q (h.rl.lt q hq)).trans (h.tl' q hq), fun q hq => (ht q (h.ro.lt q hq)).trans (h.to' q hq), fun j hj => ?_, h.fresh, h.le⟩
  obtain ⟨h1, h2, h3, h4⟩ := h.ent j hj
  refine ⟨?_, fun q hq => (ht q (h1.lt q hq)).trans (h2 q hq), h3, h4⟩
  obtain ⟨f, hf1, hf2⟩ := h1
  obtain ⟨f', hl', hor⟩ := Grew.line' hg hf1
  refine ⟨f', hl', fun k hk => ?_⟩
  rcases hor k with e | ⟨⟨q, e1, e2⟩, e⟩
  · rw [e]; exact (hf2 k hk).move hgd
  · have t1 := h2 q e1
    have t2 := hv q e2
    have : H.M.getD j 0 = m := by omega
    rw [e, this]
    exact hu.move hgd
theorem HalfR.growElse {w w' : World} {tag : Nat → Nat} {T : Nat} {H : HalfSt} (h : HalfR w tag T H) {te' : TypeId} {k n : Nat} {u g g' : Value} (hg : Grew te' n u w w' g g') (hv : ∀ q, g.ownBlock = some q → tag q = k) (hk : k = 1 ∨ k = 2 ∨ ∃ m, k = 10 + 2 * m) : HalfR w' (tagAt tag g' k) T H := by
  have hb : ∀ q, q < w.heap.size → tag q ≠ k → w'.heap[q]? = w.heap[q]? := fun q hlt hne => hg.other q hlt (fun e => hne (hv q e))
  refine h.conf k hb (tagAt_old hg hv) ?_ ?_ ?_ ?_
  · rcases hk with rfl | rfl | ⟨m, rfl⟩ <;> omega
  · rcases hk with rfl | rfl | ⟨m, rfl⟩ <;> omega
  · rcases hk with rfl | rfl | ⟨m, rfl⟩ <;> omega
  · intro m'
    rcases hk with rfl | rfl | ⟨m, rfl⟩ <;> omega
theorem HalfR.over {w : World} {tag : Nat → Nat} {T : Nat} {H : HalfSt} (h : HalfR w tag T H) (n' : Nat) (hn : H.M.length ≤ n') : HalfR w tag T { H with n := n' } :=
  ⟨h.rl, h.ro, h.tl', h.to', h.ent, fun j h1 h2 => by have h1' : n' ≤ j := h1; have h2' : j < H.M.length := h2; omega, h.le⟩
structure BookSt where
  b : HalfSt
  u : HalfSt
  turn : Nat
  done : Nat
  used : Nat
def BookSt.flds (S : BookSt) : List Value := [S.b.v, S.b.o, intV S.b.n, S.u.v, S.u.o, intV S.u.n, nilS, nilS, intV 0, nilS, nilS, intV 0, nilS, nilS, intV 0, nilS, nilS, intV 0, nilS, nilS, intV 0, nilS, nilS, intV 0, nilS, nilS, intV 0, nilS, nilS, intV 0, intV S.turn, intV S.done, intV S.used]
structure BookAt (w : World) (pb o : Nat) (tag : Nat → Nat) (S : BookSt) : Prop where
  fl : Flds w pb o S.flds
  hb : Half 0 5 25 bmk w tag S.turn S.b
  hu : HalfR w tag S.turn S.u
  un : Under w tag
  tp : tag pb = 0
  eb : S.b.L.length = S.b.M.length
  eu : S.u.L.length = S.u.M.length
  nb : S.b.n ≤ S.b.M.length
  nu : S.u.n ≤ S.u.M.length
  cnt : 1200 * S.b.M.length + 1200 * S.u.M.length ≤ S.used + 1080 * S.b.n + 1080 * S.u.n
  us : S.used ≤ 16777216
  tn : S.turn ≤ 1000000
theorem tight_any {w : World} {pb o : Nat} {S : BookSt} (h : Flds w pb o S.flds) (n : Nat) (hu : S.used ≤ 16777216) (hn : n ≤ 1152921504606846976) :
    Calls Tryz.prog 64 #[.pointer (some ⟨pb, o, none⟩), .int .i64 n] w fun e w' => (16777216 < S.used + n ∧ e = .returned (.bool true) ∧ w' = w) ∨ (S.used + n ≤ 16777216 ∧ e = .returned (.bool false) ∧ w' = w.setCell ⟨pb, o + 32, none⟩ (intV (S.used + n))) := by
  have c32 : w.cell? ⟨pb, o + 32, none⟩ = some (.int .i64 S.used) := h.c 32 (by decide)
  have f32 := h.f 32 (by decide)
  have e1 : intV (S.used + n) = .int .i64 ((S.used : Int) + (n : Int)) := by unfold intV; rw [show ((S.used + n : Nat) : Int) = (S.used : Int) + (n : Int) by omega]
  rw [e1]
  generalize S.used = u at *
  clear h e1
  by_cases ht : 16777216 < u + n
  · have d1 : decide ((16777216 : Int) < (u : Int) + (n : Int)) = true := decide_eq_true (by omega)
    go_enter Tryz.func64, Tryz.ntmps64
    go_wp2
    go_ret
    exact .inl ⟨ht, rfl, rfl⟩
  · have d1 : decide ((16777216 : Int) < (u : Int) + (n : Int)) = false := decide_eq_false (by omega)
    go_enter Tryz.func64, Tryz.ntmps64
    go_wp2
    go_ret
    exact .inr ⟨by omega, rfl, rfl⟩
structure Mid (pb o : Nat) (t0 : Nat → Nat) (w0 : World) (tag : Nat → Nat) (w : World) (l : List Value) (T : Nat) (B U : HalfSt) : Prop where
  fl : Flds w pb o l
  len : l.length = 33
  hb : Half 0 5 25 bmk w tag T B
  hu : HalfR w tag T U
  un : Under w tag
  tp : tag pb = 0
  no : Noted pb o t0 tag w0 w
theorem BookAt.mid {w : World} {pb o : Nat} {tag : Nat → Nat} {S : BookSt} (h : BookAt w pb o tag S) : Mid pb o tag w tag w S.flds S.turn S.b S.u := ⟨h.fl, rfl, h.hb, h.hu, h.un, h.tp, Noted.refl _ _ _ _⟩
theorem Mid.set {pb o : Nat} {t0 : Nat → Nat} {w0 : World} {tag : Nat → Nat} {w : World} {l : List Value} {T : Nat} {B U : HalfSt} (h : Mid pb o t0 w0 tag w l T B U) (i : Nat) (hi : i < 33) (v : Value) : Mid pb o t0 w0 tag (w.setCell ⟨pb, o + i, none⟩ v) (l.set i v) T B U := by
  have hb : ∀ g, tag g ≠ 0 → (w.setCell ⟨pb, o + i, none⟩ v).heap[g]? = w.heap[g]? := fun g hg => setCell_else w pb (o + i) g v (fun e => hg (by rw [e]; exact h.tp))
  exact ⟨h.fl.set i hi h.len v, by simpa using h.len, h.hb.same hb (Nat.le_refl _), h.hu.same hb (Nat.le_refl _), fun g hg => by simpa using h.un g hg, h.tp, h.no.trans (Noted.set i hi v)⟩
theorem Mid.alloc {pb o : Nat} {t0 : Nat → Nat} {w0 : World} {tag : Nat → Nat} {w : World} {l : List Value} {T : Nat} {B U : HalfSt} (h : Mid pb o t0 w0 tag w l T B U) (x : Obj) : Mid pb o t0 w0 tag (w.alloc x) l T B U := by
  have hb : ∀ g, tag g ≠ 0 → (w.alloc x).heap[g]? = w.heap[g]? := fun g hg => heap_alloc_old w x (h.un g hg)
  exact ⟨h.fl.same (heap_alloc_old w x h.fl.lt) (by simp), h.len, h.hb.same hb (Nat.le_refl _), h.hu.same hb (Nat.le_refl _), fun g hg => by have := h.un g hg; simp; omega, h.tp, h.no.trans (Noted.alloc h.fl.lt x)⟩
theorem Mid.drawn {pb o : Nat} {t0 : Nat → Nat} {w0 : World} {tag : Nat → Nat} {w : World} {l : List Value} {T : Nat} {B U : HalfSt} (h : Mid pb o t0 w0 tag w l T B U) (n : Nat) : Mid pb o t0 w0 tag (w.drewN n) l T B U :=
  ⟨h.fl.same rfl (Nat.le_refl _), h.len, h.hb.same (fun _ _ => rfl) (Nat.le_refl _), h.hu.same (fun _ _ => rfl) (Nat.le_refl _), h.un, h.tp, h.no.trans ⟨rfl, rfl, rfl, Nat.le_refl _, fun _ _ => rfl, fun _ _ _ _ => rfl, fun _ _ => ⟨rfl, rfl⟩⟩⟩
theorem Mid.addB {pb o : Nat} {t0 : Nat → Nat} {w0 : World} {tag : Nat → Nat} {w w' : World} {l : List Value} {T : Nat} {B U : HalfSt} (h : Mid pb o t0 w0 tag w l T B U) {x v' : Value} (hg : Grew 25 B.L.length x w w' B.v v') (hl : Line w' 25 v' (B.L.length + 1) (fun j => if j < B.L.length then B.L.getD j undef else x)) : Mid pb o t0 w0 (tagAt tag v' 1) w' l T { B with v := v', L := B.L ++ [x] } U :=
  ⟨Grew.flds h.fl hg h.hb.tl' (by decide) h.tp, h.len, h.hb.addL (by decide) hg hl, h.hu.growElse hg h.hb.tl' (.inl rfl), tagAt_under hg h.un h.hb.rl, tagAt_pb hg h.hb.tl' h.fl.lt h.tp, h.no.trans (Noted.grew h.fl.lt h.tp (by decide) hg h.hb.tl')⟩
theorem Mid.addU {pb o : Nat} {t0 : Nat → Nat} {w0 : World} {tag : Nat → Nat} {w w' : World} {l : List Value} {T : Nat} {B U : HalfSt} (h : Mid pb o t0 w0 tag w l T B U) {x v' : Value} (hg : Grew 36 U.L.length x w w' U.v v') (hl : Line w' 36 v' (U.L.length + 1) (fun j => if j < U.L.length then U.L.getD j undef else x)) : Mid pb o t0 w0 (tagAt tag v' 3) w' l T B { U with v := v', L := U.L ++ [x] } :=
  ⟨Grew.flds h.fl hg h.hu.tl' (by decide) h.tp, h.len, h.hb.growElse (by decide) (by decide) (c' := 1) (by decide) hg h.hu.tl' (.inl rfl), h.hu.addL hg hl, tagAt_under hg h.un h.hu.rl, tagAt_pb hg h.hu.tl' h.fl.lt h.tp, h.no.trans (Noted.grew h.fl.lt h.tp (by decide) hg h.hu.tl')⟩
theorem Mid.addBo {pb o : Nat} {t0 : Nat → Nat} {w0 : World} {tag : Nat → Nat} {w w' : World} {l : List Value} {T : Nat} {B U : HalfSt} (h : Mid pb o t0 w0 tag w l T B U) (hlen : B.L.length = B.M.length + 1) {m : Nat} {o' : Value} (hg : Grew 3 B.M.length (intV m) w w' B.o o') (hl : Line w' 3 o' (B.M.length + 1) (fun j => if j < B.M.length then intV (B.M.getD j 0) else intV m))
    (hn : Line w 5 (B.L.getD B.M.length undef) (lenOf (B.L.getD B.M.length undef)) (bmk m)) (htg : ∀ g, (B.L.getD B.M.length undef).ownBlock = some g → tag g = 10 + 2 * m) (hz : lenOf (B.L.getD B.M.length undef) ≤ 33554432) (hmT : m ≤ T) (hf : B.n ≤ B.M.length → lenOf (B.L.getD B.M.length undef) ≤ 16777216) :
    Mid pb o t0 w0 (tagAt tag o' 2) w' l T { B with o := o', M := B.M ++ [m] } U :=
  ⟨Grew.flds h.fl hg h.hb.to' (by decide) h.tp, h.len, h.hb.addO (by decide) hlen hg hl hn htg hz hmT hf, h.hu.growElse hg h.hb.to' (.inr (.inl rfl)), tagAt_under hg h.un h.hb.ro, tagAt_pb hg h.hb.to' h.fl.lt h.tp, h.no.trans (Noted.grew h.fl.lt h.tp (by decide) hg h.hb.to')⟩
theorem Mid.addUo {pb o : Nat} {t0 : Nat → Nat} {w0 : World} {tag : Nat → Nat} {w w' : World} {l : List Value} {T : Nat} {B U : HalfSt} (h : Mid pb o t0 w0 tag w l T B U) (hlen : U.L.length = U.M.length + 1) {m : Nat} {o' : Value} (hg : Grew 3 U.M.length (intV m) w w' U.o o') (hl : Line w' 3 o' (U.M.length + 1) (fun j => if j < U.M.length then intV (U.M.getD j 0) else intV m))
    (hn : GL w tag m (U.L.getD U.M.length undef) (lenOf (U.L.getD U.M.length undef))) (htg : ∀ g, (U.L.getD U.M.length undef).ownBlock = some g → tag g = 10 + 2 * m + 1) (hz : lenOf (U.L.getD U.M.length undef) ≤ 33554432) (hmT : m ≤ T) (hf : U.n ≤ U.M.length → lenOf (U.L.getD U.M.length undef) ≤ 16777216) :
    Mid pb o t0 w0 (tagAt tag o' 4) w' l T B { U with o := o', M := U.M ++ [m] } :=
  ⟨Grew.flds h.fl hg h.hu.to' (by decide) h.tp, h.len, h.hb.growElse (by decide) (by decide) (c' := 1) (by decide) hg h.hu.to' (.inr (.inl rfl)), h.hu.addO hlen hg hl hn htg hz hmT hf, tagAt_under hg h.un h.hu.ro, tagAt_pb hg h.hu.to' h.fl.lt h.tp, h.no.trans (Noted.grew h.fl.lt h.tp (by decide) hg h.hu.to')⟩
theorem Mid.growB {pb o : Nat} {t0 : Nat → Nat} {w0 : World} {tag : Nat → Nat} {w w' : World} {l : List Value} {T : Nat} {B U : HalfSt} (h : Mid pb o t0 w0 tag w l T B U) {m n : Nat} {g g' : Value} {f : Nat → Value} (hg : Grew 5 n (bmk m n) w w' g g') (hv : ∀ q, g.ownBlock = some q → tag q = 10 + 2 * m) (hl : Line w 5 g n f) : Mid pb o t0 w0 (tagAt tag g' (10 + 2 * m)) w' l T B U :=
  ⟨Grew.flds h.fl hg hv (by omega) h.tp, h.len, h.hb.growIn (by decide) hg hv, h.hu.growElse hg hv (.inr (.inr ⟨m, rfl⟩)), tagAt_under hg h.un hl, tagAt_pb hg hv h.fl.lt h.tp, h.no.trans (Noted.grew h.fl.lt h.tp (by omega) hg hv)⟩
theorem Mid.growU {pb o : Nat} {t0 : Nat → Nat} {w0 : World} {tag : Nat → Nat} {w w' : World} {l : List Value} {T : Nat} {B U : HalfSt} (h : Mid pb o t0 w0 tag w l T B U) {m n : Nat} {u g g' : Value} {f : Nat → Value} (hg : Grew 25 n u w w' g g') (hu' : Good w tag m u) (hv : ∀ q, g.ownBlock = some q → tag q = 10 + 2 * m + 1) (hl : Line w 25 g n f) : Mid pb o t0 w0 (tagAt tag g' (10 + 2 * m + 1)) w' l T B U :=
  ⟨Grew.flds h.fl hg hv (by omega) h.tp, h.len, h.hb.growElse (by decide) (by decide) (c' := 1) (by decide) hg hv (.inr (.inr ⟨m, rfl⟩)), h.hu.growIn hg hu' hv, tagAt_under hg h.un hl, tagAt_pb hg hv h.fl.lt h.tp, h.no.trans (Noted.grew h.fl.lt h.tp (by omega) hg hv)⟩
/-- a mark is made: a new block of two bytes -/
theorem Mid.mark {pb o : Nat} {t0 : Nat → Nat} {w0 : World} {tag : Nat → Nat} {w : World} {l : List Value} {T : Nat} {B U : HalfSt} (h : Mid pb o t0 w0 tag w l T B U) (m : Nat) : Mid pb o t0 w0 (fun g => if g = w.heap.size then 5 else tag g) (w.alloc (.cells #[bmk m 0, bmk m 1] 5)) l T B U ∧ Good (w.alloc (.cells #[bmk m 0, bmk m 1] 5)) (fun g => if g = w.heap.size then 5 else tag g) m (.slice (some ⟨w.heap.size, 0, none⟩) 2 2) := by
  have h1 := h.alloc (.cells #[bmk m 0, bmk m 1] 5)
  have ht : ∀ g, tag g ≠ 0 → (fun g => if g = w.heap.size then 5 else tag g) g = tag g := fun g hg => by
    have := h.un g hg
    show (if g = w.heap.size then 5 else tag g) = tag g
    rw [if_neg (by omega)]
  have hpb := h.fl.lt
  have hs := h.no.size
  refine ⟨⟨h1.fl, h1.len, h1.hb.tags ht, h1.hu.tags ht, fun g hg => ?_, ?_, h1.no.os, h1.no.tape, h1.no.output, h1.no.size, fun g hg => ?_, h1.no.blk, h1.no.rest⟩, w.heap.size, rfl, heap_alloc_new w _, if_pos rfl⟩
  · by_cases e : g = w.heap.size
    · subst e; simp
    · have hg' : tag g ≠ 0 := by
        have hx : (if g = w.heap.size then 5 else tag g) ≠ 0 := hg
        rwa [if_neg e] at hx
      exact h1.un g hg'
  · show (if pb = w.heap.size then 5 else tag pb) = 0
    rw [if_neg (by omega)]
    exact h.tp
  · show (if g = w.heap.size then 5 else tag g) = t0 g
    rw [if_neg (by omega)]
    exact h.no.tg g hg
end Go.Proofs.YtcnlikojbkegiaaGreatDoor.Br
