/- The book with replies: marks of four cells, what is kept. -/
import Derived.Test.YtecfgbjnjgjkoaaGreatDoorBookMid
import Derived.Test.YtecfgbjnjgjkoaaGreatDoorApb
namespace Go.Proofs.YtecfgbjnjgjkoaaGreatDoor.Bp
open Go.ChangeShapes Go.WideShapes Go.ChangeAt Go.RowKit Go.Proofs.YtecfgbjnjgjkoaaGreatDoor.Bk
set_option linter.unusedVariables false
set_option maxRecDepth 100000
set_option maxHeartbeats 4000000

/-- the marks of a list of replies, cell by cell -/
def rmk (m j : Nat) : Value := if j % 4 = 0 then .int .i64 0 else if j % 4 = 1 then .int .i64 ((m : Int) * 1048576) else .slice none 0 0
/-- a list of such marks -/
def GL (w : World) (m : Nat) (v : Value) (n : Nat) : Prop := Rws w 31 4 v n (rmk m)
theorem GL.move {w w' : World} {m n : Nat} {v : Value} (h : GL w m v n) (hv : ∀ g, v.ownBlock = some g → w'.heap[g]? = w.heap[g]?) : GL w' m v n := Rws.same h hv
theorem GL.lt {w : World} {m n : Nat} {v : Value} (h : GL w m v n) : ∀ g, v.ownBlock = some g → g < w.heap.size := Rws.lt h
theorem GL.shape {w : World} {m n : Nat} {v : Value} (h : GL w m v n) : ∃ a cap, v = .slice a n cap := Rws.shape h
theorem tagAt_oldG {w w' : World} {v v' : Value} {tag : Nat → Nat} {k : Nat} (hg : Gw w w' v v') (hv : ∀ g, v.ownBlock = some g → tag g = k) : ∀ g, g < w.heap.size → tagAt tag v' k g = tag g := by
  intro g hlt
  unfold tagAt
  by_cases hh : v'.ownBlock = some g
  · rw [if_pos hh]
    rcases hg.own g hh with h1 | h1
    · exact (hv _ h1).symm
    · omega
  · rw [if_neg hh]
theorem tagAt_underG {w w' : World} {v v' : Value} {tag : Nat → Nat} {k : Nat} (hg : Gw w w' v v') (hu : Under w tag) (hl : ∀ g, v'.ownBlock = some g → g < w'.heap.size) : Under w' (tagAt tag v' k) := by
  intro g hne
  unfold tagAt at hne
  have hs := hg.size
  by_cases hh : v'.ownBlock = some g
  · exact hl g hh
  · rw [if_neg hh] at hne
    have := hu g hne
    omega
theorem notedG {pb o : Nat} {tag : Nat → Nat} {w w' : World} {k : Nat} {v v' : Value} (hp : pb < w.heap.size) (htp : tag pb = 0) (hk : k ≠ 0) (hg : Gw w w' v v') (hv : ∀ q, v.ownBlock = some q → tag q = k) : Noted pb o tag (tagAt tag v' k) w w' := by
  have hpb := hg.oth pb hp (fun e => by have := hv pb e; omega)
  exact ⟨hg.os, hg.tape, hg.output, hg.size, tagAt_oldG hg hv, fun g h1 h2 _ => hg.oth g h1 (fun e => by have := hv g e; omega), fun j hj => ⟨World.cell?_of_block (a := ⟨pb, j, none⟩) hpb, World.frozen?_of_block (a := ⟨pb, j, none⟩) hpb⟩⟩
/-- a list of marks that may lie in the memory that grew by a mark -/
theorem GL.grown {w w' : World} {m n n2 : Nat} {g g' v2 : Value} (h2 : GL w m v2 n2) (hg : Gr 31 (n * 4) 4 w w' g g') (hR : GL w' m g' (n + 1)) : GL w' m v2 n2 := by
  rcases h2 with h2 | ⟨q, cap, cur, rfl, hq, hn, hc, hz, hh⟩
  · exact .inl h2
  · have hlt := (Array.getElem?_eq_some_iff.1 hq).1
    by_cases hgo : g.ownBlock = some q
    · rcases hg.how with ⟨g0, cur0, cur', o1, o2, b1, b2, sz, oth, _, _⟩ | ⟨_, _, hb⟩
      · rw [hgo] at o1
        cases o1
        rw [hq] at b1
        cases b1
        refine .inr ⟨q, cap, cur', rfl, b2, hn, hc, by omega, fun j hj => ?_⟩
        by_cases hj2 : j < n * 4 ∨ n * 4 + 4 ≤ j
        · rw [oth j hj2, hh j hj]
        · rcases hR with ⟨rfl, _⟩ | ⟨q', cap', cur'', rfl, hq', hn', hc', hz', hh'⟩
          · simp [Value.ownBlock] at o2
          · simp [Value.ownBlock] at o2
            subst o2
            rw [b2] at hq'
            cases hq'
            exact hh' j (by omega)
      · exact .inr ⟨q, cap, cur, rfl, by rw [hb q hlt]; exact hq, hn, hc, hz, hh⟩
    · exact .inr ⟨q, cap, cur, rfl, by rw [hg.other q hlt hgo]; exact hq, hn, hc, hz, hh⟩
/-- the half of replies: tags 3 and 4 for its two rows, 10 + 2 m + 1 for the lists of mark m -/
structure HalfR (w : World) (tag : Nat → Nat) (T : Nat) (H : HalfSt) : Prop where
  rl : Line w 29 H.v H.L.length (fun j => H.L.getD j undef)
  ro : Line w 3 H.o H.M.length (fun j => intV (H.M.getD j 0))
  tl' : ∀ g, H.v.ownBlock = some g → tag g = 3
  to' : ∀ g, H.o.ownBlock = some g → tag g = 4
  ent : ∀ j, j < H.M.length → GL w (H.M.getD j 0) (H.L.getD j undef) (lenOf (H.L.getD j undef)) ∧ (∀ g, (H.L.getD j undef).ownBlock = some g → tag g = 10 + 2 * H.M.getD j 0 + 1) ∧ lenOf (H.L.getD j undef) ≤ 33554432 ∧ H.M.getD j 0 ≤ T
  fresh : ∀ j, H.n ≤ j → j < H.M.length → lenOf (H.L.getD j undef) ≤ 16777216
  le : H.M.length ≤ H.L.length
theorem HalfR.same {w w' : World} {tag : Nat → Nat} {T T' : Nat} {H : HalfSt} (h : HalfR w tag T H) (hb : ∀ g, tag g ≠ 0 → w'.heap[g]? = w.heap[g]?) (hT : T ≤ T') : HalfR w' tag T' H := by
  refine ⟨h.rl.same (fun g hg => hb g (by rw [h.tl' g hg]; omega)), h.ro.same (fun g hg => hb g (by rw [h.to' g hg]; omega)), h.tl', h.to', fun j hj => ?_, h.fresh, h.le⟩
  obtain ⟨h1, h2, h3, h4⟩ := h.ent j hj
  exact ⟨h1.move (fun g hg => hb g (by rw [h2 g hg]; omega)), h2, h3, by omega⟩
theorem HalfR.conf {w w' : World} {tag tag' : Nat → Nat} {T : Nat} {H : HalfSt} (h : HalfR w tag T H) (k : Nat) (hb : ∀ g, g < w.heap.size → tag g ≠ k → w'.heap[g]? = w.heap[g]?) (ht : ∀ g, g < w.heap.size → tag' g = tag g) (k1 : k ≠ 3) (k2 : k ≠ 4) (k3 : ∀ m, k ≠ 10 + 2 * m + 1) : HalfR w' tag' T H := by
  refine ⟨h.rl.same (fun g hg => hb g (h.rl.lt g hg) (by rw [h.tl' g hg]; omega)), h.ro.same (fun g hg => hb g (h.ro.lt g hg) (by rw [h.to' g hg]; omega)), fun g hg => (ht g (h.rl.lt g hg)).trans (h.tl' g hg), fun g hg => (ht g (h.ro.lt g hg)).trans (h.to' g hg), fun j hj => ?_, h.fresh, h.le⟩
  obtain ⟨h1, h2, h3, h4⟩ := h.ent j hj
  exact ⟨h1.move (fun g hg => hb g (h1.lt g hg) (by rw [h2 g hg]; exact fun e => k3 _ e.symm)), fun g hg => (ht g (h1.lt g hg)).trans (h2 g hg), h3, h4⟩
theorem HalfR.tags {w : World} {tag tag' : Nat → Nat} {T : Nat} {H : HalfSt} (h : HalfR w tag T H) (ht : ∀ g, tag g ≠ 0 → tag' g = tag g) : HalfR w tag' T H := by
  have hx : ∀ g k, tag g = k → k ≠ 0 → tag' g = k := fun g k e hk => by rw [ht g (by omega)]; exact e
  refine ⟨h.rl, h.ro, fun g hg => hx g _ (h.tl' g hg) (by omega), fun g hg => hx g _ (h.to' g hg) (by omega), fun j hj => ?_, h.fresh, h.le⟩
  obtain ⟨h1, h2, h3, h4⟩ := h.ent j hj
  exact ⟨h1.move (fun _ _ => rfl), fun g hg => hx g _ (h2 g hg) (by omega), h3, h4⟩
theorem HalfR.addL {w w' : World} {tag : Nat → Nat} {T : Nat} {H : HalfSt} (h : HalfR w tag T H) {x v' : Value} (hg : Grew 29 H.L.length x w w' H.v v') (hl : Line w' 29 v' (H.L.length + 1) (fun j => if j < H.L.length then H.L.getD j undef else x)) : HalfR w' (tagAt tag v' 3) T { H with v := v', L := H.L ++ [x] } := by
  have hle := h.le
  have hb : ∀ g, g < w.heap.size → tag g ≠ 3 → w'.heap[g]? = w.heap[g]? := fun g hlt hne => hg.other g hlt (fun e => hne (h.tl' g e))
  have ht := tagAt_old hg h.tl'
  have hgd : ∀ j, j < H.L.length → (H.L ++ [x]).getD j undef = H.L.getD j undef := fun j hj => by
    rw [List.getD_eq_getElem?_getD, List.getElem?_append_left hj, ← List.getD_eq_getElem?_getD]
  refine ⟨?_, h.ro.same (fun g hg => hb g (h.ro.lt g hg) (by rw [h.to' g hg]; omega)), fun g hg => by unfold tagAt; rw [if_pos hg], fun g hg => (ht g (h.ro.lt g hg)).trans (h.to' g hg), fun j hj => ?_, fun j h1 h2 => ?_, by simp; omega⟩
  · show Line w' 29 v' (H.L ++ [x]).length _
    rw [List.length_append, List.length_singleton]
    refine hl.congr (fun j hj => ?_)
    by_cases hlt : j < H.L.length
    · rw [if_pos hlt]; exact (hgd j hlt).symm
    · have : j = H.L.length := by omega
      subst this
      rw [if_neg hlt]
      show x = (H.L ++ [x]).getD H.L.length undef
      simp [List.getD_eq_getElem?_getD]
  · have hj' : j < H.M.length := hj
    obtain ⟨h1, h2, h3, h4⟩ := h.ent j hj'
    show GL w' (H.M.getD j 0) ((H.L ++ [x]).getD j undef) (lenOf ((H.L ++ [x]).getD j undef)) ∧ (∀ g, ((H.L ++ [x]).getD j undef).ownBlock = some g → _) ∧ lenOf ((H.L ++ [x]).getD j undef) ≤ _ ∧ _
    rw [hgd j (by omega)]
    exact ⟨h1.move (fun g hg => hb g (h1.lt g hg) (by rw [h2 g hg]; omega)), fun g hg => (ht g (h1.lt g hg)).trans (h2 g hg), h3, h4⟩
  · show lenOf ((H.L ++ [x]).getD j undef) ≤ _
    have h2' : j < H.M.length := h2
    rw [hgd j (by omega)]
    exact h.fresh j h1 h2'
theorem HalfR.addO {w w' : World} {tag : Nat → Nat} {T : Nat} {H : HalfSt} (h : HalfR w tag T H) (hlen : H.L.length = H.M.length + 1) {m : Nat} {o' : Value} (hg : Grew 3 H.M.length (intV m) w w' H.o o') (hl : Line w' 3 o' (H.M.length + 1) (fun j => if j < H.M.length then intV (H.M.getD j 0) else intV m))
    (hn : GL w m (H.L.getD H.M.length undef) (lenOf (H.L.getD H.M.length undef))) (htg : ∀ g, (H.L.getD H.M.length undef).ownBlock = some g → tag g = 10 + 2 * m + 1) (hz : lenOf (H.L.getD H.M.length undef) ≤ 33554432) (hmT : m ≤ T) (hf : H.n ≤ H.M.length → lenOf (H.L.getD H.M.length undef) ≤ 16777216) :
    HalfR w' (tagAt tag o' 4) T { H with o := o', M := H.M ++ [m] } := by
  have hb : ∀ g, g < w.heap.size → tag g ≠ 4 → w'.heap[g]? = w.heap[g]? := fun g hlt hne => hg.other g hlt (fun e => hne (h.to' g e))
  have ht := tagAt_old hg h.to'
  have hgd : ∀ j, j < H.M.length → (H.M ++ [m]).getD j 0 = H.M.getD j 0 := fun j hj => by
    rw [List.getD_eq_getElem?_getD, List.getElem?_append_left hj, ← List.getD_eq_getElem?_getD]
  have hgl : (H.M ++ [m]).getD H.M.length 0 = m := by simp [List.getD_eq_getElem?_getD]
  refine ⟨h.rl.same (fun g hg => hb g (h.rl.lt g hg) (by rw [h.tl' g hg]; omega)), ?_, fun g hg => (ht g (h.rl.lt g hg)).trans (h.tl' g hg), fun g hg => by unfold tagAt; rw [if_pos hg], fun j hj => ?_, fun j h1 h2 => ?_, by simp; omega⟩
  · show Line w' 3 o' (H.M ++ [m]).length _
    rw [List.length_append, List.length_singleton]
    refine hl.congr (fun j hj => ?_)
    show _ = intV ((H.M ++ [m]).getD j 0)
    by_cases hlt : j < H.M.length
    · rw [if_pos hlt, hgd j hlt]
    · have : j = H.M.length := by omega
      subst this
      rw [if_neg hlt, hgl]
  · have hj' : j < H.M.length + 1 := by simpa using hj
    show GL w' ((H.M ++ [m]).getD j 0) (H.L.getD j undef) (lenOf (H.L.getD j undef)) ∧ (∀ g, (H.L.getD j undef).ownBlock = some g → tagAt tag o' 4 g = 10 + 2 * (H.M ++ [m]).getD j 0 + 1) ∧ lenOf (H.L.getD j undef) ≤ _ ∧ (H.M ++ [m]).getD j 0 ≤ T
    by_cases hlt : j < H.M.length
    · obtain ⟨h1, h2, h3, h4⟩ := h.ent j hlt
      rw [hgd j hlt]
      exact ⟨h1.move (fun g hg => hb g (h1.lt g hg) (by rw [h2 g hg]; omega)), fun g hg => (ht g (h1.lt g hg)).trans (h2 g hg), h3, h4⟩
    · have : j = H.M.length := by omega
      subst this
      rw [hgl]
      exact ⟨hn.move (fun g hg => hb g (hn.lt g hg) (by rw [htg g hg]; omega)), fun g hg => (ht g (hn.lt g hg)).trans (htg g hg), hz, hmT⟩
  · have hj' : j < H.M.length + 1 := by simpa using h2
    by_cases hlt : j < H.M.length
    · exact h.fresh j h1 hlt
    · have : j = H.M.length := by omega
      subst this
      exact hf h1
theorem HalfR.growIn {w w' : World} {tag : Nat → Nat} {T : Nat} {H : HalfSt} (h : HalfR w tag T H) {m n : Nat} {g g' : Value} (hg : Gr 31 (n * 4) 4 w w' g g') (hR : GL w' m g' (n + 1)) (hv : ∀ q, g.ownBlock = some q → tag q = 10 + 2 * m + 1) : HalfR w' (tagAt tag g' (10 + 2 * m + 1)) T H := by
  have hb : ∀ q, q < w.heap.size → tag q ≠ 10 + 2 * m + 1 → w'.heap[q]? = w.heap[q]? := fun q hlt hne => hg.other q hlt (fun e => hne (hv q e))
  have ht := tagAt_oldG hg.gw hv
  refine ⟨h.rl.same (fun q hq => hb q (h.rl.lt q hq) (by rw [h.tl' q hq]; omega)), h.ro.same (fun q hq => hb q (h.ro.lt q hq) (by rw [h.to' q hq]; omega)), fun q hq => (ht q (h.rl.lt q hq)).trans (h.tl' q hq), fun q hq => (ht q (h.ro.lt q hq)).trans (h.to' q hq), fun j hj => ?_, h.fresh, h.le⟩
  obtain ⟨h1, h2, h3, h4⟩ := h.ent j hj
  refine ⟨?_, fun q hq => (ht q (h1.lt q hq)).trans (h2 q hq), h3, h4⟩
  by_cases e : H.M.getD j 0 = m
  · rw [e] at h1 ⊢
    exact h1.grown hg hR
  · exact h1.move (fun q hq => hb q (h1.lt q hq) (by rw [h2 q hq]; omega))
theorem halfGr {te tl te' : TypeId} {mk : Nat → Nat → Value} {w w' : World} {tag : Nat → Nat} {T : Nat} {H : HalfSt} (h : Half 0 te tl mk w tag T H) {m c d : Nat} {g g' : Value} (hg : Gr te' c d w w' g g') (hv : ∀ q, g.ownBlock = some q → tag q = 10 + 2 * m + 1) : Half 0 te tl mk w' (tagAt tag g' (10 + 2 * m + 1)) T H := by
  refine h.conf (10 + 2 * m + 1) (fun q hlt hne => hg.other q hlt (fun e => hne (hv q e))) (tagAt_oldG hg.gw hv) ?_ ?_ ?_
  · omega
  · omega
  · intro m'
    omega
theorem HalfR.growElse {w w' : World} {tag : Nat → Nat} {T : Nat} {H : HalfSt} (h : HalfR w tag T H) {te' : TypeId} {k n : Nat} {u g g' : Value} (hg : Grew te' n u w w' g g') (hv : ∀ q, g.ownBlock = some q → tag q = k) (hk : k = 1 ∨ k = 2 ∨ ∃ m, k = 10 + 2 * m) : HalfR w' (tagAt tag g' k) T H := by
  have hb : ∀ q, q < w.heap.size → tag q ≠ k → w'.heap[q]? = w.heap[q]? := fun q hlt hne => hg.other q hlt (fun e => hne (hv q e))
  refine h.conf k hb (tagAt_old hg hv) ?_ ?_ ?_
  · rcases hk with rfl | rfl | ⟨m, rfl⟩ <;> omega
  · rcases hk with rfl | rfl | ⟨m, rfl⟩ <;> omega
  · intro m'
    rcases hk with rfl | rfl | ⟨m, rfl⟩ <;> omega
theorem HalfR.over {w : World} {tag : Nat → Nat} {T : Nat} {H : HalfSt} (h : HalfR w tag T H) (n' : Nat) (hn : H.M.length ≤ n') : HalfR w tag T { H with n := n' } :=
  ⟨h.rl, h.ro, h.tl', h.to', h.ent, fun j h1 h2 => by have h1' : n' ≤ j := h1; have h2' : j < H.M.length := h2; omega, h.le⟩
structure BookSt where
  b : HalfSt
  u : HalfSt
  turn : Nat
  done : Nat
  used : Nat
def BookSt.flds (S : BookSt) : List Value := [S.b.v, S.b.o, intV S.b.n, nilS, nilS, intV 0, nilS, nilS, intV 0, nilS, nilS, intV 0, nilS, nilS, intV 0, S.u.v, S.u.o, intV S.u.n, nilS, nilS, intV 0, nilS, nilS, intV 0, nilS, nilS, intV 0, nilS, nilS, intV 0, intV S.turn, intV S.done, intV S.used]
structure BookAt (w : World) (pb o : Nat) (tag : Nat → Nat) (S : BookSt) : Prop where
  fl : Flds w pb o S.flds
  hb : Half 0 5 25 bmk w tag S.turn S.b
  hu : HalfR w tag S.turn S.u
  un : Under w tag
  tp : tag pb = 0
  eb : S.b.L.length = S.b.M.length
  eu : S.u.L.length = S.u.M.length
  nb : S.b.n ≤ S.b.M.length
  nu : S.u.n ≤ S.u.M.length
  cnt : 1200 * S.b.M.length + 1200 * S.u.M.length ≤ S.used + 1080 * S.b.n + 1080 * S.u.n
  us : S.used ≤ 16777216
  tn : S.turn ≤ 1000000
theorem tight_any {w : World} {pb o : Nat} {S : BookSt} (h : Flds w pb o S.flds) (n : Nat) (hu : S.used ≤ 16777216) (hn : n ≤ 1152921504606846976) :
    Calls Tryz.prog 64 #[.pointer (some ⟨pb, o, none⟩), .int .i64 n] w fun e w' => (16777216 < S.used + n ∧ e = .returned (.bool true) ∧ w' = w) ∨ (S.used + n ≤ 16777216 ∧ e = .returned (.bool false) ∧ w' = w.setCell ⟨pb, o + 32, none⟩ (intV (S.used + n))) := by
  have c32 : w.cell? ⟨pb, o + 32, none⟩ = some (.int .i64 S.used) := h.c 32 (by decide)
  have f32 := h.f 32 (by decide)
  have e1 : intV (S.used + n) = .int .i64 ((S.used : Int) + (n : Int)) := by unfold intV; rw [show ((S.used + n : Nat) : Int) = (S.used : Int) + (n : Int) by omega]
  rw [e1]
  generalize S.used = u at *
  clear h e1
  by_cases ht : 16777216 < u + n
  · have d1 : decide ((16777216 : Int) < (u : Int) + (n : Int)) = true := decide_eq_true (by omega)
    go_enter Tryz.func64, Tryz.ntmps64
    go_wp2
    go_ret
    exact .inl ⟨ht, rfl, rfl⟩
  · have d1 : decide ((16777216 : Int) < (u : Int) + (n : Int)) = false := decide_eq_false (by omega)
    go_enter Tryz.func64, Tryz.ntmps64
    go_wp2
    go_ret
    exact .inr ⟨by omega, rfl, rfl⟩
structure Mid (pb o : Nat) (t0 : Nat → Nat) (w0 : World) (tag : Nat → Nat) (w : World) (l : List Value) (T : Nat) (B U : HalfSt) : Prop where
  fl : Flds w pb o l
  len : l.length = 33
  hb : Half 0 5 25 bmk w tag T B
  hu : HalfR w tag T U
  un : Under w tag
  tp : tag pb = 0
  no : Noted pb o t0 tag w0 w
theorem BookAt.mid {w : World} {pb o : Nat} {tag : Nat → Nat} {S : BookSt} (h : BookAt w pb o tag S) : Mid pb o tag w tag w S.flds S.turn S.b S.u := ⟨h.fl, rfl, h.hb, h.hu, h.un, h.tp, Noted.refl _ _ _ _⟩
theorem Mid.set {pb o : Nat} {t0 : Nat → Nat} {w0 : World} {tag : Nat → Nat} {w : World} {l : List Value} {T : Nat} {B U : HalfSt} (h : Mid pb o t0 w0 tag w l T B U) (i : Nat) (hi : i < 33) (v : Value) : Mid pb o t0 w0 tag (w.setCell ⟨pb, o + i, none⟩ v) (l.set i v) T B U := by
  have hb : ∀ g, tag g ≠ 0 → (w.setCell ⟨pb, o + i, none⟩ v).heap[g]? = w.heap[g]? := fun g hg => setCell_else w pb (o + i) g v (fun e => hg (by rw [e]; exact h.tp))
  exact ⟨h.fl.set i hi h.len v, by simpa using h.len, h.hb.same hb (Nat.le_refl _), h.hu.same hb (Nat.le_refl _), fun g hg => by simpa using h.un g hg, h.tp, h.no.trans (Noted.set i hi v)⟩
theorem Mid.alloc {pb o : Nat} {t0 : Nat → Nat} {w0 : World} {tag : Nat → Nat} {w : World} {l : List Value} {T : Nat} {B U : HalfSt} (h : Mid pb o t0 w0 tag w l T B U) (x : Obj) : Mid pb o t0 w0 tag (w.alloc x) l T B U := by
  have hb : ∀ g, tag g ≠ 0 → (w.alloc x).heap[g]? = w.heap[g]? := fun g hg => heap_alloc_old w x (h.un g hg)
  exact ⟨h.fl.same (heap_alloc_old w x h.fl.lt) (by simp), h.len, h.hb.same hb (Nat.le_refl _), h.hu.same hb (Nat.le_refl _), fun g hg => by have := h.un g hg; simp; omega, h.tp, h.no.trans (Noted.alloc h.fl.lt x)⟩
theorem Mid.drawn {pb o : Nat} {t0 : Nat → Nat} {w0 : World} {tag : Nat → Nat} {w : World} {l : List Value} {T : Nat} {B U : HalfSt} (h : Mid pb o t0 w0 tag w l T B U) (n : Nat) : Mid pb o t0 w0 tag (w.drewN n) l T B U :=
  ⟨h.fl.same rfl (Nat.le_refl _), h.len, h.hb.same (fun _ _ => rfl) (Nat.le_refl _), h.hu.same (fun _ _ => rfl) (Nat.le_refl _), h.un, h.tp, h.no.trans ⟨rfl, rfl, rfl, Nat.le_refl _, fun _ _ => rfl, fun _ _ _ _ => rfl, fun _ _ => ⟨rfl, rfl⟩⟩⟩
theorem Mid.addB {pb o : Nat} {t0 : Nat → Nat} {w0 : World} {tag : Nat → Nat} {w w' : World} {l : List Value} {T : Nat} {B U : HalfSt} (h : Mid pb o t0 w0 tag w l T B U) {x v' : Value} (hg : Grew 25 B.L.length x w w' B.v v') (hl : Line w' 25 v' (B.L.length + 1) (fun j => if j < B.L.length then B.L.getD j undef else x)) : Mid pb o t0 w0 (tagAt tag v' 1) w' l T { B with v := v', L := B.L ++ [x] } U :=
  ⟨Grew.flds h.fl hg h.hb.tl' (by decide) h.tp, h.len, h.hb.addL (by decide) hg hl, h.hu.growElse hg h.hb.tl' (.inl rfl), tagAt_under hg h.un h.hb.rl, tagAt_pb hg h.hb.tl' h.fl.lt h.tp, h.no.trans (Noted.grew h.fl.lt h.tp (by decide) hg h.hb.tl')⟩
theorem Mid.addU {pb o : Nat} {t0 : Nat → Nat} {w0 : World} {tag : Nat → Nat} {w w' : World} {l : List Value} {T : Nat} {B U : HalfSt} (h : Mid pb o t0 w0 tag w l T B U) {x v' : Value} (hg : Grew 29 U.L.length x w w' U.v v') (hl : Line w' 29 v' (U.L.length + 1) (fun j => if j < U.L.length then U.L.getD j undef else x)) : Mid pb o t0 w0 (tagAt tag v' 3) w' l T B { U with v := v', L := U.L ++ [x] } :=
  ⟨Grew.flds h.fl hg h.hu.tl' (by decide) h.tp, h.len, h.hb.growElse (by decide) (by decide) (c' := 1) (by decide) hg h.hu.tl' (.inl rfl), h.hu.addL hg hl, tagAt_under hg h.un h.hu.rl, tagAt_pb hg h.hu.tl' h.fl.lt h.tp, h.no.trans (Noted.grew h.fl.lt h.tp (by decide) hg h.hu.tl')⟩
theorem Mid.addBo {pb o : Nat} {t0 : Nat → Nat} {w0 : World} {tag : Nat → Nat} {w w' : World} {l : List Value} {T : Nat} {B U : HalfSt} (h : Mid pb o t0 w0 tag w l T B U) (hlen : B.L.length = B.M.length + 1) {m : Nat} {o' : Value} (hg : Grew 3 B.M.length (intV m) w w' B.o o') (hl : Line w' 3 o' (B.M.length + 1) (fun j => if j < B.M.length then intV (B.M.getD j 0) else intV m))
    (hn : Line w 5 (B.L.getD B.M.length undef) (lenOf (B.L.getD B.M.length undef)) (bmk m)) (htg : ∀ g, (B.L.getD B.M.length undef).ownBlock = some g → tag g = 10 + 2 * m) (hz : lenOf (B.L.getD B.M.length undef) ≤ 33554432) (hmT : m ≤ T) (hf : B.n ≤ B.M.length → lenOf (B.L.getD B.M.length undef) ≤ 16777216) :
    Mid pb o t0 w0 (tagAt tag o' 2) w' l T { B with o := o', M := B.M ++ [m] } U :=
  ⟨Grew.flds h.fl hg h.hb.to' (by decide) h.tp, h.len, h.hb.addO (by decide) hlen hg hl hn htg hz hmT hf, h.hu.growElse hg h.hb.to' (.inr (.inl rfl)), tagAt_under hg h.un h.hb.ro, tagAt_pb hg h.hb.to' h.fl.lt h.tp, h.no.trans (Noted.grew h.fl.lt h.tp (by decide) hg h.hb.to')⟩
theorem Mid.addUo {pb o : Nat} {t0 : Nat → Nat} {w0 : World} {tag : Nat → Nat} {w w' : World} {l : List Value} {T : Nat} {B U : HalfSt} (h : Mid pb o t0 w0 tag w l T B U) (hlen : U.L.length = U.M.length + 1) {m : Nat} {o' : Value} (hg : Grew 3 U.M.length (intV m) w w' U.o o') (hl : Line w' 3 o' (U.M.length + 1) (fun j => if j < U.M.length then intV (U.M.getD j 0) else intV m))
    (hn : GL w m (U.L.getD U.M.length undef) (lenOf (U.L.getD U.M.length undef))) (htg : ∀ g, (U.L.getD U.M.length undef).ownBlock = some g → tag g = 10 + 2 * m + 1) (hz : lenOf (U.L.getD U.M.length undef) ≤ 33554432) (hmT : m ≤ T) (hf : U.n ≤ U.M.length → lenOf (U.L.getD U.M.length undef) ≤ 16777216) :
    Mid pb o t0 w0 (tagAt tag o' 4) w' l T B { U with o := o', M := U.M ++ [m] } :=
  ⟨Grew.flds h.fl hg h.hu.to' (by decide) h.tp, h.len, h.hb.growElse (by decide) (by decide) (c' := 1) (by decide) hg h.hu.to' (.inr (.inl rfl)), h.hu.addO hlen hg hl hn htg hz hmT hf, tagAt_under hg h.un h.hu.ro, tagAt_pb hg h.hu.to' h.fl.lt h.tp, h.no.trans (Noted.grew h.fl.lt h.tp (by decide) hg h.hu.to')⟩
theorem Mid.growB {pb o : Nat} {t0 : Nat → Nat} {w0 : World} {tag : Nat → Nat} {w w' : World} {l : List Value} {T : Nat} {B U : HalfSt} (h : Mid pb o t0 w0 tag w l T B U) {m n : Nat} {g g' : Value} {f : Nat → Value} (hg : Grew 5 n (bmk m n) w w' g g') (hv : ∀ q, g.ownBlock = some q → tag q = 10 + 2 * m) (hl : Line w 5 g n f) : Mid pb o t0 w0 (tagAt tag g' (10 + 2 * m)) w' l T B U :=
  ⟨Grew.flds h.fl hg hv (by omega) h.tp, h.len, h.hb.growIn (by decide) hg hv, h.hu.growElse hg hv (.inr (.inr ⟨m, rfl⟩)), tagAt_under hg h.un hl, tagAt_pb hg hv h.fl.lt h.tp, h.no.trans (Noted.grew h.fl.lt h.tp (by omega) hg hv)⟩
theorem Mid.growU {pb o : Nat} {t0 : Nat → Nat} {w0 : World} {tag : Nat → Nat} {w w' : World} {l : List Value} {T : Nat} {B U : HalfSt} (h : Mid pb o t0 w0 tag w l T B U) {m n : Nat} {g g' : Value} (hg : Gr 31 (n * 4) 4 w w' g g') (hR : GL w' m g' (n + 1)) (hv : ∀ q, g.ownBlock = some q → tag q = 10 + 2 * m + 1) : Mid pb o t0 w0 (tagAt tag g' (10 + 2 * m + 1)) w' l T B U :=
  ⟨h.fl.same (hg.other pb h.fl.lt (fun e => by have h1 := hv pb e; have h2 := h.tp; omega)) hg.size, h.len, halfGr h.hb hg hv, h.hu.growIn hg hR hv, tagAt_underG hg.gw h.un hR.lt, by rw [tagAt_oldG hg.gw hv pb h.fl.lt]; exact h.tp, h.no.trans (notedG h.fl.lt h.tp (by omega) hg.gw hv)⟩
end Go.Proofs.YtecfgbjnjgjkoaaGreatDoor.Bp
