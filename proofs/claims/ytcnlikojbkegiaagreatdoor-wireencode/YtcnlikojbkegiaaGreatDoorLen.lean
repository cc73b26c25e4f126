/- lent. -/
import Derived.Test.YtcnlikojbkegiaaGreatDoorLna
namespace Go.Proofs.YtcnlikojbkegiaaGreatDoor
open Go.ChangeShapes Go.WideShapes Go.ChangeAt Go.RowKit
set_option linter.unusedVariables false
set_option linter.unusedSimpArgs false
set_option maxRecDepth 20000
set_option maxHeartbeats 4000000
theorem info31z : (Tryz.prog.info? 31).map (fun i => (i.zero, i.size, i.bytes)) = some (some (.agg #[.int .i64 0, .int .i64 0, .slice none 0 0, .slice none 0 0]), 4, 64) := by kernel_rfl
theorem make31 (n : Nat) (h : n ≤ 1073741824) (w : World) : (Instr.makeSlice 29 (.int .i64 ((n : Int) + 1)) (.int .i64 ((n : Int) + 1))).run Tryz.prog w = .ok (.slice (some ⟨w.heap.size, 0, none⟩) (n + 1) (n + 1)) (w.alloc (.cells (madeCells #[.int .i64 0, .int .i64 0, .slice none 0 0, .slice none 0 0] ((n + 1) * 4)) 31)) := by
  obtain ⟨i, hi, hzz⟩ := Option.map_eq_some_iff.1 info31z
  simp only [Prod.mk.injEq] at hzz
  obtain ⟨hz, hs, hb⟩ := hzz
  have := run_make (P := Tryz.prog) w 29 31 i _ Tryz.underlying29 hi hz .i64 .i64 ((n : Int) + 1) ((n : Int) + 1) (by omega) (Int.le_refl _) (by rw [hb]; omega) (by omega)
  rw [hs] at this
  exact this
abbrev zC : Array Value := #[.int .i64 0, .int .i64 0, .slice none 0 0, .slice none 0 0]
theorem H31 : (Tryz.prog.info? 31).map (·.size) = some 4 := by kernel_rfl
theorem one4 (a b : Int) (x y : Option Addr) (n m c e : Nat) : (#[.int .i64 a, .int .i64 b, .slice x n c, .slice y m e] : Array Value).all (fun x => x.oneCell') = true := by simp [Value.oneCell']
/-- behind the first region -/
structure LnS (W0 wx : World) (k0 k1 : Int) (tn : Nat) (T : List Nat) (gx gt : Nat) : Prop where
  bel : Below W0.heap.size W0 wx
  row : Rws wx 5 1 (.slice (some ⟨gt, 0, none⟩) (tn + 3) (tn + 3)) (tn + 3) (byV (T ++ [7, 7, 7]))
  xs : wx.heap[gx]? = some (.cells #[.int .i64 k0, .int .i64 k1, .slice (some ⟨gt, 0, none⟩) tn (tn + 3), .slice none 0 0] 31 (0, 0))
  n1 : gx ≠ gt
  lx : W0.heap.size ≤ gx
  lt : W0.heap.size ≤ gt
theorem lns_a {W0 w5 : World} {k0 k1 : Int} {tn : Nat} {T : List Nat} (h : Below W0.heap.size W0 w5) (hr : Rws w5 5 1 (.slice (some ⟨W0.heap.size, 0, none⟩) (tn + 3) (tn + 3)) (tn + 3) (byV (T ++ [7, 7, 7]))) :
    LnS W0 (w5.alloc (.cells #[.int .i64 k0, .int .i64 k1, .slice (some ⟨W0.heap.size, 0, none⟩) tn (tn + 3), .slice none 0 0] 31)) k0 k1 tn T w5.heap.size W0.heap.size := by
  have hlt := hr.lt W0.heap.size rfl
  exact ⟨h.alloc h.size _, hr.below ((Below.refl _ _).alloc (Nat.le_refl _) _), heap_alloc_new _ _, by omega, h.size, Nat.le_refl _⟩
theorem set4_row (w : World) (g : Nat) (a b c e v0 v1 v2 v3 : Value) (t : TypeId) (h : w.heap[g]? = some (.cells #[a, b, c, e] t (0, 0))) : (w.setCells g 0 [v0, v1, v2, v3]).heap[g]? = some (.cells #[v0, v1, v2, v3] t (0, 0)) := by
  simp only [World.setCells]
  have h1 := heap_setCell_same w g 0 _ t v0 h
  have h2 := heap_setCell_same _ g (0 + 1) _ t v1 h1
  have h3 := heap_setCell_same _ g (0 + 1 + 1) _ t v2 h2
  have h4 := heap_setCell_same _ g (0 + 1 + 1 + 1) _ t v3 h3
  exact h4
theorem below_set4 {B : Nat} {a w : World} (h : Below B a w) {g : Nat} (hg : B ≤ g) (o : Nat) (v0 v1 v2 v3 : Value) : Below B a (w.setCells g o [v0, v1, v2, v3]) := (((h.setCell (p := ⟨g, o, none⟩) hg v0).setCell (p := ⟨g, o + 1, none⟩) hg v1).setCell (p := ⟨g, o + 1 + 1, none⟩) hg v2).setCell (p := ⟨g, o + 1 + 1 + 1, none⟩) hg v3
theorem row_there {w : World} {g : Nat} {cs : Array Value} {t : TypeId} (h : w.heap[g]? = some (.cells cs t (0, 0))) (n : Nat) (hn : n ≤ cs.size) : w.there g 0 n := fun j hj => by
  rw [cell_of_row _ _ _ _ _ _ h]
  refine ⟨by simp; omega, ?_⟩
  simp [World.frozen?, h]
theorem lns_b {W0 W w5 : World} {k0 k1 : Int} {tn : Nat} {T : List Nat} (hW : W.heap.size = W0.heap.size + 1) (h : Below W0.heap.size W0 W) (hz : W.heap[W0.heap.size]? = some (.cells zC 31 (0, 0))) (h5 : Below W.heap.size W w5) (hr : Rws w5 5 1 (.slice (some ⟨W0.heap.size + 1, 0, none⟩) (tn + 3) (tn + 3)) (tn + 3) (byV (T ++ [7, 7, 7]))) :
    w5.there W0.heap.size 0 4 ∧ LnS W0 (w5.setCells W0.heap.size 0 [.int .i64 k0, .int .i64 k1, .slice (some ⟨W0.heap.size + 1, 0, none⟩) tn (tn + 3), .slice none 0 0]) k0 k1 tn T W0.heap.size (W0.heap.size + 1) := by
  have hz5 : w5.heap[W0.heap.size]? = some (.cells zC 31 (0, 0)) := (h5.block _ (by omega)).trans hz
  have hlt := hr.lt (W0.heap.size + 1) rfl
  refine ⟨row_there hz5 4 (by simp), below_set4 (h.trans (h5.mono (by omega))) (Nat.le_refl _) _ _ _ _ _, hr.same (fun g hg => ?_), set4_row _ _ _ _ _ _ _ _ _ _ _ hz5, by omega, Nat.le_refl _, Nat.le_succ _⟩
  obtain rfl : W0.heap.size + 1 = g := by simpa [Value.ownBlock] using hg
  exact World.heap_setCells_other _ _ _ _ hlt (by omega)
theorem LnS.start {w W0 wx : World} {d : Nat} {x : Tr (d + 1)} {C : Array Value} {gx gt tn ln : Nat} {k0 k1 : Int} (h : LnS W0 wx k0 k1 tn x.nd.t gx gt) (hk0 : k0 = x.nd.k) (hk1 : k1 = x.nd.n) (htn : tn = x.nd.t.length) (hln : ln = x.nd.l.length) (z0 : W0.heap.size = w.heap.size + 2)
    (bx : W0.heap[w.heap.size]? = some (.cells C 31 (0, 0))) (rs : W0.heap[w.heap.size + 1]? = some (.cells zC 31 (0, 0))) (bw : Below w.heap.size w W0) :
    LnL w (wx.alloc (.cells (madeCells #[.int .i64 0, .int .i64 0, .slice none 0 0, .slice none 0 0] ((ln + 1) * 4)) 31)) d x C gx gt wx.heap.size 0 (fun _ => wx.heap.size + 1) := by
  subst hk0 hk1 htn hln
  have hb1 : Below wx.heap.size wx (wx.alloc (.cells (madeCells #[.int .i64 0, .int .i64 0, .slice none 0 0, .slice none 0 0] ((x.nd.l.length + 1) * 4)) 31)) := (Below.refl _ _).alloc (Nat.le_refl _) _
  have s1 := h.bel.size
  have hgx : gx < wx.heap.size := block_lt h.xs
  have hgt := h.row.lt gt rfl
  have := h.lx; have := h.lt
  refine ⟨(bw.trans (h.bel.mono (by omega))).trans (hb1.mono (by omega)), ?_, ?_, h.row.below hb1, (hb1.block gx hgx).trans h.xs, row_there (heap_alloc_new _ _) _ (by rw [size_madeCells]; exact Nat.le_refl _), h.n1, by omega, by omega, by omega, by omega, by omega, by omega, by omega, by omega, fun _ => Nat.le_refl _, fun _ _ => by simp, fun j y hj => absurd hj (Nat.not_lt_zero _)⟩
  · rw [hb1.block _ (by omega), h.bel.block _ (by omega)]; exact bx
  · rw [hb1.block _ (by omega), h.bel.block _ (by omega)]; exact rs
theorem LnL.fin {w wr : World} {d : Nat} {x : Tr (d + 1)} {C : Array Value} {gx gt gl ln tn : Nat} {k0 k1 : Int} {I : Nat → Nat} (h : LnL w wr d x C gx gt gl ln I) (hk0 : k0 = x.nd.k) (hk1 : k1 = x.nd.n) (htn : tn = x.nd.t.length) (hln : ln = x.nd.l.length) (v3 : Value) (hC : C[3]? = some v3) :
    ∀ w8, w8 = wr.setCells gl (ln * 4) [.int .i64 99, .int .i64 0, .slice none 0 0, .slice none 0 0] → (w8.cell? ⟨w.heap.size, 3, none⟩ = some v3 ∧ w8.cell? ⟨gx, 0, none⟩ = some (.int .i64 k0) ∧ w8.cell? ⟨gx, 1, none⟩ = some (.int .i64 k1) ∧ w8.cell? ⟨gx, 2, none⟩ = some (.slice (some ⟨gt, 0, none⟩) tn (tn + 3)) ∧ w8.cell? ⟨gx, 3, none⟩ = some (.slice none 0 0) ∧ w8.frozen? ⟨gx, 3, none⟩ = false) ∧
    ∀ w9, w9 = w8.setCell ⟨gx, 3, none⟩ (.slice (some ⟨gl, 0, none⟩) ln (ln + 1)) → w9.there (w.heap.size + 1) 0 4 ∧
    ∀ W, W = w9.setCells (w.heap.size + 1) 0 [.int .i64 k0, .int .i64 k1, .slice (some ⟨gt, 0, none⟩) tn (tn + 3), .slice (some ⟨gl, 0, none⟩) ln (ln + 1)] → W.heap[w.heap.size + 1]? = some (.cells #[.int .i64 k0, .int .i64 k1, .slice (some ⟨gt, 0, none⟩) tn (tn + 3), .slice (some ⟨gl, 0, none⟩) ln (ln + 1)] 31 (0, 0)) ∧
      Hid (Below w.heap.size w W ∧ LnAt W (d + 1) x w.heap.size W.heap.size (.int .i64 k0) (.int .i64 k1) (.slice (some ⟨gt, 0, none⟩) tn (tn + 3)) (.slice (some ⟨gl, 0, none⟩) ln (ln + 1))) := by
  subst hk0 hk1 htn hln
  obtain ⟨l1, l2, l3, l4⟩ := h.lts
  have lx := h.lx
  have ll := h.ll
  have th := h.there (Nat.le_refl _)
  intro w8 e8
  have s8 : w8.heap.size = wr.heap.size := by rw [e8]; simp [World.setCells]
  have o8 : ∀ b, b < wr.heap.size → b ≠ gl → w8.heap[b]? = wr.heap[b]? := fun b hb hne => by rw [e8]; exact World.heap_setCells_other _ _ _ _ hb hne
  have x8 := (o8 gx l1 h.n3).trans h.xs
  have b8 := (o8 w.heap.size (by omega) (by omega)).trans h.box
  have r8 := (o8 (w.heap.size + 1) l4 (by omega)).trans h.res
  refine ⟨⟨(cell_of_row _ _ _ _ _ _ b8).trans hC, cell_of_row _ _ _ _ _ _ x8, cell_of_row _ _ _ _ _ _ x8, cell_of_row _ _ _ _ _ _ x8, cell_of_row _ _ _ _ _ _ x8, by simp [World.frozen?, x8]⟩, fun w9 e9 => ?_⟩
  have s9 : w9.heap.size = wr.heap.size := by rw [e9]; simp [s8]
  have o9 : ∀ b, b ≠ gx → w9.heap[b]? = w8.heap[b]? := fun b hne => by rw [e9]; exact heap_setCell_other _ _ _ _ hne
  have r9 := (o9 (w.heap.size + 1) (by omega)).trans r8
  refine ⟨row_there r9 4 (by simp), fun W eW => ?_⟩
  have sW : W.heap.size = wr.heap.size := by rw [eW]; simp [World.setCells, s9]
  have oW : ∀ b, b < wr.heap.size → b ≠ w.heap.size + 1 → W.heap[b]? = w9.heap[b]? := fun b hb hne => by rw [eW]; exact World.heap_setCells_other _ _ _ _ (by omega) hne
  have bW : Below w.heap.size w W := by
    rw [eW, e9, e8]
    exact below_set4 ((below_set4 h.bel (by omega) _ _ _ _ _).setCell (p := ⟨gx, 3, none⟩) (by simp only []; omega) _) (Nat.le_succ _) _ _ _ _ _
  have gW : W.heap[gl]? = w8.heap[gl]? := (oW gl l3 (by omega)).trans (o9 gl (fun e => h.n3 e.symm))
  refine ⟨by rw [eW]; exact set4_row _ _ _ _ _ _ _ _ _ _ _ r9, hide ⟨bW, h.last bW sW (fun b hb h1 h2 h3 => ?_) (fun o ho => ?_) ?_⟩⟩
  · rw [oW b hb h3, o9 b h2, o8 b hb h1]
  · rw [cell_same gW, e8, World.cell?_setCells_out gl _ _ wr ⟨gl, o, none⟩ (fun _ _ => .inl ho)]
  · rw [cell_same gW, e8]
    have := World.rangeAt_setCells_same wr gl (x.nd.l.length * 4) [.int .i64 99, .int .i64 0, .slice none 0 0, .slice none 0 0] th 0 _ rfl
    simpa using this
theorem lent_walk (w : World) (d : Nat) (x : Tr (d + 1)) (k0 k1 : Int) (ta la : Option Addr) (tn tc ln lc : Nat) (hk0 : Hid (k0 = x.nd.k)) (hk1 : Hid (k1 = x.nd.n)) (htn : Hid (tn = x.nd.t.length)) (hln : Hid (ln = x.nd.l.length)) (hl : tn ≤ 16777216) (hl2 : ln ≤ 16777216)
    (hB : Hid (Bytes w ta x.nd.t)) (HR : Hid (RlAt w d la x.nd.l))
    (IH : Hid (∀ (wr : World) (y : Tr d) (v0 v1 v2 v3 : Value), y ∈ x.nd.l → RpAt wr d y v0 v1 v2 v3 → Calls Tryz.prog 25 #[.agg #[v0, v1, v2, v3]] wr fun e w' => ∃ (c0 c1 : Int) (a2 : Option Addr) (n2 c2 : Nat) (a3 : Option Addr) (n3 c3 : Nat), e = .returned (.agg #[.int .i64 c0, .int .i64 c1, .slice a2 n2 c2, .slice a3 n3 c3]) ∧ Hid (Below wr.heap.size wr w' ∧ LnAt w' d y wr.heap.size w'.heap.size (.int .i64 c0) (.int .i64 c1) (.slice a2 n2 c2) (.slice a3 n3 c3)))) :
    Calls Tryz.prog 25 #[.agg #[.int .i64 k0, .int .i64 k1, .slice ta tn tc, .slice la ln lc]] w fun e w' => ∃ (c0 c1 : Int) (a2 : Option Addr) (n2 c2 : Nat) (a3 : Option Addr) (n3 c3 : Nat), e = .returned (.agg #[.int .i64 c0, .int .i64 c1, .slice a2 n2 c2, .slice a3 n3 c3]) ∧ Hid (Below w.heap.size w w' ∧ LnAt w' (d + 1) x w.heap.size w'.heap.size (.int .i64 c0) (.int .i64 c1) (.slice a2 n2 c2) (.slice a3 n3 c3)) := by
  have r1 : (tn : Int) ≤ (tn : Int) + 3 := by omega
  have r2 : (0 : Int) ≤ (tn : Int) := by omega
  obtain ⟨W0, HW⟩ : ∃ W0, W0 = (w.alloc (.cells #[.int .i64 k0, .int .i64 k1, .slice ta tn tc, .slice la ln lc] 31)).alloc (.cells zC 31) := ⟨_, rfl⟩
  have z0 : W0.heap.size = w.heap.size + 2 := by rw [HW]; simp
  have bx : W0.heap[w.heap.size]? = some (.cells #[.int .i64 k0, .int .i64 k1, .slice ta tn tc, .slice la ln lc] 31 (0, 0)) := by
    rw [HW, Below.heap_alloc _ _ _ (by simp)]; exact heap_alloc_new _ _
  have rs : W0.heap[w.heap.size + 1]? = some (.cells zC 31 (0, 0)) := by
    have := heap_alloc_new (w.alloc (.cells #[.int .i64 k0, .int .i64 k1, .slice ta tn tc, .slice la ln lc] 31)) (.cells zC 31)
    rw [HW, ← this]; simp
  have bw : Below w.heap.size w W0 := by
    rw [HW]; exact ((Below.refl _ _).alloc (Nat.le_refl _) _).alloc (by simp) _
  have cl : ∀ {W : World} (h : Below W0.heap.size W0 W), W.cell? ⟨w.heap.size, 0, none⟩ = some (.int .i64 k0) ∧ W.cell? ⟨w.heap.size, 1, none⟩ = some (.int .i64 k1) ∧ W.cell? ⟨w.heap.size, 2, none⟩ = some (.slice ta tn tc) ∧ W.cell? ⟨w.heap.size, 3, none⟩ = some (.slice la ln lc) := fun {W} h => by
    have hb : W.heap[w.heap.size]? = _ := (h.block w.heap.size (by omega)).trans bx
    exact ⟨cell_of_row _ _ _ _ _ _ hb, cell_of_row _ _ _ _ _ _ hb, cell_of_row _ _ _ _ _ _ hb, cell_of_row _ _ _ _ _ _ hb⟩
  have CS : Hid (∀ W, Hid (Below W0.heap.size W0 W) → Calls Tryz.prog 14 #[.slice ta tn tc] W fun e w' => e = .returned (.slice (some ⟨W.heap.size, 0, none⟩) (tn + 3) (tn + 3)) ∧ Hid (Below W.heap.size W w' ∧ Rws w' 5 1 (.slice (some ⟨W.heap.size, 0, none⟩) (tn + 3) (tn + 3)) (tn + 3) (byV (x.nd.t ++ [7, 7, 7]))) ∧ w'.cell? ⟨w.heap.size, 0, none⟩ = some (.int .i64 k0) ∧ w'.cell? ⟨w.heap.size, 1, none⟩ = some (.int .i64 k1) ∧ w'.cell? ⟨w.heap.size, 2, none⟩ = some (.slice ta tn tc)) := hide (fun W hW => by
    have e1 := unhide htn
    have hbW := bw.trans ((unhide hW).mono (by omega))
    have := spare_any ta tc x.nd.t W ((unhide hB).below hbW) (by omega)
    rw [← e1] at this
    refine this.mono ?_
    rintro e w' ⟨rfl, k⟩
    have c := cl ((unhide hW).trans ((unhide k).2.mono (unhide hW).size))
    exact ⟨rfl, hide ⟨(unhide k).2, (unhide k).1⟩, c.1, c.2.1, c.2.2.1⟩)
  have B0 : Hid (Below W0.heap.size W0 W0.drew) := hide (Below.refl _ _).drew
  have B1 : Hid (Below W0.heap.size W0 (W0.alloc (.cells zC 31)).drew) := hide (((Below.refl _ _).alloc (Nat.le_refl _) _).drew)
  have FA : Hid (∀ w5, Hid (Below W0.heap.size W0.drew w5 ∧ Rws w5 5 1 (.slice (some ⟨W0.heap.size, 0, none⟩) (tn + 3) (tn + 3)) (tn + 3) (byV (x.nd.t ++ [7, 7, 7]))) → Hid (LnS W0 (w5.alloc (.cells #[.int .i64 k0, .int .i64 k1, .slice (some ⟨W0.heap.size, 0, none⟩) tn (tn + 3), .slice none 0 0] 31)) k0 k1 tn x.nd.t w5.heap.size W0.heap.size)) := hide (fun w5 h => hide (lns_a ((unhide B0).trans (unhide h).1) (unhide h).2))
  have FBT : ∀ w5, Below (W0.alloc (.cells zC 31)).drew.heap.size (W0.alloc (.cells zC 31)).drew w5 ∧ Rws w5 5 1 (.slice (some ⟨(W0.alloc (.cells zC 31)).drew.heap.size, 0, none⟩) (tn + 3) (tn + 3)) (tn + 3) (byV (x.nd.t ++ [7, 7, 7])) → w5.there W0.heap.size 0 4 ∧ LnS W0 (w5.setCells W0.heap.size 0 [.int .i64 k0, .int .i64 k1, .slice (some ⟨W0.heap.size + 1, 0, none⟩) tn (tn + 3), .slice none 0 0]) k0 k1 tn x.nd.t W0.heap.size (W0.heap.size + 1) := fun w5 h => lns_b (W := (W0.alloc (.cells zC 31)).drew) (by show (W0.alloc (.cells zC 31)).heap.size = _; simp) (unhide B1) (heap_alloc_new W0 (.cells zC 31)) h.1 (by have e : (W0.alloc (.cells zC 31)).drew.heap.size = W0.heap.size + 1 := (by show (W0.alloc (.cells zC 31)).heap.size = _; simp); have h2 := h.2; rw [e] at h2; exact h2)
  have TB : Hid (∀ w5, Hid (Below (W0.alloc (.cells zC 31)).drew.heap.size (W0.alloc (.cells zC 31)).drew w5 ∧ Rws w5 5 1 (.slice (some ⟨(W0.alloc (.cells zC 31)).drew.heap.size, 0, none⟩) (tn + 3) (tn + 3)) (tn + 3) (byV (x.nd.t ++ [7, 7, 7]))) → w5.there W0.heap.size 0 4) := hide (fun w5 h => (FBT w5 (unhide h)).1)
  have FB : Hid (∀ w5, Hid (Below (W0.alloc (.cells zC 31)).drew.heap.size (W0.alloc (.cells zC 31)).drew w5 ∧ Rws w5 5 1 (.slice (some ⟨(W0.alloc (.cells zC 31)).drew.heap.size, 0, none⟩) (tn + 3) (tn + 3)) (tn + 3) (byV (x.nd.t ++ [7, 7, 7]))) → Hid (LnS W0 (w5.setCells W0.heap.size 0 [.int .i64 k0, .int .i64 k1, .slice (some ⟨W0.heap.size + 1, 0, none⟩) tn (tn + 3), .slice none 0 0]) k0 k1 tn x.nd.t W0.heap.size (W0.heap.size + 1))) := hide (fun w5 h => hide (FBT w5 (unhide h)).2)
  have SB : Hid (∀ w5, Hid (Below (W0.alloc (.cells zC 31)).drew.heap.size (W0.alloc (.cells zC 31)).drew w5 ∧ Rws w5 5 1 (.slice (some ⟨(W0.alloc (.cells zC 31)).drew.heap.size, 0, none⟩) (tn + 3) (tn + 3)) (tn + 3) (byV (x.nd.t ++ [7, 7, 7]))) → (fun w' => w'.cell? ⟨w.heap.size, 0, none⟩ = some (.int .i64 k0) ∧ w'.cell? ⟨w.heap.size, 1, none⟩ = some (.int .i64 k1) ∧ w'.cell? ⟨w.heap.size, 2, none⟩ = some (.slice ta tn tc)) (w5.setCells W0.heap.size 0 [.int .i64 k0, .int .i64 k1, .slice (some ⟨W0.heap.size + 1, 0, none⟩) tn (tn + 3), .slice none 0 0])) := hide (fun w5 h => by have c := cl (FBT w5 (unhide h)).2.bel; exact ⟨c.1, c.2.1, c.2.2.1⟩)
  obtain ⟨b0, b1, b2, -⟩ := cl (Below.refl W0.heap.size W0)
  have CL : Hid (∀ W : World, Below W0.heap.size W0 W → _) := hide (fun W h => @cl W h)
  have Z0 := hide z0
  have BX := hide bx
  have RS := hide rs
  have BW := hide bw
  have H31 := hide H31
  clear cl bx rs bw FBT z0
  go_enter Tryz.func25, Tryz.ntmps25
  go_upto_region 1 with fail
  rw [← HW]
  clear HW
  go_cut [3] from 6 to 17 (fun pv wx => ∃ gx gt, pv = .pointer (some ⟨gx, 0, none⟩) ∧ Hid (LnS W0 wx k0 k1 tn x.nd.t gx gt))
  case first =>
    refine wp_region_held_drew (S := (fun w' => w'.cell? ⟨w.heap.size, 0, none⟩ = some (.int .i64 k0) ∧ w'.cell? ⟨w.heap.size, 1, none⟩ = some (.int .i64 k1) ∧ w'.cell? ⟨w.heap.size, 2, none⟩ = some (.slice ta tn tc))) (by kernel_rfl) ⟨b0, b1, b2⟩ (fun hHeld => ?_)
    refine wpAnyH_take (i := 0) (oi := ⟨_, _, _, _, _, _⟩) (v := ?va0) rfl (by kernel_rfl) (by kernel_rfl) (by kernel_rfl) (fun _ _ _ h => h) (Or.inl ⟨by kernel_rfl, ?hya0⟩) (by assumption) ?_
    case hya0 =>
      intro w hSw
      try dsimp only at hSw
      go_simp
      all_goals with_reducible rfl
    try simp only [Act.put, List.setIfInBounds_toArray, List.set_cons_zero, List.set_cons_succ]
    refine wpAnyH_take (i := 1) (oi := ⟨_, _, _, _, _, _⟩) (v := ?va1) rfl (by kernel_rfl) (by kernel_rfl) (by kernel_rfl) (fun _ _ _ h => h) (Or.inl ⟨by kernel_rfl, ?hya1⟩) (by assumption) ?_
    case hya1 =>
      intro w hSw
      try dsimp only at hSw
      go_simp
      all_goals with_reducible rfl
    try simp only [Act.put, List.setIfInBounds_toArray, List.set_cons_zero, List.set_cons_succ]
    refine wpAnyH_take (i := 2) (oi := ⟨_, _, _, _, _, _⟩) (v := ?va2) rfl (by kernel_rfl) (by kernel_rfl) (by kernel_rfl) (fun _ _ _ h => h) (Or.inl ⟨by kernel_rfl, ?hya2⟩) (by assumption) ?_
    case hya2 =>
      intro w hSw
      try dsimp only at hSw
      go_simp
      all_goals with_reducible rfl
    try simp only [Act.put, List.setIfInBounds_toArray, List.set_cons_zero, List.set_cons_succ]
    refine wpAnyH_take (i := 3) (oi := ⟨_, _, _, _, _, _⟩) (v := ?va3) rfl (by kernel_rfl) (by kernel_rfl) (by kernel_rfl) (fun _ _ _ h => h) (Or.inl ⟨by kernel_rfl, ?hya3⟩) (by assumption) ?_
    case hya3 =>
      intro w hSw
      try dsimp only at hSw
      go_simp
      all_goals with_reducible rfl
    try simp only [Act.put, List.setIfInBounds_toArray, List.set_cons_zero, List.set_cons_succ]
    refine wpAnyH_take (i := 4) (oi := ⟨_, _, _, _, _, _⟩) (v := ?va4) rfl (by kernel_rfl) (by kernel_rfl) (by kernel_rfl) (fun _ _ _ h => h) (Or.inl ⟨by kernel_rfl, ?hya4⟩) (by assumption) ?_
    case hya4 =>
      intro w hSw
      try dsimp only at hSw
      go_simp
      all_goals with_reducible rfl
    try simp only [Act.put, List.setIfInBounds_toArray, List.set_cons_zero, List.set_cons_succ]
    refine wpAnyH_take (i := 5) (oi := ⟨_, _, _, _, _, _⟩) (v := ?va5) rfl (by kernel_rfl) (by kernel_rfl) (by kernel_rfl) (fun _ _ _ h => h) (Or.inl ⟨by kernel_rfl, ?hya5⟩) (by assumption) ?_
    case hya5 =>
      intro w hSw
      try dsimp only at hSw
      go_simp
      all_goals with_reducible rfl
    try simp only [Act.put, List.setIfInBounds_toArray, List.set_cons_zero, List.set_cons_succ]
    refine wpAnyH_take (i := 7) (oi := ⟨_, _, _, _, _, _⟩) (v := ?va7) rfl (by kernel_rfl) (by kernel_rfl) (by kernel_rfl) (fun _ _ _ h => h) (Or.inl ⟨by kernel_rfl, ?hya7⟩) (by assumption) ?_
    case hya7 =>
      intro w hSw
      try dsimp only at hSw
      go_simp
      all_goals with_reducible rfl
    try simp only [Act.put, List.setIfInBounds_toArray, List.set_cons_zero, List.set_cons_succ]
    refine wpAnyH_take (i := 8) (oi := ⟨_, _, _, _, _, _⟩) (v := ?va8) rfl (by kernel_rfl) (by kernel_rfl) (by kernel_rfl) (fun _ _ _ h => h) (Or.inl ⟨by kernel_rfl, ?hya8⟩) (by assumption) ?_
    case hya8 =>
      intro w hSw
      try dsimp only at hSw
      go_simp
      all_goals with_reducible rfl
    try simp only [Act.put, List.setIfInBounds_toArray, List.set_cons_zero, List.set_cons_succ]
    refine wpAnyH_take (i := 9) (oi := ⟨_, _, _, _, _, _⟩) (v := ?va9) rfl (by kernel_rfl) (by kernel_rfl) (by kernel_rfl) (fun _ _ _ h => h) (Or.inl ⟨by kernel_rfl, ?hya9⟩) (by assumption) ?_
    case hya9 =>
      intro w hSw
      try dsimp only at hSw
      go_simp
      all_goals with_reducible rfl
    try simp only [Act.put, List.setIfInBounds_toArray, List.set_cons_zero, List.set_cons_succ]
    refine wpAnyH_ready (rs := [6, 12]) (by kernel_rfl) (by simp) ?_
    refine AllReadyH.cons (o := ⟨_, _, _, _, _, _⟩) rfl (fun K hK => ?_) (AllReadyH.cons (o := ⟨_, _, _, _, _, _⟩) rfl (fun K hK => ?_) AllReadyH.nil)
    · go_simp
      refine (unhide CS _ B0).mono ?_
      rintro e w5 ⟨rfl, k5, s5⟩
      go_wp2_with fail
      refine hK.out _ _ ?_ (fun hHeld => ?_)
      · (try dsimp only); first | assumption | go_keep
      clear hK K
      try simp only [Act.put, List.setIfInBounds_toArray, List.set_cons_zero, List.set_cons_succ]
      refine wpAnyH_take (i := 10) (oi := ⟨_, _, _, _, _, _⟩) (v := ?vb10) rfl (by kernel_rfl) (by kernel_rfl) (by kernel_rfl) (fun _ _ _ h => h) (Or.inl ⟨by kernel_rfl, ?hyb10⟩) (by assumption) ?_
      case hyb10 =>
        intro w hSw
        try dsimp only at hSw
        go_simp
        all_goals with_reducible rfl
      try simp only [Act.put, List.setIfInBounds_toArray, List.set_cons_zero, List.set_cons_succ]
      refine wpAnyH_take (i := 11) (oi := ⟨_, _, _, _, _, _⟩) (v := ?vb11) rfl (by kernel_rfl) (by kernel_rfl) (by kernel_rfl) (fun _ _ _ h => h) (Or.inl ⟨by kernel_rfl, ?hyb11⟩) (by assumption) ?_
      case hyb11 =>
        intro w hSw
        try dsimp only at hSw
        go_simp
        all_goals with_reducible rfl
      try simp only [Act.put, List.setIfInBounds_toArray, List.set_cons_zero, List.set_cons_succ]
      refine wpAnyH_ready (rs := [12]) (by kernel_rfl) (by simp) ?_
      refine AllReadyH.cons (o := ⟨_, _, _, _, _, _⟩) rfl (fun K hK => ?_) AllReadyH.nil
      go_simp
      refine hK.out _ _ ?_ (fun hHeld => ?_)
      · (try dsimp only); first | assumption | go_keep
      clear hK K
      try simp only [Act.put, List.setIfInBounds_toArray, List.set_cons_zero, List.set_cons_succ]
      refine wpAnyH_ready (rs := [13]) (by kernel_rfl) (by simp) ?_
      refine AllReadyH.cons (o := ⟨_, _, _, _, _, _⟩) rfl (fun K hK => ?_) AllReadyH.nil
      go_simp
      refine hK.out _ _ ?_ (fun hHeld => ?_)
      · (try dsimp only); first | assumption | go_keep
      clear hK K
      try simp only [Act.put, List.setIfInBounds_toArray, List.set_cons_zero, List.set_cons_succ]
      refine wpAnyH_done (by kernel_rfl) ?_ _
      go_wp2_with fail
      go_meet
      exact ⟨_, _, rfl, unhide FA w5 k5⟩
    · go_simp
      refine hK.out _ _ ?_ (fun hHeld => ?_)
      · (try dsimp only); first | assumption | go_keep
      clear hK K
      try simp only [Act.put, List.setIfInBounds_toArray, List.set_cons_zero, List.set_cons_succ]
      refine wpAnyH_ready (rs := [6]) (by kernel_rfl) (by simp) ?_
      refine AllReadyH.cons (o := ⟨_, _, _, _, _, _⟩) rfl (fun K hK => ?_) AllReadyH.nil
      go_simp
      refine (unhide CS _ B1).mono ?_
      rintro e w5 ⟨rfl, k5, s5⟩
      go_wp2_with fail
      refine hK.out _ _ ?_ (fun hHeld => ?_)
      · (try dsimp only); first | assumption | go_keep
      clear hK K
      try simp only [Act.put, List.setIfInBounds_toArray, List.set_cons_zero, List.set_cons_succ]
      refine wpAnyH_take (i := 10) (oi := ⟨_, _, _, _, _, _⟩) (v := ?vc10) rfl (by kernel_rfl) (by kernel_rfl) (by kernel_rfl) (fun _ _ _ h => h) (Or.inl ⟨by kernel_rfl, ?hyc10⟩) (by assumption) ?_
      case hyc10 =>
        intro w hSw
        try dsimp only at hSw
        go_simp
        all_goals with_reducible rfl
      try simp only [Act.put, List.setIfInBounds_toArray, List.set_cons_zero, List.set_cons_succ]
      refine wpAnyH_take (i := 11) (oi := ⟨_, _, _, _, _, _⟩) (v := ?vc11) rfl (by kernel_rfl) (by kernel_rfl) (by kernel_rfl) (fun _ _ _ h => h) (Or.inl ⟨by kernel_rfl, ?hyc11⟩) (by assumption) ?_
      case hyc11 =>
        intro w hSw
        try dsimp only at hSw
        go_simp
        all_goals with_reducible rfl
      try simp only [Act.put, List.setIfInBounds_toArray, List.set_cons_zero, List.set_cons_succ]
      refine wpAnyH_ready (rs := [13]) (by kernel_rfl) (by simp) ?_
      refine AllReadyH.cons (o := ⟨_, _, _, _, _, _⟩) rfl (fun K hK => ?_) AllReadyH.nil
      refine wp_store_mid 31 (.tmp 3) (.tmp 17) rfl W0.heap.size 0 #[.int .i64 k0, .int .i64 k1, .slice (some ⟨W0.heap.size + 1, 0, none⟩) tn (tn + 3), .slice none 0 0] rfl rfl (unhide TB w5 k5) (unhide H31) (one4 _ _ _ _ _ _ _ _) ?_
      refine hK.out _ _ ?_ (fun hHeld => ?_)
      · exact unhide SB w5 k5
      clear hK K
      try simp only [Act.put, List.setIfInBounds_toArray, List.set_cons_zero, List.set_cons_succ]
      refine wpAnyH_done (by kernel_rfl) ?_ _
      go_wp2_with fail
      go_meet
      exact ⟨_, _, rfl, unhide FB w5 k5⟩
  case rest =>
    obtain ⟨gx, gt, rfl, hS⟩ := hcut
    clear b0 b1 b2 CS B0 B1 FA TB FB SB
    have b3 := (unhide CL wc (unhide hS).bel).2.2.2
    have m1 := make31 ln (by omega)
    have q1 : (0 : Int) ≤ (ln : Int) + 1 := by omega
    have q2 : (ln : Int) + 1 ≤ 16777217 := by omega
    have ST : Hid (LnL w (wc.alloc (.cells (madeCells #[.int .i64 0, .int .i64 0, .slice none 0 0, .slice none 0 0] ((ln + 1) * 4)) 31)) d x #[.int .i64 k0, .int .i64 k1, .slice ta tn tc, .slice la ln lc] gx gt wc.heap.size 0 (fun _ => wc.heap.size + 1)) := hide ((unhide hS).start (unhide hk0) (unhide hk1) (unhide htn) (unhide hln) (unhide Z0) (unhide BX) (unhide RS) (unhide BW))
    clear CL hS BX RS BW Z0
    go_wp2_with fail
    go_loopw [5] (fun iv wr => ∃ (i : Nat) (I : Nat → Nat), iv = .int .i64 (i : Nat) ∧ i ≤ ln ∧ Hid (LnL w wr d x #[.int .i64 k0, .int .i64 k1, .slice ta tn tc, .slice la ln lc] gx gt wc.heap.size i I)) (fun iv _ => ln - (intOf iv).toNat)
    case atStart => exact ⟨0, _, rfl, Nat.zero_le _, ST⟩
    case round =>
      obtain ⟨i, I, rfl, hi, hL⟩ := hrel
      clear ST
      have c3 : wr.cell? ⟨w.heap.size, 3, none⟩ = some (.slice la ln lc) := cell_of_row _ _ _ _ _ _ (unhide hL).box
      rcases Nat.lt_or_ge i ln with hlt | hge
      · have f1 : decide ((i : Int) < (ln : Int)) = true := decide_eq_true (by omega)
        have g1 : (0 : Int) ≤ (i : Int) := by omega
        have g2 : (i : Int) < (ln : Int) := by omega
        have g3 : (i : Int) < (ln : Int) + 1 := by omega
        obtain ⟨b, off, rfl, hb, hc⟩ : ∃ b off, la = some ⟨b, off, none⟩ ∧ b < w.heap.size ∧ ∀ i y, x.nd.l[i]? = some y → ∃ u0 u1 u2 u3, w.cell? ⟨b, off + i * 4, none⟩ = some u0 ∧ w.cell? ⟨b, off + i * 4 + 1, none⟩ = some u1 ∧ w.cell? ⟨b, off + i * 4 + 2, none⟩ = some u2 ∧ w.cell? ⟨b, off + i * 4 + 3, none⟩ = some u3 ∧ RpAt w d y u0 u1 u2 u3 := by
          rcases unhide HR with h | h
          · have := unhide hln; rw [h] at this; simp at this; omega
          · exact h
        obtain ⟨y, hy⟩ : ∃ y, x.nd.l[i]? = some y := ⟨_, List.getElem?_eq_getElem (by have := unhide hln; omega)⟩
        obtain ⟨u0, u1, u2, u3, e0, e1, e2, e3, r⟩ := hc i y hy
        have d0 : wr.cell? ⟨b, off + i * 4, none⟩ = some u0 := by rw [(unhide hL).bel.cell hb]; exact e0
        have d1 : wr.cell? ⟨b, off + i * 4 + 1, none⟩ = some u1 := by rw [(unhide hL).bel.cell hb]; exact e1
        have d2 : wr.cell? ⟨b, off + i * 4 + 2, none⟩ = some u2 := by rw [(unhide hL).bel.cell hb]; exact e2
        have d3 : wr.cell? ⟨b, off + i * 4 + 3, none⟩ = some u3 := by rw [(unhide hL).bel.cell hb]; exact e3
        have CM : Hid (Calls Tryz.prog 25 #[.agg #[u0, u1, u2, u3]] wr fun e w' => ∃ (c0 c1 : Int) (a2 : Option Addr) (n2 c2 : Nat) (a3 : Option Addr) (n3 c3 : Nat), e = .returned (.agg #[.int .i64 c0, .int .i64 c1, .slice a2 n2 c2, .slice a3 n3 c3]) ∧ w'.there wc.heap.size (i * 4) 4 ∧ Hid (LnL w (w'.setCells wc.heap.size (i * 4) [.int .i64 c0, .int .i64 c1, .slice a2 n2 c2, .slice a3 n3 c3]) d x #[.int .i64 k0, .int .i64 k1, .slice ta tn tc, .slice (some ⟨b, off, none⟩) ln lc] gx gt wc.heap.size (i + 1) (fun j => if j ≤ i then I j else w'.heap.size))) := hide (by
          refine (unhide IH wr y u0 u1 u2 u3 (List.mem_of_getElem? hy) (r.below (unhide hL).bel)).mono ?_
          rintro e w' ⟨c0, c1, a2, n2, c2, a3, n3, c3, rfl, k⟩
          refine ⟨c0, c1, a2, n2, c2, a3, n3, c3, rfl, fun j hj => ?_, hide ((unhide hL).step hy (unhide k).1 (unhide k).2)⟩
          have l3 := (unhide hL).lts.2.2.1
          rw [(unhide k).1.cell (p := ⟨wc.heap.size, i * 4 + j, none⟩) l3, (unhide k).1.frozen (p := ⟨wc.heap.size, i * 4 + j, none⟩) l3]
          exact (unhide hL).there (j := i) (by have := unhide hln; omega) j hj)
        clear e0 e1 e2 e3 r hc hy hL
        go_wp2_with (first
          | (go_at_call 25; refine (unhide CM).mono ?_; rintro e w5 ⟨c0, c1, a2, n2, c2, a3, n3, c3', rfl, th, k5⟩)
          | (refine wpList_store_mid rfl 31 (.tmp 38) (.tmp 37) rfl wc.heap.size (i * 4) #[.int .i64 c0, .int .i64 c1, .slice a2 n2 c2, .slice a3 n3 c3'] rfl rfl th (unhide H31) (one4 _ _ _ _ _ _ _ _) ?_))
        all_goals go_roundw
        all_goals first | exact ⟨i + 1, _, by go_num, by omega, k5⟩ | (simp [intOf]; omega)
      · obtain rfl : i = ln := by omega
        have f1 : decide ((i : Int) < (i : Int)) = false := decide_eq_false (by omega)
        have g4 : (i : Int) < (i : Int) + 1 := by omega
        have g5 : (0 : Int) ≤ (i : Int) := by omega
        have g6 : (i : Int) ≤ (i : Int) + 1 := by omega
        have TH := hide ((unhide hL).there (j := i) (by have := unhide hln; omega))
        have G8 := hide ((unhide hL).fin (unhide hk0) (unhide hk1) (unhide htn) (unhide hln) (.slice la i lc) rfl)
        clear hL IH HR hB hk0 hk1 htn hln m1
        go_wp2_with (first
          | (refine wpList_store_mid rfl 31 (.tmp 44) (.tmp 43) rfl wc.heap.size (i * 4) #[.int .i64 99, .int .i64 0, .slice none 0 0, .slice none 0 0] rfl rfl (unhide TH) (unhide H31) (one4 _ _ _ _ _ _ _ _) ?_
             generalize hw8 : World.setCells wr wc.heap.size (i * 4) _ = w8
             obtain ⟨⟨y1, y2, y3, y4, y5, y6⟩, G9⟩ := unhide G8 w8 hw8.symm
             have G9 := hide (G9 _ rfl)
             clear hw8)
          | (refine wpList_store_mid rfl 31 (.tmp 2) (.tmp 51) rfl (w.heap.size + 1) 0 #[.int .i64 k0, .int .i64 k1, .slice (some ⟨gt, 0, none⟩) tn (tn + 3), .slice (some ⟨wc.heap.size, 0, none⟩) i (i + 1)] rfl rfl (unhide G9).1 (unhide H31) (one4 _ _ _ _ _ _ _ _) ?_
             generalize hw9 : World.setCells _ (w.heap.size + 1) 0 _ = w9
             obtain ⟨rW, GF⟩ := (unhide G9).2 w9 hw9.symm
             clear hw9))
        exact bodyPost_ret (results_cell_row (p := 2) (ty := 31) rfl _ _ (w.heap.size + 1) 31 _ (0, 0) _ rfl rW Tryz.underlying31 rfl (unhide H31)) rfl ⟨_, _, _, _, _, _, _, _, rfl, GF⟩

theorem lent_any : ∀ (d : Nat) (x : Tr d) (w : World) (v0 v1 v2 v3 : Value), RpAt w d x v0 v1 v2 v3 → sz d x ≤ 16777216 → Calls Tryz.prog 25 #[.agg #[v0, v1, v2, v3]] w fun e w' => ∃ (c0 c1 : Int) (a2 : Option Addr) (n2 c2 : Nat) (a3 : Option Addr) (n3 c3 : Nat), e = .returned (.agg #[.int .i64 c0, .int .i64 c1, .slice a2 n2 c2, .slice a3 n3 c3]) ∧ Hid (Below w.heap.size w w' ∧ LnAt w' d x w.heap.size w'.heap.size (.int .i64 c0) (.int .i64 c1) (.slice a2 n2 c2) (.slice a3 n3 c3))
  | 0, x, w, v0, v1, v2, v3, h, _ => absurd h id
  | d + 1, x, w, v0, v1, v2, v3, h, hs => by
    obtain ⟨⟨rfl, -⟩, ⟨rfl, -⟩, ⟨ta, tc, rfl, hB, -, htn, -⟩, la, lc, rfl, hln, hat⟩ := h
    have := sz_list x
    exact lent_walk w d x _ _ ta la _ tc _ lc (hide rfl) (hide rfl) (hide rfl) (hide rfl) (by omega) (by omega) (hide hB) (hide hat) (hide (fun wr y u0 u1 u2 u3 hy hr => lent_any d y wr u0 u1 u2 u3 hr (by have := sz_child x hy; omega)))
end Go.Proofs.YtcnlikojbkegiaaGreatDoor
