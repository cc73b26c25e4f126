/- WireBack: fit of a list. -/
import Derived.Test.YtfgemcmiilbodaaDoorBke
namespace Go.Proofs.YtfgemcmiilbodaaDoor
open Go.ChangeShapes Go.WideShapes Go.ChangeAt Go.RowKit
set_option linter.unusedVariables false
set_option linter.unusedSimpArgs false
set_option maxRecDepth 100000
set_option maxHeartbeats 8000000

/-- a list that is being made fit -/
structure FitAt (w W : World) (C1 : Array Value) (m : Nat) (v : Value) (Y : List (Tr (m + 1))) : Prop where
  ex : Ex2 w W C1 #[.int .i64 0, .int .i64 0, .slice none 0 0, .slice none 0 0]
  b6 : W.heap[w.heap.size + 2]? = some (.cells #[.int .i64 6, .int .i64 0, .slice none 0 0, v] 27 (0, 0))
  row : ∃ F : Nat → Value, Rws W 27 4 v Y.length F ∧ (∀ g, v.ownBlock = some g → w.heap.size + 2 < g) ∧
    ∀ i y, Y[i]? = some y → DrAt W (m + 1) (fun b => w.heap.size + 2 < b ∧ v.ownBlock ≠ some b) y (F (i * 4)) (F (i * 4 + 1)) (F (i * 4 + 2)) (F (i * 4 + 3))
theorem FitAt.start (w : World) (C1 : Array Value) (m : Nat) : FitAt w (((w.alloc (.cells C1 27)).alloc (.cells #[.int .i64 0, .int .i64 0, .slice none 0 0, .slice none 0 0] 27)).alloc (.cells #[.int .i64 6, .int .i64 0, .slice none 0 0, .slice none 0 0] 27)) C1 m (.slice none 0 0) [] := by
  refine ⟨(Ex2.new w C1 #[.int .i64 0, .int .i64 0, .slice none 0 0, .slice none 0 0]).next ((Below.refl _ _).alloc (Nat.le_refl _) _), ?_, fun _ => undef, .inl ⟨rfl, rfl⟩, fun g hg => (by simp [Value.ownBlock] at hg), fun i y hi => (by simp at hi)⟩
  have := heap_alloc_new ((w.alloc (.cells C1 27)).alloc (.cells #[.int .i64 0, .int .i64 0, .slice none 0 0, .slice none 0 0] 27)) (.cells #[.int .i64 6, .int .i64 0, .slice none 0 0, .slice none 0 0] 27)
  rw [World.size_alloc, World.size_alloc] at this
  exact this
theorem FitAt.drew {w W : World} {C1 : Array Value} {m : Nat} {v : Value} {Y : List (Tr (m + 1))} (h : FitAt w W C1 m v Y) : FitAt w W.drew C1 m v Y := by
  obtain ⟨F, h1, h2, h3⟩ := h.row
  exact ⟨h.ex.drew, h.b6, F, h1, h2, fun i y hi => (h3 i y hi).same (fun b _ _ => rfl)⟩
/-- one more -/
theorem FitAt.step {w W w3 w6 : World} {C1 : Array Value} {m : Nat} {v v' : Value} {Y : List (Tr (m + 1))} {x : Tr (m + 1)} {F : Nat → Value} {k0 k1 : Int} {ta : Option Addr} {tn tc : Nat} {la : Option Addr} {ln lc : Nat} (h : FitAt w W C1 m v Y)
    (hF : Rws W 27 4 v Y.length F) (hO : ∀ g, v.ownBlock = some g → w.heap.size + 2 < g) (hE : ∀ i y, Y[i]? = some y → DrAt W (m + 1) (fun b => w.heap.size + 2 < b ∧ v.ownBlock ≠ some b) y (F (i * 4)) (F (i * 4 + 1)) (F (i * 4 + 2)) (F (i * 4 + 3)))
    (hk : Below W.heap.size W w3) (hx : DrAt w3 (m + 1) (fun b => W.heap.size ≤ b) x (.int .i64 k0) (.int .i64 k1) (.slice ta tn tc) (.slice la ln lc)) (o2 : Obj)
    (hR : Rws w6 27 4 v' (Y.length + 1) (fun k => if k < Y.length * 4 then F k else [Value.int .i64 k0, .int .i64 k1, .slice ta tn tc, .slice la ln lc].getD (k - Y.length * 4) undef))
    (hG : Gr 27 (Y.length * 4) 4 (w3.alloc o2) w6 v v') : FitAt w (w6.setCell ⟨w.heap.size + 2, 3, none⟩ v') C1 m v' (Y ++ [x]) := by
  have hW : w.heap.size + 2 < W.heap.size := block_lt h.b6
  have hw3 := hk.size
  have s5 : (w3.alloc o2).heap.size = w3.heap.size + 1 := by simp
  have k6 : ∀ b, b < w3.heap.size → v.ownBlock ≠ some b → w6.heap[b]? = w3.heap[b]? := fun b hb hv => (hG.other b (by omega) hv).trans (heap_alloc_old w3 o2 hb)
  have g6 : (w3.alloc o2).heap.size ≤ w6.heap.size := hG.size
  have own : ∀ g, v'.ownBlock = some g → v.ownBlock = some g ∨ w3.heap.size ≤ g := fun g hg => by
    rcases hG.how with ⟨g', cur, cur', e1, e2, _⟩ | ⟨e2, _⟩
    · rw [hg] at e2; cases e2; exact .inl e1
    · rw [hg] at e2; cases e2; right; omega
  have vlt : ∀ g, v.ownBlock = some g → g < W.heap.size := hF.lt
  have vno : ∀ k, k ≤ w.heap.size + 2 → v.ownBlock ≠ some k := fun k hk e => by have := hO k e; omega
  have ownB : ∀ g, v'.ownBlock = some g → w.heap.size + 2 < g := fun g hg => by
    rcases own g hg with q | q
    · exact hO g q
    · omega
  have k7 : ∀ b, b ≠ w.heap.size + 2 → (w6.setCell ⟨w.heap.size + 2, 3, none⟩ v').heap[b]? = w6.heap[b]? := fun b hb => Bk.setCell_else _ _ _ _ _ hb
  have lowB : ∀ b, b ≤ w.heap.size + 2 → w6.heap[b]? = W.heap[b]? := fun b hb => (k6 b (by omega) (vno b hb)).trans (hk.block b (by omega))
  refine ⟨⟨⟨?_, ?_, ?_, ?_, fun k hk1 => ?_⟩, ?_, ?_⟩, ?_, _, (by rw [List.length_append]; exact hR.same (fun g hg => k7 g (by have := ownB g hg; omega))), ownB, fun i y hi => ?_⟩
  · exact (hG.os.trans hk.os).trans h.ex.bel.os
  · exact (hG.tape.trans hk.tape).trans h.ex.bel.tape
  · exact (hG.output.trans hk.output).trans h.ex.bel.output
  · have := h.ex.bel.size; simp; omega
  · rw [k7 k (by omega), lowB k (by omega), h.ex.bel.block k hk1]
  · rw [k7 _ (by omega), lowB _ (by omega), h.ex.b1]
  · rw [k7 _ (by omega), lowB _ (by omega), h.ex.b2]
  · rw [Bk.setCell_block _ _ 3 v' _ _ _ ((lowB _ (Nat.le_refl _)).trans h.b6)]
    rfl
  · by_cases q : i < Y.length
    · rw [List.getElem?_append_left q] at hi
      have c : ∀ j, j < 4 → i * 4 + j < Y.length * 4 := fun j hj => by omega
      have e0 := c 0 (by omega)
      have e1 := c 1 (by omega)
      have e2 := c 2 (by omega)
      have e3 := c 3 (by omega)
      simp only [Nat.add_zero] at e0
      simp only [if_pos e0, if_pos e1, if_pos e2, if_pos e3]
      refine (((hE i y hi).tight.same (w' := w3) (fun b hb hlt => hk.block b hlt)).same (w' := w6.setCell ⟨w.heap.size + 2, 3, none⟩ v') (fun b hb hlt => (k7 b (by omega)).trans (k6 b hlt hb.1.2))).mono (fun b hb => ⟨hb.1.1, fun e => ?_⟩)
      rcases own b e with q2 | q2
      · exact hb.1.2 q2
      · omega
    · have hi2 : i = Y.length := by
        have := (List.getElem?_eq_some_iff.1 hi).1
        simp at this
        omega
      subst hi2
      rw [List.getElem?_append_right (Nat.le_refl _)] at hi
      simp at hi
      subst hi
      have c : ∀ j, ¬ (Y.length * 4 + j < Y.length * 4) := fun j => by omega
      have c0 : ¬ (Y.length * 4 < Y.length * 4) := by omega
      simp only [if_neg (c 1), if_neg (c 2), if_neg (c 3), if_neg c0, Nat.add_sub_cancel_left, Nat.sub_self]
      refine (hx.tight.same (w' := w6.setCell ⟨w.heap.size + 2, 3, none⟩ v') (fun b hb hlt => (k7 b (by omega)).trans (k6 b hlt (fun e => by have := vlt b e; omega)))).mono (fun b hb => ⟨by omega, fun e => ?_⟩)
      rcases own b e with q2 | q2
      · have := vlt b q2; omega
      · omega
/-- the list's end -/
theorem FitAt.out {w W : World} {C1 : Array Value} {m : Nat} {va : Option Addr} {vn vc : Nat} {Y : List (Tr (m + 1))} (h : FitAt w W C1 m (.slice va vn vc) Y) :
    FtEnd w (m + 1) (mkR 6 0 [] Y) (.returned (.agg #[.int .i64 6, .int .i64 0, .slice none 0 0, .slice va vn vc])) ((((W.setCell ⟨w.heap.size + 1, 0, none⟩ (.int .i64 6)).setCell ⟨w.heap.size + 1, 1, none⟩ (.int .i64 0)).setCell ⟨w.heap.size + 1, 2, none⟩ (.slice none 0 0)).setCell ⟨w.heap.size + 1, 3, none⟩ (.slice va vn vc)) := by
  have hb : ∀ k, k ≠ w.heap.size + 1 → ((((W.setCell ⟨w.heap.size + 1, 0, none⟩ (.int .i64 6)).setCell ⟨w.heap.size + 1, 1, none⟩ (.int .i64 0)).setCell ⟨w.heap.size + 1, 2, none⟩ (.slice none 0 0)).setCell ⟨w.heap.size + 1, 3, none⟩ (.slice va vn vc)).heap[k]? = W.heap[k]? := fun k hk => by
    rw [Bk.setCell_else _ _ _ _ _ hk, Bk.setCell_else _ _ _ _ _ hk, Bk.setCell_else _ _ _ _ _ hk, Bk.setCell_else _ _ _ _ _ hk]
  obtain ⟨F, h1, h2, h3⟩ := h.row
  refine ⟨6, 0, none, 0, 0, va, vn, vc, rfl, hide ⟨⟨h.ex.bel.os, h.ex.bel.tape, h.ex.bel.output, by simpa using h.ex.bel.size, fun k hk => (hb k (by omega)).trans (h.ex.bel.block k hk)⟩, ⟨rfl, rfl, ⟨OwnB.nil _ _, small_nil, fun g hg => (by simp [Value.ownBlock] at hg)⟩, F, h1.same (fun g hg => hb g (by have := h2 g hg; omega)), fun g hg => (by have := h2 g hg; omega), fun i y hi => ((h3 i y hi).same (fun b hb' hlt => hb b (by omega))).mono (fun b hb' => ⟨by omega, hb'.2⟩)⟩⟩⟩
theorem ft_list (w0 w : World) (d m : Nat) (L : List (Tr d)) (k1 : Int) (ta : Option Addr) (tn tc : Nat) (la : Option Addr) (ln lc : Nat) (I : Nat) (hI : I ≤ 7) (hat : RlAt w0 d la L) (hln : ln = L.length) (hl : ln ≤ 140737488351232) (hw : Below w0.heap.size w0 w)
    (IH : ∀ (W : World) (y : Tr d) (u0 u1 u2 u3 : Value), y ∈ L → RpAt w0 d y u0 u1 u2 u3 → Below w0.heap.size w0 W → Calls Tryd.prog 10 #[.agg #[u0, u1, u2, u3], .int .i64 ((I : Int) + 1)] W (FtEnd W m (fitT d y m))) :
    Calls Tryd.prog 10 #[.agg #[.int .i64 6, .int .i64 k1, .slice ta tn tc, .slice la ln lc], .int .i64 (I : Int)] w (FtEnd w (m + 1) (mkR 6 0 [] ((L.take 1000).map (fun y => fitT d y m)))) := by
  have F0 := hide (FitAt.start w #[.int .i64 6, .int .i64 k1, .slice ta tn tc, .slice la ln lc] m)
  have HN := hide hln
  have HA := hide hat
  have HI := hide IH
  have HW := hide hw
  have hI8 : ((I : Int) == 8) = false := by rw [beq_eq_false_iff_ne]; omega
  obtain ⟨i27, hi27, hz27, hs27, hb27⟩ := info_parts4 Tryd.info27s
  clear hat IH hw hln
  go_enter Tryd.func10, Tryd.ntmps10
  go_wp2_with fail
  go_loopw [7] (fun iv wr => ∃ (i : Nat) (va : Option Addr) (vc : Nat), iv = .int .i64 (i : Nat) ∧ i ≤ ln ∧ i ≤ 1000 ∧ Hid (FitAt w wr #[.int .i64 6, .int .i64 k1, .slice ta tn tc, .slice la ln lc] m (.slice va i vc) ((L.take i).map (fun y => fitT d y m)))) (fun iv _ => ln - (intOf iv).toNat)
  case atStart => exact ⟨0, none, 0, rfl, Nat.zero_le _, Nat.zero_le _, F0⟩
  case round =>
    obtain ⟨i, va, vc, rfl, hi, hi2, HF⟩ := hrel
    rename World => wr
    have c3 := (unhide HF).ex.c1 3 _ rfl
    have l3 : wr.cell? ⟨w.heap.size + 2, 3, none⟩ = some (.slice va i vc) := by rw [cell_of_row _ _ _ _ _ _ (unhide HF).b6]; rfl
    have DONE : Hid (ln ≤ i ∨ 1000 ≤ i → (L.take i).map (fun y => fitT d y m) = (L.take 1000).map (fun y => fitT d y m)) := hide (fun h => by
      have := unhide HN
      rcases h with h | h
      · rw [List.take_of_length_le (by omega), List.take_of_length_le (by omega)]
      · rw [show i = 1000 by omega])
    by_cases hlt : i < ln ∧ i < 1000
    · obtain ⟨hlt1, hlt2⟩ := hlt
      have f1 : decide ((i : Int) < (ln : Int)) = true := decide_eq_true (by omega)
      have f2 : decide ((i : Int) < 1000) = true := decide_eq_true (by omega)
      have g1 : (0 : Int) ≤ (i : Int) := by omega
      have g2 : (i : Int) < (ln : Int) := by omega
      obtain ⟨b, off, rfl, hb, hc⟩ : ∃ b off, la = some ⟨b, off, none⟩ ∧ b < w0.heap.size ∧ ∀ i y, L[i]? = some y → ∃ u0 u1 u2 u3, w0.cell? ⟨b, off + i * 4, none⟩ = some u0 ∧ w0.cell? ⟨b, off + i * 4 + 1, none⟩ = some u1 ∧ w0.cell? ⟨b, off + i * 4 + 2, none⟩ = some u2 ∧ w0.cell? ⟨b, off + i * 4 + 3, none⟩ = some u3 ∧ RpAt w0 d y u0 u1 u2 u3 := by
        rcases unhide HA with h | h
        · have := unhide HN; rw [h] at this; simp at this; omega
        · exact h
      obtain ⟨y, hy⟩ : ∃ y, L[i]? = some y := ⟨_, List.getElem?_eq_getElem (by have := unhide HN; omega)⟩
      obtain ⟨u0, u1, u2, u3, p0, p1, p2, p3, hr⟩ := hc i y hy
      have hb0 : Below w0.heap.size w0 wr := (unhide HW).trans ((unhide HF).ex.bel.mono (unhide HW).size)
      have e0 : wr.cell? ⟨b, off + i * 4, none⟩ = some u0 := by rw [hb0.cell (show b < _ from hb)]; exact p0
      have e1 : wr.cell? ⟨b, off + i * 4 + 1, none⟩ = some u1 := by rw [hb0.cell (show b < _ from hb)]; exact p1
      have e2 : wr.cell? ⟨b, off + i * 4 + 2, none⟩ = some u2 := by rw [hb0.cell (show b < _ from hb)]; exact p2
      have e3 : wr.cell? ⟨b, off + i * 4 + 3, none⟩ = some u3 := by rw [hb0.cell (show b < _ from hb)]; exact p3
      have SW : Hid (∀ V, Below wr.heap.size wr V → (fun w' => w'.cell? ⟨w.heap.size + 2, 3, none⟩ = some (.slice va i vc) ∧ w'.cell? ⟨w.heap.size, 3, none⟩ = some (.slice (some ⟨b, off, none⟩) ln lc) ∧ w'.cell? ⟨b, off + i * 4, none⟩ = some u0 ∧ w'.cell? ⟨b, off + i * 4 + 1, none⟩ = some u1 ∧ w'.cell? ⟨b, off + i * 4 + 2, none⟩ = some u2 ∧ w'.cell? ⟨b, off + i * 4 + 3, none⟩ = some u3) V) := hide (fun V hV => ⟨by rw [hV.cell (block_lt (unhide HF).b6)]; exact l3, by rw [hV.cell (block_lt (unhide HF).ex.b1)]; exact c3, by rw [hV.cell (show b < _ by have := hb0.size; omega)]; exact e0, by rw [hV.cell (show b < _ by have := hb0.size; omega)]; exact e1, by rw [hV.cell (show b < _ by have := hb0.size; omega)]; exact e2, by rw [hV.cell (show b < _ by have := hb0.size; omega)]; exact e3⟩)
      have CF := hide (unhide HI wr.drew y u0 u1 u2 u3 (List.mem_of_getElem? hy) hr (hb0.trans ⟨rfl, rfl, rfl, Nat.le_refl _, fun _ _ => rfl⟩))
      have HT : Hid ((L.take (i + 1)).map (fun y => fitT d y m) = (L.take i).map (fun y => fitT d y m) ++ [fitT d y m]) := hide (by rw [List.take_add_one, hy]; simp)
      have HLEN : Hid (((L.take i).map (fun y => fitT d y m)).length = i) := hide (by rw [List.length_map, List.length_take]; have := unhide HN; omega)
      obtain ⟨F, hF, hO, hE⟩ := (unhide HF).drew.row
      have RW : Hid (∀ w3, Below wr.heap.size wr w3 → ∀ o2, Rws (w3.alloc o2) 27 4 (.slice va i vc) i F) := hide (fun w3 k o2 => by
        rw [unhide HLEN] at hF
        have hF' : Rws wr 27 4 (.slice va i vc) i F := hF
        exact (hF'.below k).below ((Below.refl _ _).alloc (Nat.le_refl _) o2))
      have ST : Hid (∀ w3 v1 w6 o2 r0 r1 xa xn xc za zn zc, Below wr.drew.heap.size wr.drew w3 → DrAt w3 (m + 1) (fun b => wr.drew.heap.size ≤ b) (fitT d y m) (.int .i64 r0) (.int .i64 r1) (.slice xa xn xc) (.slice za zn zc) → Rws w6 27 4 v1 (i + 1) (fun k => if k < i * 4 then F k else [Value.int .i64 r0, .int .i64 r1, .slice xa xn xc, .slice za zn zc].getD (k - i * 4) undef) → Gr 27 (i * 4) 4 (w3.alloc o2) w6 (.slice va i vc) v1 → (w6.cell? ⟨w.heap.size + 2, 3, none⟩ = some (.slice va i vc) ∧ w6.frozen? ⟨w.heap.size + 2, 3, none⟩ = false) ∧ ((fun w' => w'.cell? ⟨w.heap.size + 2, 3, none⟩ = some (.slice va i vc) ∧ w'.cell? ⟨w.heap.size, 3, none⟩ = some (.slice (some ⟨b, off, none⟩) ln lc) ∧ w'.cell? ⟨b, off + i * 4, none⟩ = some u0 ∧ w'.cell? ⟨b, off + i * 4 + 1, none⟩ = some u1 ∧ w'.cell? ⟨b, off + i * 4 + 2, none⟩ = some u2 ∧ w'.cell? ⟨b, off + i * 4 + 3, none⟩ = some u3) w6) ∧ FitAt w (w6.setCell ⟨w.heap.size + 2, 3, none⟩ v1) #[.int .i64 6, .int .i64 k1, .slice ta tn tc, .slice (some ⟨b, off, none⟩) ln lc] m v1 ((L.take (i + 1)).map (fun y => fitT d y m))) := hide (fun w3 v1 w6 o2 r0 r1 xa xn xc za zn zc q1 q2 q3 q4 => by
        have hl0 := unhide HLEN
        have lowc : ∀ k j, k < wr.heap.size → k ≤ w.heap.size + 2 → w6.cell? ⟨k, j, none⟩ = wr.cell? ⟨k, j, none⟩ := fun k j hk1 hk2 => by
          have hk3 : k < wr.drew.heap.size := hk1
          refine World.cell?_of_block ?_
          show w6.heap[k]? = wr.heap[k]?
          rw [q4.other _ (by have := q1.size; simp; omega) (fun e => by have := hO _ e; omega), heap_alloc_old _ _ (by have := q1.size; omega), q1.block _ hk3]
          rfl
        have hbw : b ≤ w.heap.size + 2 := by have := (unhide HW).size; omega
        have hbr : b < wr.heap.size := by have := hb0.size; omega
        refine ⟨?_, ⟨?_, ?_, ?_, ?_, ?_, ?_⟩, ?_⟩
        · have h6 := (unhide HF).drew.b6
          have hlt6 : w.heap.size + 2 < wr.drew.heap.size := block_lt h6
          have q5 : w6.heap[w.heap.size + 2]? = some (.cells #[.int .i64 6, .int .i64 0, .slice none 0 0, .slice va i vc] 27 (0, 0)) := by
            rw [q4.other _ (by have := q1.size; simp; omega) (fun e => by have := hO _ e; omega), heap_alloc_old _ _ (by have := q1.size; omega), q1.block _ hlt6]
            exact h6
          exact ⟨by rw [cell_of_row _ _ _ _ _ _ q5]; rfl, by simp only [World.frozen?, q5]; simp⟩
        · rw [lowc _ _ (block_lt (unhide HF).b6) (Nat.le_refl _)]; exact l3
        · rw [lowc _ _ (block_lt (unhide HF).ex.b1) (by omega)]; exact c3
        · rw [lowc _ _ hbr hbw]; exact e0
        · rw [lowc _ _ hbr hbw]; exact e1
        · rw [lowc _ _ hbr hbw]; exact e2
        · rw [lowc _ _ hbr hbw]; exact e3
        · rw [unhide HT]
          exact (unhide HF).drew.step hF hO hE q1 q2 o2 (by rw [hl0]; exact q3) (by rw [hl0]; exact q4))
      have MC : Hid (∀ (W : World) (q : List Value), ∀ j y, q[j]? = some y → (W.alloc (.cells q.toArray 27)).cell? ⟨W.heap.size, j, none⟩ = some y) := hide (fun W q => made_cells W q 27)
      unfold FtEnd at CF
      clear hF hO hE hr p0 p1 p2 p3 hc hb0 hy
      go_wp2_with fail
      have hSS : (fun w' => w'.cell? ⟨w.heap.size + 2, 3, none⟩ = some (.slice va i vc) ∧ w'.cell? ⟨w.heap.size, 3, none⟩ = some (.slice (some ⟨b, off, none⟩) ln lc) ∧ w'.cell? ⟨b, off + i * 4, none⟩ = some u0 ∧ w'.cell? ⟨b, off + i * 4 + 1, none⟩ = some u1 ∧ w'.cell? ⟨b, off + i * 4 + 2, none⟩ = some u2 ∧ w'.cell? ⟨b, off + i * 4 + 3, none⟩ = some u3) wr.drew := unhide SW wr.drew ⟨rfl, rfl, rfl, Nat.le_refl _, fun _ _ => rfl⟩
      refine till_begin (fun w' => w'.cell? ⟨w.heap.size + 2, 3, none⟩ = some (.slice va i vc) ∧ w'.cell? ⟨w.heap.size, 3, none⟩ = some (.slice (some ⟨b, off, none⟩) ln lc) ∧ w'.cell? ⟨b, off + i * 4, none⟩ = some u0 ∧ w'.cell? ⟨b, off + i * 4 + 1, none⟩ = some u1 ∧ w'.cell? ⟨b, off + i * 4 + 2, none⟩ = some u2 ∧ w'.cell? ⟨b, off + i * 4 + 3, none⟩ = some u3) 13 (by kernel_rfl) ?_
      refine AnyTill.take 0 (v := ?_) rfl (by kernel_rfl) (by kernel_rfl) (by kernel_rfl) (by kernel_rfl) (fun _ _ _ h => h) ?_ rfl hSS ?_
      rotate_left
      · intro w hSw
        obtain ⟨s1, s2, s3, s4, s5, s6⟩ := hSw
        go_simp
        all_goals with_reducible rfl
      try simp only [Act.put, List.getElem_toArray, List.getElem_cons_succ, List.getElem_cons_zero, List.setIfInBounds_toArray, List.set_cons_zero, List.set_cons_succ]
      refine AnyTill.take 1 (v := ?_) rfl (by kernel_rfl) (by kernel_rfl) (by kernel_rfl) (by kernel_rfl) (fun _ _ _ h => h) ?_ rfl hSS ?_
      rotate_left
      · intro w hSw
        obtain ⟨s1, s2, s3, s4, s5, s6⟩ := hSw
        go_simp
        all_goals with_reducible rfl
      try simp only [Act.put, List.getElem_toArray, List.getElem_cons_succ, List.getElem_cons_zero, List.setIfInBounds_toArray, List.set_cons_zero, List.set_cons_succ]
      refine AnyTill.take 2 (v := ?_) rfl (by kernel_rfl) (by kernel_rfl) (by kernel_rfl) (by kernel_rfl) (fun _ _ _ h => h) ?_ rfl hSS ?_
      rotate_left
      · intro w hSw
        obtain ⟨s1, s2, s3, s4, s5, s6⟩ := hSw
        go_simp
        all_goals with_reducible rfl
      try simp only [Act.put, List.getElem_toArray, List.getElem_cons_succ, List.getElem_cons_zero, List.setIfInBounds_toArray, List.set_cons_zero, List.set_cons_succ]
      refine AnyTill.take 3 (v := ?_) rfl (by kernel_rfl) (by kernel_rfl) (by kernel_rfl) (by kernel_rfl) (fun _ _ _ h => h) ?_ rfl hSS ?_
      rotate_left
      · intro w hSw
        obtain ⟨s1, s2, s3, s4, s5, s6⟩ := hSw
        go_simp
        all_goals with_reducible rfl
      try simp only [Act.put, List.getElem_toArray, List.getElem_cons_succ, List.getElem_cons_zero, List.setIfInBounds_toArray, List.set_cons_zero, List.set_cons_succ]
      refine AnyTill.take 4 (v := ?_) rfl (by kernel_rfl) (by kernel_rfl) (by kernel_rfl) (by kernel_rfl) (fun _ _ _ h => h) ?_ rfl hSS ?_
      rotate_left
      · intro w hSw
        obtain ⟨s1, s2, s3, s4, s5, s6⟩ := hSw
        go_simp
        all_goals with_reducible rfl
      try simp only [Act.put, List.getElem_toArray, List.getElem_cons_succ, List.getElem_cons_zero, List.setIfInBounds_toArray, List.set_cons_zero, List.set_cons_succ]
      refine AnyTill.take 5 (v := ?_) rfl (by kernel_rfl) (by kernel_rfl) (by kernel_rfl) (by kernel_rfl) (fun _ _ _ h => h) ?_ rfl hSS ?_
      rotate_left
      · intro w hSw
        obtain ⟨s1, s2, s3, s4, s5, s6⟩ := hSw
        go_simp
        all_goals with_reducible rfl
      try simp only [Act.put, List.getElem_toArray, List.getElem_cons_succ, List.getElem_cons_zero, List.setIfInBounds_toArray, List.set_cons_zero, List.set_cons_succ]
      refine AnyTill.take 6 (v := ?_) rfl (by kernel_rfl) (by kernel_rfl) (by kernel_rfl) (by kernel_rfl) (fun _ _ _ h => h) ?_ rfl hSS ?_
      rotate_left
      · intro w hSw
        obtain ⟨s1, s2, s3, s4, s5, s6⟩ := hSw
        go_simp
        all_goals with_reducible rfl
      try simp only [Act.put, List.getElem_toArray, List.getElem_cons_succ, List.getElem_cons_zero, List.setIfInBounds_toArray, List.set_cons_zero, List.set_cons_succ]
      refine AnyTill.take 7 (v := ?_) rfl (by kernel_rfl) (by kernel_rfl) (by kernel_rfl) (by kernel_rfl) (fun _ _ _ h => h) ?_ rfl hSS ?_
      rotate_left
      · intro w hSw
        obtain ⟨s1, s2, s3, s4, s5, s6⟩ := hSw
        go_simp
        all_goals with_reducible rfl
      try simp only [Act.put, List.getElem_toArray, List.getElem_cons_succ, List.getElem_cons_zero, List.setIfInBounds_toArray, List.set_cons_zero, List.set_cons_succ]
      refine AnyTill.take 8 (v := ?_) rfl (by kernel_rfl) (by kernel_rfl) (by kernel_rfl) (by kernel_rfl) (fun _ _ _ h => h) ?_ rfl hSS ?_
      rotate_left
      · intro w hSw
        obtain ⟨s1, s2, s3, s4, s5, s6⟩ := hSw
        go_simp
        all_goals with_reducible rfl
      try simp only [Act.put, List.getElem_toArray, List.getElem_cons_succ, List.getElem_cons_zero, List.setIfInBounds_toArray, List.set_cons_zero, List.set_cons_succ]
      refine AnyTill.one (i := 9) (by kernel_rfl) (AnyTill.op rfl rfl fun K hK => ?_)
      go_simp
      rw [show IntKind.i64.wrap ((I : Int) + 1) = (I : Int) + 1 by rw [IntKind.wrap_i64]; omega]
      with_reducible refine (unhide CF).mono ?_
      rintro e w3 ⟨k0, k1', ta', tn', tc', la', ln', lc', rfl, h3⟩
      go_wp2_with fail
      have HU3 : Below wr.heap.size wr w3 := ⟨(unhide h3).1.os, (unhide h3).1.tape, (unhide h3).1.output, (unhide h3).1.size, (unhide h3).1.block⟩
      have S3 := unhide SW w3 HU3
      refine hK _ _ (fun _ => S3) ?_
      clear hK K
      try simp only [Act.put, List.getElem_toArray, List.getElem_cons_succ, List.getElem_cons_zero, List.setIfInBounds_toArray, List.set_cons_zero, List.set_cons_succ]
      refine AnyTill.one (i := 10) (by kernel_rfl) (AnyTill.op rfl rfl fun K hK => ?_)
      go_simp
      have S4 := unhide SW (w3.alloc (.cells #[.int .i64 k0, .int .i64 k1', .slice ta' tn' tc', .slice la' ln' lc'] 27)) (HU3.alloc HU3.size _)
      refine hK _ _ (fun _ => S4) ?_
      clear hK K
      try simp only [Act.put, List.getElem_toArray, List.getElem_cons_succ, List.getElem_cons_zero, List.setIfInBounds_toArray, List.set_cons_zero, List.set_cons_succ]
      refine AnyTill.one (i := 11) (by kernel_rfl) (AnyTill.law rfl rfl fun K hK => ?_)
      refine step_append_rws rfl _ _ 25 rfl 27 i27 _ 4 64 Tryd.underlying25 hi27 hz27 hs27 hb27 rfl 27 (.slice va i vc) i F rfl (unhide RW w3 HU3 _) (.inl rfl) w3.heap.size 1 rfl [.int .i64 k0, .int .i64 k1', .slice ta' tn' tc', .slice la' ln' lc'] (by decide) rfl (unhide MC w3 _) (by simp [Value.oneCell']) (by omega) (by omega) ?_
      intro v1 w6 h1 gg
      obtain ⟨⟨z3, y3⟩, S6, hz⟩ := unhide ST w3 v1 w6 _ k0 k1' ta' tn' tc' la' ln' lc' (unhide h3).1 (unhide h3).2 h1 gg
      have HZ := hide hz
      obtain ⟨a1, c1, rfl⟩ := h1.shape
      clear h1 gg hz
      refine hK _ _ (fun _ => S6) ?_
      clear hK K
      try simp only [Act.put, List.getElem_toArray, List.getElem_cons_succ, List.getElem_cons_zero, List.setIfInBounds_toArray, List.set_cons_zero, List.set_cons_succ]
      refine AnyTill.one (i := 12) (by kernel_rfl) (AnyTill.op rfl rfl fun K hK => ?_)
      go_simp
      refine hK _ _ (fun _ => S6) ?_
      clear hK K
      try simp only [Act.put, List.getElem_toArray, List.getElem_cons_succ, List.getElem_cons_zero, List.setIfInBounds_toArray, List.set_cons_zero, List.set_cons_succ]
      refine AnyTill.one (i := 13) (by kernel_rfl) (AnyTill.op rfl rfl fun K hK => ?_)
      go_simp
      refine hK _ _ (fun h => absurd rfl h) ?_
      clear hK K
      try simp only [Act.put, List.getElem_toArray, List.getElem_cons_succ, List.getElem_cons_zero, List.setIfInBounds_toArray, List.set_cons_zero, List.set_cons_succ]
      refine AnyTill.done (by kernel_rfl) ?_
      go_wp2_with fail
      go_roundw
      case rel => exact ⟨i + 1, a1, c1, by go_num, by omega, by omega, HZ⟩
      case measure => simp [intOf]; omega
    · have HD := hide (unhide DONE (by omega))
      have b0 := (unhide HF).ex.c2 0 _ rfl
      have b1 := (unhide HF).ex.c2 1 _ rfl
      have b2 := (unhide HF).ex.c2 2 _ rfl
      have b3 := (unhide HF).ex.c2 3 _ rfl
      have y0 := (unhide HF).ex.f2 0
      have y1 := (unhide HF).ex.f2 1
      have y2 := (unhide HF).ex.f2 2
      have y3 := (unhide HF).ex.f2 3
      have x0 : wr.cell? ⟨w.heap.size + 2, 0, none⟩ = some (.int .i64 6) := by rw [cell_of_row _ _ _ _ _ _ (unhide HF).b6]; rfl
      have x1 : wr.cell? ⟨w.heap.size + 2, 1, none⟩ = some (.int .i64 0) := by rw [cell_of_row _ _ _ _ _ _ (unhide HF).b6]; rfl
      have x2 : wr.cell? ⟨w.heap.size + 2, 2, none⟩ = some (.slice none 0 0) := by rw [cell_of_row _ _ _ _ _ _ (unhide HF).b6]; rfl
      by_cases q : i < ln
      · have f1 : decide ((i : Int) < (ln : Int)) = true := decide_eq_true (by omega)
        have f2 : decide ((i : Int) < 1000) = false := decide_eq_false (by omega)
        go_wp2_with fail
        refine bodyPost_ret (ft_end _ (store4 (unhide HF).ex.b2 rfl _ _ _ _) rfl) rfl ?_
        rw [← unhide HD]
        exact (unhide HF).out
      · have f1 : decide ((i : Int) < (ln : Int)) = false := decide_eq_false (by omega)
        go_wp2_with fail
        refine bodyPost_ret (ft_end _ (store4 (unhide HF).ex.b2 rfl _ _ _ _) rfl) rfl ?_
        rw [← unhide HD]
        exact (unhide HF).out
end Go.Proofs.YtfgemcmiilbodaaDoor
