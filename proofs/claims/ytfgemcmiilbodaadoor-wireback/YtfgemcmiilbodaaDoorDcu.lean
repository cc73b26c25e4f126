/- Decode: an array is read, if replies are. -/
import Derived.Test.YtfgemcmiilbodaaDoorDcs
namespace Go.Proofs.YtfgemcmiilbodaaDoor
open Go.ChangeShapes Go.WideShapes Go.ChangeAt Go.RowKit
set_option linter.unusedVariables false
set_option linter.unusedSimpArgs false
set_option maxRecDepth 20000
set_option maxHeartbeats 4000000

/-- arrays inside 8 - d others are read -/
def ArrOk (pd d : Nat) : Prop := ∀ (W : World) (a : Option Addr) (n cp : Nat) (R : List Nat), DcAt W pd a n cp R → UOk W → n ≤ 140737488355328 → Part W pd (d + 1) 21 #[.pointer (some ⟨pd, 0, none⟩), .int .i64 ((8 - d : Nat) : Int)] (arrP (repP d) R)
theorem reply_none (w : World) (pd : Nat) (a : Option Addr) (n cp : Nat) (d : Nat) (h : DcAt w pd a n cp []) :
    Calls Tryd.prog 13 #[.pointer (some ⟨pd, 0, none⟩), .int .i64 ((8 - d : Nat) : Int)] w (RpEnd w pd (d + 1) .short) := by
  have hlen := h.rst.len
  simp only [List.length_nil] at hlen
  subst hlen
  have B3 := hide (Bx.new w pd (block_lt h.box))
  have c1 := (h.below ((Below.refl _ _).alloc (Nat.le_refl _) (.cells #[.int .i64 0, .int .i64 0, .slice none 0 0, .slice none 0 0] 27))).cell0
  clear h
  go_enter Tryd.func13, Tryd.ntmps13
  go_wp2_with fail
  refine bodyPost_ret (reply_end _ _ (heap_alloc_new _ _) rfl rfl) rfl ?_
  exact ⟨0, 0, none, 0, 0, none, 0, 0, rfl, hide ⟨(unhide B3).k, fun x r e => (by cases e)⟩⟩
theorem reply_of (w : World) (pd : Nat) (a : Option Addr) (n cp : Nat) (T : List Nat) (d : Nat) (h : DcAt w pd a n cp T) (hU : UOk w) (hp : 2 < pd) (hl : n ≤ 140737488355328) (AR : ArrOk pd d) :
    Calls Tryd.prog 13 #[.pointer (some ⟨pd, 0, none⟩), .int .i64 ((8 - d : Nat) : Int)] w (RpEnd w pd (d + 1) (repP (d + 1) T)) := by
  cases T with
  | nil => exact reply_none w pd a n cp d h
  | cons c r =>
    unfold repP
    by_cases m43 : c = 43
    · subst m43; rw [if_pos rfl]; exact reply_status w pd a n cp r d h hU hp hl
    rw [if_neg m43]
    by_cases m45 : c = 45
    · subst m45; rw [if_pos rfl]; exact reply_error w pd a n cp r d h hU hp hl
    rw [if_neg m45]
    by_cases m58 : c = 58
    · subst m58; rw [if_pos rfl]; exact reply_num w pd a n cp r d h hU hp hl
    rw [if_neg m58]
    by_cases m36 : c = 36
    · subst m36; rw [if_pos rfl]; exact reply_bulk w pd a n cp r d h hU hp hl
    rw [if_neg m36]
    by_cases m42 : c = 42
    · subst m42; rw [if_pos rfl]; exact reply_array w pd a n cp r d h hU hp hl AR
    rw [if_neg m42]
    exact reply_other w pd a n cp c r d h hU hp hl m43 m45 m58 m36 m42
end Go.Proofs.YtfgemcmiilbodaaDoor
namespace Go.Proofs.YtfgemcmiilbodaaDoor
open Go.ChangeShapes Go.WideShapes Go.ChangeAt Go.RowKit
set_option linter.unusedVariables false
set_option linter.unusedSimpArgs false
set_option maxRecDepth 20000
set_option maxHeartbeats 4000000

theorem Tryd.info27s : (Tryd.prog.info? 27).map (fun i => (i.zero, i.size, i.bytes)) = some (some (.agg #[.int .i64 0, .int .i64 0, .slice none 0 0, .slice none 0 0]), 4, 64) := by kernel_rfl
theorem info_parts4 {P : Program} {t : TypeId} {z : Value} {s b : Nat} (h : (P.info? t).map (fun i => (i.zero, i.size, i.bytes)) = some (some z, s, b)) : ∃ i, P.info? t = some i ∧ i.zero = some z ∧ i.size = s ∧ i.bytes = b := by
  cases e : P.info? t with
  | none => rw [e] at h; cases h
  | some i => rw [e] at h; simp at h; exact ⟨i, rfl, h.1, h.2.1, h.2.2⟩
/-- all blocks of a reply in memory are there -/
theorem DrAt.tight {w : World} : ∀ {d : Nat} {S : Nat → Prop} {x : Tr d} {v0 v1 v2 v3 : Value}, DrAt w d S x v0 v1 v2 v3 → DrAt w d (fun b => S b ∧ b < w.heap.size) x v0 v1 v2 v3
  | 0, _, _, _, _, _, _, h => h
  | d + 1, S, x, v0, v1, v2, v3, ⟨h0, h1, ⟨h2, h3, h4⟩, f, h5, h6, h7⟩ => by
    refine ⟨h0, h1, ⟨h2, h3, fun g hg => ⟨h4 g hg, ?_⟩⟩, f, h5, fun g hg => ⟨h6 g hg, h5.lt g hg⟩, fun i y hi => (h7 i y hi).tight.mono (fun b hb => ⟨⟨hb.1.1, hb.2⟩, hb.1.2⟩)⟩
    rcases h2.2 with ⟨rfl, -⟩ | ⟨g', cap, cur, rfl, hbb, hg', rest⟩
    · simp [Value.ownBlock] at hg
    · simp [Value.ownBlock] at hg
      subst hg
      exact block_lt hg'
theorem DcAt.low {w W : World} {pd : Nat} {a : Option Addr} {n cp : Nat} {T : List Nat} (h : DcAt w pd a n cp T) (hb : Below (pd + 1) w W) : DcAt W pd a n cp T := by
  refine ⟨(hb.block pd (by omega)).trans h.box, ⟨?_, h.rst.len, h.rst.le, h.rst.top⟩, h.ap, h.sm, h.so⟩
  rcases h.rst.bytes with e | ⟨b, off, e, h1, h2⟩
  · exact .inl e
  · obtain ⟨b', off', e', hlt⟩ := h.so
    rw [e'] at e
    cases e
    exact .inr ⟨b, off, e', Nat.lt_of_lt_of_le h1 hb.size, fun i hi => by rw [hb.cell (show b < pd + 1 by omega)]; exact h2 i hi⟩
/-- an array that is being read: the box of the answer, the list, what is left -/
structure ArrAt (w W : World) (pd d : Nat) (v : Value) (l : List (Tr d)) (R : List Nat) : Prop where
  bx : Bx w W pd
  dc : ∃ a n cp, DcAt W pd a n cp R
  row : ∃ F : Nat → Value, Rws W 27 4 v l.length F ∧ (∀ g, v.ownBlock = some g → w.heap.size < g) ∧
    ∀ i y, l[i]? = some y → DrAt W d (fun b => w.heap.size < b ∧ v.ownBlock ≠ some b) y (F (i * 4)) (F (i * 4 + 1)) (F (i * 4 + 2)) (F (i * 4 + 3))
theorem ArrAt.rws {w W : World} {pd d : Nat} {v : Value} {l : List (Tr d)} {R : List Nat} (h : ArrAt w W pd d v l R) : ∃ F, Rws W 27 4 v l.length F := ⟨_, h.row.choose_spec.1⟩
/-- one more -/
theorem ArrAt.step {w W w3 w6 : World} {pd d : Nat} {v v' : Value} {l : List (Tr d)} {R r : List Nat} {x : Tr d} {F : Nat → Value} {k0 k1 : Int} {ta : Option Addr} {tn tc : Nat} {la : Option Addr} {ln lc : Nat} (h : ArrAt w W pd d v l R)
    (hF : Rws W 27 4 v l.length F) (hO : ∀ g, v.ownBlock = some g → w.heap.size < g) (hE : ∀ i y, l[i]? = some y → DrAt W d (fun b => w.heap.size < b ∧ v.ownBlock ≠ some b) y (F (i * 4)) (F (i * 4 + 1)) (F (i * 4 + 2)) (F (i * 4 + 3)))
    (hk : DcK pd W w3) (hx : DrAt w3 d (fun b => W.heap.size ≤ b) x (.int .i64 k0) (.int .i64 k1) (.slice ta tn tc) (.slice la ln lc)) (hd : ∃ a n cp, DcAt w3 pd a n cp r)
    (o1 o2 : Obj)
    (hR : Rws w6 27 4 v' (l.length + 1) (fun k => if k < l.length * 4 then F k else [Value.int .i64 k0, .int .i64 k1, .slice ta tn tc, .slice la ln lc].getD (k - l.length * 4) undef))
    (hG : Gr 27 (l.length * 4) 4 ((w3.alloc o1).alloc o2) w6 v v') : ArrAt w w6 pd d v' (l ++ [x]) r := by
  have hp := h.bx.lt
  have hW : w.heap.size < W.heap.size := block_lt h.bx.box
  have hw3 := hk.size
  have s5 : ((w3.alloc o1).alloc o2).heap.size = w3.heap.size + 2 := by simp
  have al : ∀ b, b < w3.heap.size → ((w3.alloc o1).alloc o2).heap[b]? = w3.heap[b]? := fun b hb => (heap_alloc_old (w3.alloc o1) o2 (by simp; omega)).trans (heap_alloc_old w3 o1 hb)
  have k6 : ∀ b, b < w3.heap.size → v.ownBlock ≠ some b → w6.heap[b]? = w3.heap[b]? := fun b hb hv => (hG.other b (by omega) hv).trans (al b hb)
  have g6 : ((w3.alloc o1).alloc o2).heap.size ≤ w6.heap.size := hG.size
  have own : ∀ g, v'.ownBlock = some g → v.ownBlock = some g ∨ w3.heap.size ≤ g := fun g hg => by
    rcases hG.how with ⟨g', cur, cur', e1, e2, _⟩ | ⟨e2, _⟩
    · rw [hg] at e2; cases e2; exact .inl e1
    · rw [hg] at e2; cases e2; right; omega
  have vlt : ∀ g, v.ownBlock = some g → g < W.heap.size := hF.lt
  have kw := h.bx.k
  refine ⟨⟨hp, ⟨(hG.os.trans hk.os).trans kw.os, (hG.tape.trans hk.tape).trans kw.tape, (hG.output.trans hk.output).trans kw.output, by omega, fun k hk1 hk2 => ?_⟩, ?_⟩, ?_, _, by rw [List.length_append]; exact hR, fun g hg => ?_, fun i y hi => ?_⟩
  · rw [k6 k (by omega) (fun e => by have := hO k e; omega), hk.blk k (by omega) hk2, kw.blk k hk1 hk2]
  · rw [k6 _ (by omega) (fun e => by have := hO _ e; omega), hk.blk _ (by omega) (by omega), h.bx.box]
  · obtain ⟨a, n, cp, hd⟩ := hd
    exact ⟨a, n, cp, hd.low ⟨hG.os, hG.tape, hG.output, by omega, fun b hb => k6 b (by omega) (fun e => by have := hO b e; omega)⟩⟩
  · rcases own g hg with q | q
    · exact hO g q
    · omega
  · by_cases q : i < l.length
    · rw [List.getElem?_append_left q] at hi
      have c : ∀ j, j < 4 → i * 4 + j < l.length * 4 := fun j hj => by omega
      have e0 := c 0 (by omega)
      have e1 := c 1 (by omega)
      have e2 := c 2 (by omega)
      have e3 := c 3 (by omega)
      simp only [Nat.add_zero] at e0
      simp only [if_pos e0, if_pos e1, if_pos e2, if_pos e3]
      refine (((hE i y hi).tight.same (w' := w3) (fun b hb hlt => hk.blk b hlt (by omega))).same (w' := w6) (fun b hb hlt => k6 b hlt hb.1.2)).mono (fun b hb => ⟨hb.1.1, fun e => ?_⟩)
      rcases own b e with q2 | q2
      · exact hb.1.2 q2
      · omega
    · have hi2 : i = l.length := by
        have := (List.getElem?_eq_some_iff.1 hi).1
        simp at this
        omega
      subst hi2
      rw [List.getElem?_append_right (Nat.le_refl _)] at hi
      simp at hi
      subst hi
      have c : ∀ j, ¬ (l.length * 4 + j < l.length * 4) := fun j => by omega
      have c0 : ¬ (l.length * 4 < l.length * 4) := by omega
      simp only [if_neg (c 1), if_neg (c 2), if_neg (c 3), if_neg c0, Nat.add_sub_cancel_left, Nat.sub_self]
      refine (hx.tight.same (w' := w6) (fun b hb hlt => k6 b hlt (fun e => by have := vlt b e; omega))).mono (fun b hb => ⟨by omega, fun e => ?_⟩)
      rcases own b e with q2 | q2
      · have := vlt b q2; omega
      · omega
end Go.Proofs.YtfgemcmiilbodaaDoor
