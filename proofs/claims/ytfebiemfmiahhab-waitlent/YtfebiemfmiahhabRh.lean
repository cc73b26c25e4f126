/- marked, numbered: a list is written over, and marks are put behind it. -/
import Derived.Test.YtfebiemfmiahhabRg
namespace Go.Proofs.Ytfebiemfmiahhab
open Go.ChangeShapes Go.WideShapes Go.ChangeAt Go.RowKit
set_option linter.unusedVariables false
set_option linter.unusedSimpArgs false
set_option maxRecDepth 100000
set_option maxHeartbeats 8000000
/-- what marked leaves: five lists in a row, the first of them the one that was handed in, all with the mark -/
def MkEnd (w0 : World) (e le : TypeId) (s B : Nat) (L : List Ent) (c : List Value) (v : Value) (n : Nat) (r : Ending) (w' : World) : Prop := ∃ g, r = .returned (.slice (some ⟨g, 0, none⟩) 5 5) ∧ Hid (∃ x2 x3 x4 x5 : Ent, w'.heap[g]? = some (.cells #[v, x2.v, x3.v, x4.v, x5.v] le (0, 0)) ∧ w0.heap.size ≤ g ∧ KL w' e s B (L ++ [⟨v, n, c⟩] ++ [x2, x3, x4, x5]) ∧ Fl (L ++ [⟨v, n, c⟩]) w0 w' ∧ (∀ y ∈ [x2, x3, x4, x5], y.c = c ∧ y.n ≤ n + 80 ∧ y.v.ownBlock ≠ some g ∧ (∃ a cap, y.v = .slice a y.n cap) ∧ ∀ g, y.v.ownBlock = some g → w0.heap.size ≤ g ∨ ∃ x ∈ L ++ [⟨v, n, c⟩], x.v.ownBlock = some g) ∧ (∀ y ∈ L ++ [⟨v, n, c⟩], y.v.ownBlock ≠ some g))
theorem by_mk {w0 w1 w' : World} {e le : TypeId} {s B : Nat} {L : List Ent} {c : List Value} {v : Value} {n : Nat} {r : Ending} (hf : Fl (L ++ [⟨v, n, c⟩]) w0 w1) (h : ByEnd w1 e le s B (L ++ [⟨v, n, c⟩]) c v n r w') : MkEnd w0 e le s B L c v n r w' := by
  obtain ⟨g, e1, H⟩ := h
  obtain ⟨x2, x3, x4, x5, k1, k2, k3, k4, k5, k6⟩ := unhide H
  refine ⟨g, e1, hide ⟨x2, x3, x4, x5, k1, Nat.le_trans hf.size k2, k3, hf.trans k4 (fun x hx => .inl hx), fun y hy => ?_, k6⟩⟩
  obtain ⟨q1, q2, q3, q4, q5⟩ := k5 y hy
  exact ⟨q1, q2, q3, q4, fun g hg => (q5 g hg).imp (fun z => Nat.le_trans hf.size z) id⟩
/-- a fresh list that was written over joins the others -/
theorem KL.join {w w' : World} {e : TypeId} {s B : Nat} {L : List Ent} (h : KL w e s B L) {v : Value} {n : Nat} {c : List Value} (hc : c.length = s) (hge : ∀ g, v.ownBlock = some g → B ≤ g ∧ ∀ y ∈ L, y.v.ownBlock ≠ some g) (hf : Fl [⟨v, n, c⟩] w w') (hr : Rws w' e s v n (mkF c)) : KL w' e s B (L ++ [⟨v, n, c⟩]) :=
  (h.same fun x hx g hg => hf.block g (h.lt hx g hg) (fun y hy e => by
    rw [List.mem_singleton.1 hy] at e
    exact (hge g e).2 x hx hg)).add ⟨v, n, c⟩ hr hc hge
theorem marked_any (w : World) (B : Nat) (L : List Ent) (a : Option Addr) (n cap : Nat) (m : Pl) (f : Nat → Value) (hB : B ≤ w.heap.size) (h : KL w 46 2 B L) (hr : Rws w 46 2 (.slice a n cap) n f) (hge : ∀ g, (Value.slice a n cap).ownBlock = some g → B ≤ g ∧ ∀ y ∈ L, y.v.ownBlock ≠ some g) (hn : n ≤ 100000) :
    Calls Try.prog 22 #[.slice a n cap, .agg #[.int .i64 m.1, .string (bs m.2)]] w fun e w' => MkEnd w 46 38 2 B L [.int .i64 m.1, .string (bs m.2)] (.slice a n cap) n e w' := by
  have hal : Below w.heap.size w (w.alloc (.cells #[.int .i64 m.1, .string (bs m.2)] 46)) := (Below.refl _ _).alloc (Nat.le_refl _) _
  have C25 := hide (fill_any (w.alloc (.cells #[.int .i64 m.1, .string (bs m.2)] 46)) a n cap m f (hr.below hal) (by omega))
  have HK := hide (h.below hal)
  have HB1 : Hid (B ≤ (w.alloc (.cells #[.int .i64 m.1, .string (bs m.2)] 46)).heap.size) := hide (Nat.le_trans hB hal.size)
  have HGE := hide hge
  have HLT := hide hr.lt
  have HBX : Hid ((w.alloc (.cells #[.int .i64 m.1, .string (bs m.2)] 46)).heap[w.heap.size]? = some (.cells #[.int .i64 m.1, .string (bs m.2)] 46 (0, 0))) := hide (heap_alloc_new _ _)
  have HAL := hide hal
  have z0 : (w.alloc (.cells #[.int .i64 m.1, .string (bs m.2)] 46)).cell? ⟨w.heap.size, 0, none⟩ = some (.int .i64 m.1) := cell_blk (unhide HBX) 0
  have z1 : (w.alloc (.cells #[.int .i64 m.1, .string (bs m.2)] 46)).cell? ⟨w.heap.size, 1, none⟩ = some (.string (bs m.2)) := cell_blk (unhide HBX) 1
  clear h hr hge hal hB
  obtain ⟨w1, hw1⟩ : ∃ w1, w.alloc (.cells #[.int .i64 m.1, .string (bs m.2)] 46) = w1 := ⟨_, rfl⟩
  rw [hw1] at C25 HK HB1 HBX HAL z0 z1
  go_enter Try.func22, Try.ntmps22
  go_wp2_with (first
    | (go_at_call 25; refine (unhide C25).mono ?_; clear C25 z0 z1; rintro e w2 ⟨rfl, H2⟩
       have hbx2 : w2.heap[w.heap.size]? = some (.cells #[.int .i64 m.1, .string (bs m.2)] 46 (0, 0)) := (by
         rw [(unhide H2).2.block w.heap.size (Array.getElem?_eq_some_iff.1 (unhide HBX)).1 (fun x hx e => by
           rw [List.mem_singleton.1 hx] at e
           have := unhide HLT w.heap.size e
           omega)]
         exact unhide HBX)
       have y0 : w2.cell? ⟨w.heap.size, 0, none⟩ = some (.int .i64 m.1) := cell_blk hbx2 0
       have y1 : w2.cell? ⟨w.heap.size, 1, none⟩ = some (.string (bs m.2)) := cell_blk hbx2 1
       clear hbx2
       have C27 := hide (beyond_any w2 B (L ++ [⟨.slice a n cap, n, [.int .i64 m.1, .string (bs m.2)]⟩]) a n cap m (Nat.le_trans (unhide HB1) (unhide H2).2.size) ((unhide HK).join rfl (unhide HGE) (unhide H2).2 (unhide H2).1) (List.mem_append_right _ (List.mem_singleton.2 rfl)) hn))
    | (go_at_call 27; refine (unhide C27).mono ?_; clear C27; rintro e w3 ⟨g, rfl, H3⟩))
  go_ret
  refine by_mk ?_ ⟨g, rfl, H3⟩
  exact (Fl.of (L := L ++ [⟨.slice a n cap, n, [.int .i64 m.1, .string (bs m.2)]⟩]) (unhide HAL)).trans (unhide H2).2 (fun x hx => .inl (by rw [List.mem_singleton.1 hx]; exact List.mem_append_right _ (List.mem_singleton.2 rfl)))
theorem numbered_any (w : World) (B : Nat) (L : List Ent) (a : Option Addr) (n cap : Nat) (m : Int) (f : Nat → Value) (hB : B ≤ w.heap.size) (h : KL w 3 1 B L) (hr : Rws w 3 1 (.slice a n cap) n f) (hge : ∀ g, (Value.slice a n cap).ownBlock = some g → B ≤ g ∧ ∀ y ∈ L, y.v.ownBlock ≠ some g) (hn : n ≤ 100000) :
    Calls Try.prog 23 #[.slice a n cap, .int .i64 m] w fun e w' => MkEnd w 3 51 1 B L [.int .i64 m] (.slice a n cap) n e w' := by
  have C26 := hide (fillInts_any w a n cap m f hr (by omega))
  have HK := hide h
  have HB1 := hide hB
  have HGE := hide hge
  clear h hr hge hB
  go_enter Try.func23, Try.ntmps23
  go_wp2_with (first
    | (go_at_call 26; refine (unhide C26).mono ?_; clear C26; rintro e w2 ⟨rfl, H2⟩
       have C28 := hide (beyondInts_any w2 B (L ++ [⟨.slice a n cap, n, [.int .i64 m]⟩]) a n cap m (Nat.le_trans (unhide HB1) (unhide H2).2.size) ((unhide HK).join rfl (unhide HGE) (unhide H2).2 (unhide H2).1) (List.mem_append_right _ (List.mem_singleton.2 rfl)) hn))
    | (go_at_call 28; refine (unhide C28).mono ?_; clear C28; rintro e w3 ⟨g, rfl, H3⟩))
  go_ret
  refine by_mk ?_ ⟨g, rfl, H3⟩
  exact fl_own (unhide H2).2 (fun x hx g hg => ⟨x, List.mem_append_right _ hx, hg⟩)
end Go.Proofs.Ytfebiemfmiahhab
