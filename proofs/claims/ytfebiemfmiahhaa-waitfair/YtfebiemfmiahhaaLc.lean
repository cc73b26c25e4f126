/- the script's steps in memory -/
import Derived.Test.YtfebiemfmiahhaaLb
import Derived.Deep.CutRange
namespace Go.Proofs.Ytfebiemfmiahhaa
open Go.ChangeShapes Go.WideShapes Go.ChangeAt Go.RowKit Go.Maps
set_option linter.unusedVariables false
set_option linter.unusedSimpArgs false
set_option maxRecDepth 100000
set_option maxHeartbeats 8000000
/-- a step, and where its places lie -/
structure Ol where
  on : Int
  act : Int
  conn : Int
  kind : Int
  a : Option Addr
  cap : Nat
  pl : List Pl
  time : Nat
def opC (o : Ol) : List Value := [.int .i64 o.on, .int .i64 o.act, .int .i64 o.conn, .int .i64 o.kind, .slice o.a o.pl.length o.cap, .int .u64 (o.time : Nat)]
structure OlOk (W : World) (o : Ol) : Prop where
  pls : PlsAt W o.a o.pl
  nil : o.a = none → o.cap = 0 ∧ o.pl = []
  len : o.pl.length ≤ 5864062014805
  conn : IOk o.conn
  pok : ∀ x ∈ o.pl, POk x
theorem OlOk.below {W W' : World} {o : Ol} (h : OlOk W o) (hb : Below W.heap.size W W') : OlOk W' o := ⟨h.pls.below hb, h.nil, h.len, h.conn, h.pok⟩
structure OpsAt (W : World) (a : Option Addr) (l : List Ol) : Prop where
  ex : l = [] ∨ ∃ b off, a = some ⟨b, off, none⟩ ∧ b < W.heap.size ∧ ∀ (i : Nat) (x : Ol), l[i]? = some x → ∀ j, j < 6 → W.cell? ⟨b, off + i * 6 + j, none⟩ = (opC x)[j]?
  ok : ∀ x ∈ l, OlOk W x
theorem OpsAt.below {W W' : World} {a : Option Addr} {l : List Ol} (h : OpsAt W a l) (hb : Below W.heap.size W W') : OpsAt W' a l := by
  refine ⟨?_, fun x hx => (h.ok x hx).below hb⟩
  rcases h.ex with h | ⟨b, off, e, hlt, hc⟩
  · exact .inl h
  · exact .inr ⟨b, off, e, Nat.lt_of_lt_of_le hlt hb.size, fun i x hx j hj => (hb.cell (p := ⟨b, off + i * 6 + j, none⟩) hlt).trans (hc i x hx j hj)⟩
theorem OpsAt.at {W : World} {a : Option Addr} {l : List Ol} (h : OpsAt W a l) {i : Nat} {x : Ol} (hx : l[i]? = some x) : ∃ b off, a = some ⟨b, off, none⟩ ∧ OlOk W x ∧ W.cell? ⟨b, off + i * 6, none⟩ = some (.int .i64 x.on) ∧ W.cell? ⟨b, off + i * 6 + 1, none⟩ = some (.int .i64 x.act) ∧ W.cell? ⟨b, off + i * 6 + 2, none⟩ = some (.int .i64 x.conn) ∧ W.cell? ⟨b, off + i * 6 + 3, none⟩ = some (.int .i64 x.kind) ∧ W.cell? ⟨b, off + i * 6 + 4, none⟩ = some (.slice x.a x.pl.length x.cap) ∧ W.cell? ⟨b, off + i * 6 + 5, none⟩ = some (.int .u64 (x.time : Nat)) := by
  rcases h.ex with h0 | ⟨b, off, e, hlt, hc⟩
  · rw [h0] at hx; simp at hx
  · have := hc i x hx
    exact ⟨b, off, e, h.ok x (List.mem_of_getElem? hx), this 0 (by omega), this 1 (by omega), this 2 (by omega), this 3 (by omega), this 4 (by omega), this 5 (by omega)⟩
/-- a step in a block of its own -/
def OpBk (w : World) (b : Nat) (o : Ol) : Prop := w.heap[b]? = some (.cells (opC o).toArray 31 (0, 0))
theorem OpBk.cells {w : World} {b : Nat} {o : Ol} (h : OpBk w b o) : w.cell? ⟨b, 0, none⟩ = some (.int .i64 o.on) ∧ w.cell? ⟨b, 1, none⟩ = some (.int .i64 o.act) ∧ w.cell? ⟨b, 2, none⟩ = some (.int .i64 o.conn) ∧ w.cell? ⟨b, 3, none⟩ = some (.int .i64 o.kind) ∧ w.cell? ⟨b, 4, none⟩ = some (.slice o.a o.pl.length o.cap) ∧ w.cell? ⟨b, 5, none⟩ = some (.int .u64 (o.time : Nat)) := ⟨cell_blk h 0, cell_blk h 1, cell_blk h 2, cell_blk h 3, cell_blk h 4, cell_blk h 5⟩
theorem OpBk.below {w w' : World} {b : Nat} {o : Ol} (h : OpBk w b o) (hb : Below w.heap.size w w') : OpBk w' b o := (hb.block b (blk_lt h)).trans h
/-- one Wait asked -/
theorem wa_waiting (w0 : World) (O : Nat → Prop) (w : World) (p T : Nat) (E : List En) (h : Wa w0 O w p T E) :
    Calls Try.prog 11 #[.pointer (some ⟨p, 0, none⟩)] w fun e w' => ∃ g n, e = .returned (.slice (some ⟨g, 0, none⟩) n n) ∧ Hid (RowI w' g (E.map (·.x.conn)) ∧ n = E.length ∧ w.heap.size ≤ g ∧ Wa w0 O w' p T E ∧ Below w.heap.size w w') := by
  obtain ⟨bw, bl, h1⟩ := h.ex
  refine (waiting_any O w p bw bl T E h1).mono ?_
  rintro e w' ⟨g, n, rfl, H⟩
  obtain ⟨a, b, c, d⟩ := unhide H
  exact ⟨g, n, rfl, hide ⟨a, b, c, h.below d, d⟩⟩
theorem wa_due (w0 : World) (O : Nat → Prop) (w : World) (p T now : Nat) (E : List En) (h : Wa w0 O w p T E) :
    Calls Try.prog 12 #[.pointer (some ⟨p, 0, none⟩), .int .u64 (now : Nat)] w fun e w' => ∃ g n, e = .returned (.slice (some ⟨g, 0, none⟩) n n) ∧ Hid (∃ F, DueIs E now F ∧ RowI w' g (F.map (·.x.conn)) ∧ n = F.length ∧ w.heap.size ≤ g ∧ Wa w0 O w' p T E ∧ Below w.heap.size w w') := by
  obtain ⟨bw, bl, h1⟩ := h.ex
  refine (due_any O w p bw bl T now E h1).mono ?_
  rintro e w' ⟨g, n, rfl, H⟩
  obtain ⟨F, x, a, b, c, d⟩ := unhide H
  exact ⟨g, n, rfl, hide ⟨F, x, a, b, c, h.below d, d⟩⟩
theorem wa_until (w0 : World) (O : Nat → Prop) (w : World) (p T : Nat) (E : List En) (c : Int) (h : Wa w0 O w p T E) (hc : IOk c) :
    Calls Try.prog 13 #[.pointer (some ⟨p, 0, none⟩), .int .i64 c] w fun e w' => e = .returned (.tuple #[.int .u64 (((lookE E c).map (·.x.till)).getD 0 : Nat), .bool (lookE E c).isSome]) ∧ Hid (Wa w0 O w' p T E ∧ Below w.heap.size w w') := by
  obtain ⟨bw, bl, h1⟩ := h.ex
  refine (until_any O w p bw bl T E c h1 hc).mono ?_
  rintro e w' ⟨rfl, H⟩
  exact ⟨rfl, hide ⟨h.below (unhide H), unhide H⟩⟩
theorem wa_release (w0 : World) (O : Nat → Prop) (w : World) (p T : Nat) (E : List En) (c : Int) (h : Wa w0 O w p T E) (hc : IOk c) :
    Calls Try.prog 14 #[.pointer (some ⟨p, 0, none⟩), .int .i64 c] w fun e w' => e = .returned (.bool (lookE E c).isSome) ∧ Hid (∃ O', Wa w0 O' w' p T (goneE E c) ∧ Fr O w w' ∧ (∀ b, O b → O' b) ∧ (∀ b, O' b → O b ∨ w.heap.size ≤ b)) := by
  obtain ⟨bw, bl, h1⟩ := h.ex
  cases hl : lookE E c with
  | none =>
    refine (release_no O w p bw bl T E c h1 hc hl).mono ?_
    rintro e w' ⟨rfl, H⟩
    obtain ⟨k1, k2⟩ := unhide H
    have hg : goneE E c = E := by
      refine List.filter_eq_self.2 fun e he => ?_
      have := List.find?_eq_none.1 hl e he
      simpa using this
    exact ⟨rfl, hide ⟨ext O w w', by rw [hg]; exact h.fr k2 bw bl k1, k2, fun b ob => .inl ob, fun b ob => ob.imp id (·.1)⟩⟩
  | some e0 =>
    obtain rfl : (e0.x.conn : Int) = c := by
      have := List.find?_some hl
      simpa using this
    refine (release_yes O w p bw bl T E e0 h1 hl).mono ?_
    rintro e w' ⟨rfl, H⟩
    obtain ⟨k1, k2⟩ := unhide H
    exact ⟨rfl, hide ⟨_, h.fr k2 bw bl k1, k2, fun b ob => .inl ob, fun b ob => ob.imp id (·.1)⟩⟩
theorem Fr.row {O : Nat → Prop} {w w' : World} (h : Fr O w w') {b : Nat} {x : Obj} (hb : w.heap[b]? = some x) (ho : ¬ O b) : w'.heap[b]? = some x := (h.own b (blk_lt hb) ho).trans hb
/-- what WaitRefused asks of a Block -/
def mayB (E : List En) (o : Ol) : Bool := decide (0 ≤ o.conn) && decide (o.conn < 8) && !(lookE E o.conn).isSome && (decide (o.kind = 2) || decide (o.kind = 5)) && decide (0 < o.pl.length) && decide (o.pl.length ≤ 64) && decide (o.time ≤ 4503599627370496)
theorem may_iff (E : List En) (o : Ol) : (mayB E o && o.pl.all (fun x => !wrongB x)) = decide (refR E o.conn o.kind o.pl o.time = 0) := by
  unfold mayB refR
  have ha : o.pl.all (fun x => !wrongB x) = !(o.pl.any wrongB) := by
    rw [List.all_eq_not_any_not]; simp
  rw [ha]
  by_cases h1 : o.conn < 0 ∨ 8 ≤ o.conn
  · rw [if_pos h1]
    rcases h1 with h | h
    · rw [decide_eq_false (show ¬ (0 ≤ o.conn) by omega)]; rfl
    · rw [decide_eq_false (show ¬ (o.conn < 8) by omega)]; simp
  rw [if_neg h1, decide_eq_true (show 0 ≤ o.conn by omega), decide_eq_true (show o.conn < 8 by omega)]
  cases h2 : (lookE E o.conn).isSome
  case true => simp
  by_cases h3 : o.kind ≠ 2 ∧ o.kind ≠ 5
  · rw [if_neg (by simp), if_pos h3, decide_eq_false h3.1, decide_eq_false h3.2]; simp
  rw [if_neg (by simp), if_neg h3]
  have h3' : (decide (o.kind = 2) || decide (o.kind = 5)) = true := by
    simp; omega
  rw [h3']
  by_cases h4 : o.pl.length = 0 ∨ 64 < o.pl.length ∨ o.pl.any wrongB = true
  · rw [if_pos h4]
    rcases h4 with h | h | h
    · rw [decide_eq_false (show ¬ 0 < o.pl.length by omega)]; simp
    · rw [decide_eq_false (show ¬ o.pl.length ≤ 64 by omega)]; simp
    · rw [h]; simp
  rw [if_neg h4, decide_eq_true (show 0 < o.pl.length by omega), decide_eq_true (show o.pl.length ≤ 64 by omega)]
  have h5 : o.pl.any wrongB = false := by
    cases h : o.pl.any wrongB
    · rfl
    · exact absurd (.inr (.inr h)) h4
  rw [h5]
  by_cases h6 : 4503599627370496 < o.time
  · rw [if_pos h6, decide_eq_false (show ¬ o.time ≤ 4503599627370496 by omega)]; rfl
  · rw [if_neg h6, decide_eq_true (show o.time ≤ 4503599627370496 by omega)]; rfl
end Go.Proofs.Ytfebiemfmiahhaa
