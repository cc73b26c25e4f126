/- the script's steps in memory -/
import Derived.Test.YtfebiemfmiahhabLa
import Derived.Deep.CutRange
namespace Go.Proofs.Ytfebiemfmiahhab
open Go.ChangeShapes Go.WideShapes Go.ChangeAt Go.RowKit Go.Maps
set_option linter.unusedVariables false
set_option linter.unusedSimpArgs false
set_option maxRecDepth 100000
set_option maxHeartbeats 8000000
/-- one Wait, all that is its own made since w0 -/
structure Wa (w0 : World) (O : Nat → Prop) (w : World) (p T : Nat) (E : List En) : Prop where
  ex : ∃ bw bl, WAt O w p bw bl T E
  ge : ∀ b, O b → w0.heap.size ≤ b
  bel : Below w0.heap.size w0 w
theorem Fr.bel {O : Nat → Prop} {w0 w w' : World} (h : Fr O w w') (hO : ∀ b, O b → w0.heap.size ≤ b) (hb : Below w0.heap.size w0 w) : Below w0.heap.size w0 w' :=
  ⟨h.os.trans hb.os, h.tape.trans hb.tape, h.output.trans hb.output, Nat.le_trans hb.size h.size, fun k hk => (h.own k (Nat.lt_of_lt_of_le hk hb.size) (fun o => by have := hO k o; omega)).trans (hb.block k hk)⟩
theorem Wa.below {w0 w w' : World} {O : Nat → Prop} {p T : Nat} {E : List En} (h : Wa w0 O w p T E) (hb : Below w.heap.size w w') : Wa w0 O w' p T E := by
  obtain ⟨bw, bl, h1⟩ := h.ex
  exact ⟨⟨bw, bl, h1.below hb⟩, h.ge, h.bel.trans (hb.mono h.bel.size)⟩
theorem Wa.fr {w0 w w' : World} {O : Nat → Prop} {p T T' : Nat} {E E' : List En} (h : Wa w0 O w p T E) (hf : Fr O w w') (bw bl : Nat) (h' : WAt (ext O w w') w' p bw bl T' E') : Wa w0 (ext O w w') w' p T' E' :=
  ⟨⟨bw, bl, h'⟩, fun b ob => by
    rcases ob with ob | ob
    · exact h.ge b ob
    · have := h.bel.size; omega, hf.bel h.ge h.bel⟩
theorem Wa.lt {w0 w : World} {O : Nat → Prop} {p T : Nat} {E : List En} (h : Wa w0 O w p T E) (b : Nat) (ob : O b) : b < w.heap.size := by
  obtain ⟨bw, bl, h1⟩ := h.ex
  exact h1.lt b ob
theorem wa_new (w0 w : World) (hb : Below w0.heap.size w0 w) : Calls Try.prog 9 #[] w fun e w' => ∃ p, e = .returned (.pointer (some ⟨p, 0, none⟩)) ∧ Hid (∃ O, Wa w0 O w' p 0 [] ∧ (∀ b, O b → w.heap.size ≤ b) ∧ Below w.heap.size w w') := by
  refine (new_any w).mono ?_
  rintro e w1 ⟨rfl, H1⟩
  obtain ⟨k1, k2, k3⟩ := unhide H1
  exact ⟨_, rfl, hide ⟨newO w, ⟨⟨_, _, k1⟩, fun b ob => Nat.le_trans hb.size ob.1, hb.trans (k2.mono hb.size)⟩, fun b ob => ob.1, k2⟩⟩
theorem wa_block (w0 : World) (O : Nat → Prop) (w : World) (p T : Nat) (E : List En) (c k : Int) (a : Option Addr) (n cap : Nat) (l : List Pl) (t : Nat) (h : Wa w0 O w p T E) (hc : IOk c) (hl : PlsAt w a l) (hn : n = l.length) (hll : n ≤ 9223372036854775807) (hT : T < 1099511627776) :
    Calls Try.prog 11 #[.pointer (some ⟨p, 0, none⟩), .int .i64 c, .int .i64 k, .slice a n cap, .int .u64 (t : Nat)] w fun e w' => e = .returned (.int .i64 (refR E c k l t)) ∧ Hid (∃ O' T' E', Wa w0 O' w' p T' E' ∧ Fr O w w' ∧ T' ≤ T + 1 ∧ (∀ b, O b → O' b) ∧ (∀ b, O' b → O b ∨ w.heap.size ≤ b) ∧
      (refR E c k l t ≠ 0 → E' = E ∧ Below w.heap.size w w') ∧ (refR E c k l t = 0 → ∃ (cn g : Nat), c = (cn : Nat) ∧ E' = E ++ [⟨⟨cn, k, l, t⟩, T + 1, g⟩])) := by
  subst hn
  obtain ⟨bw, bl, h1⟩ := h.ex
  by_cases hr : refR E c k l t = 0
  · have hc0 : 0 ≤ c := by
      unfold refR at hr
      split at hr
      · cases hr
      · omega
    obtain ⟨cn, rfl⟩ := Int.eq_ofNat_of_zero_le hc0
    refine (block_ok O w p bw bl T E k a cap l t cn h1 hl hll hT hr).mono ?_
    rintro e w' ⟨rfl, H⟩
    obtain ⟨g, k1, k2⟩ := unhide H
    refine ⟨by rw [hr], hide ⟨_, _, _, h.fr k2 bw bl k1, k2, Nat.le_refl _, fun b ob => .inl ob, fun b ob => ob.imp id (·.1), fun hne => absurd hr hne, fun _ => ⟨cn, g, rfl, rfl⟩⟩⟩
  · refine (block_no O w p bw bl T E c k a cap l t h1 hc hl hll hr).mono ?_
    rintro e w' ⟨rfl, H⟩
    have k1 := unhide H
    exact ⟨rfl, hide ⟨O, T, E, h.below k1, Fr.of k1, by omega, fun b ob => ob, fun b ob => .inl ob, fun _ => ⟨rfl, k1⟩, fun h0 => absurd h0 hr⟩⟩
theorem wa_next (w0 : World) (O : Nat → Prop) (w : World) (p T : Nat) (E : List En) (x : Pl) (k : Int) (h : Wa w0 O w p T E) (hx : POk x) :
    Calls Try.prog 12 #[.pointer (some ⟨p, 0, none⟩), .agg #[.int .i64 x.1, .string (bs x.2)], .int .i64 k] w fun e w' => e = .returned (.tuple #[.int .i64 (((nextE E x k).map (·.x.conn)).getD 0 : Nat), .bool (nextE E x k).isSome]) ∧ Hid (Wa w0 O w' p T E ∧ Below w.heap.size w w') := by
  obtain ⟨bw, bl, h1⟩ := h.ex
  refine (next_any O w p bw bl T E x k h1 hx).mono ?_
  rintro e w' ⟨rfl, H⟩
  exact ⟨rfl, hide ⟨h.below (unhide H), unhide H⟩⟩
def wkL : List Pl := [((1 : Int), [107])]
def Wn (w0 w : World) (p : Nat) : Prop := ∃ O, Wa w0 O w p 0 []
def Ww (w0 w : World) (p : Nat) : Prop := ∃ O g, Wa w0 O w p 1 [⟨⟨3, 2, wkL, 0⟩, 1, g⟩]
def wk (w : World) : World := w.alloc (.cells #[.int .i64 1, .string { data := #[107] }] 46)
theorem wk_below (w : World) : Below w.heap.size w (wk w) := (Below.refl _ _).alloc (Nat.le_refl _) _
theorem wk_pls (w : World) : PlsAt (wk w) (some ⟨w.heap.size, 0, none⟩) wkL := RowP.at (heap_alloc_new _ _)
theorem wk_block1 (w0 w : World) (p : Nat) (h : Hid (Wn w0 w p)) : Calls Try.prog 11 #[.pointer (some ⟨p, 0, none⟩), .int .i64 3, .int .i64 2, .slice (some ⟨w.heap.size, 0, none⟩) 1 1, .int .u64 0] (w.alloc (.cells #[.int .i64 1, .string { data := #[107] }] 46)) fun e w' => e = .returned (.int .i64 0) ∧ Hid (Ww w0 w' p) := by
  obtain ⟨O, h⟩ := unhide h
  refine (wa_block w0 O (wk w) p 0 [] 3 2 (some ⟨w.heap.size, 0, none⟩) 1 1 wkL 0 (h.below (wk_below w)) rfl (wk_pls w) rfl (by omega) (by omega)).mono ?_
  rintro e w' ⟨rfl, H⟩
  obtain ⟨O', T', E', k1, -, k2, -, -, -, k3⟩ := unhide H
  obtain ⟨cn, g, e1, rfl⟩ := k3 (by decide)
  obtain rfl : cn = 3 := by omega
  refine ⟨rfl, hide ?_⟩
  obtain rfl : T' = 1 := by
    obtain ⟨bw, bl, q⟩ := k1.ex
    have := q.le _ (List.mem_append_right _ (List.mem_singleton.2 rfl))
    simp at this
    omega
  exact ⟨O', g, k1⟩
theorem wk_block2 (w0 w : World) (p : Nat) (h : Hid (Ww w0 w p)) : Calls Try.prog 11 #[.pointer (some ⟨p, 0, none⟩), .int .i64 3, .int .i64 2, .slice (some ⟨w.heap.size, 0, none⟩) 1 1, .int .u64 0] (w.alloc (.cells #[.int .i64 1, .string { data := #[107] }] 46)) fun e w' => e = .returned (.int .i64 181) ∧ Hid (Ww w0 w' p) := by
  obtain ⟨O, g, h⟩ := unhide h
  refine (wa_block w0 O (wk w) p 1 _ 3 2 (some ⟨w.heap.size, 0, none⟩) 1 1 wkL 0 (h.below (wk_below w)) rfl (wk_pls w) rfl (by omega) (by omega)).mono ?_
  rintro e w' ⟨rfl, H⟩
  obtain ⟨O', T', E', k1, kf, k2, -, -, k3, -⟩ := unhide H
  have hne : refR [(⟨⟨3, 2, wkL, 0⟩, 1, g⟩ : En)] 3 2 wkL 0 = 181 := rfl
  refine ⟨by rw [hne], hide ?_⟩
  obtain ⟨-, k4⟩ := k3 (by rw [hne]; decide)
  exact ⟨O, g, (h.below (wk_below w)).below k4⟩
theorem wk_next (w0 w : World) (p : Nat) (h : Hid (Ww w0 w p)) : Calls Try.prog 12 #[.pointer (some ⟨p, 0, none⟩), .agg #[.int .i64 1, .string { data := #[107] }], .int .i64 2] w fun e w' => e = .returned (.tuple #[.int .i64 3, .bool true]) ∧ Hid (Ww w0 w' p) := by
  obtain ⟨O, g, h⟩ := unhide h
  refine (wa_next w0 O w p 1 _ ((1 : Int), [107]) 2 h ⟨rfl, by show 1 ≤ maxLen; unfold maxLen; omega⟩).mono ?_
  rintro e w' ⟨rfl, H⟩
  exact ⟨rfl, hide ⟨O, g, (unhide H).1⟩⟩
theorem wk_next5 (w0 w : World) (p : Nat) (h : Hid (Ww w0 w p)) : Calls Try.prog 12 #[.pointer (some ⟨p, 0, none⟩), .agg #[.int .i64 1, .string { data := #[107] }], .int .i64 5] w fun e w' => e = .returned (.tuple #[.int .i64 0, .bool false]) ∧ Hid (Ww w0 w' p) := by
  obtain ⟨O, g, h⟩ := unhide h
  refine (wa_next w0 O w p 1 _ ((1 : Int), [107]) 5 h ⟨rfl, by show 1 ≤ maxLen; unfold maxLen; omega⟩).mono ?_
  rintro e w' ⟨rfl, H⟩
  exact ⟨rfl, hide ⟨O, g, (unhide H).1⟩⟩
theorem wakes_any (w : World) : Calls Try.prog 6 #[] w fun e w' => e = .returned (.bool true) ∧ Hid (Below w.heap.size w w') := by
  go_enter Try.func6, Try.ntmps6
  go_wp2_with (go_at_call 9; refine (wa_new w _ (Below.refl _ _)).mono ?_; rintro e w1 ⟨p, rfl, H1⟩)
  have H2 : Hid (Wn w w1 p) := hide ((unhide H1).imp fun O q => q.1)
  clear H1
  go_wp2_with (go_at_call 11; refine (wk_block1 _ _ _ H2).mono ?_; clear H2; rintro e w3 ⟨rfl, H3⟩)
  go_wp2_with (go_at_call 12; refine (wk_next _ _ _ H3).mono ?_; clear H3; rintro e w4 ⟨rfl, H4⟩)
  go_wp2_with (go_at_call 12; refine (wk_next5 _ _ _ H4).mono ?_; clear H4; rintro e w5 ⟨rfl, H5⟩)
  go_wp2_with (go_at_call 11; refine (wk_block2 _ _ _ H5).mono ?_; clear H5; rintro e w6 ⟨rfl, H6⟩)
  go_ret
  obtain ⟨O, g, k⟩ := unhide H6
  exact ⟨rfl, hide k.bel⟩
end Go.Proofs.Ytfebiemfmiahhab
namespace Go.Proofs.Ytfebiemfmiahhab
open Go.ChangeShapes Go.WideShapes Go.ChangeAt Go.RowKit Go.Maps
set_option linter.unusedVariables false
set_option linter.unusedSimpArgs false
set_option maxRecDepth 100000
set_option maxHeartbeats 8000000
/-- a step, and where its places lie -/
structure Ol where
  on : Int
  act : Int
  conn : Int
  kind : Int
  a : Option Addr
  cap : Nat
  pl : List Pl
  time : Nat
def opC (o : Ol) : List Value := [.int .i64 o.on, .int .i64 o.act, .int .i64 o.conn, .int .i64 o.kind, .slice o.a o.pl.length o.cap, .int .u64 (o.time : Nat)]
structure OlOk (W : World) (o : Ol) : Prop where
  pls : PlsAt W o.a o.pl
  nil : o.a = none → o.cap = 0 ∧ o.pl = []
  len : o.pl.length ≤ 5864062014805
  conn : IOk o.conn
  pok : ∀ x ∈ o.pl, POk x
theorem OlOk.below {W W' : World} {o : Ol} (h : OlOk W o) (hb : Below W.heap.size W W') : OlOk W' o := ⟨h.pls.below hb, h.nil, h.len, h.conn, h.pok⟩
structure OpsAt (W : World) (a : Option Addr) (l : List Ol) : Prop where
  ex : l = [] ∨ ∃ b off, a = some ⟨b, off, none⟩ ∧ b < W.heap.size ∧ ∀ (i : Nat) (x : Ol), l[i]? = some x → ∀ j, j < 6 → W.cell? ⟨b, off + i * 6 + j, none⟩ = (opC x)[j]?
  ok : ∀ x ∈ l, OlOk W x
theorem OpsAt.below {W W' : World} {a : Option Addr} {l : List Ol} (h : OpsAt W a l) (hb : Below W.heap.size W W') : OpsAt W' a l := by
  refine ⟨?_, fun x hx => (h.ok x hx).below hb⟩
  rcases h.ex with h | ⟨b, off, e, hlt, hc⟩
  · exact .inl h
  · exact .inr ⟨b, off, e, Nat.lt_of_lt_of_le hlt hb.size, fun i x hx j hj => (hb.cell (p := ⟨b, off + i * 6 + j, none⟩) hlt).trans (hc i x hx j hj)⟩
theorem OpsAt.at {W : World} {a : Option Addr} {l : List Ol} (h : OpsAt W a l) {i : Nat} {x : Ol} (hx : l[i]? = some x) : ∃ b off, a = some ⟨b, off, none⟩ ∧ OlOk W x ∧ W.cell? ⟨b, off + i * 6, none⟩ = some (.int .i64 x.on) ∧ W.cell? ⟨b, off + i * 6 + 1, none⟩ = some (.int .i64 x.act) ∧ W.cell? ⟨b, off + i * 6 + 2, none⟩ = some (.int .i64 x.conn) ∧ W.cell? ⟨b, off + i * 6 + 3, none⟩ = some (.int .i64 x.kind) ∧ W.cell? ⟨b, off + i * 6 + 4, none⟩ = some (.slice x.a x.pl.length x.cap) ∧ W.cell? ⟨b, off + i * 6 + 5, none⟩ = some (.int .u64 (x.time : Nat)) := by
  rcases h.ex with h0 | ⟨b, off, e, hlt, hc⟩
  · rw [h0] at hx; simp at hx
  · have := hc i x hx
    exact ⟨b, off, e, h.ok x (List.mem_of_getElem? hx), this 0 (by omega), this 1 (by omega), this 2 (by omega), this 3 (by omega), this 4 (by omega), this 5 (by omega)⟩
/-- a step in a block of its own -/
def OpBk (w : World) (b : Nat) (o : Ol) : Prop := w.heap[b]? = some (.cells (opC o).toArray 41 (0, 0))
theorem OpBk.cells {w : World} {b : Nat} {o : Ol} (h : OpBk w b o) : w.cell? ⟨b, 0, none⟩ = some (.int .i64 o.on) ∧ w.cell? ⟨b, 1, none⟩ = some (.int .i64 o.act) ∧ w.cell? ⟨b, 2, none⟩ = some (.int .i64 o.conn) ∧ w.cell? ⟨b, 3, none⟩ = some (.int .i64 o.kind) ∧ w.cell? ⟨b, 4, none⟩ = some (.slice o.a o.pl.length o.cap) ∧ w.cell? ⟨b, 5, none⟩ = some (.int .u64 (o.time : Nat)) := ⟨cell_blk h 0, cell_blk h 1, cell_blk h 2, cell_blk h 3, cell_blk h 4, cell_blk h 5⟩
theorem OpBk.below {w w' : World} {b : Nat} {o : Ol} (h : OpBk w b o) (hb : Below w.heap.size w w') : OpBk w' b o := (hb.block b (blk_lt h)).trans h
/-- one Wait asked -/
theorem wa_waiting (w0 : World) (O : Nat → Prop) (w : World) (p T : Nat) (E : List En) (h : Wa w0 O w p T E) :
    Calls Try.prog 17 #[.pointer (some ⟨p, 0, none⟩)] w fun e w' => ∃ g n, e = .returned (.slice (some ⟨g, 0, none⟩) n n) ∧ Hid (RowI w' g (E.map (·.x.conn)) ∧ n = E.length ∧ w.heap.size ≤ g ∧ Wa w0 O w' p T E ∧ Below w.heap.size w w') := by
  obtain ⟨bw, bl, h1⟩ := h.ex
  refine (waiting_any O w p bw bl T E h1).mono ?_
  rintro e w' ⟨g, n, rfl, H⟩
  obtain ⟨a, b, c, d⟩ := unhide H
  exact ⟨g, n, rfl, hide ⟨a, b, c, h.below d, d⟩⟩
theorem wa_due (w0 : World) (O : Nat → Prop) (w : World) (p T now : Nat) (E : List En) (h : Wa w0 O w p T E) :
    Calls Try.prog 16 #[.pointer (some ⟨p, 0, none⟩), .int .u64 (now : Nat)] w fun e w' => ∃ g n, e = .returned (.slice (some ⟨g, 0, none⟩) n n) ∧ Hid (∃ F, DueIs E now F ∧ RowI w' g (F.map (·.x.conn)) ∧ n = F.length ∧ w.heap.size ≤ g ∧ Wa w0 O w' p T E ∧ Below w.heap.size w w') := by
  obtain ⟨bw, bl, h1⟩ := h.ex
  refine (due_any O w p bw bl T now E h1).mono ?_
  rintro e w' ⟨g, n, rfl, H⟩
  obtain ⟨F, x, a, b, c, d⟩ := unhide H
  exact ⟨g, n, rfl, hide ⟨F, x, a, b, c, h.below d, d⟩⟩
theorem wa_until (w0 : World) (O : Nat → Prop) (w : World) (p T : Nat) (E : List En) (c : Int) (h : Wa w0 O w p T E) (hc : IOk c) :
    Calls Try.prog 34 #[.pointer (some ⟨p, 0, none⟩), .int .i64 c] w fun e w' => e = .returned (.tuple #[.int .u64 (((lookE E c).map (·.x.till)).getD 0 : Nat), .bool (lookE E c).isSome]) ∧ Hid (Wa w0 O w' p T E ∧ Below w.heap.size w w') := by
  obtain ⟨bw, bl, h1⟩ := h.ex
  refine (until_any O w p bw bl T E c h1 hc).mono ?_
  rintro e w' ⟨rfl, H⟩
  exact ⟨rfl, hide ⟨h.below (unhide H), unhide H⟩⟩
theorem wa_release (w0 : World) (O : Nat → Prop) (w : World) (p T : Nat) (E : List En) (c : Int) (h : Wa w0 O w p T E) (hc : IOk c) :
    Calls Try.prog 30 #[.pointer (some ⟨p, 0, none⟩), .int .i64 c] w fun e w' => e = .returned (.bool (lookE E c).isSome) ∧ Hid (∃ O', Wa w0 O' w' p T (goneE E c) ∧ Fr O w w' ∧ (∀ b, O b → O' b) ∧ (∀ b, O' b → O b ∨ w.heap.size ≤ b)) := by
  obtain ⟨bw, bl, h1⟩ := h.ex
  cases hl : lookE E c with
  | none =>
    refine (release_no O w p bw bl T E c h1 hc hl).mono ?_
    rintro e w' ⟨rfl, H⟩
    obtain ⟨k1, k2⟩ := unhide H
    have hg : goneE E c = E := by
      refine List.filter_eq_self.2 fun e he => ?_
      have := List.find?_eq_none.1 hl e he
      simpa using this
    exact ⟨rfl, hide ⟨ext O w w', by rw [hg]; exact h.fr k2 bw bl k1, k2, fun b ob => .inl ob, fun b ob => ob.imp id (·.1)⟩⟩
  | some e0 =>
    obtain rfl : (e0.x.conn : Int) = c := by
      have := List.find?_some hl
      simpa using this
    refine (release_yes O w p bw bl T E e0 h1 hl).mono ?_
    rintro e w' ⟨rfl, H⟩
    obtain ⟨k1, k2⟩ := unhide H
    exact ⟨rfl, hide ⟨_, h.fr k2 bw bl k1, k2, fun b ob => .inl ob, fun b ob => ob.imp id (·.1)⟩⟩
theorem Fr.row {O : Nat → Prop} {w w' : World} (h : Fr O w w') {b : Nat} {x : Obj} (hb : w.heap[b]? = some x) (ho : ¬ O b) : w'.heap[b]? = some x := (h.own b (blk_lt hb) ho).trans hb
/-- what WaitRefused asks of a Block -/
def mayB (E : List En) (o : Ol) : Bool := decide (0 ≤ o.conn) && decide (o.conn < 8) && !(lookE E o.conn).isSome && (decide (o.kind = 2) || decide (o.kind = 5)) && decide (0 < o.pl.length) && decide (o.pl.length ≤ 64) && decide (o.time ≤ 4503599627370496)
theorem may_iff (E : List En) (o : Ol) : (mayB E o && o.pl.all (fun x => !wrongB x)) = decide (refR E o.conn o.kind o.pl o.time = 0) := by
  unfold mayB refR
  have ha : o.pl.all (fun x => !wrongB x) = !(o.pl.any wrongB) := by
    rw [List.all_eq_not_any_not]; simp
  rw [ha]
  by_cases h1 : o.conn < 0 ∨ 8 ≤ o.conn
  · rw [if_pos h1]
    rcases h1 with h | h
    · rw [decide_eq_false (show ¬ (0 ≤ o.conn) by omega)]; rfl
    · rw [decide_eq_false (show ¬ (o.conn < 8) by omega)]; simp
  rw [if_neg h1, decide_eq_true (show 0 ≤ o.conn by omega), decide_eq_true (show o.conn < 8 by omega)]
  cases h2 : (lookE E o.conn).isSome
  case true => simp
  by_cases h3 : o.kind ≠ 2 ∧ o.kind ≠ 5
  · rw [if_neg (by simp), if_pos h3, decide_eq_false h3.1, decide_eq_false h3.2]; simp
  rw [if_neg (by simp), if_neg h3]
  have h3' : (decide (o.kind = 2) || decide (o.kind = 5)) = true := by
    simp; omega
  rw [h3']
  by_cases h4 : o.pl.length = 0 ∨ 64 < o.pl.length ∨ o.pl.any wrongB = true
  · rw [if_pos h4]
    rcases h4 with h | h | h
    · rw [decide_eq_false (show ¬ 0 < o.pl.length by omega)]; simp
    · rw [decide_eq_false (show ¬ o.pl.length ≤ 64 by omega)]; simp
    · rw [h]; simp
  rw [if_neg h4, decide_eq_true (show 0 < o.pl.length by omega), decide_eq_true (show o.pl.length ≤ 64 by omega)]
  have h5 : o.pl.any wrongB = false := by
    cases h : o.pl.any wrongB
    · rfl
    · exact absurd (.inr (.inr h)) h4
  rw [h5]
  by_cases h6 : 4503599627370496 < o.time
  · rw [if_pos h6, decide_eq_false (show ¬ o.time ≤ 4503599627370496 by omega)]; rfl
  · rw [if_neg h6, decide_eq_true (show o.time ≤ 4503599627370496 by omega)]; rfl
end Go.Proofs.Ytfebiemfmiahhab
