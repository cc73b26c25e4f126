/- WaitLent: lentMarked: the state within a round. -/
import Derived.Test.YtfebiemfmiahhabRl
namespace Go.Proofs.Ytfebiemfmiahhab
open Go.ChangeShapes Go.WideShapes Go.ChangeAt Go.RowKit Go.Maps
set_option linter.unusedVariables false
set_option linter.unusedSimpArgs false
set_option maxRecDepth 100000
set_option maxHeartbeats 8000000
/-- nothing kept yet -/
def ld0 : LD := ⟨[], [], [], [], none, 0, 0, none, 0, 0, none, 0, 0, none, 0, 0⟩
theorem li_new : LI ld0 0 := ⟨rfl, rfl, rfl, rfl, rfl, rfl, fun c hc => (by cases hc), fun c hc => (by cases hc), fun j x hx => (by cases hx), fun j x hx => (by cases hx), fun x hx => (by cases hx), fun x hx => (by cases hx), Nat.le_refl _, Nat.le_refl _⟩
theorem ls_new {w0 W : World} {P Q : Nat → Prop} {ps p r : Nat} (s : Sd w0 P Q W ps p r 0 [] []) : LS w0 W (upc (fun _ => 0) w0 W 1) ps p r 0 [] ld0 := by
  have hn : ∀ b, P b ∨ Q b → w0.heap.size ≤ b ∧ b < W.heap.size := fun b z => z.elim (fun z => ⟨s.wa.ge b z, s.wa.lt b z⟩) (fun z => ⟨s.ge b z, s.ra.lt b z⟩)
  refine ⟨s.wa.bel, fun b hb => ?_, ⟨P, Q, s, fun b z => upc_new (hn b z).1 (hn b z).2⟩, upc_new s.gs (blk_lt s.cell), KL.nil _ _ _ _, fun x hx => (by cases hx), KL.nil _ _ _ _, fun x hx => (by cases hx), .inl ⟨rfl, rfl⟩, fun g hg => (by cases hg), .inl ⟨rfl, rfl⟩, fun g hg => (by cases hg), .inl ⟨rfl, rfl⟩, fun g hg => (by cases hg), .inl ⟨rfl, rfl⟩, fun g hg => (by cases hg), Nat.le_refl _, Nat.le_refl _⟩
  unfold upc at hb
  split at hb
  · omega
  · exact absurd rfl hb
/-- the state at a round's head -/
def Hd (w0 W : World) (ps p r : Nat) (D : LD) (i : Nat) : Prop := ∃ X T E, LS w0 W X ps p r T E D ∧ LI D i ∧ T ≤ i
theorem Hd.cells {w0 W : World} {ps p r i : Nat} {D : LD} (h : Hd w0 W ps p r D i) : W.cell? ⟨ps, 0, none⟩ = some (.pointer (some ⟨p, 0, none⟩)) ∧ W.cell? ⟨ps, 1, none⟩ = some (.pointer (some ⟨r, 0, none⟩)) := by
  obtain ⟨X, T, E, h, -, -⟩ := h
  obtain ⟨P, Q, s, -⟩ := h.sd
  exact ⟨cell_blk s.cell 0, cell_blk s.cell 1⟩
theorem alloc_keep {w : World} {p : Addr} {v : Value} {o : Obj} (h : w.cell? p = some v) : (w.alloc o).cell? p = some v := by
  have hl : p.block < w.heap.size := by
    by_cases z : p.block < w.heap.size
    · exact z
    · have : w.heap[p.block]? = none := Array.getElem?_eq_none (by omega)
      simp [World.cell?, this] at h
  exact (((Below.refl w.heap.size w).alloc (Nat.le_refl _) o).cell hl).trans h
theorem One.cell {w w' : World} {g b : Nat} {x : Obj} (h : One g w w') (hb : w.heap[b]? = some x) (hg : b ≠ g) : w'.heap[b]? = some x := (h.other b hg).trans hb
theorem One.below {w w' : World} {g B : Nat} (h : One g w w') (hg : B ≤ g) : Below B w w' := ⟨h.os, h.tape, h.output, Nat.le_of_eq h.size.symm, fun k hk => h.other k (by omega)⟩
theorem Blk.same {w w' : World} {g cap : Nat} {os : List Value} (h : Blk w g cap os) (hb : w'.heap[g]? = w.heap[g]?) : Blk w' g cap os := by
  obtain ⟨cur, a, b⟩ := h
  exact ⟨cur, by rw [hb]; exact a, b⟩
theorem Blk.lt {w : World} {g cap : Nat} {os : List Value} (h : Blk w g cap os) : g < w.heap.size := by
  obtain ⟨cur, a, b⟩ := h
  exact blk_lt a
theorem Blk.below {w w' : World} {g cap : Nat} {os : List Value} (h : Blk w g cap os) (hb : Below w.heap.size w w') : Blk w' g cap os := h.same (hb.block g h.lt)
theorem Blk.cell {w : World} {g cap : Nat} {os : List Value} (h : Blk w g cap os) {j : Nat} {v : Value} (hj : os[j]? = some v) : w.cell? ⟨g, j, none⟩ = some v := by
  obtain ⟨cur, a, -, b⟩ := h
  rw [cell_of_row _ _ _ _ _ _ a]
  exact b j v hj
/-- the spare place behind a lent list -/
def spC : List Value := [.int .i64 7777, .string ⟨#[115, 112, 97, 114, 101]⟩]
theorem Blk.pls {w : World} {g cap : Nat} {l : List Pl} {sp : List Value} (h : Blk w g cap (l.flatMap plC ++ sp)) : PlsAt w (some ⟨g, 0, none⟩) l := by
  refine .inr ⟨g, 0, rfl, h.lt, fun i x hx => ?_⟩
  have hl := (List.getElem?_eq_some_iff.1 hx).1
  have hf := flat_get plC 2 (fun _ => rfl) l i x hx
  have h0 := hf 0 (by omega)
  have h1 := hf 1 (by omega)
  rw [Nat.zero_add]
  exact ⟨h.cell (by rw [List.getElem?_append_left (by rw [flatP_len]; omega)]; exact h0), h.cell (by rw [List.getElem?_append_left (by rw [flatP_len]; omega)]; exact h1)⟩
/-- the state while a step is played: the step's box, the block that was lent; t: a bound of the turns -/
def Lx (w0 W : World) (ps p r : Nat) (D : LD) (i t bo gf : Nat) (o : Ol) : Prop := ∃ X T E, LT w0 W X ps p r T E D bo o ∧ X gf = 9 ∧ Blk W gf (o.pl.length + 1) (o.pl.flatMap plC ++ spC) ∧ LI D i ∧ T ≤ t
section
variable {w0 W W' : World} {ps p r : Nat} {D : LD} {i t bo gf j : Nat} {o : Ol}
theorem Lx.below (h : Lx w0 W ps p r D i t bo gf o) (hb : Below W.heap.size W W') : Lx w0 W' ps p r D i t bo gf o := by
  obtain ⟨X, T, E, a, b, c, d, e⟩ := h
  exact ⟨X, T, E, a.below hb, b, c.below hb, d, e⟩
theorem Lx.drew (h : Lx w0 W ps p r D i t bo gf o) : Lx w0 W.drew ps p r D i t bo gf o := h.below ⟨rfl, rfl, rfl, Nat.le_refl _, fun _ _ => rfl⟩
/-- the cells that a round reads -/
def Cs (W : World) (ps p r bo j : Nat) (o : Ol) : Prop := W.cell? ⟨ps, 0, none⟩ = some (.pointer (some ⟨p, 0, none⟩)) ∧ W.cell? ⟨ps, 1, none⟩ = some (.pointer (some ⟨r, 0, none⟩)) ∧ W.cell? ⟨bo, 0, none⟩ = some (.int .i64 o.on) ∧ W.cell? ⟨bo, 1, none⟩ = some (.int .i64 o.act) ∧ W.cell? ⟨bo, 2, none⟩ = some (.int .i64 o.conn) ∧ W.cell? ⟨bo, 3, none⟩ = some (.int .i64 o.kind) ∧ W.cell? ⟨bo, 4, none⟩ = some (.slice o.a j o.cap) ∧ W.cell? ⟨bo, 5, none⟩ = some (.int .u64 (o.time : Nat))
theorem Lx.cs (h : Lx w0 W ps p r D i t bo gf o) (hj : Hid (j = o.pl.length)) : Cs W ps p r bo j o := by
  obtain ⟨X, T, E, a, -⟩ := h
  obtain rfl := unhide hj
  obtain ⟨P, Q, s, -⟩ := a.ls.sd
  obtain ⟨c0, c1, c2, c3, c4, c5⟩ := a.bk.cells
  exact ⟨cell_blk s.cell 0, cell_blk s.cell 1, c0, c1, c2, c3, c4, c5⟩
theorem Lx.spare (h : Lx w0 W ps p r D i t bo gf o) (hj : Hid (j = o.pl.length)) : W.cell? ⟨gf, j * 2, none⟩ = some (.int .i64 7777) ∧ W.cell? ⟨gf, j * 2 + 1, none⟩ = some (.string ⟨#[115, 112, 97, 114, 101]⟩) := by
  obtain ⟨X, T, E, -, -, b, -⟩ := h
  obtain rfl := unhide hj
  have hl := flatP_len o.pl
  exact ⟨b.cell (by rw [List.getElem?_append_right (by omega), hl, Nat.sub_self]; rfl), b.cell (by rw [List.getElem?_append_right (by omega), hl, Nat.add_sub_cancel_left]; rfl)⟩
theorem Lx.begin (h : Hd w0 W ps p r D i) (ok : OlOk w0 o) (hb : Below W.heap.size W W') (hq : OpBk W' W.heap.size o) (hk : Blk W' (W.heap.size + 1) (o.pl.length + 1) (o.pl.flatMap plC ++ spC)) : Lx w0 W' ps p r D i i W.heap.size (W.heap.size + 1) o := by
  obtain ⟨X, T, E, l, k, ht⟩ := h
  have z0 : X W.heap.size = 0 := by
    by_cases e : X W.heap.size = 0
    · exact e
    · have := (l.lt _ e).1; omega
  have z1 : X (W.heap.size + 1) = 0 := by
    by_cases e : X (W.heap.size + 1) = 0
    · exact e
    · have := (l.lt _ e).1; omega
  have hs := l.bel.size
  have l1 := (l.below hb).paint (k := 8) (.inl z0) ⟨blk_lt hq, hs⟩
  have z2 : pnt X W.heap.size 8 (W.heap.size + 1) = 0 := by unfold pnt; rw [if_neg (by omega)]; exact z1
  have l2 := l1.paint (k := 9) (.inl z2) ⟨hk.lt, by omega⟩
  exact ⟨_, T, E, ⟨l2, hq, pnt_col (.inl z2) pnt_self (by omega) (by omega), ok⟩, pnt_self, hk, k, ht⟩
theorem Lx.begin2 (h : Hd w0 W ps p r D i) (ok : OlOk w0 o) (hb : Below W.heap.size W W') (hq : OpBk W' W.heap.size o) (hg : gf = W.heap.size + 1) (hk : Blk W' gf (o.pl.length + 1) (o.pl.flatMap plC ++ spC)) : Lx w0 W' ps p r D i i W.heap.size gf o := by
  subst hg
  exact Lx.begin h ok hb hq hk
theorem OpBk.keep {w w' : World} {b B : Nat} {o : Ol} (h : OpBk w b o) (hb : Below B w w') (hl : b < B) : OpBk w' b o := (hb.block b hl).trans h
/-- a step of the kind that blocks, half played -/
def Hlf (w0 W' : World) (ps p r : Nat) (D : LD) (i t bo gf : Nat) (o : Ol) (rv : Int) : Prop := ∃ W X T E, ∃ (P Q : Nat → Prop) (L : List Wt), L = E.map (·.x) ∧ LT w0 W X ps p r T E D bo o ∧ (∀ b, P b ∨ Q b → X b = 1) ∧ X gf = 9 ∧ Blk W gf (o.pl.length + 1) (o.pl.flatMap plC ++ spC) ∧ LI D i ∧ T ≤ t ∧ rv = refR E o.conn o.kind o.pl o.time ∧ ∃ P' T' E', Sp w0 W (fun b => P b ∨ Q b) P' Q W' ps p r T' E' L bo o ∧ T' ≤ T + 1 ∧ (rv ≠ 0 → E' = E) ∧ (rv = 0 → ∃ (cn g : Nat), o.conn = (cn : Nat) ∧ E' = E ++ [⟨⟨cn, o.kind, o.pl, o.time⟩, T + 1, g⟩])
theorem Hlf.drew {rv : Int} (h : Hlf w0 W ps p r D i t bo gf o rv) : Hlf w0 W.drew ps p r D i t bo gf o rv := by
  obtain ⟨W1, X, T, E, P, Q, L, a, b, c, d, e, f, g, k, P', T', E', s, q⟩ := h
  exact ⟨W1, X, T, E, P, Q, L, a, b, c, d, e, f, g, k, P', T', E', s.drew, q⟩
/-- a step played to its end -/
theorem Lx.played {X : Nat → Nat} {T : Nat} {E : List En} {P Q : Nat → Prop} (h : LT w0 W X ps p r T E D bo o) (hX : ∀ b, P b ∨ Q b → X b = 1) (hg : X gf = 9) (hk : Blk W gf (o.pl.length + 1) (o.pl.flatMap plC ++ spC)) (k : LI D i) (ht : T ≤ t) (e : PlEnd w0 W W' (fun b => P b ∨ Q b) ps p r T) : Lx w0 W' ps p r D i (t + 1) bo gf o := by
  obtain ⟨T', E', q1, q2, q3⟩ := h.played hX e
  have hl := hk.lt
  refine ⟨_, T', E', q2, ?_, ?_, k, by omega⟩
  · rw [upc_old hl]; exact hg
  · exact hk.same (by rw [q3 gf _ hg (Array.getElem?_eq_getElem hl)]; exact (Array.getElem?_eq_getElem hl).symm)
theorem lx_block (hj : Hid (j = o.pl.length)) (ht : t < 1099511627776) (h : Hid (Lx w0 W ps p r D i t bo gf o)) {cap : Nat} : Calls Try.prog 11 #[.pointer (some ⟨p, 0, none⟩), .int .i64 o.conn, .int .i64 o.kind, .slice (some ⟨gf, 0, none⟩) j cap, .int .u64 (o.time : Nat)] W fun e w' => ∃ rv : Int, e = .returned (.int .i64 rv) ∧ Cs w' ps p r bo j o ∧ Hid (Hlf w0 w' ps p r D i t bo gf o rv) := by
  obtain ⟨X, T, E, a, b, c, d, e⟩ := unhide h
  obtain ⟨P, Q, s, hX⟩ := a.ls.sd
  have hbo := a.xo
  have sp : Sp w0 W (fun b => P b ∨ Q b) P Q W ps p r T E (E.map (·.x)) bo o := ⟨s, a.bk, fun z => by have := hX _ (.inl z); omega, fun z => by have := hX _ (.inr z); omega, a.ok, Fr.of (Below.refl _ _), fun b z => .inl z⟩
  refine (s_block hj (hide (by omega)) (hide ⟨c.pls, sp⟩)).mono ?_
  rintro e' w' ⟨rv, rfl, c0, c1, c2, c3, c4, c5, c6, c7, H⟩
  exact ⟨rv, rfl, ⟨c0, c1, c2, c3, c4, c5, c6, c7⟩, hide ⟨W, X, T, E, P, Q, _, rfl, a, hX, b, c, d, e, unhide H⟩⟩
theorem lx_rblock (hj : Hid (j = o.pl.length)) {rv : Int} (h : Hid (Hlf w0 W ps p r D i t bo gf o rv)) : Calls Try.prog 13 #[.pointer (some ⟨r, 0, none⟩), .int .i64 o.conn, .int .i64 o.kind, .slice o.a j o.cap, .int .u64 (o.time : Nat)] W fun e w' => e = .returned (.int .i64 rv) ∧ Cs w' ps p r bo j o ∧ Hid (Lx w0 w' ps p r D i (t + 1) bo gf o) := by
  obtain ⟨W1, X, T, E, P, Q, L, a, b, c, d, e, f, g, k, q⟩ := unhide h
  refine (s_rblock hj (hide a) (hide ⟨k, q⟩)).mono ?_
  rintro e' w' ⟨rfl, c0, c1, c2, c3, c4, c5, c6, c7, H⟩
  exact ⟨rfl, ⟨c0, c1, c2, c3, c4, c5, c6, c7⟩, hide (Lx.played b c d e f g (unhide H))⟩
theorem lx_plays (hj : Hid (j = o.pl.length)) (ht : t < 1099511627776) (h : Hid (Lx w0 W ps p r D i t bo gf o)) :
    Calls Try.prog 10 #[.pointer (some ⟨ps, 0, none⟩), .agg #[.int .i64 o.on, .int .i64 o.act, .int .i64 o.conn, .int .i64 o.kind, .slice o.a j o.cap, .int .u64 (o.time : Nat)]] W fun e w' => e = .returned (.bool true) ∧ Cs w' ps p r bo j o ∧ Hid (Lx w0 w' ps p r D i (t + 1) bo gf o) := by
  obtain ⟨X, T, E, a, b, c, d, e⟩ := unhide h
  obtain ⟨P, Q, s, hX⟩ := a.ls.sd
  refine (plays_any hj (by omega) a.ok s).mono ?_
  rintro e' w' ⟨rfl, H⟩
  have k := Lx.played a hX b c d e (unhide H)
  exact ⟨rfl, k.cs hj, hide k⟩
theorem lx_same (hj : Hid (j = o.pl.length)) (h : Hid (Lx w0 W ps p r D i t bo gf o)) {cap : Nat} :
    Calls Try.prog 14 #[.slice (some ⟨gf, 0, none⟩) j cap, .slice o.a j o.cap] W fun e w' => e = .returned (.bool true) ∧ Cs w' ps p r bo j o ∧ w'.cell? ⟨gf, j * 2, none⟩ = some (.int .i64 7777) ∧ w'.cell? ⟨gf, j * 2 + 1, none⟩ = some (.string ⟨#[115, 112, 97, 114, 101]⟩) ∧ Hid (Lx w0 w' ps p r D i t bo gf o) := by
  have h1 := unhide h
  obtain ⟨X, T, E, a, b, c, -⟩ := unhide h
  refine (same_long W _ _ j cap o.cap o.pl c.pls (a.ok.pls.below a.ls.bel) (unhide hj) (by rw [unhide hj]; exact a.ok.len)).mono ?_
  rintro e' w' ⟨rfl, H⟩
  have k := h1.below (unhide H)
  exact ⟨rfl, k.cs hj, (k.spare hj).1, (k.spare hj).2, hide k⟩
end
end Go.Proofs.Ytfebiemfmiahhab
