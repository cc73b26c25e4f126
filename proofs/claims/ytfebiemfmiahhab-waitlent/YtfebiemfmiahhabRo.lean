/- WaitLent: what a round asks of both sides once a step is played. -/
import Derived.Test.YtfebiemfmiahhabRm
namespace Go.Proofs.Ytfebiemfmiahhab
open Go.ChangeShapes Go.WideShapes Go.ChangeAt Go.RowKit Go.Maps
set_option linter.unusedVariables false
set_option linter.unusedSimpArgs false
set_option maxRecDepth 100000
set_option maxHeartbeats 8000000
/-- the state, and the answers so far: k of places, due, waiting -/
structure Ax (k : Nat) (w0 W : World) (X : Nat → Nat) (ps p r T : Nat) (E F : List En) (D : LD) (i t bo gf : Nat) (o : Ol) (gl nl gd nd gn nn : Nat) : Prop where
  lt : LT w0 W X ps p r T E D bo o
  xg : X gf = 9
  bk : Blk W gf (o.pl.length + 1) (o.pl.flatMap plC ++ spC)
  li : LI D i
  tt : T ≤ t
  s1 : 1 ≤ k → RowP W gl (plOf E o.conn) ∧ nl = (plOf E o.conn).length ∧ X gl = 0 ∧ gf < gl
  s2 : 2 ≤ k → DueIs E o.time F ∧ RowI W gd (F.map (·.x.conn)) ∧ nd = F.length ∧ nd ≤ 8 ∧ X gd = 0 ∧ gl < gd
  s3 : 3 ≤ k → RowI W gn (E.map (·.x.conn)) ∧ nn = E.length ∧ nn ≤ 8 ∧ X gn = 0 ∧ gd < gn
/-- some state of that kind -/
def Aw (k : Nat) (w0 W : World) (ps p r : Nat) (D : LD) (i t bo gf : Nat) (o : Ol) (gl nl gd nd gn nn : Nat) : Prop := ∃ X T E F, Ax k w0 W X ps p r T E F D i t bo gf o gl nl gd nd gn nn
section
variable {k : Nat} {w0 W W' : World} {X : Nat → Nat} {ps p r T : Nat} {E F : List En} {D : LD} {i t bo gf j gl nl gd nd gn nn : Nat} {o : Ol}
theorem Ax.below (h : Ax k w0 W X ps p r T E F D i t bo gf o gl nl gd nd gn nn) (hb : Below W.heap.size W W') : Ax k w0 W' X ps p r T E F D i t bo gf o gl nl gd nd gn nn :=
  ⟨h.lt.below hb, h.xg, h.bk.below hb, h.li, h.tt,
    fun z => ⟨(hb.block _ (blk_lt (h.s1 z).1)).trans (h.s1 z).1, (h.s1 z).2⟩,
    fun z => ⟨(h.s2 z).1, (hb.block _ (blk_lt (h.s2 z).2.1)).trans (h.s2 z).2.1, (h.s2 z).2.2⟩,
    fun z => ⟨(hb.block _ (blk_lt (h.s3 z).1)).trans (h.s3 z).1, (h.s3 z).2⟩⟩
theorem Aw.below (h : Aw k w0 W ps p r D i t bo gf o gl nl gd nd gn nn) (hb : Below W.heap.size W W') : Aw k w0 W' ps p r D i t bo gf o gl nl gd nd gn nn := by
  obtain ⟨X, T, E, F, a⟩ := h
  exact ⟨X, T, E, F, a.below hb⟩
theorem Aw.drew (h : Aw k w0 W ps p r D i t bo gf o gl nl gd nd gn nn) : Aw k w0 W.drew ps p r D i t bo gf o gl nl gd nd gn nn := h.below ⟨rfl, rfl, rfl, Nat.le_refl _, fun _ _ => rfl⟩
theorem Aw.lx (h : Aw k w0 W ps p r D i t bo gf o gl nl gd nd gn nn) : Lx w0 W ps p r D i t bo gf o := by
  obtain ⟨X, T, E, F, a⟩ := h
  exact ⟨X, T, E, a.lt, a.xg, a.bk, a.li, a.tt⟩
theorem col0 {b : Nat} (h : LT w0 W X ps p r T E D bo o) (hb : W.heap.size ≤ b) : X b = 0 := by
  by_cases e : X b = 0
  · exact e
  · have := (h.ls.lt b e).1; omega
theorem lx_places (hj : Hid (j = o.pl.length)) (h : Hid (Lx w0 W ps p r D i t bo gf o)) :
    Calls Try.prog 15 #[.pointer (some ⟨p, 0, none⟩), .int .i64 o.conn] W fun e w' => ∃ g n, e = .returned (.slice (some ⟨g, 0, none⟩) n n) ∧ Cs w' ps p r bo j o ∧ Hid (Aw 1 w0 w' ps p r D i t bo gf o g n 0 0 0 0) := by
  obtain ⟨X, T, E, a, b, c, d, e⟩ := unhide h
  refine (lt_places a).mono ?_
  rintro e' w' ⟨g, n, rfl, H⟩
  obtain ⟨k1, k2, k3, k4, k5⟩ := unhide H
  have q : Aw 1 w0 w' ps p r D i t bo gf o g n 0 0 0 0 := ⟨X, T, E, [], k5, b, c.below k4, d, e, fun _ => ⟨k1, k2, col0 a k3, Nat.lt_of_lt_of_le c.lt k3⟩, fun z => by omega, fun z => by omega⟩
  exact ⟨g, n, rfl, q.lx.cs hj, hide q⟩
theorem lx_due (hj : Hid (j = o.pl.length)) (h : Hid (Aw 1 w0 W ps p r D i t bo gf o gl nl 0 0 0 0)) :
    Calls Try.prog 16 #[.pointer (some ⟨p, 0, none⟩), .int .u64 (o.time : Nat)] W fun e w' => ∃ g n, e = .returned (.slice (some ⟨g, 0, none⟩) n n) ∧ Cs w' ps p r bo j o ∧ Hid (Aw 2 w0 w' ps p r D i t bo gf o gl nl g n 0 0) := by
  obtain ⟨X, T, E, F0, a⟩ := unhide h
  refine (lt_due a.lt).mono ?_
  rintro e' w' ⟨g, n, rfl, H⟩
  obtain ⟨F, k1, k2, k3, k4, k5, k6, k7⟩ := unhide H
  have a' := a.below k6
  have q : Aw 2 w0 w' ps p r D i t bo gf o gl nl g n 0 0 := ⟨X, T, E, F, k7, a'.xg, a'.bk, a'.li, a'.tt, fun _ => a'.s1 (by omega), fun _ => ⟨k1, k2, k3, k4, col0 a.lt k5, Nat.lt_of_lt_of_le (blk_lt (a.s1 (by omega)).1) k5⟩, fun z => by omega⟩
  exact ⟨g, n, rfl, q.lx.cs hj, hide q⟩
theorem lx_waiting (hj : Hid (j = o.pl.length)) (h : Hid (Aw 2 w0 W ps p r D i t bo gf o gl nl gd nd 0 0)) :
    Calls Try.prog 17 #[.pointer (some ⟨p, 0, none⟩)] W fun e w' => ∃ g n, e = .returned (.slice (some ⟨g, 0, none⟩) n n) ∧ Cs w' ps p r bo j o ∧ Hid (Aw 3 w0 w' ps p r D i t bo gf o gl nl gd nd g n) := by
  obtain ⟨X, T, E, F, a⟩ := unhide h
  refine (lt_waiting a.lt).mono ?_
  rintro e' w' ⟨g, n, rfl, H⟩
  obtain ⟨k1, k2, k3, k4, k5, k6⟩ := unhide H
  have a' := a.below k5
  have q : Aw 3 w0 w' ps p r D i t bo gf o gl nl gd nd g n := ⟨X, T, E, F, k6, a'.xg, a'.bk, a'.li, a'.tt, fun _ => a'.s1 (by omega), fun _ => a'.s2 (by omega), fun _ => ⟨k1, k2, k3, col0 a.lt k4, Nat.lt_of_lt_of_le (blk_lt (a.s2 (by omega)).2.1) k4⟩⟩
  exact ⟨g, n, rfl, q.lx.cs hj, hide q⟩
/-- the document's answer beside the program's: places -/
def Bp (w0 W : World) (ps p r : Nat) (D : LD) (i t bo gf : Nat) (o : Ol) (gl nl gd nd gn nn : Nat) (a : Option Addr) : Prop := ∃ X T E F, Ax 3 w0 W X ps p r T E F D i t bo gf o gl nl gd nd gn nn ∧ PlsAt W a (plOf E o.conn)
def Bd (w0 W : World) (ps p r : Nat) (D : LD) (i t bo gf : Nat) (o : Ol) (gl nl gd nd gn nn : Nat) (a : Option Addr) : Prop := ∃ X T E F, Ax 3 w0 W X ps p r T E F D i t bo gf o gl nl gd nd gn nn ∧ IsI W a (F.map (·.x.conn))
def Bw (w0 W : World) (ps p r : Nat) (D : LD) (i t bo gf : Nat) (o : Ol) (gl nl gd nd gn nn : Nat) (a : Option Addr) : Prop := ∃ X T E F, Ax 3 w0 W X ps p r T E F D i t bo gf o gl nl gd nd gn nn ∧ IsI W a (E.map (·.x.conn))
theorem lx_rplaces (hj : Hid (j = o.pl.length)) (h : Hid (Aw 3 w0 W ps p r D i t bo gf o gl nl gd nd gn nn)) :
    Calls Try.prog 18 #[.pointer (some ⟨r, 0, none⟩), .int .i64 o.conn] W fun e w' => ∃ a cap, e = .returned (.slice a nl cap) ∧ Cs w' ps p r bo j o ∧ Hid (Bp w0 w' ps p r D i t bo gf o gl nl gd nd gn nn a) := by
  obtain ⟨X, T, E, F, a⟩ := unhide h
  refine (lt_rplaces a.lt).mono ?_
  rintro e' w' ⟨a2, n, cap, rfl, H⟩
  obtain ⟨k1, k2, k3, k4⟩ := unhide H
  have a' := a.below k3
  refine ⟨a2, cap, by rw [k2, ← (a.s1 (by omega)).2.1], (Aw.lx ⟨X, T, E, F, a'⟩).cs hj, hide ⟨X, T, E, F, a', k1⟩⟩
theorem lx_same2 (hj : Hid (j = o.pl.length)) {a : Option Addr} {cap : Nat} (h : Hid (Bp w0 W ps p r D i t bo gf o gl nl gd nd gn nn a)) :
    Calls Try.prog 14 #[.slice (some ⟨gl, 0, none⟩) nl nl, .slice a nl cap] W fun e w' => e = .returned (.bool true) ∧ Cs w' ps p r bo j o ∧ Hid (Aw 3 w0 w' ps p r D i t bo gf o gl nl gd nd gn nn) := by
  obtain ⟨X, T, E, F, b, c⟩ := unhide h
  obtain ⟨s1, s2, -⟩ := b.s1 (by omega)
  refine (lt_same b.lt s1.at c s2 (by have := plOf_len b.lt o.conn; omega)).mono ?_
  rintro e' w' ⟨rfl, H⟩
  have b' := b.below (unhide H).1
  exact ⟨rfl, (Aw.lx ⟨X, T, E, F, b'⟩).cs hj, hide ⟨X, T, E, F, b'⟩⟩
theorem lx_rdue (hj : Hid (j = o.pl.length)) (h : Hid (Aw 3 w0 W ps p r D i t bo gf o gl nl gd nd gn nn)) :
    Calls Try.prog 20 #[.pointer (some ⟨r, 0, none⟩), .int .u64 (o.time : Nat)] W fun e w' => ∃ a cap, e = .returned (.slice a nd cap) ∧ Cs w' ps p r bo j o ∧ Hid (Bd w0 w' ps p r D i t bo gf o gl nl gd nd gn nn a) := by
  obtain ⟨X, T, E, F, a⟩ := unhide h
  obtain ⟨d1, d2, d3, -⟩ := a.s2 (by omega)
  refine (lt_rdue a.lt d1).mono ?_
  rintro e' w' ⟨a2, n, cap, rfl, H⟩
  obtain ⟨k1, k2, k3, k4⟩ := unhide H
  have a' := a.below k3
  refine ⟨a2, cap, by rw [k2, ← d3], (Aw.lx ⟨X, T, E, F, a'⟩).cs hj, hide ⟨X, T, E, F, a', k1⟩⟩
theorem lx_ints2 (hj : Hid (j = o.pl.length)) {a : Option Addr} {cap : Nat} (h : Hid (Bd w0 W ps p r D i t bo gf o gl nl gd nd gn nn a)) :
    Calls Try.prog 19 #[.slice (some ⟨gd, 0, none⟩) nd nd, .slice a nd cap] W fun e w' => e = .returned (.bool true) ∧ Cs w' ps p r bo j o ∧ Hid (Aw 3 w0 w' ps p r D i t bo gf o gl nl gd nd gn nn) := by
  obtain ⟨X, T, E, F, b, c⟩ := unhide h
  obtain ⟨s1, s2, s3, s4, -⟩ := b.s2 (by omega)
  refine (lt_ints b.lt (RowI.is s2) c (by rw [List.length_map]; exact s3) (by omega)).mono ?_
  rintro e' w' ⟨rfl, H⟩
  have b' := b.below (unhide H).1
  exact ⟨rfl, (Aw.lx ⟨X, T, E, F, b'⟩).cs hj, hide ⟨X, T, E, F, b'⟩⟩
theorem lx_rwaiting (hj : Hid (j = o.pl.length)) (h : Hid (Aw 3 w0 W ps p r D i t bo gf o gl nl gd nd gn nn)) :
    Calls Try.prog 21 #[.pointer (some ⟨r, 0, none⟩)] W fun e w' => ∃ a cap, e = .returned (.slice a nn cap) ∧ Cs w' ps p r bo j o ∧ Hid (Bw w0 w' ps p r D i t bo gf o gl nl gd nd gn nn a) := by
  obtain ⟨X, T, E, F, a⟩ := unhide h
  obtain ⟨d1, d2, -⟩ := a.s3 (by omega)
  refine (lt_rwaiting a.lt).mono ?_
  rintro e' w' ⟨a2, n, cap, rfl, H⟩
  obtain ⟨k1, k2, k3, k4⟩ := unhide H
  have a' := a.below k3
  refine ⟨a2, cap, by rw [k2, ← d2], (Aw.lx ⟨X, T, E, F, a'⟩).cs hj, hide ⟨X, T, E, F, a', k1⟩⟩
theorem lx_ints3 (hj : Hid (j = o.pl.length)) {a : Option Addr} {cap : Nat} (h : Hid (Bw w0 W ps p r D i t bo gf o gl nl gd nd gn nn a)) :
    Calls Try.prog 19 #[.slice (some ⟨gn, 0, none⟩) nn nn, .slice a nn cap] W fun e w' => e = .returned (.bool true) ∧ Cs w' ps p r bo j o ∧ Hid (Aw 3 w0 w' ps p r D i t bo gf o gl nl gd nd gn nn) := by
  obtain ⟨X, T, E, F, b, c⟩ := unhide h
  obtain ⟨s2, s3, s4, -⟩ := b.s3 (by omega)
  refine (lt_ints b.lt (RowI.is s2) c (by rw [List.length_map]; exact s3) (by omega)).mono ?_
  rintro e' w' ⟨rfl, H⟩
  have b' := b.below (unhide H).1
  exact ⟨rfl, (Aw.lx ⟨X, T, E, F, b'⟩).cs hj, hide ⟨X, T, E, F, b'⟩⟩
theorem Bp.drew {a : Option Addr} (h : Bp w0 W ps p r D i t bo gf o gl nl gd nd gn nn a) : Bp w0 W.drew ps p r D i t bo gf o gl nl gd nd gn nn a := by
  obtain ⟨X, T, E, F, b, c⟩ := h
  have hb : Below W.heap.size W W.drew := ⟨rfl, rfl, rfl, Nat.le_refl _, fun _ _ => rfl⟩
  exact ⟨X, T, E, F, b.below hb, c.below hb⟩
end
end Go.Proofs.Ytfebiemfmiahhab
