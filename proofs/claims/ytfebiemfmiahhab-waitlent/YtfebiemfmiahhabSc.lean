/- WaitLent: lentHeld: a round's steps over its state. -/
import Derived.Test.YtfebiemfmiahhabSb
namespace Go.Proofs.Ytfebiemfmiahhab
open Go.ChangeShapes Go.WideShapes Go.ChangeAt Go.RowKit Go.Maps
set_option linter.unusedVariables false
set_option linter.unusedSimpArgs false
set_option maxRecDepth 100000
set_option maxHeartbeats 8000000
section
variable {w0 W W' : World} {X : Nat → Nat} {ps p r T : Nat} {E F : List En} {D : LD} {C : HC} {g k c bo t j : Nat} {o : Ol}
theorem RelP.zero : RelP 0 C E o ↔ C.H.map (·.c) = C.Wd.map (·.c) := by simp [RelP]
theorem RelN.zero : RelN 0 C E F ↔ C.N.map (·.c) = C.Dd.map (·.c) := by simp [RelN]
/-- at a round's head -/
def Hh (w0 W : World) (ps p r : Nat) (C : HC) (i : Nat) : Prop := ∃ X T E, LS w0 W X ps p r T E ld0 ∧ HS W X C ∧ T ≤ i ∧ C.H.map (·.c) = C.Wd.map (·.c) ∧ C.N.map (·.c) = C.Dd.map (·.c)
theorem Hh.below {i : Nat} (h : Hh w0 W ps p r C i) (hb : Below W.heap.size W W') : Hh w0 W' ps p r C i := by
  obtain ⟨X, T, E, a, b, d⟩ := h
  exact ⟨X, T, E, a.below hb, b.below hb, d⟩
theorem Hh.drew {i : Nat} (h : Hh w0 W ps p r C i) : Hh w0 W.drew ps p r C i := h.below (below_drew1 W)
theorem Hh.bel {i : Nat} (h : Hh w0 W ps p r C i) : Below w0.heap.size w0 W := by
  obtain ⟨X, T, E, a, -⟩ := h
  exact a.bel
theorem Hh.cells {i : Nat} (h : Hh w0 W ps p r C i) : W.cell? ⟨ps, 0, none⟩ = some (.pointer (some ⟨p, 0, none⟩)) ∧ W.cell? ⟨ps, 1, none⟩ = some (.pointer (some ⟨r, 0, none⟩)) := by
  obtain ⟨X, T, E, a, -⟩ := h
  obtain ⟨P, Q, s, -⟩ := a.sd
  exact ⟨cell_blk s.cell 0, cell_blk s.cell 1⟩
/-- a round begins: the step's box -/
theorem Hh.begin {i : Nat} (h : Hh w0 W ps p r C i) (ok : OlOk w0 o) (hb : Below W.heap.size W W') (hq : OpBk W' W.heap.size o) : Hx 0 w0 W' ps p r C i W.heap.size o := by
  obtain ⟨X, T, E, l, s, ht, r1, r2⟩ := h
  have z0 : X W.heap.size = 0 := by
    by_cases e : X W.heap.size = 0
    · exact e
    · have := (l.lt _ e).1; omega
  have hs := l.bel.size
  exact ⟨_, T, E, [], ⟨⟨(l.below hb).paint (k := 8) (.inl z0) ⟨blk_lt hq, hs⟩, hq, pnt_self, ok⟩, (s.below hb).pn (by omega), ht, RelP.zero.2 r1, RelN.zero.2 r2, fun z => by omega⟩⟩
/-- a round ends -/
theorem Hx.head {i : Nat} (h : Hx 0 w0 W ps p r C i bo o) : Hh w0 W ps p r C i := by
  obtain ⟨X, T, E, F, a⟩ := h
  exact ⟨X, T, E, a.lt.ls, a.hs, a.tt, RelP.zero.1 a.rp, RelN.zero.1 a.rn⟩
/-- the places are copied into the list that is lent -/
theorem Hx.lent (h : Hx k w0 W ps p r C t bo o) : Rws W 46 2 (.slice C.la 0 C.lc) 0 (fun k => C.lf.getD k undef) ∧ ∀ v W' m l, l = o.pl.flatMap plC → m = o.pl.length → Rws W' 46 2 v (0 + m) (fun k => if k < 0 * 2 then C.lf.getD k undef else l.getD (k - 0 * 2) undef) → Ga 46 (0 * 2) l.length W W' (.slice C.la 0 C.lc) v → ∃ a' c', v = .slice a' m c' ∧ Hx k w0 W' ps p r { C with la := a', ln := m, lc := c', lf := l } t bo o := by
  obtain ⟨X, T, E, F, a⟩ := h
  have h0 : Rws W 46 2 (.slice C.la 0 C.lc) 0 (fun k => C.lf.getD k undef) := by
    rcases a.hs.l with ⟨e, e0⟩ | ⟨b, cap, cur, e, hg, hn, hm, hs, hf⟩
    · left
      simp only [Value.slice.injEq] at e
      obtain ⟨e1, e2, e3⟩ := e
      exact ⟨by rw [e1, e3], rfl⟩
    · right
      simp only [Value.slice.injEq] at e
      obtain ⟨e1, e2, e3⟩ := e
      exact ⟨b, cap, cur, by rw [e1, e3], hg, Nat.zero_le _, hm, hs, fun k hk => by omega⟩
  have hx : ∀ g, (Value.slice C.la 0 C.lc).ownBlock = some g → X g = 14 := fun g hg => a.hs.xl g (by
    cases hl : C.la with
    | none => rw [hl] at hg; cases hg
    | some ad => rw [hl] at hg; exact hg)
  refine ⟨h0, fun v W' m l hl hm hr hg => ?_⟩
  subst hl
  have hr' : Rws W' 46 2 v m (fun k => (o.pl.flatMap plC).getD k undef) := by
    rw [Nat.zero_add] at hr
    refine hr.congr fun j hj => ?_
    simp
  obtain ⟨a', c', rfl⟩ := hr'.shape
  refine ⟨a', c', rfl, ?_⟩
  rcases hg with ⟨rfl, e⟩ | hg
  · cases e
    exact ⟨X, T, E, F, a.lt, ⟨a.hs.h, a.hs.w, a.hs.n, a.hs.d, hr', fun g hg => hx g hg, a.hs.hp, a.hs.np⟩, a.tt, a.rp, a.rn, a.du⟩
  · have hc : Ch X 14 W W' := gr_ch hg hx
    refine ⟨_, T, E, F, a.lt.ch9 hc (by omega), ⟨a.hs.h.ch hc (by omega) (by omega), a.hs.w.ch hc (by omega) (by omega), a.hs.n.ch hc (by omega) (by omega), a.hs.d.ch hc (by omega) (by omega), hr', gr_own a.lt.ls (by omega) hg hx, a.hs.hp, a.hs.np⟩, a.tt, a.rp, a.rn, a.du⟩
/-- a step played to its end -/
theorem Hq.played {P Q : Nat → Prop} (h : Hq 0 w0 W X ps p r T E F C t bo o) (hX : ∀ b, P b ∨ Q b → X b = 1) (e : PlEnd w0 W W' (fun b => P b ∨ Q b) ps p r T) : Hx 0 w0 W' ps p r C (t + 1) bo o := by
  have e2 := e
  obtain ⟨T', E', q1, q2, q3⟩ := h.lt.played hX e
  obtain ⟨P', Q', T2, E2, s, hf, ht, hs⟩ := e2
  have hc : Ch X 1 W W' := ⟨hf.os, hf.tape, hf.output, hf.size, fun b hb hn => hf.own b hb (fun z => hn (hX b z))⟩
  exact ⟨_, T', E', F, q2, h.hs.ch hc (by omega), by have := h.tt; omega, RelP.zero.2 (RelP.zero.1 h.rp), RelN.zero.2 (RelN.zero.1 h.rn), fun z => by omega⟩
/-- a step of the kind that blocks, half played -/
def Hhf (w0 W' : World) (ps p r : Nat) (C : HC) (t bo : Nat) (o : Ol) (rv : Int) : Prop := ∃ W X T E F, ∃ (P Q : Nat → Prop) (L : List Wt), L = E.map (·.x) ∧ Hq 0 w0 W X ps p r T E F C t bo o ∧ (∀ b, P b ∨ Q b → X b = 1) ∧ rv = refR E o.conn o.kind o.pl o.time ∧ ∃ P' T' E', Sp w0 W (fun b => P b ∨ Q b) P' Q W' ps p r T' E' L bo o ∧ T' ≤ T + 1 ∧ (rv ≠ 0 → E' = E) ∧ (rv = 0 → ∃ (cn g : Nat), o.conn = (cn : Nat) ∧ E' = E ++ [⟨⟨cn, o.kind, o.pl, o.time⟩, T + 1, g⟩])
theorem Hhf.drew {rv : Int} (h : Hhf w0 W ps p r C t bo o rv) : Hhf w0 W.drew ps p r C t bo o rv := by
  obtain ⟨W1, X, T, E, F, P, Q, L, a, b, c, d, P', T', E', s, q⟩ := h
  exact ⟨W1, X, T, E, F, P, Q, L, a, b, c, d, P', T', E', s.drew, q⟩
theorem hx_block (hj : Hid (j = o.pl.length)) (ht : t < 1099511627776) {a : Option Addr} {cap : Nat} (h : Hid (Hx 0 w0 W ps p r { C with la := a, ln := j, lc := cap, lf := o.pl.flatMap plC } t bo o)) : Calls Try.prog 11 #[.pointer (some ⟨p, 0, none⟩), .int .i64 o.conn, .int .i64 o.kind, .slice a j cap, .int .u64 (o.time : Nat)] W fun e w' => ∃ rv : Int, e = .returned (.int .i64 rv) ∧ Cs w' ps p r bo j o ∧ Hid (Hhf w0 w' ps p r { C with la := a, ln := j, lc := cap, lf := o.pl.flatMap plC } t bo o rv) := by
  obtain ⟨X, T, E, F, b⟩ := unhide h
  obtain ⟨P, Q, s, hX⟩ := b.lt.ls.sd
  have hbo := b.lt.xo
  have hpl : PlsAt W a o.pl := Rws.pls (cap := cap) b.hs.l (unhide hj)
  have sp : Sp w0 W (fun b => P b ∨ Q b) P Q W ps p r T E (E.map (·.x)) bo o := ⟨s, b.lt.bk, fun z => by have := hX _ (.inl z); omega, fun z => by have := hX _ (.inr z); omega, b.lt.ok, Fr.of (Below.refl _ _), fun b z => .inl z⟩
  refine (s_block hj (hide (by have := b.tt; omega)) (hide ⟨hpl, sp⟩)).mono ?_
  rintro e' w' ⟨rv, rfl, c0, c1, c2, c3, c4, c5, c6, c7, H⟩
  exact ⟨rv, rfl, ⟨c0, c1, c2, c3, c4, c5, c6, c7⟩, hide ⟨W, X, T, E, F, P, Q, _, rfl, b, hX, unhide H⟩⟩
theorem hx_rblock (hj : Hid (j = o.pl.length)) {rv : Int} (h : Hid (Hhf w0 W ps p r C t bo o rv)) : Calls Try.prog 13 #[.pointer (some ⟨r, 0, none⟩), .int .i64 o.conn, .int .i64 o.kind, .slice o.a j o.cap, .int .u64 (o.time : Nat)] W fun e w' => e = .returned (.int .i64 rv) ∧ Cs w' ps p r bo j o ∧ Hid (Hx 0 w0 w' ps p r C (t + 1) bo o) := by
  obtain ⟨W1, X, T, E, F, P, Q, L, a, b, c, q⟩ := unhide h
  refine (s_rblock hj (hide a) (hide q)).mono ?_
  rintro e' w' ⟨rfl, c0, c1, c2, c3, c4, c5, c6, c7, H⟩
  exact ⟨rfl, ⟨c0, c1, c2, c3, c4, c5, c6, c7⟩, hide (Hq.played b c (unhide H))⟩
theorem hx_plays (hj : Hid (j = o.pl.length)) (ht : t < 1099511627776) (h : Hid (Hx 0 w0 W ps p r C t bo o)) :
    Calls Try.prog 10 #[.pointer (some ⟨ps, 0, none⟩), .agg #[.int .i64 o.on, .int .i64 o.act, .int .i64 o.conn, .int .i64 o.kind, .slice o.a j o.cap, .int .u64 (o.time : Nat)]] W fun e w' => e = .returned (.bool true) ∧ Cs w' ps p r bo j o ∧ Hid (Hx 0 w0 w' ps p r C (t + 1) bo o) := by
  obtain ⟨X, T, E, F, a⟩ := unhide h
  obtain ⟨P, Q, s, hX⟩ := a.lt.ls.sd
  refine (plays_any hj (by have := a.tt; omega) a.lt.ok s).mono ?_
  rintro e' w' ⟨rfl, H⟩
  have k := Hq.played a hX (unhide H)
  exact ⟨rfl, k.cs hj, hide k⟩
theorem hx_same (hj : Hid (j = o.pl.length)) {a : Option Addr} {cap : Nat} (h : Hid (Hx 0 w0 W ps p r { C with la := a, ln := j, lc := cap, lf := o.pl.flatMap plC } t bo o)) :
    Calls Try.prog 14 #[.slice a j cap, .slice o.a j o.cap] W fun e w' => e = .returned (.bool true) ∧ Cs w' ps p r bo j o ∧ Hid (Hx 0 w0 w' ps p r { C with la := a, ln := j, lc := cap, lf := o.pl.flatMap plC } t bo o) := by
  have h1 := unhide h
  obtain ⟨X, T, E, F, b⟩ := unhide h
  have hpl : PlsAt W a o.pl := Rws.pls (cap := cap) b.hs.l (unhide hj)
  refine (same_long W _ _ j cap o.cap o.pl hpl (b.lt.ok.pls.below b.lt.ls.bel) (unhide hj) (by rw [unhide hj]; exact b.lt.ok.len)).mono ?_
  rintro e' w' ⟨rfl, H⟩
  have k := h1.below (unhide H)
  exact ⟨rfl, k.cs hj, hide k⟩
/-- the program's places -/
theorem hx_places (hj : Hid (j = o.pl.length)) (h : Hid (Hx 0 w0 W ps p r C t bo o)) :
    Calls Try.prog 15 #[.pointer (some ⟨p, 0, none⟩), .int .i64 o.conn] W fun e w' => ∃ g n c, e = .returned (.slice (some ⟨g, 0, none⟩) n n) ∧ Cs w' ps p r bo j o ∧ Hid (Hx 1 w0 w' ps p r { C with H := C.H ++ [⟨.slice (some ⟨g, 0, none⟩) n n, n, c⟩] } t bo o) := by
  obtain ⟨X, T, E, F, a⟩ := unhide h
  refine (lt_places a.lt).mono ?_
  rintro e' w' ⟨g, n, rfl, H⟩
  obtain ⟨k1, k2, k3, k4, k5⟩ := unhide H
  have h0 := col0 a.lt k3
  have hs := a.lt.ls.bel.size
  have h6 : n ≤ 64 := by rw [k2]; exact plOf_len a.lt o.conn
  have hr := k1.rws (by omega)
  rw [← k2] at hr
  have q : Hx 1 w0 w' ps p r { C with H := C.H ++ [⟨.slice (some ⟨g, 0, none⟩) n n, n, cP (plOf E o.conn)⟩] } t bo o := by
    refine ⟨_, T, E, F, k5.pn (k := 9) (.inl h0) ⟨blk_lt k1, by omega⟩, (a.hs.below k4).addH (by omega) hr k2 h6, a.tt, ?_, ?_, fun z => by omega⟩
    · have := RelP.zero.1 a.rp
      simp only [RelP, List.map_append, this]
      rfl
    · have := RelN.zero.1 a.rn
      simp [RelN, this]
  exact ⟨g, n, _, rfl, q.cs hj, hide q⟩
theorem hx_due (hj : Hid (j = o.pl.length)) (h : Hid (Hx 0 w0 W ps p r C t bo o)) :
    Calls Try.prog 16 #[.pointer (some ⟨p, 0, none⟩), .int .u64 (o.time : Nat)] W fun e w' => ∃ g n c, e = .returned (.slice (some ⟨g, 0, none⟩) n n) ∧ Cs w' ps p r bo j o ∧ Hid (Hx 2 w0 w' ps p r { C with N := C.N ++ [⟨.slice (some ⟨g, 0, none⟩) n n, n, c⟩] } t bo o) := by
  obtain ⟨X, T, E, F0, a⟩ := unhide h
  refine (lt_due a.lt).mono ?_
  rintro e' w' ⟨g, n, rfl, H⟩
  obtain ⟨F, k0, k1, k2, k6, k3, k4, k5⟩ := unhide H
  have h0 := col0 a.lt k3
  have hs := a.lt.ls.bel.size
  have hr := k1.rws (by rw [List.length_map]; omega)
  rw [List.length_map, ← k2] at hr
  have q : Hx 2 w0 w' ps p r { C with N := C.N ++ [⟨.slice (some ⟨g, 0, none⟩) n n, n, cI (F.map (·.x.conn))⟩] } t bo o := by
    refine ⟨_, T, E, F, k5.pn (k := 9) (.inl h0) ⟨blk_lt k1, by omega⟩, (a.hs.below k4).addN (by omega) hr (by rw [List.length_map]; exact k2) (by omega), a.tt, ?_, ?_, fun z => k0⟩
    · have := RelP.zero.1 a.rp
      simp [RelP, this]
    · have := RelN.zero.1 a.rn
      simp only [RelN, List.map_append, this]
      rfl
  exact ⟨g, n, _, rfl, q.cs hj, hide q⟩
theorem hx_waiting (hj : Hid (j = o.pl.length)) (h : Hid (Hx 2 w0 W ps p r C t bo o)) :
    Calls Try.prog 17 #[.pointer (some ⟨p, 0, none⟩)] W fun e w' => ∃ g n c, e = .returned (.slice (some ⟨g, 0, none⟩) n n) ∧ Cs w' ps p r bo j o ∧ Hid (Hx 3 w0 w' ps p r { C with N := C.N ++ [⟨.slice (some ⟨g, 0, none⟩) n n, n, c⟩] } t bo o) := by
  obtain ⟨X, T, E, F, a⟩ := unhide h
  refine (lt_waiting a.lt).mono ?_
  rintro e' w' ⟨g, n, rfl, H⟩
  obtain ⟨k1, k2, k6, k3, k4, k5⟩ := unhide H
  have h0 := col0 a.lt k3
  have hs := a.lt.ls.bel.size
  have hr := k1.rws (by rw [List.length_map]; omega)
  rw [List.length_map, ← k2] at hr
  have q : Hx 3 w0 w' ps p r { C with N := C.N ++ [⟨.slice (some ⟨g, 0, none⟩) n n, n, cI (E.map (·.x.conn))⟩] } t bo o := by
    refine ⟨_, T, E, F, k5.pn (k := 9) (.inl h0) ⟨blk_lt k1, by omega⟩, (a.hs.below k4).addN (by omega) hr (by rw [List.length_map]; exact k2) (by omega), a.tt, ?_, ?_, fun z => a.du (.inl rfl)⟩
    · have := a.rp
      simp [RelP] at this
      simp [RelP, this]
    · have := a.rn
      simp [RelN] at this
      simp [RelN, this]
  exact ⟨g, n, _, rfl, q.cs hj, hide q⟩
/-- the document's answer beside an empty list -/
def HzP (k : Nat) (w0 W : World) (ps p r : Nat) (C : HC) (t bo : Nat) (o : Ol) (g : Nat) (a : Option Addr) (n : Nat) (l : List Pl) : Prop := ∃ X T E F, Hq k w0 W X ps p r T E F C t bo o ∧ X g = 15 ∧ W.heap[g]? = some (.cells #[] 46 (0, 0)) ∧ plOf E o.conn = l ∧ PlsAt W a l ∧ n = l.length ∧ n ≤ 64
def HzN (k : Nat) (w0 W : World) (ps p r : Nat) (C : HC) (t bo : Nat) (o : Ol) (g : Nat) (a : Option Addr) (n : Nat) (l : List Nat) : Prop := ∃ X T E F, Hq k w0 W X ps p r T E F C t bo o ∧ X g = 15 ∧ W.heap[g]? = some (.cells #[] 3 (0, 0)) ∧ (k = 3 → F.map (·.x.conn) = l) ∧ (k = 4 → E.map (·.x.conn) = l) ∧ IsI W a l ∧ n = l.length ∧ n ≤ 64
theorem hx_rplaces (hj : Hid (j = o.pl.length)) (h : Hid (Hy 1 w0 W ps p r C t bo o g 46)) :
    Calls Try.prog 18 #[.pointer (some ⟨r, 0, none⟩), .int .i64 o.conn] W fun e w' => ∃ a n cap l, e = .returned (.slice a n cap) ∧ Cs w' ps p r bo j o ∧ Hid (HzP 1 w0 w' ps p r C t bo o g a n l) := by
  obtain ⟨X, T, E, F, a, b, c⟩ := unhide h
  refine (lt_rplaces a.lt).mono ?_
  rintro e' w' ⟨a2, n, cap, rfl, H⟩
  obtain ⟨k1, k2, k3, k4⟩ := unhide H
  have h6 : n ≤ 64 := by rw [k2]; exact plOf_len a.lt o.conn
  exact ⟨a2, n, cap, _, rfl, (a.below k3).cs hj, hide ⟨X, T, E, F, a.below k3, b, (k3.block g (blk_lt'' c)).trans c, rfl, k1, k2, h6⟩⟩
theorem hx_rdue (hj : Hid (j = o.pl.length)) (h : Hid (Hy 3 w0 W ps p r C t bo o g 3)) :
    Calls Try.prog 20 #[.pointer (some ⟨r, 0, none⟩), .int .u64 (o.time : Nat)] W fun e w' => ∃ a n cap l, e = .returned (.slice a n cap) ∧ Cs w' ps p r bo j o ∧ Hid (HzN 3 w0 w' ps p r C t bo o g a n l) := by
  obtain ⟨X, T, E, F, a, b, c⟩ := unhide h
  have hF := a.du (.inr rfl)
  refine (lt_rdue a.lt hF).mono ?_
  rintro e' w' ⟨a2, n, cap, rfl, H⟩
  obtain ⟨k1, k2, k3, k4⟩ := unhide H
  have hle : F.length ≤ E.length := by rw [hF.perm.length_eq]; exact List.length_filter_le _ _
  have h8 := a.lt.two.2.2.1
  exact ⟨a2, n, cap, _, rfl, (a.below k3).cs hj, hide ⟨X, T, E, F, a.below k3, b, (k3.block g (blk_lt'' c)).trans c, fun _ => rfl, fun z => by omega, k1, by rw [List.length_map]; exact k2, by omega⟩⟩
theorem hx_rwaiting (hj : Hid (j = o.pl.length)) (h : Hid (Hy 4 w0 W ps p r C t bo o g 3)) :
    Calls Try.prog 21 #[.pointer (some ⟨r, 0, none⟩)] W fun e w' => ∃ a n cap l, e = .returned (.slice a n cap) ∧ Cs w' ps p r bo j o ∧ Hid (HzN 4 w0 w' ps p r C t bo o g a n l) := by
  obtain ⟨X, T, E, F, a, b, c⟩ := unhide h
  refine (lt_rwaiting a.lt).mono ?_
  rintro e' w' ⟨a2, n, cap, rfl, H⟩
  obtain ⟨k1, k2, k3, k4⟩ := unhide H
  have h8 := a.lt.two.2.2.1
  exact ⟨a2, n, cap, _, rfl, (a.below k3).cs hj, hide ⟨X, T, E, F, a.below k3, b, (k3.block g (blk_lt'' c)).trans c, fun z => by omega, fun _ => rfl, k1, by rw [List.length_map]; exact k2, by omega⟩⟩
end
end Go.Proofs.Ytfebiemfmiahhab
