/- A side: the program's Wait beside the document's. -/
import Derived.Test.YtfebiemfmiahhabMn
import Derived.Test.YtfebiemfmiahhabMf
namespace Go.Proofs.Ytfebiemfmiahhab
open Go.ChangeShapes Go.WideShapes Go.ChangeAt Go.RowKit Go.Maps
set_option linter.unusedVariables false
set_option linter.unusedSimpArgs false
set_option maxRecDepth 100000
set_option maxHeartbeats 8000000
theorem WAt.same2 {O : Nat → Prop} {w w' : World} {p bw bl T : Nat} {E : List En} (h : WAt O w p bw bl T E) (hO : ∀ b, O b → w'.heap[b]? = w.heap[b]?) (hs : w.heap.size ≤ w'.heap.size) : WAt O w' p bw bl T E :=
  ⟨(hO p h.op).trans h.cell, h.mw.same (hO bw h.ow), h.ln.same (hO bl h.ol) hO (fun _ h => h), fun e he => (hO e.g (h.oe e he)).trans (h.rows e he), h.op, h.ow, h.ol, h.oe, fun b ob => Nat.lt_of_lt_of_le (h.lt b ob) hs, h.ne, h.nd, h.ok, h.le, h.inc, h.few⟩
theorem Fr.next {R P : Nat → Prop} {B w w' : World} (h : Fr R B w) (k : Fr P w w') (hs : ∀ b, P b → R b ∨ B.heap.size ≤ b) : Fr R B w' :=
  ⟨k.os.trans h.os, k.tape.trans h.tape, k.output.trans h.output, Nat.le_trans h.size k.size, fun i hi hno => (k.own i (Nat.lt_of_lt_of_le hi h.size) (fun q => (hs i q).elim hno (by omega))).trans (h.own i hi hno)⟩
theorem RAt.lt {Q : Nat → Prop} {w : World} {p : Nat} {L : List Wt} (h : RAt Q w p L) (b : Nat) (q : Q b) : b < w.heap.size := by
  obtain ⟨lv, D, k, -⟩ := h
  exact k.lt b q
theorem Wa.few8 {w0 w : World} {O : Nat → Prop} {p T : Nat} {E : List En} (h : Wa w0 O w p T E) : E.length ≤ 8 := by
  obtain ⟨bw, bl, q⟩ := h.ex
  exact Go.Proofs.Ytfebiemfmiahhab.few8 q.nd q.ok
theorem Wa.incs {w0 w : World} {O : Nat → Prop} {p T : Nat} {E : List En} (h : Wa w0 O w p T E) : E.Pairwise (fun a b => a.turn < b.turn) := by
  obtain ⟨bw, bl, q⟩ := h.ex
  exact q.inc
/-- a side in memory -/
structure Sd (w0 : World) (P Q : Nat → Prop) (w : World) (ps p r T : Nat) (E : List En) (L : List Wt) : Prop where
  cell : w.heap[ps]? = some (.cells #[.pointer (some ⟨p, 0, none⟩), .pointer (some ⟨r, 0, none⟩)] 37 (0, 0))
  wa : Wa w0 P w p T E
  ra : RAt Q w r L
  ap : ∀ b, P b → ¬ Q b
  np : ¬ P ps
  nq : ¬ Q ps
  ge : ∀ b, Q b → w0.heap.size ≤ b
  gs : w0.heap.size ≤ ps
theorem Sd.below {w0 w w' : World} {P Q : Nat → Prop} {ps p r T : Nat} {E : List En} {L : List Wt} (h : Sd w0 P Q w ps p r T E L) (hb : Below w.heap.size w w') : Sd w0 P Q w' ps p r T E L :=
  ⟨(hb.block _ (blk_lt h.cell)).trans h.cell, h.wa.below hb, h.ra.below hb, h.ap, h.np, h.nq, h.ge, h.gs⟩
theorem Sd.prog {w0 w w' : World} {P P' Q : Nat → Prop} {ps p r T T' : Nat} {E E' : List En} {L : List Wt} (h : Sd w0 P Q w ps p r T E L) (hf : Fr P w w') (hP : ∀ b, P' b → P b ∨ w.heap.size ≤ b) (k : Wa w0 P' w' p T' E') : Sd w0 P' Q w' ps p r T' E' L :=
  ⟨hf.row h.cell h.np, k, h.ra.same (fun b q => hf.own b (h.ra.lt b q) (fun pb => h.ap b pb q)) (fun _ q => q) (fun b q => Nat.lt_of_lt_of_le (h.ra.lt b q) hf.size),
    fun b pb q => (hP b pb).elim (fun z => h.ap b z q) (fun z => by have := h.ra.lt b q; omega), fun z => (hP _ z).elim h.np (by have := blk_lt h.cell; omega), h.nq, h.ge, h.gs⟩
theorem Sd.doc {w0 w w' : World} {P Q Q' : Nat → Prop} {ps p r T : Nat} {E : List En} {L L' : List Wt} (h : Sd w0 P Q w ps p r T E L) (hf : Fr Q w w') (hQ : ∀ b, Q' b → Q b ∨ w.heap.size ≤ b) (k : RAt Q' w' r L') : Sd w0 P Q' w' ps p r T E L' := by
  obtain ⟨bw, bl, q⟩ := h.wa.ex
  exact ⟨hf.row h.cell h.nq, ⟨⟨bw, bl, q.same2 (fun b pb => hf.own b (q.lt b pb) (h.ap b pb)) hf.size⟩, h.wa.ge, hf.bel h.ge h.wa.bel⟩, k,
    fun b pb z => (hQ b z).elim (h.ap b pb) (fun z => by have := q.lt b pb; omega), h.np, fun z => (hQ _ z).elim h.nq (by have := blk_lt h.cell; omega), fun b z => (hQ b z).elim (h.ge b) (fun z => by have := h.wa.bel.size; omega), h.gs⟩
theorem Sd.other {w0 w w' : World} {P Q R : Nat → Prop} {ps p r T : Nat} {E : List En} {L : List Wt} (h : Sd w0 P Q w ps p r T E L) (hf : Fr R w w') (hR : ∀ b, R b → w0.heap.size ≤ b) (h1 : ∀ b, R b → ¬ P b) (h2 : ∀ b, R b → ¬ Q b) (h3 : ¬ R ps) : Sd w0 P Q w' ps p r T E L := by
  obtain ⟨bw, bl, q⟩ := h.wa.ex
  exact ⟨hf.row h.cell h3, ⟨⟨bw, bl, q.same2 (fun b pb => hf.own b (q.lt b pb) (fun z => h1 b z pb)) hf.size⟩, h.wa.ge, hf.bel hR h.wa.bel⟩,
    h.ra.same (fun b z => hf.own b (h.ra.lt b z) (fun y => h2 b y z)) (fun _ z => z) (fun b z => Nat.lt_of_lt_of_le (h.ra.lt b z) hf.size), h.ap, h.np, h.nq, h.ge, h.gs⟩
/-- a side, and the step that is being played -/
structure Sp (w0 B : World) (R P Q : Nat → Prop) (w : World) (ps p r T : Nat) (E : List En) (L : List Wt) (bo : Nat) (o : Ol) : Prop where
  sd : Sd w0 P Q w ps p r T E L
  bk : OpBk w bo o
  np : ¬ P bo
  nq : ¬ Q bo
  ok : OlOk w0 o
  fr : Fr R B w
  sub : ∀ b, P b ∨ Q b → R b ∨ B.heap.size ≤ b
def PlEnd (w0 B w' : World) (R : Nat → Prop) (ps p r T : Nat) : Prop := ∃ P' Q' T' E', Sd w0 P' Q' w' ps p r T' E' (E'.map (·.x)) ∧ Fr R B w' ∧ T' ≤ T + 1 ∧ ∀ b, P' b ∨ Q' b → R b ∨ B.heap.size ≤ b
section
variable {w0 B w : World} {R P Q : Nat → Prop} {ps p r T : Nat} {E : List En} {L : List Wt} {bo : Nat} {o : Ol} {j : Nat}
theorem Sp.below {w' : World} (h : Sp w0 B R P Q w ps p r T E L bo o) (hb : Below w.heap.size w w') : Sp w0 B R P Q w' ps p r T E L bo o :=
  ⟨h.sd.below hb, h.bk.below hb, h.np, h.nq, h.ok, h.fr.below hb, h.sub⟩
theorem Sp.drew (h : Sp w0 B R P Q w ps p r T E L bo o) : Sp w0 B R P Q w.drew ps p r T E L bo o := h.below ⟨rfl, rfl, rfl, Nat.le_refl _, fun _ _ => rfl⟩
theorem Sp.prog {w' : World} {P' : Nat → Prop} {T' : Nat} {E' : List En} (h : Sp w0 B R P Q w ps p r T E L bo o) (hf : Fr P w w') (hP : ∀ b, P' b → P b ∨ w.heap.size ≤ b) (k : Wa w0 P' w' p T' E') : Sp w0 B R P' Q w' ps p r T' E' L bo o :=
  ⟨h.sd.prog hf hP k, hf.row h.bk h.np, fun z => (hP _ z).elim h.np (by have := blk_lt h.bk; omega), h.nq, h.ok, h.fr.next hf (fun b z => h.sub b (.inl z)),
    fun b z => z.elim (fun z => (hP b z).elim (fun z => h.sub b (.inl z)) (fun z => .inr (Nat.le_trans h.fr.size z))) (fun z => h.sub b (.inr z))⟩
theorem Sp.doc {w' : World} {Q' : Nat → Prop} {L' : List Wt} (h : Sp w0 B R P Q w ps p r T E L bo o) (hf : Fr Q w w') (hQ : ∀ b, Q' b → Q b ∨ w.heap.size ≤ b) (k : RAt Q' w' r L') : Sp w0 B R P Q' w' ps p r T E L' bo o :=
  ⟨h.sd.doc hf hQ k, hf.row h.bk h.nq, h.np, fun z => (hQ _ z).elim h.nq (by have := blk_lt h.bk; omega), h.ok, h.fr.next hf (fun b z => h.sub b (.inr z)),
    fun b z => z.elim (fun z => h.sub b (.inl z)) (fun z => (hQ b z).elim (fun z => h.sub b (.inr z)) (fun z => .inr (Nat.le_trans h.fr.size z)))⟩
theorem Sp.cs (h : Sp w0 B R P Q w ps p r T E L bo o) (hj : Hid (j = o.pl.length)) : w.cell? ⟨ps, 0, none⟩ = some (.pointer (some ⟨p, 0, none⟩)) ∧ w.cell? ⟨ps, 1, none⟩ = some (.pointer (some ⟨r, 0, none⟩)) ∧ w.cell? ⟨bo, 0, none⟩ = some (.int .i64 o.on) ∧ w.cell? ⟨bo, 1, none⟩ = some (.int .i64 o.act) ∧ w.cell? ⟨bo, 2, none⟩ = some (.int .i64 o.conn) ∧ w.cell? ⟨bo, 3, none⟩ = some (.int .i64 o.kind) ∧ w.cell? ⟨bo, 4, none⟩ = some (.slice o.a j o.cap) ∧ w.cell? ⟨bo, 5, none⟩ = some (.int .u64 (o.time : Nat)) := by
  obtain rfl := unhide hj
  obtain ⟨a, b, c, d, e, f⟩ := h.bk.cells
  exact ⟨cell_blk h.sd.cell 0, cell_blk h.sd.cell 1, a, b, c, d, e, f⟩
theorem s_twin (hj : Hid (j = o.pl.length)) (h : Hid (Sp w0 B R P Q w ps p r T E L bo o)) : Calls Try.prog 29 #[.slice o.a j o.cap] w fun e w' => ∃ a' cap', e = .returned (.slice a' j cap') ∧ w'.cell? ⟨ps, 0, none⟩ = some (.pointer (some ⟨p, 0, none⟩)) ∧ w'.cell? ⟨ps, 1, none⟩ = some (.pointer (some ⟨r, 0, none⟩)) ∧ w'.cell? ⟨bo, 0, none⟩ = some (.int .i64 o.on) ∧ w'.cell? ⟨bo, 1, none⟩ = some (.int .i64 o.act) ∧ w'.cell? ⟨bo, 2, none⟩ = some (.int .i64 o.conn) ∧ w'.cell? ⟨bo, 3, none⟩ = some (.int .i64 o.kind) ∧ w'.cell? ⟨bo, 4, none⟩ = some (.slice o.a j o.cap) ∧ w'.cell? ⟨bo, 5, none⟩ = some (.int .u64 (o.time : Nat)) ∧ Hid (PlsAt w' a' o.pl ∧ Sp w0 B R P Q w' ps p r T E L bo o) := by
  have h1 := unhide h
  have hj' := hj
  obtain rfl := unhide hj
  refine (twin_any w o.a o.cap o.pl (h1.ok.below h1.sd.wa.bel).pls h1.ok.nil h1.ok.len).mono ?_
  rintro e w' ⟨a', cap', rfl, -, H⟩
  obtain ⟨k1, k2⟩ := unhide H
  have sp := h1.below k2
  obtain ⟨c0, c1, c2, c3, c4, c5, c6, c7⟩ := Sp.cs sp hj'
  exact ⟨a', cap', rfl, c0, c1, c2, c3, c4, c5, c6, c7, hide ⟨k1, sp⟩⟩
theorem s_block {a' : Option Addr} {cap' : Nat} (hj : Hid (j = o.pl.length)) (hT : Hid (T < 1099511627776)) (h : Hid (PlsAt w a' o.pl ∧ Sp w0 B R P Q w ps p r T E L bo o)) : Calls Try.prog 11 #[.pointer (some ⟨p, 0, none⟩), .int .i64 o.conn, .int .i64 o.kind, .slice a' j cap', .int .u64 (o.time : Nat)] w fun e w' => ∃ rv : Int, e = .returned (.int .i64 rv) ∧ w'.cell? ⟨ps, 0, none⟩ = some (.pointer (some ⟨p, 0, none⟩)) ∧ w'.cell? ⟨ps, 1, none⟩ = some (.pointer (some ⟨r, 0, none⟩)) ∧ w'.cell? ⟨bo, 0, none⟩ = some (.int .i64 o.on) ∧ w'.cell? ⟨bo, 1, none⟩ = some (.int .i64 o.act) ∧ w'.cell? ⟨bo, 2, none⟩ = some (.int .i64 o.conn) ∧ w'.cell? ⟨bo, 3, none⟩ = some (.int .i64 o.kind) ∧ w'.cell? ⟨bo, 4, none⟩ = some (.slice o.a j o.cap) ∧ w'.cell? ⟨bo, 5, none⟩ = some (.int .u64 (o.time : Nat)) ∧ Hid (rv = refR E o.conn o.kind o.pl o.time ∧ ∃ P' T' E', Sp w0 B R P' Q w' ps p r T' E' L bo o ∧ T' ≤ T + 1 ∧ (rv ≠ 0 → E' = E) ∧ (rv = 0 → ∃ (cn g : Nat), o.conn = (cn : Nat) ∧ E' = E ++ [⟨⟨cn, o.kind, o.pl, o.time⟩, T + 1, g⟩])) := by
  obtain ⟨h0, h1⟩ := unhide h
  refine (wa_block w0 P w p T E o.conn o.kind a' j cap' o.pl o.time h1.sd.wa h1.ok.conn h0 (unhide hj) (by have := unhide hj; have := h1.ok.len; omega) (unhide hT)).mono ?_
  rintro e w' ⟨rfl, H⟩
  obtain ⟨P', T', E', k1, k2, k3, k4, k5, k6, k7⟩ := unhide H
  have sp := h1.prog k2 k5 k1
  obtain ⟨c0, c1, c2, c3, c4, c5, c6, c7⟩ := Sp.cs sp hj
  exact ⟨_, rfl, c0, c1, c2, c3, c4, c5, c6, c7, hide ⟨rfl, P', T', E', sp, k3, fun z => (k6 z).1, k7⟩⟩
theorem s_rblock {rv : Int} (hj : Hid (j = o.pl.length)) (hL : Hid (L = E.map (·.x))) (h : Hid (rv = refR E o.conn o.kind o.pl o.time ∧ ∃ P' T' E', Sp w0 B R P' Q w ps p r T' E' L bo o ∧ T' ≤ T + 1 ∧ (rv ≠ 0 → E' = E) ∧ (rv = 0 → ∃ (cn g : Nat), o.conn = (cn : Nat) ∧ E' = E ++ [⟨⟨cn, o.kind, o.pl, o.time⟩, T + 1, g⟩]))) : Calls Try.prog 13 #[.pointer (some ⟨r, 0, none⟩), .int .i64 o.conn, .int .i64 o.kind, .slice o.a j o.cap, .int .u64 (o.time : Nat)] w fun e w' => e = .returned (.int .i64 rv) ∧ w'.cell? ⟨ps, 0, none⟩ = some (.pointer (some ⟨p, 0, none⟩)) ∧ w'.cell? ⟨ps, 1, none⟩ = some (.pointer (some ⟨r, 0, none⟩)) ∧ w'.cell? ⟨bo, 0, none⟩ = some (.int .i64 o.on) ∧ w'.cell? ⟨bo, 1, none⟩ = some (.int .i64 o.act) ∧ w'.cell? ⟨bo, 2, none⟩ = some (.int .i64 o.conn) ∧ w'.cell? ⟨bo, 3, none⟩ = some (.int .i64 o.kind) ∧ w'.cell? ⟨bo, 4, none⟩ = some (.slice o.a j o.cap) ∧ w'.cell? ⟨bo, 5, none⟩ = some (.int .u64 (o.time : Nat)) ∧ Hid (PlEnd w0 B w' R ps p r T) := by
  obtain ⟨e0, P', T', E', sp, k3, k4, k5⟩ := unhide h
  have eL := unhide hL
  have er : refW L o.conn o.kind o.pl o.time = rv := by rw [eL, ← refR_map, e0]
  refine (rblock_any Q w r L o.conn o.kind o.a j o.cap o.pl o.time sp.sd.ra (sp.ok.below sp.sd.wa.bel).pls (unhide hj) (by have := unhide hj; have := sp.ok.len; omega) sp.ok.pok ?_).mono ?_
  · intro z
    rw [er] at z
    obtain ⟨cn, g, e1, rfl⟩ := k5 z
    obtain ⟨bw, bl, q⟩ := sp.sd.wa.ex
    have hlen := sp.sd.wa.few8
    rw [List.length_append] at hlen
    refine ⟨cn, e1, q.ok _ (List.mem_append_right _ (List.mem_singleton.2 rfl)), ?_⟩
    rw [eL, List.length_map]
    simp only [List.length_singleton] at hlen; omega
  · rintro e w' ⟨rfl, H⟩
    obtain ⟨L', ⟨⟨Q', r1, -, r3⟩, r4⟩, r5, r6⟩ := unhide H
    rw [er] at r5 r6
    have sp' := sp.doc r4 r3 r1
    have hEL : L' = E'.map (·.x) := by
      by_cases z : rv = 0
      · obtain ⟨cn, g, e1, rfl⟩ := k5 z
        rw [r6 cn z e1, eL, List.map_append]; rfl
      · rw [r5 z, k4 z, eL]
    rw [hEL] at sp'
    obtain ⟨c0, c1, c2, c3, c4, c5, c6, c7⟩ := Sp.cs sp' hj
    exact ⟨by rw [er], c0, c1, c2, c3, c4, c5, c6, c7, hide ⟨P', Q', T', E', sp'.sd, sp'.fr, k3, sp'.sub⟩⟩
theorem s_release (hj : Hid (j = o.pl.length)) (h : Hid (Sp w0 B R P Q w ps p r T E L bo o)) : Calls Try.prog 30 #[.pointer (some ⟨p, 0, none⟩), .int .i64 o.conn] w fun e w' => ∃ wt : Bool, e = .returned (.bool wt) ∧ w'.cell? ⟨ps, 0, none⟩ = some (.pointer (some ⟨p, 0, none⟩)) ∧ w'.cell? ⟨ps, 1, none⟩ = some (.pointer (some ⟨r, 0, none⟩)) ∧ w'.cell? ⟨bo, 0, none⟩ = some (.int .i64 o.on) ∧ w'.cell? ⟨bo, 1, none⟩ = some (.int .i64 o.act) ∧ w'.cell? ⟨bo, 2, none⟩ = some (.int .i64 o.conn) ∧ w'.cell? ⟨bo, 3, none⟩ = some (.int .i64 o.kind) ∧ w'.cell? ⟨bo, 4, none⟩ = some (.slice o.a j o.cap) ∧ w'.cell? ⟨bo, 5, none⟩ = some (.int .u64 (o.time : Nat)) ∧ Hid (wt = (lookE E o.conn).isSome ∧ ∃ P', Sp w0 B R P' Q w' ps p r T (goneE E o.conn) L bo o) := by
  have h1 := unhide h
  refine (wa_release w0 P w p T E o.conn h1.sd.wa h1.ok.conn).mono ?_
  rintro e w' ⟨rfl, H⟩
  obtain ⟨P', k1, k2, k3, k4⟩ := unhide H
  have sp := h1.prog k2 k4 k1
  obtain ⟨c0, c1, c2, c3, c4, c5, c6, c7⟩ := Sp.cs sp hj
  exact ⟨_, rfl, c0, c1, c2, c3, c4, c5, c6, c7, hide ⟨rfl, P', sp⟩⟩
theorem s_rrelease {wt : Bool} (hj : Hid (j = o.pl.length)) (hL : Hid (L = E.map (·.x) ∧ (L.map (·.conn)).Nodup)) (h : Hid (wt = (lookE E o.conn).isSome ∧ ∃ P', Sp w0 B R P' Q w ps p r T (goneE E o.conn) L bo o)) : Calls Try.prog 31 #[.pointer (some ⟨r, 0, none⟩), .int .i64 o.conn] w fun e w' => e = .returned (.bool wt) ∧ w'.cell? ⟨ps, 0, none⟩ = some (.pointer (some ⟨p, 0, none⟩)) ∧ w'.cell? ⟨ps, 1, none⟩ = some (.pointer (some ⟨r, 0, none⟩)) ∧ w'.cell? ⟨bo, 0, none⟩ = some (.int .i64 o.on) ∧ w'.cell? ⟨bo, 1, none⟩ = some (.int .i64 o.act) ∧ w'.cell? ⟨bo, 2, none⟩ = some (.int .i64 o.conn) ∧ w'.cell? ⟨bo, 3, none⟩ = some (.int .i64 o.kind) ∧ w'.cell? ⟨bo, 4, none⟩ = some (.slice o.a j o.cap) ∧ w'.cell? ⟨bo, 5, none⟩ = some (.int .u64 (o.time : Nat)) ∧ Hid (PlEnd w0 B w' R ps p r T) := by
  obtain ⟨e0, P', sp⟩ := unhide h
  obtain ⟨eL, nd⟩ := unhide hL
  refine (rrelease_any Q w r L o.conn sp.sd.ra nd).mono ?_
  rintro e w' ⟨rfl, H⟩
  obtain ⟨⟨Q', r1, -, r3⟩, r4⟩ := unhide H
  have sp' := sp.doc r4 r3 r1
  rw [eL, ← goneE_map] at sp'
  obtain ⟨c0, c1, c2, c3, c4, c5, c6, c7⟩ := Sp.cs sp' hj
  refine ⟨?_, c0, c1, c2, c3, c4, c5, c6, c7, hide ⟨P', Q', T, _, sp'.sd, sp'.fr, by omega, sp'.sub⟩⟩
  rw [e0, eL, ← lookE_map]
  cases lookE E o.conn <;> rfl
theorem s_place (hj : Hid (j = o.pl.length)) (h : Hid (Sp w0 B R P Q w ps p r T E L bo o)) : Calls Try.prog 32 #[.agg #[.int .i64 o.on, .int .i64 o.act, .int .i64 o.conn, .int .i64 o.kind, .slice o.a j o.cap, .int .u64 (o.time : Nat)]] w fun e w' => e = .returned (.agg #[.int .i64 (firstP o.pl).1, .string (bs (firstP o.pl).2)]) ∧ w'.cell? ⟨ps, 0, none⟩ = some (.pointer (some ⟨p, 0, none⟩)) ∧ w'.cell? ⟨ps, 1, none⟩ = some (.pointer (some ⟨r, 0, none⟩)) ∧ w'.cell? ⟨bo, 0, none⟩ = some (.int .i64 o.on) ∧ w'.cell? ⟨bo, 1, none⟩ = some (.int .i64 o.act) ∧ w'.cell? ⟨bo, 2, none⟩ = some (.int .i64 o.conn) ∧ w'.cell? ⟨bo, 3, none⟩ = some (.int .i64 o.kind) ∧ w'.cell? ⟨bo, 4, none⟩ = some (.slice o.a j o.cap) ∧ w'.cell? ⟨bo, 5, none⟩ = some (.int .u64 (o.time : Nat)) ∧ Hid (Sp w0 B R P Q w' ps p r T E L bo o) := by
  have h1 := unhide h
  refine (place_any w o j (unhide hj) (h1.ok.below h1.sd.wa.bel).pls).mono ?_
  rintro e w' ⟨rfl, H⟩
  have sp := h1.below (unhide H)
  obtain ⟨c0, c1, c2, c3, c4, c5, c6, c7⟩ := Sp.cs sp hj
  exact ⟨rfl, c0, c1, c2, c3, c4, c5, c6, c7, hide sp⟩
theorem firstP_ok (h : OlOk w0 o) : POk (firstP o.pl) := by
  unfold firstP
  cases hp : o.pl with
  | nil => exact ⟨rfl, Nat.zero_le _⟩
  | cons x l => exact h.pok x (by rw [hp]; exact List.mem_cons_self ..)
theorem s_next (hj : Hid (j = o.pl.length)) (h : Hid (Sp w0 B R P Q w ps p r T E L bo o)) : Calls Try.prog 12 #[.pointer (some ⟨p, 0, none⟩), .agg #[.int .i64 (firstP o.pl).1, .string (bs (firstP o.pl).2)], .int .i64 o.kind] w fun e w' => ∃ (nv : Nat) (nb : Bool), e = .returned (.tuple #[.int .i64 (nv : Nat), .bool nb]) ∧ w'.cell? ⟨ps, 0, none⟩ = some (.pointer (some ⟨p, 0, none⟩)) ∧ w'.cell? ⟨ps, 1, none⟩ = some (.pointer (some ⟨r, 0, none⟩)) ∧ w'.cell? ⟨bo, 0, none⟩ = some (.int .i64 o.on) ∧ w'.cell? ⟨bo, 1, none⟩ = some (.int .i64 o.act) ∧ w'.cell? ⟨bo, 2, none⟩ = some (.int .i64 o.conn) ∧ w'.cell? ⟨bo, 3, none⟩ = some (.int .i64 o.kind) ∧ w'.cell? ⟨bo, 4, none⟩ = some (.slice o.a j o.cap) ∧ w'.cell? ⟨bo, 5, none⟩ = some (.int .u64 (o.time : Nat)) ∧ Hid (nv = ((nextE E (firstP o.pl) o.kind).map (·.x.conn)).getD 0 ∧ nb = (nextE E (firstP o.pl) o.kind).isSome) ∧ Hid (Sp w0 B R P Q w' ps p r T E L bo o) := by
  have h1 := unhide h
  refine (wa_next w0 P w p T E (firstP o.pl) o.kind h1.sd.wa (firstP_ok h1.ok)).mono ?_
  rintro e w' ⟨rfl, H⟩
  have sp := h1.below (unhide H).2
  obtain ⟨c0, c1, c2, c3, c4, c5, c6, c7⟩ := Sp.cs sp hj
  exact ⟨_, _, rfl, c0, c1, c2, c3, c4, c5, c6, c7, hide ⟨rfl, rfl⟩, hide sp⟩
theorem s_rnext {nv : Nat} {nb : Bool} (hj : Hid (j = o.pl.length)) (hL : Hid (L = E.map (·.x) ∧ (L.map (·.conn)).Nodup)) (hv : Hid (nv = ((nextE E (firstP o.pl) o.kind).map (·.x.conn)).getD 0 ∧ nb = (nextE E (firstP o.pl) o.kind).isSome)) (h : Hid (Sp w0 B R P Q w ps p r T E L bo o)) : Calls Try.prog 33 #[.pointer (some ⟨r, 0, none⟩), .agg #[.int .i64 (firstP o.pl).1, .string (bs (firstP o.pl).2)], .int .i64 o.kind] w fun e w' => e = .returned (.tuple #[.int .i64 (nv : Nat), .bool nb]) ∧ w'.cell? ⟨ps, 0, none⟩ = some (.pointer (some ⟨p, 0, none⟩)) ∧ w'.cell? ⟨ps, 1, none⟩ = some (.pointer (some ⟨r, 0, none⟩)) ∧ w'.cell? ⟨bo, 0, none⟩ = some (.int .i64 o.on) ∧ w'.cell? ⟨bo, 1, none⟩ = some (.int .i64 o.act) ∧ w'.cell? ⟨bo, 2, none⟩ = some (.int .i64 o.conn) ∧ w'.cell? ⟨bo, 3, none⟩ = some (.int .i64 o.kind) ∧ w'.cell? ⟨bo, 4, none⟩ = some (.slice o.a j o.cap) ∧ w'.cell? ⟨bo, 5, none⟩ = some (.int .u64 (o.time : Nat)) ∧ Hid (PlEnd w0 B w' R ps p r T) := by
  have sp := unhide h
  obtain ⟨eL, nd⟩ := unhide hL
  refine (rnext_any Q w r L (firstP o.pl) o.kind sp.sd.ra).mono ?_
  rintro e w' ⟨rfl, H⟩
  have sp' := sp.below (unhide H)
  obtain ⟨rfl, rfl⟩ := unhide hv
  rw [eL] at sp'
  obtain ⟨c0, c1, c2, c3, c4, c5, c6, c7⟩ := Sp.cs sp' hj
  refine ⟨?_, c0, c1, c2, c3, c4, c5, c6, c7, hide ⟨P, Q, T, E, sp'.sd, sp'.fr, by omega, sp'.sub⟩⟩
  rw [eL, ← nextE_map]
  cases nextE E (firstP o.pl) o.kind <;> rfl
theorem s_due (hj : Hid (j = o.pl.length)) (h : Hid (Sp w0 B R P Q w ps p r T E L bo o)) : Calls Try.prog 16 #[.pointer (some ⟨p, 0, none⟩), .int .u64 (o.time : Nat)] w fun e w' => ∃ g n, e = .returned (.slice (some ⟨g, 0, none⟩) n n) ∧ w'.cell? ⟨ps, 0, none⟩ = some (.pointer (some ⟨p, 0, none⟩)) ∧ w'.cell? ⟨ps, 1, none⟩ = some (.pointer (some ⟨r, 0, none⟩)) ∧ w'.cell? ⟨bo, 0, none⟩ = some (.int .i64 o.on) ∧ w'.cell? ⟨bo, 1, none⟩ = some (.int .i64 o.act) ∧ w'.cell? ⟨bo, 2, none⟩ = some (.int .i64 o.conn) ∧ w'.cell? ⟨bo, 3, none⟩ = some (.int .i64 o.kind) ∧ w'.cell? ⟨bo, 4, none⟩ = some (.slice o.a j o.cap) ∧ w'.cell? ⟨bo, 5, none⟩ = some (.int .u64 (o.time : Nat)) ∧ Hid (∃ F, DueIs E o.time F ∧ RowI w' g (F.map (·.x.conn)) ∧ n = F.length) ∧ Hid (Sp w0 B R P Q w' ps p r T E L bo o) := by
  have h1 := unhide h
  refine (wa_due w0 P w p T o.time E h1.sd.wa).mono ?_
  rintro e w' ⟨g, n, rfl, H⟩
  obtain ⟨F, k1, k2, k3, k4, k5, k6⟩ := unhide H
  have sp := h1.below k6
  obtain ⟨c0, c1, c2, c3, c4, c5, c6, c7⟩ := Sp.cs sp hj
  exact ⟨g, n, rfl, c0, c1, c2, c3, c4, c5, c6, c7, hide ⟨F, k1, k2, k3⟩, hide sp⟩
theorem s_rdue {g n : Nat} (hj : Hid (j = o.pl.length)) (hL : Hid (L = E.map (·.x) ∧ (L.map (·.conn)).Nodup)) (hv : Hid (∃ F, DueIs E o.time F ∧ RowI w g (F.map (·.x.conn)) ∧ n = F.length)) (h : Hid (Sp w0 B R P Q w ps p r T E L bo o)) : Calls Try.prog 20 #[.pointer (some ⟨r, 0, none⟩), .int .u64 (o.time : Nat)] w fun e w' => ∃ a cap, e = .returned (.slice a n cap) ∧ w'.cell? ⟨ps, 0, none⟩ = some (.pointer (some ⟨p, 0, none⟩)) ∧ w'.cell? ⟨ps, 1, none⟩ = some (.pointer (some ⟨r, 0, none⟩)) ∧ w'.cell? ⟨bo, 0, none⟩ = some (.int .i64 o.on) ∧ w'.cell? ⟨bo, 1, none⟩ = some (.int .i64 o.act) ∧ w'.cell? ⟨bo, 2, none⟩ = some (.int .i64 o.conn) ∧ w'.cell? ⟨bo, 3, none⟩ = some (.int .i64 o.kind) ∧ w'.cell? ⟨bo, 4, none⟩ = some (.slice o.a j o.cap) ∧ w'.cell? ⟨bo, 5, none⟩ = some (.int .u64 (o.time : Nat)) ∧ Hid (∃ l : List Nat, IsI w' (some ⟨g, 0, none⟩) l ∧ IsI w' a l ∧ n = l.length ∧ n ≤ 1000000) ∧ Hid (Sp w0 B R P Q w' ps p r T E L bo o) := by
  have sp := unhide h
  obtain ⟨eL, nd⟩ := unhide hL
  obtain ⟨F, d1, d2, d3⟩ := unhide hv
  refine (rdue_any Q w r o.time L sp.sd.ra).mono ?_
  rintro e w' ⟨v, rfl, H⟩
  obtain ⟨S, s1, s2, s3⟩ := unhide H
  rw [eL] at s1
  obtain ⟨F', f1, f2⟩ := s1.is sp.sd.wa.incs
  obtain rfl := f1.one sp.sd.wa.incs d1
  obtain ⟨a, cap, rfl, hi⟩ := own_ints s2
  rw [eL, ← f2] at hi
  have hn : S.length = F'.length := by have := congrArg List.length f2; simpa using this.symm
  have sp' := sp.below s3
  obtain ⟨c0, c1, c2, c3, c4, c5, c6, c7⟩ := Sp.cs sp' hj
  have hle : F'.length ≤ E.length := by rw [d1.perm.length_eq]; exact List.length_filter_le _ _
  have hf := sp.sd.wa.few8
  exact ⟨a, cap, by rw [hn, d3], c0, c1, c2, c3, c4, c5, c6, c7, hide ⟨_, (RowI.is ((s3.block _ (blk_lt d2)).trans d2)), hi, by rw [List.length_map]; exact d3, by omega⟩, hide sp'⟩
theorem s_ints {g n cap : Nat} {a : Option Addr} (hv : Hid (∃ l : List Nat, IsI w (some ⟨g, 0, none⟩) l ∧ IsI w a l ∧ n = l.length ∧ n ≤ 1000000)) (hj : Hid (j = o.pl.length)) (hL : Hid (L = E.map (·.x))) (h : Hid (Sp w0 B R P Q w ps p r T E L bo o)) : Calls Try.prog 19 #[.slice (some ⟨g, 0, none⟩) n n, .slice a n cap] w fun e w' => e = .returned (.bool true) ∧ w'.cell? ⟨ps, 0, none⟩ = some (.pointer (some ⟨p, 0, none⟩)) ∧ w'.cell? ⟨ps, 1, none⟩ = some (.pointer (some ⟨r, 0, none⟩)) ∧ w'.cell? ⟨bo, 0, none⟩ = some (.int .i64 o.on) ∧ w'.cell? ⟨bo, 1, none⟩ = some (.int .i64 o.act) ∧ w'.cell? ⟨bo, 2, none⟩ = some (.int .i64 o.conn) ∧ w'.cell? ⟨bo, 3, none⟩ = some (.int .i64 o.kind) ∧ w'.cell? ⟨bo, 4, none⟩ = some (.slice o.a j o.cap) ∧ w'.cell? ⟨bo, 5, none⟩ = some (.int .u64 (o.time : Nat)) ∧ Hid (PlEnd w0 B w' R ps p r T) := by
  obtain ⟨l, l1, l2, l3, l4⟩ := unhide hv
  refine (ints_same w _ a n n cap l l1 l2 l3 l4).mono ?_
  rintro e w' ⟨rfl, H⟩
  have sp := (unhide h).below (unhide H)
  obtain ⟨c0, c1, c2, c3, c4, c5, c6, c7⟩ := Sp.cs sp hj
  obtain rfl := unhide hL
  exact ⟨rfl, c0, c1, c2, c3, c4, c5, c6, c7, hide ⟨P, Q, T, E, sp.sd, sp.fr, by omega, sp.sub⟩⟩
theorem s_until (hj : Hid (j = o.pl.length)) (h : Hid (Sp w0 B R P Q w ps p r T E L bo o)) : Calls Try.prog 34 #[.pointer (some ⟨p, 0, none⟩), .int .i64 o.conn] w fun e w' => ∃ (nv : Nat) (nb : Bool), e = .returned (.tuple #[.int .u64 (nv : Nat), .bool nb]) ∧ w'.cell? ⟨ps, 0, none⟩ = some (.pointer (some ⟨p, 0, none⟩)) ∧ w'.cell? ⟨ps, 1, none⟩ = some (.pointer (some ⟨r, 0, none⟩)) ∧ w'.cell? ⟨bo, 0, none⟩ = some (.int .i64 o.on) ∧ w'.cell? ⟨bo, 1, none⟩ = some (.int .i64 o.act) ∧ w'.cell? ⟨bo, 2, none⟩ = some (.int .i64 o.conn) ∧ w'.cell? ⟨bo, 3, none⟩ = some (.int .i64 o.kind) ∧ w'.cell? ⟨bo, 4, none⟩ = some (.slice o.a j o.cap) ∧ w'.cell? ⟨bo, 5, none⟩ = some (.int .u64 (o.time : Nat)) ∧ Hid (nv = ((lookE E o.conn).map (·.x.till)).getD 0 ∧ nb = (lookE E o.conn).isSome) ∧ Hid (Sp w0 B R P Q w' ps p r T E L bo o) := by
  have h1 := unhide h
  refine (wa_until w0 P w p T E o.conn h1.sd.wa h1.ok.conn).mono ?_
  rintro e w' ⟨rfl, H⟩
  have sp := h1.below (unhide H).2
  obtain ⟨c0, c1, c2, c3, c4, c5, c6, c7⟩ := Sp.cs sp hj
  exact ⟨_, _, rfl, c0, c1, c2, c3, c4, c5, c6, c7, hide ⟨rfl, rfl⟩, hide sp⟩
theorem s_runtil {nv : Nat} {nb : Bool} (hj : Hid (j = o.pl.length)) (hL : Hid (L = E.map (·.x) ∧ (L.map (·.conn)).Nodup)) (hv : Hid (nv = ((lookE E o.conn).map (·.x.till)).getD 0 ∧ nb = (lookE E o.conn).isSome)) (h : Hid (Sp w0 B R P Q w ps p r T E L bo o)) : Calls Try.prog 35 #[.pointer (some ⟨r, 0, none⟩), .int .i64 o.conn] w fun e w' => e = .returned (.tuple #[.int .u64 (nv : Nat), .bool nb]) ∧ w'.cell? ⟨ps, 0, none⟩ = some (.pointer (some ⟨p, 0, none⟩)) ∧ w'.cell? ⟨ps, 1, none⟩ = some (.pointer (some ⟨r, 0, none⟩)) ∧ w'.cell? ⟨bo, 0, none⟩ = some (.int .i64 o.on) ∧ w'.cell? ⟨bo, 1, none⟩ = some (.int .i64 o.act) ∧ w'.cell? ⟨bo, 2, none⟩ = some (.int .i64 o.conn) ∧ w'.cell? ⟨bo, 3, none⟩ = some (.int .i64 o.kind) ∧ w'.cell? ⟨bo, 4, none⟩ = some (.slice o.a j o.cap) ∧ w'.cell? ⟨bo, 5, none⟩ = some (.int .u64 (o.time : Nat)) ∧ Hid (PlEnd w0 B w' R ps p r T) := by
  have sp := unhide h
  obtain ⟨eL, nd⟩ := unhide hL
  refine (runtil_any Q w r L o.conn sp.sd.ra).mono ?_
  rintro e w' ⟨rfl, rfl⟩
  obtain ⟨rfl, rfl⟩ := unhide hv
  have sp' := sp
  rw [eL] at sp'
  obtain ⟨c0, c1, c2, c3, c4, c5, c6, c7⟩ := Sp.cs sp' hj
  refine ⟨?_, c0, c1, c2, c3, c4, c5, c6, c7, hide ⟨P, Q, T, E, sp'.sd, sp'.fr, by omega, sp'.sub⟩⟩
  rw [eL, ← lookE_map]
  cases lookE E o.conn <;> rfl
theorem s_places (hj : Hid (j = o.pl.length)) (h : Hid (Sp w0 B R P Q w ps p r T E L bo o)) : Calls Try.prog 15 #[.pointer (some ⟨p, 0, none⟩), .int .i64 o.conn] w fun e w' => ∃ g n, e = .returned (.slice (some ⟨g, 0, none⟩) n n) ∧ w'.cell? ⟨ps, 0, none⟩ = some (.pointer (some ⟨p, 0, none⟩)) ∧ w'.cell? ⟨ps, 1, none⟩ = some (.pointer (some ⟨r, 0, none⟩)) ∧ w'.cell? ⟨bo, 0, none⟩ = some (.int .i64 o.on) ∧ w'.cell? ⟨bo, 1, none⟩ = some (.int .i64 o.act) ∧ w'.cell? ⟨bo, 2, none⟩ = some (.int .i64 o.conn) ∧ w'.cell? ⟨bo, 3, none⟩ = some (.int .i64 o.kind) ∧ w'.cell? ⟨bo, 4, none⟩ = some (.slice o.a j o.cap) ∧ w'.cell? ⟨bo, 5, none⟩ = some (.int .u64 (o.time : Nat)) ∧ Hid (PlsAt w' (some ⟨g, 0, none⟩) (((lookE E o.conn).map (·.x.places)).getD []) ∧ n = (((lookE E o.conn).map (·.x.places)).getD []).length) ∧ Hid (Sp w0 B R P Q w' ps p r T E L bo o) := by
  have h1 := unhide h
  obtain ⟨bw, bl, q⟩ := h1.sd.wa.ex
  refine (places_any P w p bw bl T E o.conn q h1.ok.conn).mono ?_
  rintro e w' ⟨rfl, H⟩
  obtain ⟨k1, k2⟩ := unhide H
  have sp := h1.below k2
  obtain ⟨c0, c1, c2, c3, c4, c5, c6, c7⟩ := Sp.cs sp hj
  exact ⟨_, _, rfl, c0, c1, c2, c3, c4, c5, c6, c7, hide ⟨k1.at, rfl⟩, hide sp⟩
theorem s_rplaces {g n : Nat} (hj : Hid (j = o.pl.length)) (hL : Hid (L = E.map (·.x) ∧ (L.map (·.conn)).Nodup)) (hv : Hid (PlsAt w (some ⟨g, 0, none⟩) (((lookE E o.conn).map (·.x.places)).getD []) ∧ n = (((lookE E o.conn).map (·.x.places)).getD []).length)) (h : Hid (Sp w0 B R P Q w ps p r T E L bo o)) : Calls Try.prog 18 #[.pointer (some ⟨r, 0, none⟩), .int .i64 o.conn] w fun e w' => ∃ a cap, e = .returned (.slice a n cap) ∧ w'.cell? ⟨ps, 0, none⟩ = some (.pointer (some ⟨p, 0, none⟩)) ∧ w'.cell? ⟨ps, 1, none⟩ = some (.pointer (some ⟨r, 0, none⟩)) ∧ w'.cell? ⟨bo, 0, none⟩ = some (.int .i64 o.on) ∧ w'.cell? ⟨bo, 1, none⟩ = some (.int .i64 o.act) ∧ w'.cell? ⟨bo, 2, none⟩ = some (.int .i64 o.conn) ∧ w'.cell? ⟨bo, 3, none⟩ = some (.int .i64 o.kind) ∧ w'.cell? ⟨bo, 4, none⟩ = some (.slice o.a j o.cap) ∧ w'.cell? ⟨bo, 5, none⟩ = some (.int .u64 (o.time : Nat)) ∧ Hid (∃ l : List Pl, PlsAt w' (some ⟨g, 0, none⟩) l ∧ PlsAt w' a l ∧ n = l.length ∧ n ≤ 1000000) ∧ Hid (Sp w0 B R P Q w' ps p r T E L bo o) := by
  have sp := unhide h
  obtain ⟨eL, nd⟩ := unhide hL
  obtain ⟨d1, d2⟩ := unhide hv
  refine (rplaces_any Q w r L o.conn sp.sd.ra).mono ?_
  rintro e w' ⟨v, rfl, H⟩
  obtain ⟨s1, s2⟩ := unhide H
  have hq : ((lookW L o.conn).map (·.places)).getD [] = ((lookE E o.conn).map (·.x.places)).getD [] := by
    rw [eL, ← lookE_map]
    cases lookE E o.conn <;> rfl
  rw [hq] at s1
  obtain ⟨a, cap, rfl, hi, -⟩ := PlsO.at (Q := fun _ => True) ⟨ownsRow_zero s1, fun _ _ => trivial⟩
  have sp' := sp.below s2
  obtain ⟨c0, c1, c2, c3, c4, c5, c6, c7⟩ := Sp.cs sp' hj
  have hle : (((lookE E o.conn).map (·.x.places)).getD []).length ≤ 1000000 := by
    cases hh : lookE E o.conn with
    | none => exact Nat.zero_le _
    | some x =>
      obtain ⟨bw, bl, q⟩ := sp.sd.wa.ex
      have := (q.ok x (List.mem_of_find?_eq_some hh)).many.2
      show x.x.places.length ≤ 1000000
      omega
  exact ⟨a, cap, by rw [d2], c0, c1, c2, c3, c4, c5, c6, c7, hide ⟨_, d1.below s2, hi, d2, by omega⟩, hide sp'⟩
theorem s_same {g n cap : Nat} {a : Option Addr} (hv : Hid (∃ l : List Pl, PlsAt w (some ⟨g, 0, none⟩) l ∧ PlsAt w a l ∧ n = l.length ∧ n ≤ 1000000)) (hj : Hid (j = o.pl.length)) (hL : Hid (L = E.map (·.x))) (h : Hid (Sp w0 B R P Q w ps p r T E L bo o)) : Calls Try.prog 14 #[.slice (some ⟨g, 0, none⟩) n n, .slice a n cap] w fun e w' => e = .returned (.bool true) ∧ w'.cell? ⟨ps, 0, none⟩ = some (.pointer (some ⟨p, 0, none⟩)) ∧ w'.cell? ⟨ps, 1, none⟩ = some (.pointer (some ⟨r, 0, none⟩)) ∧ w'.cell? ⟨bo, 0, none⟩ = some (.int .i64 o.on) ∧ w'.cell? ⟨bo, 1, none⟩ = some (.int .i64 o.act) ∧ w'.cell? ⟨bo, 2, none⟩ = some (.int .i64 o.conn) ∧ w'.cell? ⟨bo, 3, none⟩ = some (.int .i64 o.kind) ∧ w'.cell? ⟨bo, 4, none⟩ = some (.slice o.a j o.cap) ∧ w'.cell? ⟨bo, 5, none⟩ = some (.int .u64 (o.time : Nat)) ∧ Hid (PlEnd w0 B w' R ps p r T) := by
  obtain ⟨l, l1, l2, l3, l4⟩ := unhide hv
  refine (same_any w _ a n n cap l l1 l2 l3 l4).mono ?_
  rintro e w' ⟨rfl, H⟩
  have sp := (unhide h).below (unhide H)
  obtain ⟨c0, c1, c2, c3, c4, c5, c6, c7⟩ := Sp.cs sp hj
  obtain rfl := unhide hL
  exact ⟨rfl, c0, c1, c2, c3, c4, c5, c6, c7, hide ⟨P, Q, T, E, sp.sd, sp.fr, by omega, sp.sub⟩⟩
theorem s_waiting (hj : Hid (j = o.pl.length)) (h : Hid (Sp w0 B R P Q w ps p r T E L bo o)) : Calls Try.prog 17 #[.pointer (some ⟨p, 0, none⟩)] w fun e w' => ∃ g n, e = .returned (.slice (some ⟨g, 0, none⟩) n n) ∧ w'.cell? ⟨ps, 0, none⟩ = some (.pointer (some ⟨p, 0, none⟩)) ∧ w'.cell? ⟨ps, 1, none⟩ = some (.pointer (some ⟨r, 0, none⟩)) ∧ w'.cell? ⟨bo, 0, none⟩ = some (.int .i64 o.on) ∧ w'.cell? ⟨bo, 1, none⟩ = some (.int .i64 o.act) ∧ w'.cell? ⟨bo, 2, none⟩ = some (.int .i64 o.conn) ∧ w'.cell? ⟨bo, 3, none⟩ = some (.int .i64 o.kind) ∧ w'.cell? ⟨bo, 4, none⟩ = some (.slice o.a j o.cap) ∧ w'.cell? ⟨bo, 5, none⟩ = some (.int .u64 (o.time : Nat)) ∧ Hid (RowI w' g (E.map (·.x.conn)) ∧ n = E.length) ∧ Hid (Sp w0 B R P Q w' ps p r T E L bo o) := by
  have h1 := unhide h
  refine (wa_waiting w0 P w p T E h1.sd.wa).mono ?_
  rintro e w' ⟨g, n, rfl, H⟩
  obtain ⟨k2, k3, k4, k5, k6⟩ := unhide H
  have sp := h1.below k6
  obtain ⟨c0, c1, c2, c3, c4, c5, c6, c7⟩ := Sp.cs sp hj
  exact ⟨g, n, rfl, c0, c1, c2, c3, c4, c5, c6, c7, hide ⟨k2, k3⟩, hide sp⟩
theorem s_rwaiting {g n : Nat} (hj : Hid (j = o.pl.length)) (hL : Hid (L = E.map (·.x) ∧ (L.map (·.conn)).Nodup)) (hv : Hid (RowI w g (E.map (·.x.conn)) ∧ n = E.length)) (h : Hid (Sp w0 B R P Q w ps p r T E L bo o)) : Calls Try.prog 21 #[.pointer (some ⟨r, 0, none⟩)] w fun e w' => ∃ a cap, e = .returned (.slice a n cap) ∧ w'.cell? ⟨ps, 0, none⟩ = some (.pointer (some ⟨p, 0, none⟩)) ∧ w'.cell? ⟨ps, 1, none⟩ = some (.pointer (some ⟨r, 0, none⟩)) ∧ w'.cell? ⟨bo, 0, none⟩ = some (.int .i64 o.on) ∧ w'.cell? ⟨bo, 1, none⟩ = some (.int .i64 o.act) ∧ w'.cell? ⟨bo, 2, none⟩ = some (.int .i64 o.conn) ∧ w'.cell? ⟨bo, 3, none⟩ = some (.int .i64 o.kind) ∧ w'.cell? ⟨bo, 4, none⟩ = some (.slice o.a j o.cap) ∧ w'.cell? ⟨bo, 5, none⟩ = some (.int .u64 (o.time : Nat)) ∧ Hid (∃ l : List Nat, IsI w' (some ⟨g, 0, none⟩) l ∧ IsI w' a l ∧ n = l.length ∧ n ≤ 1000000) ∧ Hid (Sp w0 B R P Q w' ps p r T E L bo o) := by
  have sp := unhide h
  obtain ⟨eL, nd⟩ := unhide hL
  obtain ⟨d2, d3⟩ := unhide hv
  refine (rwaiting_any Q w r L sp.sd.ra).mono ?_
  rintro e w' ⟨v, rfl, H⟩
  obtain ⟨s2, s3⟩ := unhide H
  obtain ⟨a, cap, rfl, hi⟩ := own_ints s2
  have hm : L.map (·.conn) = E.map (·.x.conn) := by rw [eL, List.map_map]; rfl
  rw [hm] at hi
  have hn : L.length = E.length := by rw [eL, List.length_map]
  have sp' := sp.below s3
  obtain ⟨c0, c1, c2, c3, c4, c5, c6, c7⟩ := Sp.cs sp' hj
  have hf := sp.sd.wa.few8
  exact ⟨a, cap, by rw [hn, d3], c0, c1, c2, c3, c4, c5, c6, c7, hide ⟨_, (RowI.is ((s3.block _ (blk_lt d2)).trans d2)), hi, by rw [List.length_map]; exact d3, by omega⟩, hide sp'⟩
end
end Go.Proofs.Ytfebiemfmiahhab
