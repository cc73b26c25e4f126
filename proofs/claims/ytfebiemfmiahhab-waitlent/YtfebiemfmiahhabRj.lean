/- WaitLent: the calls that only tell, over the law's state. -/
import Derived.Test.YtfebiemfmiahhabRi
namespace Go.Proofs.Ytfebiemfmiahhab
open Go.ChangeShapes Go.WideShapes Go.ChangeAt Go.RowKit Go.Maps
set_option linter.unusedVariables false
set_option linter.unusedSimpArgs false
set_option maxRecDepth 100000
set_option maxHeartbeats 8000000
/-- the state and the step that is being played, in a box of its own -/
structure LT (w0 W : World) (X : Nat → Nat) (ps p r T : Nat) (E : List En) (D : LD) (bo : Nat) (o : Ol) : Prop where
  ls : LS w0 W X ps p r T E D
  bk : OpBk W bo o
  xo : X bo = 8
  ok : OlOk w0 o
/-- the places of the one who asks -/
def plOf (E : List En) (c : Int) : List Pl := ((lookE E c).map (·.x.places)).getD []
section
variable {w0 W : World} {X : Nat → Nat} {ps p r T bo : Nat} {E : List En} {D : LD} {o : Ol}
theorem LT.below {W' : World} (h : LT w0 W X ps p r T E D bo o) (hb : Below W.heap.size W W') : LT w0 W' X ps p r T E D bo o :=
  ⟨h.ls.below hb, h.bk.below hb, h.xo, h.ok⟩
theorem LT.cs (h : LT w0 W X ps p r T E D bo o) : W.cell? ⟨ps, 0, none⟩ = some (.pointer (some ⟨p, 0, none⟩)) ∧ W.cell? ⟨ps, 1, none⟩ = some (.pointer (some ⟨r, 0, none⟩)) ∧ W.cell? ⟨bo, 2, none⟩ = some (.int .i64 o.conn) ∧ W.cell? ⟨bo, 5, none⟩ = some (.int .u64 (o.time : Nat)) := by
  obtain ⟨P, Q, s, -⟩ := h.ls.sd
  obtain ⟨a, b, c, d, e, f⟩ := h.bk.cells
  exact ⟨cell_blk s.cell 0, cell_blk s.cell 1, c, f⟩
theorem LT.two (h : LT w0 W X ps p r T E D bo o) : (E.map (·.x.conn)).Nodup ∧ E.Pairwise (fun a b => a.turn < b.turn) ∧ E.length ≤ 8 ∧ ∀ e ∈ E, WOk e.x := by
  obtain ⟨P, Q, s, -⟩ := h.ls.sd
  obtain ⟨bw, bl, q⟩ := s.wa.ex
  exact ⟨q.nd, q.inc, s.wa.few8, q.ok⟩
theorem plOf_len (h : LT w0 W X ps p r T E D bo o) (c : Int) : (plOf E c).length ≤ 64 := by
  unfold plOf
  cases hh : lookE E c with
  | none => exact Nat.zero_le _
  | some x => exact (h.two.2.2.2 x (List.mem_of_find?_eq_some hh)).many.2
theorem lt_places (h : LT w0 W X ps p r T E D bo o) :
    Calls Try.prog 15 #[.pointer (some ⟨p, 0, none⟩), .int .i64 o.conn] W fun e w' => ∃ g n, e = .returned (.slice (some ⟨g, 0, none⟩) n n) ∧ Hid (RowP w' g (plOf E o.conn) ∧ n = (plOf E o.conn).length ∧ W.heap.size ≤ g ∧ Below W.heap.size W w' ∧ LT w0 w' X ps p r T E D bo o) := by
  obtain ⟨P, Q, s, -⟩ := h.ls.sd
  obtain ⟨bw, bl, q⟩ := s.wa.ex
  refine (places_any P W p bw bl T E o.conn q h.ok.conn).mono ?_
  rintro e w' ⟨rfl, H⟩
  obtain ⟨k1, k2⟩ := unhide H
  exact ⟨_, _, rfl, hide ⟨k1, rfl, Nat.le_refl _, k2, h.below k2⟩⟩
theorem lt_due (h : LT w0 W X ps p r T E D bo o) :
    Calls Try.prog 16 #[.pointer (some ⟨p, 0, none⟩), .int .u64 (o.time : Nat)] W fun e w' => ∃ g n, e = .returned (.slice (some ⟨g, 0, none⟩) n n) ∧ Hid (∃ F, DueIs E o.time F ∧ RowI w' g (F.map (·.x.conn)) ∧ n = F.length ∧ n ≤ 8 ∧ W.heap.size ≤ g ∧ Below W.heap.size W w' ∧ LT w0 w' X ps p r T E D bo o) := by
  obtain ⟨P, Q, s, -⟩ := h.ls.sd
  refine (wa_due w0 P W p T o.time E s.wa).mono ?_
  rintro e w' ⟨g, n, rfl, H⟩
  obtain ⟨F, k1, k2, k3, k4, k5, k6⟩ := unhide H
  have hle : F.length ≤ E.length := by rw [k1.perm.length_eq]; exact List.length_filter_le _ _
  exact ⟨g, n, rfl, hide ⟨F, k1, k2, k3, by have := h.two.2.2.1; omega, k4, k6, h.below k6⟩⟩
theorem lt_waiting (h : LT w0 W X ps p r T E D bo o) :
    Calls Try.prog 17 #[.pointer (some ⟨p, 0, none⟩)] W fun e w' => ∃ g n, e = .returned (.slice (some ⟨g, 0, none⟩) n n) ∧ Hid (RowI w' g (E.map (·.x.conn)) ∧ n = E.length ∧ n ≤ 8 ∧ W.heap.size ≤ g ∧ Below W.heap.size W w' ∧ LT w0 w' X ps p r T E D bo o) := by
  obtain ⟨P, Q, s, -⟩ := h.ls.sd
  refine (wa_waiting w0 P W p T E s.wa).mono ?_
  rintro e w' ⟨g, n, rfl, H⟩
  obtain ⟨k1, k2, k3, k4, k5⟩ := unhide H
  exact ⟨g, n, rfl, hide ⟨k1, k2, by have := h.two.2.2.1; omega, k3, k5, h.below k5⟩⟩
theorem lt_rplaces (h : LT w0 W X ps p r T E D bo o) :
    Calls Try.prog 18 #[.pointer (some ⟨r, 0, none⟩), .int .i64 o.conn] W fun e w' => ∃ a n cap, e = .returned (.slice a n cap) ∧ Hid (PlsAt w' a (plOf E o.conn) ∧ n = (plOf E o.conn).length ∧ Below W.heap.size W w' ∧ LT w0 w' X ps p r T E D bo o) := by
  obtain ⟨P, Q, s, -⟩ := h.ls.sd
  refine (rplaces_any Q W r (E.map (·.x)) o.conn s.ra).mono ?_
  rintro e w' ⟨v, rfl, H⟩
  obtain ⟨s1, s2⟩ := unhide H
  have hq : ((lookW (E.map (·.x)) o.conn).map (·.places)).getD [] = plOf E o.conn := by
    unfold plOf
    rw [← lookE_map]
    cases lookE E o.conn <;> rfl
  rw [hq] at s1
  obtain ⟨a, cap, rfl, hi, -⟩ := PlsO.at (Q := fun _ => True) ⟨ownsRow_zero s1, fun _ _ => trivial⟩
  exact ⟨a, _, cap, rfl, hide ⟨hi, rfl, s2, h.below s2⟩⟩
theorem lt_rdue (h : LT w0 W X ps p r T E D bo o) {F : List En} (hF : DueIs E o.time F) :
    Calls Try.prog 20 #[.pointer (some ⟨r, 0, none⟩), .int .u64 (o.time : Nat)] W fun e w' => ∃ a n cap, e = .returned (.slice a n cap) ∧ Hid (IsI w' a (F.map (·.x.conn)) ∧ n = F.length ∧ Below W.heap.size W w' ∧ LT w0 w' X ps p r T E D bo o) := by
  obtain ⟨P, Q, s, -⟩ := h.ls.sd
  refine (rdue_any Q W r o.time (E.map (·.x)) s.ra).mono ?_
  rintro e w' ⟨v, rfl, H⟩
  obtain ⟨S, s1, s2, s3⟩ := unhide H
  obtain ⟨F', f1, f2⟩ := s1.is h.two.2.1
  obtain rfl := f1.one h.two.2.1 hF
  obtain ⟨a, cap, rfl, hi⟩ := own_ints s2
  rw [← f2] at hi
  have hn : S.length = F'.length := by have := congrArg List.length f2; simpa using this.symm
  exact ⟨a, _, cap, rfl, hide ⟨hi, hn, s3, h.below s3⟩⟩
theorem lt_rwaiting (h : LT w0 W X ps p r T E D bo o) :
    Calls Try.prog 21 #[.pointer (some ⟨r, 0, none⟩)] W fun e w' => ∃ a n cap, e = .returned (.slice a n cap) ∧ Hid (IsI w' a (E.map (·.x.conn)) ∧ n = E.length ∧ Below W.heap.size W w' ∧ LT w0 w' X ps p r T E D bo o) := by
  obtain ⟨P, Q, s, -⟩ := h.ls.sd
  refine (rwaiting_any Q W r (E.map (·.x)) s.ra).mono ?_
  rintro e w' ⟨v, rfl, H⟩
  obtain ⟨s1, s2⟩ := unhide H
  obtain ⟨a, cap, rfl, hi⟩ := own_ints s1
  have e2 : (E.map (·.x)).map (·.conn) = E.map (·.x.conn) := by rw [List.map_map]; rfl
  rw [e2] at hi
  exact ⟨a, _, cap, rfl, hide ⟨hi, by rw [List.length_map], s2, h.below s2⟩⟩
theorem lt_same (h : LT w0 W X ps p r T E D bo o) {a a' : Option Addr} {n c c' : Nat} {l : List Pl} (h1 : PlsAt W a l) (h2 : PlsAt W a' l) (hn : n = l.length) (hn2 : n ≤ 1000000) :
    Calls Try.prog 14 #[.slice a n c, .slice a' n c'] W fun e w' => e = .returned (.bool true) ∧ Hid (Below W.heap.size W w' ∧ LT w0 w' X ps p r T E D bo o) := by
  refine (same_any W a a' n c c' l h1 h2 hn hn2).mono ?_
  rintro e w' ⟨rfl, H⟩
  exact ⟨rfl, hide ⟨unhide H, h.below (unhide H)⟩⟩
theorem lt_ints (h : LT w0 W X ps p r T E D bo o) {a a' : Option Addr} {n c c' : Nat} {l : List Nat} (h1 : IsI W a l) (h2 : IsI W a' l) (hn : n = l.length) (hn2 : n ≤ 1000000) :
    Calls Try.prog 19 #[.slice a n c, .slice a' n c'] W fun e w' => e = .returned (.bool true) ∧ Hid (Below W.heap.size W w' ∧ LT w0 w' X ps p r T E D bo o) := by
  refine (ints_same W a a' n c c' l h1 h2 hn hn2).mono ?_
  rintro e w' ⟨rfl, H⟩
  exact ⟨rfl, hide ⟨unhide H, h.below (unhide H)⟩⟩
/-- a step played on both sides: the state goes on -/
theorem LT.played (h : LT w0 W X ps p r T E D bo o) {W' : World} {P Q : Nat → Prop} (hX : ∀ b, P b ∨ Q b → X b = 1) (k : PlEnd w0 W W' (fun b => P b ∨ Q b) ps p r T) : ∃ T' E', T' ≤ T + 1 ∧ LT w0 W' (upc X W W' 1) ps p r T' E' D bo o ∧ ∀ b x, X b = 9 → W.heap[b]? = some x → W'.heap[b]? = some x := by
  obtain ⟨P', Q', T', E', s, hf, ht, hs⟩ := k
  have hl : ∀ b, P' b ∨ Q' b → b < W'.heap.size := fun b z => z.elim (fun z => s.wa.lt b z) (fun z => s.ra.lt b z)
  have h1 := h.ls.sd1 hf hX s hs hl
  have hoff : ∀ b, X b ≠ 1 → ¬ (P b ∨ Q b) := fun b hb z => hb (hX b z)
  refine ⟨T', E', ht, ⟨h1, hf.row h.bk (hoff bo (by rw [h.xo]; omega)), h.ls.col h.xo (by omega), h.ok⟩, fun b x hb hx => hf.row hx (hoff b (by omega))⟩
end
end Go.Proofs.Ytfebiemfmiahhab
