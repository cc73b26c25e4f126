/- WaitLent: a list is marked, another waits for it. -/
import Derived.Test.YtfebiemfmiahhabRo
namespace Go.Proofs.Ytfebiemfmiahhab
open Go.ChangeShapes Go.WideShapes Go.ChangeAt Go.RowKit Go.Maps
set_option linter.unusedVariables false
set_option linter.unusedSimpArgs false
set_option maxRecDepth 100000
set_option maxHeartbeats 8000000
section
variable {w0 W W' : World} {ps p r : Nat} {D : LD} {i : Nat}
theorem Hd.below (h : Hd w0 W ps p r D i) (hb : Below W.heap.size W W') : Hd w0 W' ps p r D i := by
  obtain ⟨X, T, E, l, k, t⟩ := h
  exact ⟨X, T, E, l.below hb, k, t⟩
theorem Hd.drew (h : Hd w0 W ps p r D i) : Hd w0 W.drew ps p r D i := h.below ⟨rfl, rfl, rfl, Nat.le_refl _, fun _ _ => rfl⟩
theorem Hd.bel (h : Hd w0 W ps p r D i) : Below w0.heap.size w0 W := by
  obtain ⟨X, T, E, l, k, t⟩ := h
  exact l.bel
/-- a round that only compared -/
theorem Aw.skip {k t bo gf gl nl gd nd gn nn : Nat} {o : Ol} (h : Aw k w0 W ps p r D i t bo gf o gl nl gd nd gn nn) (ht : t ≤ i + 1) : Hd w0 W ps p r D (i + 1) := by
  obtain ⟨X, T, E, F, a⟩ := h
  exact ⟨X, T, E, a.lt.ls, a.li.up, by have := a.tt; omega⟩
theorem Aw.few {t bo gf gl nl gd nd gn nn : Nat} {o : Ol} (h : Aw 3 w0 W ps p r D i t bo gf o gl nl gd nd gn nn) : nl ≤ 64 ∧ nd ≤ 8 ∧ nn ≤ 8 := by
  obtain ⟨X, T, E, F, a⟩ := h
  refine ⟨?_, (a.s2 (by omega)).2.2.2.1, (a.s3 (by omega)).2.2.1⟩
  rw [(a.s1 (by omega)).2.1]
  exact plOf_len a.lt o.conn
/-- the program's answer at hand -/
def Hw (w0 W : World) (ps p r : Nat) (D : LD) (i g n : Nat) : Prop := ∃ X T E, LS w0 W X ps p r T E D ∧ LI D i ∧ T ≤ i ∧ RowI W g (E.map (·.x.conn)) ∧ n = E.length ∧ n ≤ 8
def Hr (w0 W : World) (ps p r : Nat) (D : LD) (i g n : Nat) (a : Option Addr) : Prop := ∃ X T E, LS w0 W X ps p r T E D ∧ LI D i ∧ T ≤ i ∧ RowI W g (E.map (·.x.conn)) ∧ n = E.length ∧ n ≤ 8 ∧ IsI W a (E.map (·.x.conn))
theorem hd_waiting (h : Hid (Hd w0 W ps p r D i)) :
    Calls Try.prog 17 #[.pointer (some ⟨p, 0, none⟩)] W fun e w' => ∃ g n, e = .returned (.slice (some ⟨g, 0, none⟩) n n) ∧ w'.cell? ⟨ps, 0, none⟩ = some (.pointer (some ⟨p, 0, none⟩)) ∧ w'.cell? ⟨ps, 1, none⟩ = some (.pointer (some ⟨r, 0, none⟩)) ∧ Hid (Hw w0 w' ps p r D i g n) := by
  have h0 := unhide h
  obtain ⟨X, T, E, l, k, t⟩ := unhide h
  obtain ⟨P, Q, s, -⟩ := l.sd
  refine (wa_waiting w0 P W p T E s.wa).mono ?_
  rintro e w' ⟨g, n, rfl, H⟩
  obtain ⟨k1, k2, k3, k4, k5⟩ := unhide H
  obtain ⟨c0, c1⟩ := (h0.below k5).cells
  exact ⟨g, n, rfl, c0, c1, hide ⟨X, T, E, l.below k5, k, t, k1, k2, by have := s.wa.few8; omega⟩⟩
theorem hd_rwaiting {g n : Nat} (h : Hid (Hw w0 W ps p r D i g n)) :
    Calls Try.prog 21 #[.pointer (some ⟨r, 0, none⟩)] W fun e w' => ∃ a cap, e = .returned (.slice a n cap) ∧ w'.cell? ⟨ps, 0, none⟩ = some (.pointer (some ⟨p, 0, none⟩)) ∧ w'.cell? ⟨ps, 1, none⟩ = some (.pointer (some ⟨r, 0, none⟩)) ∧ Hid (Hr w0 w' ps p r D i g n a) := by
  obtain ⟨X, T, E, l, k, t, m1, m2, m3⟩ := unhide h
  obtain ⟨P, Q, s, -⟩ := l.sd
  refine (rwaiting_any Q W r (E.map (·.x)) s.ra).mono ?_
  rintro e w' ⟨v, rfl, H⟩
  obtain ⟨s1, s2⟩ := unhide H
  obtain ⟨a, cap, rfl, hi⟩ := own_ints s1
  have e2 : (E.map (·.x)).map (·.conn) = E.map (·.x.conn) := by rw [List.map_map]; rfl
  rw [e2] at hi
  obtain ⟨c0, c1⟩ := Hd.cells (i := i) ⟨X, T, E, l.below s2, k, t⟩
  exact ⟨a, cap, by rw [List.length_map, m2], c0, c1, hide ⟨X, T, E, l.below s2, k, t, (s2.block _ (blk_lt m1)).trans m1, m2, m3, hi⟩⟩
theorem hd_ints {g n cap : Nat} {a : Option Addr} (h : Hid (Hr w0 W ps p r D i g n a)) :
    Calls Try.prog 19 #[.slice (some ⟨g, 0, none⟩) n n, .slice a n cap] W fun e w' => e = .returned (.bool true) ∧ w'.cell? ⟨ps, 0, none⟩ = some (.pointer (some ⟨p, 0, none⟩)) ∧ w'.cell? ⟨ps, 1, none⟩ = some (.pointer (some ⟨r, 0, none⟩)) ∧ Hid (Hd w0 w' ps p r D i) := by
  obtain ⟨X, T, E, l, k, t, m1, m2, m3, m4⟩ := unhide h
  refine (ints_same W _ a n n cap _ (RowI.is m1) m4 (by rw [List.length_map]; exact m2) (by omega)).mono ?_
  rintro e w' ⟨rfl, H⟩
  have q : Hd w0 w' ps p r D i := ⟨X, T, E, l.below (unhide H), k, t⟩
  exact ⟨rfl, q.cells.1, q.cells.2, hide q⟩
theorem hd_kept (hi : i ≤ 60) (h : Hid (Hd w0 W ps p r D i)) :
    Calls Try.prog 24 #[.slice D.aa D.na D.ac, .slice D.ma D.mn D.mc, .slice D.ba D.nb D.bc, .slice D.ca D.nn D.nc] W fun e w' => e = .returned (.bool true) ∧ w'.cell? ⟨ps, 0, none⟩ = some (.pointer (some ⟨p, 0, none⟩)) ∧ w'.cell? ⟨ps, 1, none⟩ = some (.pointer (some ⟨r, 0, none⟩)) ∧ Hid (Hd w0 w' ps p r D i) := by
  obtain ⟨X, T, E, l, k, t⟩ := unhide h
  refine (ls_kept l k hi).mono ?_
  rintro e w' ⟨rfl, H⟩
  have q : Hd w0 w' ps p r D i := ⟨X, T, E, (unhide H).2, k, t⟩
  exact ⟨rfl, q.cells.1, q.cells.2, hide q⟩
end
end Go.Proofs.Ytfebiemfmiahhab
namespace Go.Proofs.Ytfebiemfmiahhab
open Go.ChangeShapes Go.WideShapes Go.ChangeAt Go.RowKit Go.Maps
set_option linter.unusedVariables false
set_option linter.unusedSimpArgs false
set_option maxRecDepth 100000
set_option maxHeartbeats 8000000
section
variable {w0 W W' : World} {X : Nat → Nat} {ps p r T : Nat} {E : List En} {D : LD} {f : Nat → Value}
/-- a block of colour 9 waits: no step of another colour touches it -/
theorem Ch.pend {k : Nat} (hc : Ch X k W W') (h9 : k ≠ 9) {g : Nat} {x : Obj} (hx : X g = 9) (hg : W.heap[g]? = some x) : upc X W W' k g = 9 ∧ W'.heap[g]? = some x :=
  ⟨by rw [upc_old (blk_lt'' hg)]; exact hx, by rw [hc.block g (blk_lt'' hg) (by omega)]; exact hg⟩
theorem mk_ch (h : LS w0 W X ps p r T E D) {c : List Value} {a : Option Addr} {n cap : Nat} {e : Ending} (hv : ∀ g, (Value.slice a n cap).ownBlock = some g → X g = 2) (k : MkEnd W 46 38 2 w0.heap.size D.A c (.slice a n cap) n e W') : Ch X 2 W W' := by
  obtain ⟨g, e1, H⟩ := k
  obtain ⟨x2, x3, x4, x5, k1, k2, k3, k4, k5, k6⟩ := unhide H
  refine ⟨k4.os, k4.tape, k4.output, k4.size, fun b hb hn => k4.block b hb (fun x hx e => hn ?_)⟩
  rcases List.mem_append.1 hx with q | q
  · exact h.xa x q b e
  · rw [List.mem_singleton.1 q] at e; exact hv b e
theorem nb_ch (h : LS w0 W X ps p r T E D) {c : List Value} {a : Option Addr} {n cap : Nat} {e : Ending} (hv : ∀ g, (Value.slice a n cap).ownBlock = some g → X g = 3) (k : MkEnd W 3 51 1 w0.heap.size D.B c (.slice a n cap) n e W') : Ch X 3 W W' := by
  obtain ⟨g, e1, H⟩ := k
  obtain ⟨x2, x3, x4, x5, k1, k2, k3, k4, k5, k6⟩ := unhide H
  refine ⟨k4.os, k4.tape, k4.output, k4.size, fun b hb hn => k4.block b hb (fun x hx e => hn ?_)⟩
  rcases List.mem_append.1 hx with q | q
  · exact h.xb x q b e
  · rw [List.mem_singleton.1 q] at e; exact hv b e
theorem pnt_else {g k b : Nat} (h : b ≠ g) : pnt X g k b = X b := by unfold pnt; rw [if_neg h]
/-- a list whose block waited is marked and joins the lists of places -/
theorem ls_mark (h : LS w0 W X ps p r T E D) {g n cap : Nat} (hg : X g = 0 ∨ 9 ≤ X g) (hr : Rws W 46 2 (.slice (some ⟨g, 0, none⟩) n cap) n f) (hge : w0.heap.size ≤ g) (hn : n ≤ 100000) (m : Pl) :
    Calls Try.prog 22 #[.slice (some ⟨g, 0, none⟩) n cap, .agg #[.int .i64 m.1, .string (bs m.2)]] W fun e w' => ∃ g', e = .returned (.slice (some ⟨g', 0, none⟩) 5 5) ∧ Hid (∃ X' M, M.length = 5 ∧ (∀ y ∈ M, y.c = [.int .i64 m.1, .string (bs m.2)] ∧ y.n ≤ n + 80 ∧ ∃ a cap, y.v = .slice a y.n cap) ∧ LS w0 w' X' ps p r T E { D with A := D.A ++ M } ∧ (∀ j x, (M.map (·.v))[j]? = some x → w'.cell? ⟨g', j, none⟩ = some x) ∧ ∀ b x, b ≠ g → X b = 9 → W.heap[b]? = some x → X' b = 9 ∧ w'.heap[b]? = some x) := by
  have hl := hr.lt g rfl
  have h2 := h.paint (k := 2) hg ⟨hl, hge⟩
  have hv : ∀ b, (Value.slice (some ⟨g, 0, none⟩) n cap).ownBlock = some b → pnt X g 2 b = 2 := fun b hb => by cases hb; exact pnt_self
  refine (marked_any W w0.heap.size D.A _ n cap m f h.bel.size h.ka hr (fun b hb => by cases hb; exact ⟨hge, (h.newblk hg).1⟩) hn).mono ?_
  intro e w' k
  obtain ⟨g', e1, H⟩ := h2.marked hv k
  obtain ⟨M, a, b, c, d⟩ := unhide H
  refine ⟨g', e1, hide ⟨_, M, a, b, c, d, fun b x hb hx hbx => (mk_ch h2 hv k).pend (by omega) ?_ hbx⟩⟩
  rw [pnt_else hb]; exact hx
theorem ls_number (h : LS w0 W X ps p r T E D) {g n cap : Nat} (hg : X g = 0 ∨ 9 ≤ X g) (hr : Rws W 3 1 (.slice (some ⟨g, 0, none⟩) n cap) n f) (hge : w0.heap.size ≤ g) (hn : n ≤ 100000) (m : Int) :
    Calls Try.prog 23 #[.slice (some ⟨g, 0, none⟩) n cap, .int .i64 m] W fun e w' => ∃ g', e = .returned (.slice (some ⟨g', 0, none⟩) 5 5) ∧ Hid (∃ X' M, M.length = 5 ∧ (∀ y ∈ M, y.c = [.int .i64 m] ∧ y.n ≤ n + 80 ∧ ∃ a cap, y.v = .slice a y.n cap) ∧ LS w0 w' X' ps p r T E { D with B := D.B ++ M } ∧ (∀ j x, (M.map (·.v))[j]? = some x → w'.cell? ⟨g', j, none⟩ = some x) ∧ ∀ b x, b ≠ g → X b = 9 → W.heap[b]? = some x → X' b = 9 ∧ w'.heap[b]? = some x) := by
  have hl := hr.lt g rfl
  have h2 := h.paint (k := 3) hg ⟨hl, hge⟩
  have hv : ∀ b, (Value.slice (some ⟨g, 0, none⟩) n cap).ownBlock = some b → pnt X g 3 b = 3 := fun b hb => by cases hb; exact pnt_self
  refine (numbered_any W w0.heap.size D.B _ n cap m f h.bel.size h.kb hr (fun b hb => by cases hb; exact ⟨hge, (h.newblk hg).2⟩) hn).mono ?_
  intro e w' k
  obtain ⟨g', e1, H⟩ := h2.numbered hv k
  obtain ⟨M, a, b, c, d⟩ := unhide H
  refine ⟨g', e1, hide ⟨_, M, a, b, c, d, fun b x hb hx hbx => (nb_ch h2 hv k).pend (by omega) ?_ hbx⟩⟩
  rw [pnt_else hb]; exact hx
/-- lists that a block holds whole -/
theorem RowP.rws {g : Nat} {l : List Pl} (h : RowP W g l) (hl : l.length ≤ 100000) : Rws W 46 2 (.slice (some ⟨g, 0, none⟩) l.length l.length) l.length (fun k => (l.flatMap plC).getD k undef) :=
  .inr ⟨g, _, _, rfl, h, Nat.le_refl _, by simp only [maxLen]; omega, by rw [List.size_toArray, flatP_len], fun k hk => by rw [List.getElem?_toArray]; show _ = some (List.getD _ k undef); rw [List.getD_eq_getElem?_getD, List.getElem?_eq_getElem (by rw [flatP_len]; exact hk)]; rfl⟩
theorem RowI.rws {g : Nat} {l : List Nat} (h : RowI W g l) (hl : l.length ≤ 100000) : Rws W 3 1 (.slice (some ⟨g, 0, none⟩) l.length l.length) l.length (fun k => (l.map (fun c => Value.int .i64 (c : Nat))).getD k undef) :=
  .inr ⟨g, _, _, rfl, h, Nat.le_refl _, by simp only [maxLen]; omega, by simp, fun k hk => by rw [List.getElem?_toArray]; show _ = some (List.getD _ k undef); rw [List.getD_eq_getElem?_getD, List.getElem?_eq_getElem (by rw [List.length_map]; omega)]; rfl⟩
theorem Blk.rws {g n : Nat} {l : List Pl} {sp : List Value} (h : Blk W g (n + 1) (l.flatMap plC ++ sp)) (hn : n = l.length) (hl : n ≤ 100000) : Rws W 46 2 (.slice (some ⟨g, 0, none⟩) n (n + 1)) n (fun k => (l.flatMap plC).getD k undef) := by
  subst hn
  obtain ⟨cur, a, b, c⟩ := h
  refine .inr ⟨g, _, cur, rfl, a, Nat.le_succ _, by simp only [maxLen]; omega, b, fun k hk => c k _ ?_⟩
  have hk' : k < (l.flatMap plC).length := by rw [flatP_len]; exact hk
  show _ = some (List.getD _ k undef)
  rw [List.getElem?_append_left hk', List.getD_eq_getElem?_getD, List.getElem?_eq_getElem hk']
  rfl
end
end Go.Proofs.Ytfebiemfmiahhab
