/- WaitLent: lentHeld: how the lists and their marks go together; what is asked at the end. -/
import Derived.Test.YtfebiemfmiahhabSf
namespace Go.Proofs.Ytfebiemfmiahhab
open Go.ChangeShapes Go.WideShapes Go.ChangeAt Go.RowKit Go.Maps
set_option linter.unusedVariables false
set_option linter.unusedSimpArgs false
set_option maxRecDepth 100000
set_option maxHeartbeats 8000000
/-- five lists a mark -/
structure RI (R : List Ent) (CA : List (List Value)) (i : Nat) : Prop where
  len : R.length = 5 * i
  cl : CA.length = i
  ra : ∀ j x, R[j]? = some x → CA[j / 5]? = some x.c
  sa : ∀ x ∈ R, (∃ a cap, x.v = .slice a x.n cap) ∧ x.n ≤ 200000
theorem RI.nil : RI [] [] 0 := ⟨rfl, rfl, fun j x hx => (by cases hx), fun x hx => (by cases hx)⟩
theorem RI.more {R M : List Ent} {CA : List (List Value)} {i n : Nat} {c : List Value} (h : RI R CA i) (hm : Five M c n) (hn : n ≤ 100000) : RI (R ++ M) (CA ++ [c]) (i + 1) := by
  have h1 := h.len
  have h2 := h.cl
  refine ⟨by rw [List.length_append, h1, hm.1]; omega, by rw [List.length_append, h2]; rfl, fun j x hx => ?_, fun x hx => ?_⟩
  · by_cases z : j < R.length
    · rw [List.getElem?_append_left z] at hx
      rw [List.getElem?_append_left (by omega)]
      exact h.ra j x hx
    · rw [List.getElem?_append_right (by omega)] at hx
      have hj : j - R.length < M.length := (List.getElem?_eq_some_iff.1 hx).1
      have h5 := hm.1
      have e : j / 5 = CA.length := by omega
      rw [e, List.getElem?_append_right (Nat.le_refl _), Nat.sub_self, (hm.2 x (List.mem_of_getElem? hx)).1]
      rfl
  · rcases List.mem_append.1 hx with q | q
    · exact h.sa x q
    · obtain ⟨-, z1, z2⟩ := hm.2 x q
      exact ⟨z2, by omega⟩
/-- the lists that are written full: a list of the waiting's answers, its mark -/
def Full (H : List LV) (mk : Nat → List Value) (i : Nat) (A : List Ent) : Prop := A.length = i ∧ ∀ j x, j < i → H[j]? = some x → A[j]? = some ⟨x.v, x.n, mk j⟩
theorem Full.nil {H : List LV} {mk : Nat → List Value} : Full H mk 0 [] := ⟨rfl, fun j x hj => by omega⟩
theorem Full.more {H : List LV} {mk : Nat → List Value} {i : Nat} {A : List Ent} {x : LV} {v : Value} {c : List Value} (h : Full H mk i A) (hx : H[i]? = some x) (hv : x.v = v) (hc : mk i = c) : Full H mk (i + 1) (A ++ [⟨v, x.n, c⟩]) := by
  subst hv
  subst hc
  refine ⟨by rw [List.length_append, h.1]; rfl, fun j y hj hy => ?_⟩
  by_cases z : j < i
  · rw [List.getElem?_append_left (by rw [h.1]; exact z)]
    exact h.2 j y z hy
  · obtain rfl : j = i := by omega
    rw [hx] at hy
    injection hy with hy
    rw [List.getElem?_append_right (by rw [h.1]; exact Nat.le_refl _), h.1, Nat.sub_self, ← hy]
    rfl
def mkP (j : Nat) : List Value := [.int .i64 ((1000 : Int) + (j : Int)), .string (bs [109, 97, 114, 107])]
def mkN (j : Nat) : List Value := [.int .i64 ((2000 : Int) + (j : Int))]
/-- the two Waits are there -/
def Ls (w0 W : World) (ps p r : Nat) : Prop := ∃ X T E D, LS w0 W X ps p r T E D
def Lw (w0 W : World) (ps p r g n : Nat) : Prop := ∃ X T E D, LS w0 W X ps p r T E D ∧ RowI W g (E.map (·.x.conn)) ∧ n = E.length ∧ n ≤ 8
def Lr (w0 W : World) (ps p r g n : Nat) (a : Option Addr) : Prop := ∃ X T E D, LS w0 W X ps p r T E D ∧ RowI W g (E.map (·.x.conn)) ∧ n = E.length ∧ n ≤ 8 ∧ IsI W a (E.map (·.x.conn))
section
variable {w0 V W W' : World} {ps p r : Nat} {D : LD} {i : Nat} {G : List Nat}
theorem Pk.ls (h : Pk w0 V W ps p r D i G) : Ls w0 W ps p r := by
  obtain ⟨X, T, E, a, b, c⟩ := h
  exact ⟨X, T, E, D, a⟩
theorem Ls.below (h : Ls w0 W ps p r) (hb : Below W.heap.size W W') : Ls w0 W' ps p r := by
  obtain ⟨X, T, E, D, a⟩ := h
  exact ⟨X, T, E, D, a.below hb⟩
theorem Ls.drew (h : Ls w0 W ps p r) : Ls w0 W.drew ps p r := h.below (below_drew1 W)
theorem Ls.bel (h : Ls w0 W ps p r) : Below w0.heap.size w0 W := by
  obtain ⟨X, T, E, D, a⟩ := h
  exact a.bel
theorem Ls.cells (h : Ls w0 W ps p r) : W.cell? ⟨ps, 0, none⟩ = some (.pointer (some ⟨p, 0, none⟩)) ∧ W.cell? ⟨ps, 1, none⟩ = some (.pointer (some ⟨r, 0, none⟩)) := by
  obtain ⟨X, T, E, D, a⟩ := h
  obtain ⟨P, Q, s, -⟩ := a.sd
  exact ⟨cell_blk s.cell 0, cell_blk s.cell 1⟩
theorem ls_waiting (h : Hid (Ls w0 W ps p r)) :
    Calls Try.prog 17 #[.pointer (some ⟨p, 0, none⟩)] W fun e w' => ∃ g n, e = .returned (.slice (some ⟨g, 0, none⟩) n n) ∧ w'.cell? ⟨ps, 0, none⟩ = some (.pointer (some ⟨p, 0, none⟩)) ∧ w'.cell? ⟨ps, 1, none⟩ = some (.pointer (some ⟨r, 0, none⟩)) ∧ Hid (Lw w0 w' ps p r g n) := by
  have h0 := unhide h
  obtain ⟨X, T, E, D, l⟩ := unhide h
  obtain ⟨P, Q, s, -⟩ := l.sd
  refine (wa_waiting w0 P W p T E s.wa).mono ?_
  rintro e w' ⟨g, n, rfl, H⟩
  obtain ⟨k1, k2, k3, k4, k5⟩ := unhide H
  obtain ⟨c0, c1⟩ := (h0.below k5).cells
  exact ⟨g, n, rfl, c0, c1, hide ⟨X, T, E, D, l.below k5, k1, k2, by have := s.wa.few8; omega⟩⟩
theorem ls_rwaiting {g n : Nat} (h : Hid (Lw w0 W ps p r g n)) :
    Calls Try.prog 21 #[.pointer (some ⟨r, 0, none⟩)] W fun e w' => ∃ a cap, e = .returned (.slice a n cap) ∧ w'.cell? ⟨ps, 0, none⟩ = some (.pointer (some ⟨p, 0, none⟩)) ∧ w'.cell? ⟨ps, 1, none⟩ = some (.pointer (some ⟨r, 0, none⟩)) ∧ Hid (Lr w0 w' ps p r g n a) := by
  obtain ⟨X, T, E, D, l, m1, m2, m3⟩ := unhide h
  obtain ⟨P, Q, s, -⟩ := l.sd
  refine (rwaiting_any Q W r (E.map (·.x)) s.ra).mono ?_
  rintro e w' ⟨v, rfl, H⟩
  obtain ⟨s1, s2⟩ := unhide H
  obtain ⟨a, cap, rfl, hi⟩ := own_ints s1
  have e2 : (E.map (·.x)).map (·.conn) = E.map (·.x.conn) := by rw [List.map_map]; rfl
  rw [e2] at hi
  obtain ⟨c0, c1⟩ := Ls.cells ⟨X, T, E, D, l.below s2⟩
  exact ⟨a, cap, by rw [List.length_map, m2], c0, c1, hide ⟨X, T, E, D, l.below s2, (s2.block _ (blk_lt m1)).trans m1, m2, m3, hi⟩⟩
theorem ls_ints2 {g n cap : Nat} {a : Option Addr} (h : Hid (Lr w0 W ps p r g n a)) :
    Calls Try.prog 19 #[.slice (some ⟨g, 0, none⟩) n n, .slice a n cap] W fun e w' => e = .returned (.bool true) ∧ w'.cell? ⟨ps, 0, none⟩ = some (.pointer (some ⟨p, 0, none⟩)) ∧ w'.cell? ⟨ps, 1, none⟩ = some (.pointer (some ⟨r, 0, none⟩)) ∧ Hid (Ls w0 w' ps p r) := by
  obtain ⟨X, T, E, D, l, m1, m2, m3, m4⟩ := unhide h
  refine (ints_same W _ a n n cap _ (RowI.is m1) m4 (by rw [List.length_map]; exact m2) (by omega)).mono ?_
  rintro e w' ⟨rfl, H⟩
  have q : Ls w0 w' ps p r := ⟨X, T, E, D, l.below (unhide H)⟩
  exact ⟨rfl, q.cells.1, q.cells.2, hide q⟩
end
end Go.Proofs.Ytfebiemfmiahhab
