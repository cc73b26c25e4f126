/- WaitLent: a round's steps over the law's state. -/
import Derived.Test.YtfebiemfmiahhabRj
namespace Go.Proofs.Ytfebiemfmiahhab
open Go.ChangeShapes Go.WideShapes Go.ChangeAt Go.RowKit Go.Maps
set_option linter.unusedVariables false
set_option linter.unusedSimpArgs false
set_option maxRecDepth 100000
set_option maxHeartbeats 8000000
/-- one block takes a colour -/
def pnt (X : Nat → Nat) (g k : Nat) : Nat → Nat := fun b => if b = g then k else X b
theorem pnt_self {X : Nat → Nat} {g k : Nat} : pnt X g k g = k := by unfold pnt; rw [if_pos rfl]
theorem pnt_col {X : Nat → Nat} {g k b c : Nat} (hg : X g = 0 ∨ 9 ≤ X g) (hb : X b = c) (h0 : c ≠ 0) (h9 : c < 9) : pnt X g k b = c := by
  unfold pnt
  by_cases e : b = g
  · subst e; omega
  · rw [if_neg e]; exact hb
section
variable {w0 W W' : World} {X : Nat → Nat} {ps p r T : Nat} {E : List En} {D : LD}
theorem LS.paint (h : LS w0 W X ps p r T E D) {g k : Nat} (hg : X g = 0 ∨ 9 ≤ X g) (hl : g < W.heap.size ∧ w0.heap.size ≤ g) : LS w0 W (pnt X g k) ps p r T E D := by
  obtain ⟨P, Q, s, hX⟩ := h.sd
  refine ⟨h.bel, fun b hb => ?_, ⟨P, Q, s, fun b z => pnt_col hg (hX b z) (by omega) (by omega)⟩, pnt_col hg h.xs (by omega) (by omega), h.ka, fun x hx b hb => pnt_col hg (h.xa x hx b hb) (by omega) (by omega), h.kb, fun x hx b hb => pnt_col hg (h.xb x hx b hb) (by omega) (by omega), h.ra, fun b hb => pnt_col hg (h.xra b hb) (by omega) (by omega), h.rm, fun b hb => pnt_col hg (h.xrm b hb) (by omega) (by omega), h.rb, fun b hb => pnt_col hg (h.xrb b hb) (by omega) (by omega), h.rn, fun b hb => pnt_col hg (h.xrn b hb) (by omega) (by omega), h.la, h.lb⟩
  by_cases e : b = g
  · subst e; exact hl
  · unfold pnt at hb
    rw [if_neg e] at hb
    exact h.lt b hb
/-- a block no one owns -/
theorem LS.newblk (h : LS w0 W X ps p r T E D) {g : Nat} (hg : X g = 0 ∨ 9 ≤ X g) : (∀ y ∈ D.A, y.v.ownBlock ≠ some g) ∧ ∀ y ∈ D.B, y.v.ownBlock ≠ some g :=
  ⟨fun y hy e => by have := h.xa y hy g e; omega, fun y hy e => by have := h.xb y hy g e; omega⟩
/-- what 'marked' leaves of the state -/
theorem LS.marked (h : LS w0 W X ps p r T E D) {c : List Value} {a : Option Addr} {n cap : Nat} {e : Ending} (hv : ∀ g, (Value.slice a n cap).ownBlock = some g → X g = 2) (k : MkEnd W 46 38 2 w0.heap.size D.A c (.slice a n cap) n e W') :
    ∃ g, e = .returned (.slice (some ⟨g, 0, none⟩) 5 5) ∧ Hid (∃ M : List Ent, M.length = 5 ∧ (∀ y ∈ M, y.c = c ∧ y.n ≤ n + 80 ∧ ∃ a cap, y.v = .slice a y.n cap) ∧ LS w0 W' (upc X W W' 2) ps p r T E { D with A := D.A ++ M } ∧ ∀ j x, (M.map (·.v))[j]? = some x → W'.cell? ⟨g, j, none⟩ = some x) := by
  obtain ⟨g, e1, H⟩ := k
  obtain ⟨x2, x3, x4, x5, k1, k2, k3, k4, k5, k6⟩ := unhide H
  have hL : ∀ x ∈ D.A ++ [⟨.slice a n cap, n, c⟩], ∀ b, x.v.ownBlock = some b → X b = 2 := fun x hx b hb => by
    rcases List.mem_append.1 hx with q | q
    · exact h.xa x q b hb
    · rw [List.mem_singleton.1 q] at hb; exact hv b hb
  refine ⟨g, e1, hide ⟨⟨.slice a n cap, n, c⟩ :: [x2, x3, x4, x5], rfl, fun y hy => ?_, ?_, fun j x hj => ?_⟩⟩
  · rcases List.mem_cons.1 hy with rfl | q
    · exact ⟨rfl, Nat.le_add_right _ _, _, _, rfl⟩
    · obtain ⟨q1, q2, q3, q4, -⟩ := k5 y q
      exact ⟨q1, q2, q4⟩
  · have e2 : D.A ++ (⟨.slice a n cap, n, c⟩ :: [x2, x3, x4, x5]) = D.A ++ [⟨.slice a n cap, n, c⟩] ++ [x2, x3, x4, x5] := by rw [List.append_assoc]; rfl
    refine h.ka2 k4 hL (e2 ▸ k3) (fun x hx b hb => ?_) ⟨_, rfl⟩
    rw [e2] at hx
    rcases List.mem_append.1 hx with q | q
    · exact .inl (hL x q b hb)
    · obtain ⟨-, -, -, -, q5⟩ := k5 x q
      rcases q5 b hb with z | ⟨y, y1, y2⟩
      · exact .inr z
      · exact .inl (hL y y1 b y2)
  · rw [cell_of_row _ _ _ _ _ _ k1, List.getElem?_toArray]
    exact hj
theorem LS.numbered (h : LS w0 W X ps p r T E D) {c : List Value} {a : Option Addr} {n cap : Nat} {e : Ending} (hv : ∀ g, (Value.slice a n cap).ownBlock = some g → X g = 3) (k : MkEnd W 3 51 1 w0.heap.size D.B c (.slice a n cap) n e W') :
    ∃ g, e = .returned (.slice (some ⟨g, 0, none⟩) 5 5) ∧ Hid (∃ M : List Ent, M.length = 5 ∧ (∀ y ∈ M, y.c = c ∧ y.n ≤ n + 80 ∧ ∃ a cap, y.v = .slice a y.n cap) ∧ LS w0 W' (upc X W W' 3) ps p r T E { D with B := D.B ++ M } ∧ ∀ j x, (M.map (·.v))[j]? = some x → W'.cell? ⟨g, j, none⟩ = some x) := by
  obtain ⟨g, e1, H⟩ := k
  obtain ⟨x2, x3, x4, x5, k1, k2, k3, k4, k5, k6⟩ := unhide H
  have hL : ∀ x ∈ D.B ++ [⟨.slice a n cap, n, c⟩], ∀ b, x.v.ownBlock = some b → X b = 3 := fun x hx b hb => by
    rcases List.mem_append.1 hx with q | q
    · exact h.xb x q b hb
    · rw [List.mem_singleton.1 q] at hb; exact hv b hb
  refine ⟨g, e1, hide ⟨⟨.slice a n cap, n, c⟩ :: [x2, x3, x4, x5], rfl, fun y hy => ?_, ?_, fun j x hj => ?_⟩⟩
  · rcases List.mem_cons.1 hy with rfl | q
    · exact ⟨rfl, Nat.le_add_right _ _, _, _, rfl⟩
    · obtain ⟨q1, q2, q3, q4, -⟩ := k5 y q
      exact ⟨q1, q2, q4⟩
  · have e2 : D.B ++ (⟨.slice a n cap, n, c⟩ :: [x2, x3, x4, x5]) = D.B ++ [⟨.slice a n cap, n, c⟩] ++ [x2, x3, x4, x5] := by rw [List.append_assoc]; rfl
    refine h.kb3 k4 hL (e2 ▸ k3) (fun x hx b hb => ?_) ⟨_, rfl⟩
    rw [e2] at hx
    rcases List.mem_append.1 hx with q | q
    · exact .inl (hL x q b hb)
    · obtain ⟨-, -, -, -, q5⟩ := k5 x q
      rcases q5 b hb with z | ⟨y, y1, y2⟩
      · exact .inr z
      · exact .inl (hL y y1 b y2)
  · rw [cell_of_row _ _ _ _ _ _ k1, List.getElem?_toArray]
    exact hj
theorem row_more {A M : List Ent} {w : World} {e : TypeId} {v : Value} {n : Nat} (hn : n = A.length) (h : Rws w e 1 v (n + M.length) (fun k => if k < n * 1 then ((A ++ M).getD k ent0).v else (M.map (·.v)).getD (k - n * 1) undef)) : Rws w e 1 v (n + M.length) (fun k => ((A ++ M).getD k ent0).v) :=
  h.congr fun j hj => by
    subst hn
    by_cases z : j < A.length * 1
    · simp only [if_pos z]
    · simp only [if_neg z]
      rw [Nat.mul_one] at *
      rw [List.getD_eq_getElem?_getD, List.getD_eq_getElem?_getD, List.getElem?_append_right (by omega), List.getElem?_map]
      have hk : j - A.length < M.length := by omega
      rw [List.getElem?_eq_getElem hk]
      rfl
/-- what the append of the five lists leaves -/
theorem LS.row4 {A M : List Ent} (h : LS w0 W X ps p r T E { D with A := A ++ M }) (hn : D.na = A.length) (hm : M.length = 5) {v : Value} (hr : Rws W' 38 1 v (D.na + 5) (fun k => if k < D.na * 1 then ((A ++ M).getD k ent0).v else (M.map (·.v)).getD (k - D.na * 1) undef)) (hg : Gr 38 (D.na * 1) 5 W W' (.slice D.aa D.na D.ac) v) :
    ∃ a' c', v = .slice a' (D.na + 5) c' ∧ LS w0 W' (upc X W W' 4) ps p r T E { D with A := A ++ M, aa := a', na := D.na + 5, ac := c' } := by
  obtain ⟨a', c', rfl⟩ := hr.shape
  rw [← hm] at hr
  have hr2 := row_more hn hr
  rw [hm] at hr2
  exact ⟨a', c', rfl, LS.ra4 (D := { D with A := A ++ M }) h (q := 5) (by show D.na + 5 ≤ (A ++ M).length; rw [List.length_append]; omega) hg hr2⟩
theorem LS.row6 {B M : List Ent} (h : LS w0 W X ps p r T E { D with B := B ++ M }) (hn : D.nb = B.length) (hm : M.length = 5) {v : Value} (hr : Rws W' 51 1 v (D.nb + 5) (fun k => if k < D.nb * 1 then ((B ++ M).getD k ent0).v else (M.map (·.v)).getD (k - D.nb * 1) undef)) (hg : Gr 51 (D.nb * 1) 5 W W' (.slice D.ba D.nb D.bc) v) :
    ∃ a' c', v = .slice a' (D.nb + 5) c' ∧ LS w0 W' (upc X W W' 6) ps p r T E { D with B := B ++ M, ba := a', nb := D.nb + 5, bc := c' } := by
  obtain ⟨a', c', rfl⟩ := hr.shape
  rw [← hm] at hr
  have hr2 := row_more hn hr
  rw [hm] at hr2
  exact ⟨a', c', rfl, LS.rb6 (D := { D with B := B ++ M }) h (q := 5) (by show D.nb + 5 ≤ (B ++ M).length; rw [List.length_append]; omega) hg hr2⟩
theorem flat_len {s : Nat} {C : List (List Value)} (hC : ∀ c ∈ C, c.length = s) : C.flatten.length = C.length * s := by
  induction C with
  | nil => simp
  | cons c C ih =>
    rw [List.flatten_cons, List.length_append, ih (fun x hx => hC x (List.mem_cons_of_mem _ hx)), hC c (List.mem_cons_self ..), List.length_cons, Nat.succ_mul, Nat.add_comm]
theorem mark_more {C : List (List Value)} {c1 c2 : List Value} {s : Nat} {w : World} {e : TypeId} {v : Value} {n : Nat} (hC : ∀ c ∈ C, c.length = s) (h1 : c1.length = s) (h2 : c2.length = s) (hn : n = C.length) (h : Rws w e s v (n + 2) (fun k => if k < n * s then C.flatten.getD k undef else (c1 ++ c2).getD (k - n * s) undef)) : Rws w e s v (n + 2) (fun k => (C ++ [c1, c2]).flatten.getD k undef) :=
  h.congr fun j hj => by
    subst hn
    have hl := flat_len hC
    rw [List.flatten_append]
    by_cases z : j < C.length * s
    · simp only [if_pos z]
      rw [List.getD_eq_getElem?_getD, List.getD_eq_getElem?_getD, List.getElem?_append_left (by omega)]
    · simp only [if_neg z]
      rw [List.getD_eq_getElem?_getD, List.getD_eq_getElem?_getD, show (C.flatten ++ [c1, c2].flatten)[j]? = [c1, c2].flatten[j - C.flatten.length]? from List.getElem?_append_right (by omega), hl]
      simp
theorem LS.row5 (h : LS w0 W X ps p r T E D) (hC : ∀ c ∈ D.CA, c.length = 2) {c1 c2 : List Value} (h1 : c1.length = 2) (h2 : c2.length = 2) (hn : D.mn = D.CA.length) {v : Value} (hr : Rws W' 46 2 v (D.mn + 2) (fun k => if k < D.mn * 2 then D.CA.flatten.getD k undef else (c1 ++ c2).getD (k - D.mn * 2) undef)) {m : Nat} (hg : Gr 46 (D.mn * 2) m W W' (.slice D.ma D.mn D.mc) v) :
    ∃ a' c', v = .slice a' (D.mn + 2) c' ∧ LS w0 W' (upc X W W' 5) ps p r T E { D with ma := a', mn := D.mn + 2, mc := c', CA := D.CA ++ [c1, c2] } := by
  obtain ⟨a', c', rfl⟩ := hr.shape
  exact ⟨a', c', rfl, h.rm5 hg (mark_more hC h1 h2 hn hr)⟩
theorem LS.row7 (h : LS w0 W X ps p r T E D) (hC : ∀ c ∈ D.CB, c.length = 1) {c1 c2 : List Value} (h1 : c1.length = 1) (h2 : c2.length = 1) (hn : D.nn = D.CB.length) {v : Value} (hr : Rws W' 3 1 v (D.nn + 2) (fun k => if k < D.nn * 1 then D.CB.flatten.getD k undef else (c1 ++ c2).getD (k - D.nn * 1) undef)) {m : Nat} (hg : Gr 3 (D.nn * 1) m W W' (.slice D.ca D.nn D.nc) v) :
    ∃ a' c', v = .slice a' (D.nn + 2) c' ∧ LS w0 W' (upc X W W' 7) ps p r T E { D with ca := a', nn := D.nn + 2, nc := c', CB := D.CB ++ [c1, c2] } := by
  obtain ⟨a', c', rfl⟩ := hr.shape
  exact ⟨a', c', rfl, h.rn7 hg (mark_more hC h1 h2 hn hr)⟩
end
/-- how the lists, their rows and their marks go together at a round's head -/
structure LI (D : LD) (i : Nat) : Prop where
  na : D.na = D.A.length
  nb : D.nb = D.B.length
  ma : D.mn = D.CA.length
  mb : D.nn = D.CB.length
  la : D.A.length = 5 * D.CA.length
  lb : D.B.length = 5 * D.CB.length
  ca : ∀ c ∈ D.CA, ∃ m : Pl, c = [.int .i64 m.1, .string (bs m.2)]
  cb : ∀ c ∈ D.CB, ∃ m : Int, c = [.int .i64 m]
  ra : ∀ j x, D.A[j]? = some x → D.CA[j / 5]? = some x.c
  rb : ∀ j x, D.B[j]? = some x → D.CB[j / 5]? = some x.c
  sa : ∀ x ∈ D.A, (∃ a cap, x.v = .slice a x.n cap) ∧ x.n ≤ 200000
  sb : ∀ x ∈ D.B, (∃ a cap, x.v = .slice a x.n cap) ∧ x.n ≤ 200000
  fa : D.CA.length ≤ 2 * i
  fb : D.CB.length ≤ 2 * i
theorem LI.two {D : LD} {i : Nat} (h : LI D i) : (∀ c ∈ D.CA, c.length = 2) ∧ ∀ c ∈ D.CB, c.length = 1 :=
  ⟨fun c hc => by obtain ⟨m, rfl⟩ := h.ca c hc; rfl, fun c hc => by obtain ⟨m, rfl⟩ := h.cb c hc; rfl⟩
theorem LI.up {D : LD} {i : Nat} (h : LI D i) : LI D (i + 1) :=
  ⟨h.na, h.nb, h.ma, h.mb, h.la, h.lb, h.ca, h.cb, h.ra, h.rb, h.sa, h.sb, by have := h.fa; omega, by have := h.fb; omega⟩
/-- five entries a mark, twice more -/
theorem rel_more {A M N : List Ent} {C : List (List Value)} {c1 c2 : List Value} (hl : A.length = 5 * C.length) (hm : M.length = 5) (hn : N.length = 5) (h : ∀ j x, A[j]? = some x → C[j / 5]? = some x.c) (h1 : ∀ y ∈ M, y.c = c1) (h2 : ∀ y ∈ N, y.c = c2) : ∀ j x, (A ++ M ++ N)[j]? = some x → (C ++ [c1, c2])[j / 5]? = some x.c := fun j x hx => by
  by_cases z : j < A.length
  · rw [List.append_assoc, List.getElem?_append_left z] at hx
    rw [List.getElem?_append_left (by omega)]
    exact h j x hx
  · by_cases z2 : j < A.length + 5
    · rw [List.append_assoc, List.getElem?_append_right (by omega), List.getElem?_append_left (by omega)] at hx
      have e : j / 5 = C.length := by omega
      rw [e, List.getElem?_append_right (Nat.le_refl _), Nat.sub_self, h1 x (List.mem_of_getElem? hx)]
      rfl
    · rw [List.getElem?_append_right (by rw [List.length_append]; omega)] at hx
      have hj : j - (A ++ M).length < N.length := (List.getElem?_eq_some_iff.1 hx).1
      rw [List.length_append] at hj
      have e : j / 5 = C.length + 1 := by omega
      rw [e, List.getElem?_append_right (by omega), show C.length + 1 - C.length = 1 by omega, h2 x (List.mem_of_getElem? hx)]
      rfl
theorem LI.more {D : LD} {i n1 n2 n3 n4 : Nat} (h : LI D i) {M1 M2 N1 N2 : List Ent} {m1 m2 : Pl} {k1 k2 : Int} (l1 : M1.length = 5) (l2 : M2.length = 5) (l3 : N1.length = 5) (l4 : N2.length = 5)
    (q1 : ∀ y ∈ M1, y.c = [.int .i64 m1.1, .string (bs m1.2)] ∧ y.n ≤ n1 + 80 ∧ ∃ a cap, y.v = .slice a y.n cap) (q2 : ∀ y ∈ M2, y.c = [.int .i64 m2.1, .string (bs m2.2)] ∧ y.n ≤ n2 + 80 ∧ ∃ a cap, y.v = .slice a y.n cap)
    (q3 : ∀ y ∈ N1, y.c = [.int .i64 k1] ∧ y.n ≤ n3 + 80 ∧ ∃ a cap, y.v = .slice a y.n cap) (q4 : ∀ y ∈ N2, y.c = [.int .i64 k2] ∧ y.n ≤ n4 + 80 ∧ ∃ a cap, y.v = .slice a y.n cap) (b1 : n1 ≤ 100000) (b2 : n2 ≤ 100000) (b3 : n3 ≤ 100000) (b4 : n4 ≤ 100000)
    {aa ma ba ca : Option Addr} {ac mc bc nc : Nat} : LI ⟨D.A ++ M1 ++ M2, D.B ++ N1 ++ N2, D.CA ++ [[.int .i64 m1.1, .string (bs m1.2)], [.int .i64 m2.1, .string (bs m2.2)]], D.CB ++ [[.int .i64 k1], [.int .i64 k2]], aa, D.na + 5 + 5, ac, ma, D.mn + 2, mc, ba, D.nb + 5 + 5, bc, ca, D.nn + 2, nc⟩ (i + 1) := by
  have hla := h.la
  have hlb := h.lb
  have hfa := h.fa
  have hfb := h.fb
  refine ⟨?_, ?_, ?_, ?_, ?_, ?_, fun c hc => ?_, fun c hc => ?_, rel_more h.la l1 l2 h.ra (fun y hy => (q1 y hy).1) (fun y hy => (q2 y hy).1), rel_more h.lb l3 l4 h.rb (fun y hy => (q3 y hy).1) (fun y hy => (q4 y hy).1), fun x hx => ?_, fun x hx => ?_, ?_, ?_⟩
  · show D.na + 5 + 5 = (D.A ++ M1 ++ M2).length
    rw [List.length_append, List.length_append, h.na, l1, l2]
  · show D.nb + 5 + 5 = (D.B ++ N1 ++ N2).length
    rw [List.length_append, List.length_append, h.nb, l3, l4]
  · show D.mn + 2 = (D.CA ++ _).length
    rw [List.length_append, h.ma]; rfl
  · show D.nn + 2 = (D.CB ++ _).length
    rw [List.length_append, h.mb]; rfl
  · show (D.A ++ M1 ++ M2).length = 5 * (D.CA ++ _).length
    rw [List.length_append, List.length_append, List.length_append, l1, l2]
    simp only [List.length_cons, List.length_nil]
    omega
  · show (D.B ++ N1 ++ N2).length = 5 * (D.CB ++ _).length
    rw [List.length_append, List.length_append, List.length_append, l3, l4]
    simp only [List.length_cons, List.length_nil]
    omega
  · rcases List.mem_append.1 hc with q | q
    · exact h.ca c q
    · rcases List.mem_cons.1 q with rfl | q
      · exact ⟨m1, rfl⟩
      · exact ⟨m2, List.mem_singleton.1 q⟩
  · rcases List.mem_append.1 hc with q | q
    · exact h.cb c q
    · rcases List.mem_cons.1 q with rfl | q
      · exact ⟨k1, rfl⟩
      · exact ⟨k2, List.mem_singleton.1 q⟩
  · rcases List.mem_append.1 hx with q | q
    · rcases List.mem_append.1 q with q | q
      · exact h.sa x q
      · obtain ⟨-, z1, z2⟩ := q1 x q
        exact ⟨z2, by omega⟩
    · obtain ⟨-, z1, z2⟩ := q2 x q
      exact ⟨z2, by omega⟩
  · rcases List.mem_append.1 hx with q | q
    · rcases List.mem_append.1 q with q | q
      · exact h.sb x q
      · obtain ⟨-, z1, z2⟩ := q3 x q
        exact ⟨z2, by omega⟩
    · obtain ⟨-, z1, z2⟩ := q4 x q
      exact ⟨z2, by omega⟩
  · show (D.CA ++ _).length ≤ _
    rw [List.length_append]
    simp only [List.length_cons, List.length_nil]
    omega
  · show (D.CB ++ _).length ≤ _
    rw [List.length_append]
    simp only [List.length_cons, List.length_nil]
    omega
section
variable {w0 W W' : World} {X : Nat → Nat} {ps p r T : Nat} {E : List En} {D : LD} {i : Nat}
/-- the lists bear their marks -/
theorem ls_kept (h : LS w0 W X ps p r T E D) (k : LI D i) (hi : i ≤ 60) :
    Calls Try.prog 24 #[.slice D.aa D.na D.ac, .slice D.ma D.mn D.mc, .slice D.ba D.nb D.bc, .slice D.ca D.nn D.nc] W fun e w' => e = .returned (.bool true) ∧ Hid (Below W.heap.size W w' ∧ LS w0 w' X ps p r T E D) := by
  have h1 : KpR W 46 38 2 D.A D.aa D.na D.ac D.CA D.ma D.mn D.mc := ⟨k.na, h.ra, fun x hx => ⟨h.ka.row x hx, k.sa x hx⟩, k.ma, h.rm, k.two.1, k.ra⟩
  have h2 : KpR W 3 51 1 D.B D.ba D.nb D.bc D.CB D.ca D.nn D.nc := ⟨k.nb, h.rb, fun x hx => ⟨h.kb.row x hx, k.sb x hx⟩, k.mb, h.rn, k.two.2, k.rb⟩
  refine (kept_any W D.A D.aa D.na D.ac D.CA D.ma D.mn D.mc D.B D.ba D.nb D.bc D.CB D.ca D.nn D.nc h1 h2 (by have := k.na; have := k.la; have := k.fa; omega) (by have := k.nb; have := k.lb; have := k.fb; omega) (fun x hx => ?_) (fun x hx => ?_)).mono ?_
  · obtain ⟨j, hj⟩ := List.getElem?_of_mem hx
    exact k.ca _ (List.mem_of_getElem? (k.ra j x hj))
  · obtain ⟨j, hj⟩ := List.getElem?_of_mem hx
    exact k.cb _ (List.mem_of_getElem? (k.rb j x hj))
  rintro e w' ⟨rfl, H⟩
  exact ⟨rfl, hide ⟨unhide H, h.below (unhide H)⟩⟩
end
/-- two lists as long as a script's may be -/
theorem same_long (W : World) (a a' : Option Addr) (n c c' : Nat) (l : List Pl) (h : PlsAt W a l) (h' : PlsAt W a' l) (hn : n = l.length) (hn2 : n ≤ 5864062014805) :
    Calls Try.prog 14 #[.slice a n c, .slice a' n c'] W fun e w' => e = .returned (.bool true) ∧ Hid (Below W.heap.size W w') := by
  have HN := hide hn
  clear hn
  go_enter Try.func14, Try.ntmps14
  go_wp2_with fail
  go_loopw [5] (fun iv wr => ∃ i : Nat, iv = .int .i64 ((i : Nat) : Int) ∧ i ≤ n ∧ Hid (Below W.heap.size W wr)) (fun iv _ => n - (intOf iv).toNat)
  case atStart => exact ⟨0, rfl, Nat.zero_le _, hide (Below.refl _ _)⟩
  case round =>
    obtain ⟨i, rfl, hi, HB⟩ := hrel
    by_cases hin : i < n
    · have f1 : decide ((i : Int) < (n : Int)) = true := decide_eq_true (by omega)
      have g1 : (0 : Int) ≤ (i : Int) := by omega
      have g2 : (i : Int) < (n : Int) := by omega
      obtain ⟨x, hx⟩ : ∃ x, l[i]? = some x := ⟨_, List.getElem?_eq_getElem (by have := unhide HN; omega)⟩
      obtain ⟨b, off, rfl, c0, c1⟩ : ∃ b off, a = some ⟨b, off, none⟩ ∧ wr.cell? ⟨b, off + i * 2, none⟩ = some (.int .i64 x.1) ∧ wr.cell? ⟨b, off + i * 2 + 1, none⟩ = some (.string (bs x.2)) := by
        rcases h.below (unhide HB) with h0 | ⟨pb, po, e, hlt, hc⟩
        · rw [h0] at hx; simp at hx
        · exact ⟨pb, po, e, hc i x hx⟩
      obtain ⟨b', off', rfl, d0, d1⟩ : ∃ b off, a' = some ⟨b, off, none⟩ ∧ wr.cell? ⟨b, off + i * 2, none⟩ = some (.int .i64 x.1) ∧ wr.cell? ⟨b, off + i * 2 + 1, none⟩ = some (.string (bs x.2)) := by
        rcases h'.below (unhide HB) with h0 | ⟨pb, po, e, hlt, hc⟩
        · rw [h0] at hx; simp at hx
        · exact ⟨pb, po, e, hc i x hx⟩
      have f2 : (x.1 != x.1) = false := by simp
      have f3 : ((bs x.2).toList != (bs x.2).toList) = false := by simp
      have f4 : ((bs x.2).toList == (bs x.2).toList) = true := by simp
      clear hx h h'
      go_wp2_with fail
      go_quiet (fail)
      go_wp2_with fail
      refine ⟨⟨i + 1, congrArg (Value.int .i64) (by omega), by omega, hide (below_drewN (unhide HB) _)⟩, by simp [intOf]; omega⟩
    · obtain rfl : i = n := by omega
      have f1 : decide ((i : Int) < (i : Int)) = false := decide_eq_false (by omega)
      clear h h'
      go_wp2_with fail
      go_ret
      exact ⟨rfl, HB⟩
end Go.Proofs.Ytfebiemfmiahhab
