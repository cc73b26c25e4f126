/- WaitFair: leave, the plain side. -/
import Derived.Test.YtfebiemfmiahhaaFd
namespace Go.Proofs.Ytfebiemfmiahhaa
open Go.ChangeShapes Go.WideShapes Go.ChangeAt Go.RowKit Go.Maps
set_option linter.unusedVariables false
set_option linter.unusedSimpArgs false
set_option maxRecDepth 100000
set_option maxHeartbeats 8000000
def dueW (now : Nat) (x : Wt) : Bool := decide (x.till ≠ 0) && decide (x.till ≤ now)
/-- those of the book whose time is over, by time, from the i-th on -/
structure DuB (L : List Wt) (now : Nat) (F : List Wt) : Prop where
  perm : F.Perm (L.filter (dueW now))
  sort : F.Pairwise (fun a b => a.till ≤ b.till)
theorem map_filter_due (E : List En) (now : Nat) : (E.filter (dueB now)).map (·.x) = (E.map (·.x)).filter (dueW now) := by
  induction E with
  | nil => rfl
  | cons e E ih =>
    rw [List.map_cons, List.filter_cons, List.filter_cons]
    have : dueB now e = dueW now e.x := rfl
    rw [this]
    cases dueW now e.x
    · simpa using ih
    · simpa using ih
theorem DueIs.book {E : List En} {now : Nat} {F : List En} (h : DueIs E now F) : DuB (E.map (·.x)) now (F.map (·.x)) := by
  refine ⟨?_, ?_⟩
  · rw [← map_filter_due]
    exact h.perm.map _
  · rw [List.pairwise_map]
    exact h.sort.imp (fun {a b} hab => by omega)
theorem fx_due {w0 w : World} {X : Nat → Obj → Prop} {p T : Nat} {v : Value} {A : List Ax} (now : Nat) (h : Fx w0 X w p T v A) :
    Calls Try.prog 12 #[.pointer (some ⟨p, 0, none⟩), .int .u64 (now : Nat)] w fun e w' => ∃ g n, e = .returned (.slice (some ⟨g, 0, none⟩) n n) ∧ Hid (∃ F : List Wt, n = F.length ∧ DuB (A.map (·.x)) now F ∧ Fx w0 (XB X g (.cells ((F.map (·.conn)).map (fun c => Value.int .i64 (c : Nat))).toArray 3 (0, 0))) w' p T v A) := by
  have hh := h
  obtain ⟨⟨O, E, h, hX⟩, hxw⟩ := h
  refine (wa_due w0 O w p T now E h.wa).mono ?_
  rintro e w' ⟨g, n, rfl, H⟩
  obtain ⟨F, k1, k2, k3, k4, k5, k6⟩ := unhide H
  refine ⟨g, n, rfl, hide ⟨F.map (·.x), by rw [List.length_map]; exact k3, by rw [h.eq]; exact k1.book, hh.more k6 k4 ?_⟩⟩
  have e : (F.map (·.x)).map (·.conn) = F.map (·.x.conn) := by rw [List.map_map]; rfl
  rw [e]
  exact k2
/-- the next one that leaves is in the book -/
theorem DuB.head {A : List Ax} {now : Nat} {y : Wt} {F : List Wt} (h : DuB (A.map (·.x)) now (y :: F)) : ∃ (i : Nat) (d : Ax), A[i]? = some d ∧ d.x = y ∧ dueW now y = true := by
  have hm : y ∈ (A.map (·.x)).filter (dueW now) := h.perm.mem_iff.1 (List.mem_cons_self ..)
  obtain ⟨h1, h2⟩ := List.mem_filter.1 hm
  obtain ⟨d, hd, rfl⟩ := List.mem_map.1 h1
  obtain ⟨i, hi⟩ := List.mem_iff_getElem?.1 hd
  exact ⟨i, d, hi, rfl, h2⟩
theorem perm_eraseIdx {α : Type} : ∀ {l : List α} {i : Nat} {a : α}, l[i]? = some a → l.Perm (a :: l.eraseIdx i)
  | [], i, a, h => by simp at h
  | b :: l, 0, a, h => by
    obtain rfl : b = a := by simpa using h
    exact List.Perm.refl _
  | b :: l, i + 1, a, h => by
    have h' : l[i]? = some a := by simpa using h
    rw [List.eraseIdx_cons_succ]
    exact ((perm_eraseIdx h').cons b).trans (List.Perm.swap _ _ _)
theorem DuB.tail {A : List Ax} {now : Nat} {y : Wt} {F : List Wt} (h : DuB (A.map (·.x)) now (y :: F)) {i : Nat} {d : Ax} (hd : A[i]? = some d) (hy : d.x = y) (hw : dueW now y = true) : DuB ((A.eraseIdx i).map (·.x)) now F := by
  refine ⟨?_, (List.pairwise_cons.1 h.sort).2⟩
  have h1 : ((A.map (·.x)).filter (dueW now)).Perm ((((d :: A.eraseIdx i)).map (·.x)).filter (dueW now)) := ((perm_eraseIdx hd).map _).filter _
  rw [List.map_cons, List.filter_cons_of_pos (by rw [hy]; exact hw), hy] at h1
  exact (h.perm.trans h1).cons_inv
theorem DuB.least {L : List Wt} {now : Nat} {y : Wt} {F : List Wt} (h : DuB L now (y :: F)) : ∀ z ∈ F, y.till ≤ z.till := (List.pairwise_cons.1 h.sort).1
theorem DuB.none {A : List Ax} {now : Nat} (h : DuB (A.map (·.x)) now []) : ∀ d ∈ A, dueW now d.x = false := by
  intro d hd
  cases hq : dueW now d.x with
  | false => rfl
  | true =>
    have : d.x ∈ (A.map (·.x)).filter (dueW now) := List.mem_filter.2 ⟨List.mem_map_of_mem hd, hq⟩
    have := h.perm.mem_iff.2 this
    cases this
theorem DuB.nil {A : List Ax} {now : Nat} {F : List Wt} (h : DuB (A.map (·.x)) now F) (hn : ∀ d ∈ A, dueW now d.x = false) : F = [] := by
  rw [List.eq_nil_iff_forall_not_mem]
  intro z hz
  obtain ⟨h1, h2⟩ := List.mem_filter.1 (h.perm.mem_iff.1 hz)
  obtain ⟨d, hd, rfl⟩ := List.mem_map.1 h1
  rw [hn d hd] at h2
  cases h2
theorem Fx.nodup {w0 w : World} {X : Nat → Obj → Prop} {p T : Nat} {v : Value} {A : List Ax} (h : Fx w0 X w p T v A) : (A.map (·.x.conn)).Nodup := by
  obtain ⟨⟨O, E, h1, h2⟩, h3⟩ := h
  obtain ⟨bw, bl, q⟩ := h1.wa.ex
  have := congrArg (List.map (·.conn)) h1.eq
  rw [List.map_map, List.map_map] at this
  have e2 : A.map (·.x.conn) = E.map (·.x.conn) := this
  rw [e2]
  exact q.nd
theorem nodup_at {A : List Ax} (h : (A.map (·.x.conn)).Nodup) {i j : Nat} {d e : Ax} (hi : A[i]? = some d) (hj : A[j]? = some e) (hc : d.x.conn = e.x.conn) : i = j := by
  have h1 : (A.map (·.x.conn))[i]? = some d.x.conn := by rw [List.getElem?_map, hi]; rfl
  have h2 : (A.map (·.x.conn))[j]? = some d.x.conn := by rw [List.getElem?_map, hj, hc]; rfl
  obtain ⟨a1, b1⟩ := List.getElem?_eq_some_iff.1 h1
  obtain ⟨a2, b2⟩ := List.getElem?_eq_some_iff.1 h2
  by_cases hlt : i < j
  · exact absurd (b1.trans b2.symm) (List.pairwise_iff_getElem.1 h i j a1 a2 hlt)
  · by_cases hgt : j < i
    · exact absurd (b2.trans b1.symm) (List.pairwise_iff_getElem.1 h j i a2 a1 hgt)
    · omega
end Go.Proofs.Ytfebiemfmiahhaa
