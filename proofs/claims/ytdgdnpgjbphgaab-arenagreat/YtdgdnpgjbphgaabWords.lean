/- words: the steps about single words. -/
import Derived.Test.YtdgdnpgjbphgaabPCalls
namespace Go.Proofs.Ytdgdnpgjbphgaab
open Go.ChangeShapes Go.WideShapes Go.ChangeAt Go.RowKit
set_option linter.unusedVariables false
set_option maxRecDepth 100000
set_option maxHeartbeats 4000000

theorem below_drewN {B : Nat} {a w : World} (h : Below B a w) (n : Nat) : Below B a (w.drewN n) := ⟨h.os, h.tape, h.output, h.size, h.block⟩
theorem p_moved' {p bw bh : Nat} {ws : List Nat} {hs : List Bool} {used : Nat} {R : RefSt} {w : World} (h : Ar w p bw bh ws hs used) (r : Rel ws hs used R) (o : RefOk R) (at' : Int) :
    Calls Try.prog 27 #[.pointer (some ⟨p, 0, none⟩), .int .i64 at'] w fun e w' => e = .returned (.tuple #[.int .i64 ((rmoved R at').1 : Nat), .bool (rmoved R at').2.1, .int .i64 ((rmoved R at').2.2 : Nat)]) ∧ Below w.heap.size w w' := by
  refine (p_moved h r o at').mono ?_
  rintro e w' ⟨rfl, hw'⟩
  obtain rfl := hw'.symm
  exact ⟨rfl, Below.refl _ _⟩
theorem words_obj {w0 w : World} {pw : Nat} {tag rt kt : Nat → Nat} {S : BookSt} {D : Nat → Option Dat} {V : Nat → Value} (h : WAt w0 w pw tag rt kt S D V) (X Y A B C : Int) (U : Nat) (sD : Value) (d : Dat) (hd : D (t3 X) = some d) :
    Calls Try.prog 14 #[.pointer (some ⟨pw, 0, none⟩), .agg #[.int .i64 3, .int .i64 X, .int .i64 Y, .int .i64 A, .int .i64 B, .int .i64 C, .int .u64 (U : Nat), sD]] w fun e w' => e = .returned (.bool true) ∧ Below w.heap.size w w' := by
  have hx := t3_lt X
  obtain ⟨cp, _⟩ := h.cp _ hx
  obtain ⟨cq, _⟩ := h.cq _ hx
  have hb := h.bl _ _ hx hd
  have HP := hide (fun w1 (k : Below w.heap.size w w1) => p_object (hb.ar.below k) hb.rel hb.ref.ok A)
  have HQ := hide (fun w1 (k : Below w.heap.size w w1) => robject_any (hb.ref.below k) A)
  have HT := hide (fun w1 => three_nat X w1)
  rw [hd] at cp cq
  have lpw := h.bk.fl.lt
  clear h hb hd
  have y0 : (0 : Int) ≤ (t3 X : Int) := by omega
  have y1 : (t3 X : Int) < 3 := by omega
  generalize t3 X = t at *
  go_enter Try.func14, Try.ntmps14
  go_wp2_with fail
  obtain ⟨w1, hw1⟩ : ∃ w1, w1 = w.alloc (.cells #[.int .i64 3, .int .i64 X, .int .i64 Y, .int .i64 A, .int .i64 B, .int .i64 C, .int .u64 (U : Nat), sD] 26) := ⟨_, rfl⟩
  rw [← hw1]
  have HB1 : Hid (Below w.heap.size w w1) := hide (by rw [hw1]; exact (Below.refl _ _).alloc (Nat.le_refl _) _)
  have e1 : w1.cell? ⟨pw, t, none⟩ = some (.pointer (some ⟨d.p, 0, none⟩)) := ((unhide HB1).cell (p := ⟨pw, t, none⟩) lpw).trans cp
  have e2 : w1.cell? ⟨pw, 3 + t, none⟩ = some (.pointer (some ⟨d.pr, 0, none⟩)) := ((unhide HB1).cell (p := ⟨pw, 3 + t, none⟩) lpw).trans cq
  have hop : w1.heap[w.heap.size]? = some (.cells #[.int .i64 3, .int .i64 X, .int .i64 Y, .int .i64 A, .int .i64 B, .int .i64 C, .int .u64 (U : Nat), sD] 26) := by rw [hw1]; exact heap_alloc_new w _
  have hbo : w.heap.size < w1.heap.size := by rw [hw1]; simp
  have HOP : Hid (∀ wq, Below w1.heap.size w1 wq → wq.cell? ⟨w.heap.size, 0, none⟩ = some (.int .i64 3) ∧ wq.cell? ⟨w.heap.size, 1, none⟩ = some (.int .i64 X) ∧ wq.cell? ⟨w.heap.size, 3, none⟩ = some (.int .i64 A) ∧ wq.cell? ⟨w.heap.size, 4, none⟩ = some (.int .i64 B)) := hide (fun wq k => by
    have e := k.block w.heap.size hbo
    rw [hop] at e
    simp only [World.cell?, e]
    exact ⟨rfl, rfl, rfl, rfl⟩)
  have HLO := hide hbo
  have lpw1 : pw < w1.heap.size := by omega
  have HPW : Hid (∀ wq, Below w1.heap.size w1 wq → wq.cell? ⟨pw, t, none⟩ = some (.pointer (some ⟨d.p, 0, none⟩)) ∧ wq.cell? ⟨pw, 3 + t, none⟩ = some (.pointer (some ⟨d.pr, 0, none⟩))) := hide (fun wq k => ⟨(k.cell (p := ⟨pw, t, none⟩) lpw1).trans e1, (k.cell (p := ⟨pw, 3 + t, none⟩) lpw1).trans e2⟩)
  obtain ⟨o0, o1, o3, o4⟩ := unhide HOP w1 (Below.refl _ _)
  clear hop hbo hw1 cp cq
  go_quiet (first | (go_at_call 12; exact Calls.quiet_of_same (unhide HT _)))
  obtain ⟨w2, hw2⟩ : ∃ w2, w2 = w1.drewN nq := ⟨_, rfl⟩
  rw [← hw2]
  have HC2 : Hid (Below w1.heap.size w1 w2) := hide (by rw [hw2]; exact below_drewN (Below.refl _ _) nq)
  have HB2 : Hid (Below w.heap.size w w2) := hide ((unhide HB1).trans ((unhide HC2).mono (unhide HB1).size))
  clear hw2 e1 e2 lpw1 o0 o1 o3 o4
  obtain ⟨o0, o1, o3, o4⟩ := unhide HOP w2 (unhide HC2)
  go_wp2_with fail
  refine (unhide HP w2 (unhide HB2)).mono ?_
  rintro e w3 ⟨rfl, b3⟩
  have HC3 : Hid (Below w1.heap.size w1 w3) := hide ((unhide HC2).trans (b3.mono (unhide HC2).size))
  have HB3 : Hid (Below w.heap.size w w3) := hide ((unhide HB2).trans (b3.mono (unhide HB2).size))
  clear b3
  clear o0 o1 o3 o4
  obtain ⟨o0, o1, o3, o4⟩ := unhide HOP w3 (unhide HC3)
  go_wp2_with fail
  refine (unhide HQ w3 (unhide HB3)).mono ?_
  rintro e w4 ⟨rfl, b4⟩
  have HC4 : Hid (Below w1.heap.size w1 w4) := hide ((unhide HC3).trans (b4.mono (unhide HC3).size))
  have HB4 : Hid (Below w.heap.size w w4) := hide ((unhide HB3).trans (b4.mono (unhide HB3).size))
  clear b4 o0 o1 o3 o4 HP HQ
  generalize (robj d.R A).1 = a1 at *
  generalize (robj d.R A).2.1 = a2 at *
  generalize (robj d.R A).2.2.1 = a3 at *
  generalize (robj d.R A).2.2.2 = a4 at *
  go_wp2_with fail
  refine (num_any _ _).mono ?_
  rintro e w' ⟨rfl, hw'⟩
  obtain rfl := hw'.symm
  go_wp2
  go_ret
  exact ⟨rfl, unhide HB4⟩
theorem words_get {w0 w : World} {pw : Nat} {tag rt kt : Nat → Nat} {S : BookSt} {D : Nat → Option Dat} {V : Nat → Value} (h : WAt w0 w pw tag rt kt S D V) (X Y A B C : Int) (U : Nat) (sD : Value) (d : Dat) (hd : D (t3 X) = some d) :
    Calls Try.prog 14 #[.pointer (some ⟨pw, 0, none⟩), .agg #[.int .i64 4, .int .i64 X, .int .i64 Y, .int .i64 A, .int .i64 B, .int .i64 C, .int .u64 (U : Nat), sD]] w fun e w' => e = .returned (.bool true) ∧ Below w.heap.size w w' := by
  have hx := t3_lt X
  obtain ⟨cp, _⟩ := h.cp _ hx
  obtain ⟨cq, _⟩ := h.cq _ hx
  have hb := h.bl _ _ hx hd
  have HP := hide (fun w1 (k : Below w.heap.size w w1) => p_get (hb.ar.below k) hb.rel hb.ref.ok A B)
  have HQ := hide (fun w1 (k : Below w.heap.size w w1) => rget_any (hb.ref.below k) A B)
  have HT := hide (fun w1 => three_nat X w1)
  rw [hd] at cp cq
  have lpw := h.bk.fl.lt
  clear h hb hd
  have y0 : (0 : Int) ≤ (t3 X : Int) := by omega
  have y1 : (t3 X : Int) < 3 := by omega
  generalize t3 X = t at *
  go_enter Try.func14, Try.ntmps14
  go_wp2_with fail
  obtain ⟨w1, hw1⟩ : ∃ w1, w1 = w.alloc (.cells #[.int .i64 4, .int .i64 X, .int .i64 Y, .int .i64 A, .int .i64 B, .int .i64 C, .int .u64 (U : Nat), sD] 26) := ⟨_, rfl⟩
  rw [← hw1]
  have HB1 : Hid (Below w.heap.size w w1) := hide (by rw [hw1]; exact (Below.refl _ _).alloc (Nat.le_refl _) _)
  have e1 : w1.cell? ⟨pw, t, none⟩ = some (.pointer (some ⟨d.p, 0, none⟩)) := ((unhide HB1).cell (p := ⟨pw, t, none⟩) lpw).trans cp
  have e2 : w1.cell? ⟨pw, 3 + t, none⟩ = some (.pointer (some ⟨d.pr, 0, none⟩)) := ((unhide HB1).cell (p := ⟨pw, 3 + t, none⟩) lpw).trans cq
  have hop : w1.heap[w.heap.size]? = some (.cells #[.int .i64 4, .int .i64 X, .int .i64 Y, .int .i64 A, .int .i64 B, .int .i64 C, .int .u64 (U : Nat), sD] 26) := by rw [hw1]; exact heap_alloc_new w _
  have hbo : w.heap.size < w1.heap.size := by rw [hw1]; simp
  have HOP : Hid (∀ wq, Below w1.heap.size w1 wq → wq.cell? ⟨w.heap.size, 0, none⟩ = some (.int .i64 4) ∧ wq.cell? ⟨w.heap.size, 1, none⟩ = some (.int .i64 X) ∧ wq.cell? ⟨w.heap.size, 3, none⟩ = some (.int .i64 A) ∧ wq.cell? ⟨w.heap.size, 4, none⟩ = some (.int .i64 B)) := hide (fun wq k => by
    have e := k.block w.heap.size hbo
    rw [hop] at e
    simp only [World.cell?, e]
    exact ⟨rfl, rfl, rfl, rfl⟩)
  have HLO := hide hbo
  have lpw1 : pw < w1.heap.size := by omega
  have HPW : Hid (∀ wq, Below w1.heap.size w1 wq → wq.cell? ⟨pw, t, none⟩ = some (.pointer (some ⟨d.p, 0, none⟩)) ∧ wq.cell? ⟨pw, 3 + t, none⟩ = some (.pointer (some ⟨d.pr, 0, none⟩))) := hide (fun wq k => ⟨(k.cell (p := ⟨pw, t, none⟩) lpw1).trans e1, (k.cell (p := ⟨pw, 3 + t, none⟩) lpw1).trans e2⟩)
  obtain ⟨o0, o1, o3, o4⟩ := unhide HOP w1 (Below.refl _ _)
  clear hop hbo hw1 cp cq
  go_quiet (first | (go_at_call 12; exact Calls.quiet_of_same (unhide HT _)))
  obtain ⟨w2, hw2⟩ : ∃ w2, w2 = w1.drewN nq := ⟨_, rfl⟩
  rw [← hw2]
  have HC2 : Hid (Below w1.heap.size w1 w2) := hide (by rw [hw2]; exact below_drewN (Below.refl _ _) nq)
  have HB2 : Hid (Below w.heap.size w w2) := hide ((unhide HB1).trans ((unhide HC2).mono (unhide HB1).size))
  clear hw2 e1 e2 lpw1 o0 o1 o3 o4
  obtain ⟨o0, o1, o3, o4⟩ := unhide HOP w2 (unhide HC2)
  go_wp2_with fail
  refine (unhide HP w2 (unhide HB2)).mono ?_
  rintro e w3 ⟨rfl, b3⟩
  have HC3 : Hid (Below w1.heap.size w1 w3) := hide ((unhide HC2).trans (b3.mono (unhide HC2).size))
  have HB3 : Hid (Below w.heap.size w w3) := hide ((unhide HB2).trans (b3.mono (unhide HB2).size))
  clear b3
  clear o0 o1 o3 o4
  obtain ⟨o0, o1, o3, o4⟩ := unhide HOP w3 (unhide HC3)
  go_wp2_with fail
  refine (unhide HQ w3 (unhide HB3)).mono ?_
  rintro e w4 ⟨rfl, b4⟩
  have HC4 : Hid (Below w1.heap.size w1 w4) := hide ((unhide HC3).trans (b4.mono (unhide HC3).size))
  have HB4 : Hid (Below w.heap.size w w4) := hide ((unhide HB3).trans (b4.mono (unhide HB3).size))
  clear b4 o0 o1 o3 o4 HP HQ
  generalize (rget d.R A B).1 = a1 at *
  generalize (rget d.R A B).2 = a2 at *
  go_wp2_with fail
  refine (num_any _ _).mono ?_
  rintro e w' ⟨rfl, hw'⟩
  obtain rfl := hw'.symm
  go_wp2
  go_ret
  exact ⟨rfl, unhide HB4⟩
theorem words_moved {w0 w : World} {pw : Nat} {tag rt kt : Nat → Nat} {S : BookSt} {D : Nat → Option Dat} {V : Nat → Value} (h : WAt w0 w pw tag rt kt S D V) (X Y A B C : Int) (U : Nat) (sD : Value) (d : Dat) (hd : D (t3 X) = some d) :
    Calls Try.prog 14 #[.pointer (some ⟨pw, 0, none⟩), .agg #[.int .i64 9, .int .i64 X, .int .i64 Y, .int .i64 A, .int .i64 B, .int .i64 C, .int .u64 (U : Nat), sD]] w fun e w' => e = .returned (.bool true) ∧ Below w.heap.size w w' := by
  have hx := t3_lt X
  obtain ⟨cp, _⟩ := h.cp _ hx
  obtain ⟨cq, _⟩ := h.cq _ hx
  have hb := h.bl _ _ hx hd
  have HP := hide (fun w1 (k : Below w.heap.size w w1) => p_moved' (hb.ar.below k) hb.rel hb.ref.ok A)
  have HQ := hide (fun w1 (k : Below w.heap.size w w1) => rmoved_any (hb.ref.below k) A)
  have HT := hide (fun w1 => three_nat X w1)
  rw [hd] at cp cq
  have lpw := h.bk.fl.lt
  clear h hb hd
  have y0 : (0 : Int) ≤ (t3 X : Int) := by omega
  have y1 : (t3 X : Int) < 3 := by omega
  generalize t3 X = t at *
  go_enter Try.func14, Try.ntmps14
  go_wp2_with fail
  obtain ⟨w1, hw1⟩ : ∃ w1, w1 = w.alloc (.cells #[.int .i64 9, .int .i64 X, .int .i64 Y, .int .i64 A, .int .i64 B, .int .i64 C, .int .u64 (U : Nat), sD] 26) := ⟨_, rfl⟩
  rw [← hw1]
  have HB1 : Hid (Below w.heap.size w w1) := hide (by rw [hw1]; exact (Below.refl _ _).alloc (Nat.le_refl _) _)
  have e1 : w1.cell? ⟨pw, t, none⟩ = some (.pointer (some ⟨d.p, 0, none⟩)) := ((unhide HB1).cell (p := ⟨pw, t, none⟩) lpw).trans cp
  have e2 : w1.cell? ⟨pw, 3 + t, none⟩ = some (.pointer (some ⟨d.pr, 0, none⟩)) := ((unhide HB1).cell (p := ⟨pw, 3 + t, none⟩) lpw).trans cq
  have hop : w1.heap[w.heap.size]? = some (.cells #[.int .i64 9, .int .i64 X, .int .i64 Y, .int .i64 A, .int .i64 B, .int .i64 C, .int .u64 (U : Nat), sD] 26) := by rw [hw1]; exact heap_alloc_new w _
  have hbo : w.heap.size < w1.heap.size := by rw [hw1]; simp
  have HOP : Hid (∀ wq, Below w1.heap.size w1 wq → wq.cell? ⟨w.heap.size, 0, none⟩ = some (.int .i64 9) ∧ wq.cell? ⟨w.heap.size, 1, none⟩ = some (.int .i64 X) ∧ wq.cell? ⟨w.heap.size, 3, none⟩ = some (.int .i64 A) ∧ wq.cell? ⟨w.heap.size, 4, none⟩ = some (.int .i64 B)) := hide (fun wq k => by
    have e := k.block w.heap.size hbo
    rw [hop] at e
    simp only [World.cell?, e]
    exact ⟨rfl, rfl, rfl, rfl⟩)
  have HLO := hide hbo
  have lpw1 : pw < w1.heap.size := by omega
  have HPW : Hid (∀ wq, Below w1.heap.size w1 wq → wq.cell? ⟨pw, t, none⟩ = some (.pointer (some ⟨d.p, 0, none⟩)) ∧ wq.cell? ⟨pw, 3 + t, none⟩ = some (.pointer (some ⟨d.pr, 0, none⟩))) := hide (fun wq k => ⟨(k.cell (p := ⟨pw, t, none⟩) lpw1).trans e1, (k.cell (p := ⟨pw, 3 + t, none⟩) lpw1).trans e2⟩)
  obtain ⟨o0, o1, o3, o4⟩ := unhide HOP w1 (Below.refl _ _)
  clear hop hbo hw1 cp cq
  go_quiet (first | (go_at_call 12; exact Calls.quiet_of_same (unhide HT _)))
  obtain ⟨w2, hw2⟩ : ∃ w2, w2 = w1.drewN nq := ⟨_, rfl⟩
  rw [← hw2]
  have HC2 : Hid (Below w1.heap.size w1 w2) := hide (by rw [hw2]; exact below_drewN (Below.refl _ _) nq)
  have HB2 : Hid (Below w.heap.size w w2) := hide ((unhide HB1).trans ((unhide HC2).mono (unhide HB1).size))
  clear hw2 e1 e2 lpw1 o0 o1 o3 o4
  obtain ⟨o0, o1, o3, o4⟩ := unhide HOP w2 (unhide HC2)
  go_wp2_with fail
  refine (unhide HP w2 (unhide HB2)).mono ?_
  rintro e w3 ⟨rfl, b3⟩
  have HC3 : Hid (Below w1.heap.size w1 w3) := hide ((unhide HC2).trans (b3.mono (unhide HC2).size))
  have HB3 : Hid (Below w.heap.size w w3) := hide ((unhide HB2).trans (b3.mono (unhide HB2).size))
  clear b3
  clear o0 o1 o3 o4
  obtain ⟨o0, o1, o3, o4⟩ := unhide HOP w3 (unhide HC3)
  go_wp2_with fail
  refine (unhide HQ w3 (unhide HB3)).mono ?_
  rintro e w4 ⟨rfl, b4⟩
  have HC4 : Hid (Below w1.heap.size w1 w4) := hide ((unhide HC3).trans (b4.mono (unhide HC3).size))
  have HB4 : Hid (Below w.heap.size w w4) := hide ((unhide HB3).trans (b4.mono (unhide HB3).size))
  clear b4 o0 o1 o3 o4 HP HQ
  generalize (rmoved d.R A).1 = a1 at *
  generalize (rmoved d.R A).2.1 = a2 at *
  generalize (rmoved d.R A).2.2 = a3 at *
  go_wp2_with fail
  refine (num_any _ _).mono ?_
  rintro e w' ⟨rfl, hw'⟩
  obtain rfl := hw'.symm
  go_wp2
  go_ret
  exact ⟨rfl, unhide HB4⟩
theorem words_none {w0 w : World} {pw : Nat} {tag rt kt : Nat → Nat} {S : BookSt} {D : Nat → Option Dat} {V : Nat → Value} (h : WAt w0 w pw tag rt kt S D V) (K : Int) (X Y A B C : Int) (U : Nat) (sD : Value) (d : Dat) (hd : D (t3 X) = some d) (k2 : K ≠ 2) (k3 : K ≠ 3) (k4 : K ≠ 4) (k5 : K ≠ 5) (k9 : K ≠ 9) :
    Calls Try.prog 14 #[.pointer (some ⟨pw, 0, none⟩), .agg #[.int .i64 K, .int .i64 X, .int .i64 Y, .int .i64 A, .int .i64 B, .int .i64 C, .int .u64 (U : Nat), sD]] w fun e w' => e = .returned (.bool true) ∧ Below w.heap.size w w' := by
  have d2 : (K == 2) = false := by rw [beq_eq_false_iff_ne]; exact k2
  have d3 : (K == 3) = false := by rw [beq_eq_false_iff_ne]; exact k3
  have d4 : (K == 4) = false := by rw [beq_eq_false_iff_ne]; exact k4
  have d5 : (K == 5) = false := by rw [beq_eq_false_iff_ne]; exact k5
  have d9 : (K == 9) = false := by rw [beq_eq_false_iff_ne]; exact k9
  clear k2 k3 k4 k5 k9
  have hx := t3_lt X
  obtain ⟨cp, _⟩ := h.cp _ hx
  obtain ⟨cq, _⟩ := h.cq _ hx
  have hb := h.bl _ _ hx hd
  have HT := hide (fun w1 => three_nat X w1)
  rw [hd] at cp cq
  have lpw := h.bk.fl.lt
  clear h hb hd
  have y0 : (0 : Int) ≤ (t3 X : Int) := by omega
  have y1 : (t3 X : Int) < 3 := by omega
  generalize t3 X = t at *
  go_enter Try.func14, Try.ntmps14
  go_wp2_with fail
  obtain ⟨w1, hw1⟩ : ∃ w1, w1 = w.alloc (.cells #[.int .i64 K, .int .i64 X, .int .i64 Y, .int .i64 A, .int .i64 B, .int .i64 C, .int .u64 (U : Nat), sD] 26) := ⟨_, rfl⟩
  rw [← hw1]
  have HB1 : Hid (Below w.heap.size w w1) := hide (by rw [hw1]; exact (Below.refl _ _).alloc (Nat.le_refl _) _)
  have e1 : w1.cell? ⟨pw, t, none⟩ = some (.pointer (some ⟨d.p, 0, none⟩)) := ((unhide HB1).cell (p := ⟨pw, t, none⟩) lpw).trans cp
  have e2 : w1.cell? ⟨pw, 3 + t, none⟩ = some (.pointer (some ⟨d.pr, 0, none⟩)) := ((unhide HB1).cell (p := ⟨pw, 3 + t, none⟩) lpw).trans cq
  have hop : w1.heap[w.heap.size]? = some (.cells #[.int .i64 K, .int .i64 X, .int .i64 Y, .int .i64 A, .int .i64 B, .int .i64 C, .int .u64 (U : Nat), sD] 26) := by rw [hw1]; exact heap_alloc_new w _
  have hbo : w.heap.size < w1.heap.size := by rw [hw1]; simp
  have HOP : Hid (∀ wq, Below w1.heap.size w1 wq → wq.cell? ⟨w.heap.size, 0, none⟩ = some (.int .i64 K) ∧ wq.cell? ⟨w.heap.size, 1, none⟩ = some (.int .i64 X) ∧ wq.cell? ⟨w.heap.size, 3, none⟩ = some (.int .i64 A) ∧ wq.cell? ⟨w.heap.size, 4, none⟩ = some (.int .i64 B)) := hide (fun wq k => by
    have e := k.block w.heap.size hbo
    rw [hop] at e
    simp only [World.cell?, e]
    exact ⟨rfl, rfl, rfl, rfl⟩)
  have HLO := hide hbo
  have lpw1 : pw < w1.heap.size := by omega
  have HPW : Hid (∀ wq, Below w1.heap.size w1 wq → wq.cell? ⟨pw, t, none⟩ = some (.pointer (some ⟨d.p, 0, none⟩)) ∧ wq.cell? ⟨pw, 3 + t, none⟩ = some (.pointer (some ⟨d.pr, 0, none⟩))) := hide (fun wq k => ⟨(k.cell (p := ⟨pw, t, none⟩) lpw1).trans e1, (k.cell (p := ⟨pw, 3 + t, none⟩) lpw1).trans e2⟩)
  obtain ⟨o0, o1, o3, o4⟩ := unhide HOP w1 (Below.refl _ _)
  clear hop hbo hw1 cp cq
  go_quiet (first | (go_at_call 12; exact Calls.quiet_of_same (unhide HT _)))
  obtain ⟨w2, hw2⟩ : ∃ w2, w2 = w1.drewN nq := ⟨_, rfl⟩
  rw [← hw2]
  have HC2 : Hid (Below w1.heap.size w1 w2) := hide (by rw [hw2]; exact below_drewN (Below.refl _ _) nq)
  have HB2 : Hid (Below w.heap.size w w2) := hide ((unhide HB1).trans ((unhide HC2).mono (unhide HB1).size))
  clear hw2 e1 e2 lpw1 o0 o1 o3 o4
  obtain ⟨o0, o1, o3, o4⟩ := unhide HOP w2 (unhide HC2)
  go_wp2
  go_ret
  exact ⟨rfl, unhide HB2⟩
/-- what is nobody's stays -/
theorem WAt.frame {w0 w : World} {pw : Nat} {tag rt kt : Nat → Nat} {S : BookSt} {D : Nat → Option Dat} {V : Nat → Value} (h : WAt w0 w pw tag rt kt S D V) {i : Nat} {d : Dat} (hi : i < 3) (hd : D i = some d) {w1 w2 w' : World} {rt' : Nat → Nat} (k : Below w.heap.size w w1) (b : But [d.p, d.bw, d.bh] w1 w2) (c : RChg (Mine i) rt rt' w2 w') : (∀ g, g < w.heap.size → rt g = 0 → kt g = 0 → w'.heap[g]? = w.heap[g]?) ∧ w.heap.size ≤ w'.heap.size := by
  have s1 := k.size
  have s2 := b.size
  have s3 := c.size
  refine ⟨fun g hg hr hk => (c.blk g (by omega) (by rw [hr]; exact mine0 _)).trans ((b.block g (by omega) (fun hx => ?_)).trans (k.block g hg)), by omega⟩
  have := h.mem hi hd g hx
  omega
theorem setD_some {D : Nat → Option Dat} {i : Nat} {d : Dat} (hd : D i = some d) (x : Dat) : ∀ j, j < 3 → (setD D i x j).isSome = (D j).isSome := fun j _ => by
  unfold setD
  by_cases e : j = i
  · rw [if_pos e, e, hd]; rfl
  · rw [if_neg e]
theorem words_set {w0 w : World} {pw : Nat} {tag rt kt : Nat → Nat} {S : BookSt} {D : Nat → Option Dat} {V : Nat → Value} (h : WAt w0 w pw tag rt kt S D V) (X Y A B C : Int) (U : Nat) (sD : Value) (d : Dat) (hd : D (t3 X) = some d) (hU : U < 18446744073709551616) :
    Calls Try.prog 14 #[.pointer (some ⟨pw, 0, none⟩), .agg #[.int .i64 5, .int .i64 X, .int .i64 Y, .int .i64 A, .int .i64 B, .int .i64 C, .int .u64 (U : Nat), sD]] w fun e w' => e = .returned (.bool true) ∧ (∃ rt' D', WAt w0 w' pw tag rt' kt S D' V ∧ ∀ i, i < 3 → (D' i).isSome = (D i).isSome) ∧ (∀ g, g < w.heap.size → rt g = 0 → kt g = 0 → w'.heap[g]? = w.heap[g]?) ∧ w.heap.size ≤ w'.heap.size := by
  have hwb := h.bl _ _ (t3_lt X) hd
  have HNE : Hid (w.heap.size ∉ [d.p, d.bw, d.bh]) := hide (by have a1 := hwb.ar.lp; have a2 := hwb.ar.lw; have a3 := hwb.ar.lh; simp; omega)
  have HP := hide (fun w1 (k : Below w.heap.size w w1) => p_set (hwb.ar.below k) hwb.rel hwb.ref.ok A B U hU)
  have HQ : Hid (∀ w1 w2, Below w.heap.size w w1 → But [d.p, d.bw, d.bh] w1 w2 → Calls Try.prog 26 #[.pointer (some ⟨d.pr, 0, none⟩), .int .i64 A, .int .i64 B, .int .u64 (U : Nat)] w2 fun e w' => e = .returned (.int .i64 (rsetErr d.R A B : Nat)) ∧ RChg (Mine (t3 X)) rt rt w2 w' ∧ ((rsetErr d.R A B ≠ 0 ∧ RefAt w' d.pr (t3 X) rt d.R) ∨ ∃ j m : Nat, j < d.R.L.length ∧ A = (place d.R.L j : Nat) ∧ B = m ∧ m < fldsOf d.R.L j ∧ d.R.Gn.getD j none = none ∧ rsetErr d.R A B = 0 ∧ RefAt w' d.pr (t3 X) rt (d.R.put j m U))) := hide (fun w1 w2 k b => by
    have hr := (h.below k).refs b (fun x hx => by rw [(h.below k).mem (t3_lt X) hd x hx]; omega)
    exact rset_any (hr.1 _ _ (t3_lt X) hd) hr.2 A B U hU)
  have HEND : Hid (∀ w1 w2 w' ws', Below w.heap.size w w1 → But [d.p, d.bw, d.bh] w1 w2 → Ar w2 d.p d.bw d.bh ws' d.hs d.used → (rsetErr d.R A B ≠ 0 → ws' = d.ws) → (rsetErr d.R A B = 0 → ∀ j m : Nat, j < d.R.L.length → A = (place d.R.L j : Nat) → B = m → m < fldsOf d.R.L j → Rel ws' d.hs d.used (d.R.put j m U)) → RChg (Mine (t3 X)) rt rt w2 w' → ((rsetErr d.R A B ≠ 0 ∧ RefAt w' d.pr (t3 X) rt d.R) ∨ ∃ j m : Nat, j < d.R.L.length ∧ A = (place d.R.L j : Nat) ∧ B = m ∧ m < fldsOf d.R.L j ∧ d.R.Gn.getD j none = none ∧ rsetErr d.R A B = 0 ∧ RefAt w' d.pr (t3 X) rt (d.R.put j m U)) → (∃ rt' D', WAt w0 w' pw tag rt' kt S D' V ∧ ∀ i, i < 3 → (D' i).isSome = (D i).isSome) ∧ (∀ g, g < w.heap.size → rt g = 0 → kt g = 0 → w'.heap[g]? = w.heap[g]?) ∧ w.heap.size ≤ w'.heap.size) := hide (fun w1 w2 w' ws' k b ar e1 e2 c hR => by
    refine ⟨?_, h.frame (t3_lt X) hd k b c⟩
    rcases hR with ⟨hne, hR⟩ | ⟨j, m, a1, a2, a3, a4, a5, a6, hR⟩
    · have := e1 hne
      subst this
      exact ⟨rt, _, (h.below k).one (t3_lt X) hd b c _ _ _ _ ar hR hwb.rel, setD_some hd _⟩
    · exact ⟨rt, _, (h.below k).one (t3_lt X) hd b c _ _ _ _ ar hR (e2 a6 j m a1 a2 a3 a4), setD_some hd _⟩)
  clear hwb
  have hx := t3_lt X
  obtain ⟨cp, _⟩ := h.cp _ hx
  obtain ⟨cq, _⟩ := h.cq _ hx
  have hb := h.bl _ _ hx hd
  have HT := hide (fun w1 => three_nat X w1)
  rw [hd] at cp cq
  have lpw := h.bk.fl.lt
  clear h hb hd
  have y0 : (0 : Int) ≤ (t3 X : Int) := by omega
  have y1 : (t3 X : Int) < 3 := by omega
  generalize t3 X = t at *
  go_enter Try.func14, Try.ntmps14
  go_wp2_with fail
  obtain ⟨w1, hw1⟩ : ∃ w1, w1 = w.alloc (.cells #[.int .i64 5, .int .i64 X, .int .i64 Y, .int .i64 A, .int .i64 B, .int .i64 C, .int .u64 (U : Nat), sD] 26) := ⟨_, rfl⟩
  rw [← hw1]
  have HB1 : Hid (Below w.heap.size w w1) := hide (by rw [hw1]; exact (Below.refl _ _).alloc (Nat.le_refl _) _)
  have e1 : w1.cell? ⟨pw, t, none⟩ = some (.pointer (some ⟨d.p, 0, none⟩)) := ((unhide HB1).cell (p := ⟨pw, t, none⟩) lpw).trans cp
  have e2 : w1.cell? ⟨pw, 3 + t, none⟩ = some (.pointer (some ⟨d.pr, 0, none⟩)) := ((unhide HB1).cell (p := ⟨pw, 3 + t, none⟩) lpw).trans cq
  have hop : w1.heap[w.heap.size]? = some (.cells #[.int .i64 5, .int .i64 X, .int .i64 Y, .int .i64 A, .int .i64 B, .int .i64 C, .int .u64 (U : Nat), sD] 26) := by rw [hw1]; exact heap_alloc_new w _
  have hbo : w.heap.size < w1.heap.size := by rw [hw1]; simp
  have HOP : Hid (∀ wq, Below w1.heap.size w1 wq → wq.cell? ⟨w.heap.size, 0, none⟩ = some (.int .i64 5) ∧ wq.cell? ⟨w.heap.size, 1, none⟩ = some (.int .i64 X) ∧ wq.cell? ⟨w.heap.size, 3, none⟩ = some (.int .i64 A) ∧ wq.cell? ⟨w.heap.size, 4, none⟩ = some (.int .i64 B) ∧ wq.cell? ⟨w.heap.size, 6, none⟩ = some (.int .u64 (U : Nat))) := hide (fun wq k => by
    have e := k.block w.heap.size hbo
    rw [hop] at e
    simp only [World.cell?, e]
    exact ⟨rfl, rfl, rfl, rfl, rfl⟩)
  have HLO := hide hbo
  have lpw1 : pw < w1.heap.size := by omega
  have HPW : Hid (∀ wq, Below w1.heap.size w1 wq → wq.cell? ⟨pw, t, none⟩ = some (.pointer (some ⟨d.p, 0, none⟩)) ∧ wq.cell? ⟨pw, 3 + t, none⟩ = some (.pointer (some ⟨d.pr, 0, none⟩))) := hide (fun wq k => ⟨(k.cell (p := ⟨pw, t, none⟩) lpw1).trans e1, (k.cell (p := ⟨pw, 3 + t, none⟩) lpw1).trans e2⟩)
  obtain ⟨o0, o1, o3, o4, o6⟩ := unhide HOP w1 (Below.refl _ _)
  clear hop hbo hw1 cp cq
  have HOPB : Hid (∀ wq w3, Below w1.heap.size w1 wq → But [d.p, d.bw, d.bh] wq w3 → w3.cell? ⟨w.heap.size, 0, none⟩ = some (.int .i64 5) ∧ w3.cell? ⟨w.heap.size, 1, none⟩ = some (.int .i64 X) ∧ w3.cell? ⟨w.heap.size, 3, none⟩ = some (.int .i64 A) ∧ w3.cell? ⟨w.heap.size, 4, none⟩ = some (.int .i64 B) ∧ w3.cell? ⟨w.heap.size, 6, none⟩ = some (.int .u64 (U : Nat))) := hide (fun wq w3 k b => by
    have e := unhide HOP wq k
    have hbl := b.block w.heap.size (Nat.lt_of_lt_of_le (unhide HLO) k.size) (unhide HNE)
    have hc := fun j => World.cell?_of_block (a := ⟨w.heap.size, j, none⟩) hbl
    simp only [hc]
    exact e)
  go_quiet (first | (go_at_call 12; exact Calls.quiet_of_same (unhide HT _)))
  obtain ⟨w2, hw2⟩ : ∃ w2, w2 = w1.drewN nq := ⟨_, rfl⟩
  rw [← hw2]
  have HC2 : Hid (Below w1.heap.size w1 w2) := hide (by rw [hw2]; exact below_drewN (Below.refl _ _) nq)
  have HB2 : Hid (Below w.heap.size w w2) := hide ((unhide HB1).trans ((unhide HC2).mono (unhide HB1).size))
  clear hw2 e1 e2 lpw1 o0 o1 o3 o4 o6
  obtain ⟨o0, o1, o3, o4, o6⟩ := unhide HOP w2 (unhide HC2)
  go_wp2_with fail
  refine (unhide HP w2 (unhide HB2)).mono ?_
  rintro e w3 ⟨rfl, b3, ws3, ar3, q1, q2⟩
  have HX3 := hide (And.intro b3 (And.intro ar3 (And.intro q1 q2)))
  clear b3 ar3 q1 q2 o0 o1 o3 o4 o6 HP
  obtain ⟨o0, o1, o3, o4, o6⟩ := unhide HOPB w2 w3 (unhide HC2) (unhide HX3).1
  have HQ3 := hide (unhide HQ w2 w3 (unhide HB2) (unhide HX3).1)
  clear HQ
  go_wp2_with fail
  refine (unhide HQ3).mono ?_
  rintro e w4 ⟨rfl, c4, r4⟩
  have HE4 := hide (unhide HEND w2 w3 w4 ws3 (unhide HB2) (unhide HX3).1 (unhide HX3).2.1 (unhide HX3).2.2.1 (unhide HX3).2.2.2 c4 r4)
  clear c4 r4 HQ3 HEND HX3 HOPB HOP HPW o0 o1 o3 o4 o6
  generalize rsetErr d.R A B = a1 at *
  go_wp2_with fail
  refine (num_any _ _).mono ?_
  rintro e w' ⟨rfl, hw'⟩
  obtain rfl := hw'.symm
  go_wp2
  go_ret
  exact ⟨rfl, unhide HE4⟩
theorem words_alloc_shape {w0 w : World} {pw : Nat} {tag rt kt : Nat → Nat} {S : BookSt} {D : Nat → Option Dat} {V : Nat → Value} (h : WAt w0 w pw tag rt kt S D V) (X Y A B C : Int) (U : Nat) (sD : Value) (d : Dat) (hd : D (t3 X) = some d) (hf : ¬ Fits A B C) :
    Calls Try.prog 14 #[.pointer (some ⟨pw, 0, none⟩), .agg #[.int .i64 2, .int .i64 X, .int .i64 Y, .int .i64 A, .int .i64 B, .int .i64 C, .int .u64 (U : Nat), sD]] w fun e w' => e = .returned (.bool true) ∧ (∃ rt' D', WAt w0 w' pw tag rt' kt S D' V ∧ ∀ i, i < 3 → (D' i).isSome = (D i).isSome) ∧ (∀ g, g < w.heap.size → rt g = 0 → kt g = 0 → w'.heap[g]? = w.heap[g]?) ∧ w.heap.size ≤ w'.heap.size := by
  have hwb := h.bl _ _ (t3_lt X) hd
  have HNE : Hid (w.heap.size ∉ [d.p, d.bw, d.bh]) := hide (by have a1 := hwb.ar.lp; have a2 := hwb.ar.lw; have a3 := hwb.ar.lh; simp; omega)
  have HW := hide (fun w1 (k : Below w.heap.size w w1) => h.below k)
  have HP := hide (fun w1 (k : Below w.heap.size w w1) => alloc_shape A B C w1 (hwb.ar.below k) hf)
  have HQ := hide (fun w1 (k : Below w.heap.size w w1) => ralloc_shape (hwb.ref.below k) A B C hf)
  clear hf
  clear hwb
  have hx := t3_lt X
  obtain ⟨cp, _⟩ := h.cp _ hx
  obtain ⟨cq, _⟩ := h.cq _ hx
  have hb := h.bl _ _ hx hd
  have HT := hide (fun w1 => three_nat X w1)
  rw [hd] at cp cq
  have lpw := h.bk.fl.lt
  clear h hb hd
  have y0 : (0 : Int) ≤ (t3 X : Int) := by omega
  have y1 : (t3 X : Int) < 3 := by omega
  generalize t3 X = t at *
  go_enter Try.func14, Try.ntmps14
  go_wp2_with fail
  obtain ⟨w1, hw1⟩ : ∃ w1, w1 = w.alloc (.cells #[.int .i64 2, .int .i64 X, .int .i64 Y, .int .i64 A, .int .i64 B, .int .i64 C, .int .u64 (U : Nat), sD] 26) := ⟨_, rfl⟩
  rw [← hw1]
  have HB1 : Hid (Below w.heap.size w w1) := hide (by rw [hw1]; exact (Below.refl _ _).alloc (Nat.le_refl _) _)
  have e1 : w1.cell? ⟨pw, t, none⟩ = some (.pointer (some ⟨d.p, 0, none⟩)) := ((unhide HB1).cell (p := ⟨pw, t, none⟩) lpw).trans cp
  have e2 : w1.cell? ⟨pw, 3 + t, none⟩ = some (.pointer (some ⟨d.pr, 0, none⟩)) := ((unhide HB1).cell (p := ⟨pw, 3 + t, none⟩) lpw).trans cq
  have hop : w1.heap[w.heap.size]? = some (.cells #[.int .i64 2, .int .i64 X, .int .i64 Y, .int .i64 A, .int .i64 B, .int .i64 C, .int .u64 (U : Nat), sD] 26) := by rw [hw1]; exact heap_alloc_new w _
  have hbo : w.heap.size < w1.heap.size := by rw [hw1]; simp
  have HOP : Hid (∀ wq, Below w1.heap.size w1 wq → wq.cell? ⟨w.heap.size, 0, none⟩ = some (.int .i64 2) ∧ wq.cell? ⟨w.heap.size, 1, none⟩ = some (.int .i64 X) ∧ wq.cell? ⟨w.heap.size, 3, none⟩ = some (.int .i64 A) ∧ wq.cell? ⟨w.heap.size, 4, none⟩ = some (.int .i64 B) ∧ wq.cell? ⟨w.heap.size, 5, none⟩ = some (.int .i64 C)) := hide (fun wq k => by
    have e := k.block w.heap.size hbo
    rw [hop] at e
    simp only [World.cell?, e]
    exact ⟨rfl, rfl, rfl, rfl, rfl⟩)
  have HLO := hide hbo
  have lpw1 : pw < w1.heap.size := by omega
  have HPW : Hid (∀ wq, Below w1.heap.size w1 wq → wq.cell? ⟨pw, t, none⟩ = some (.pointer (some ⟨d.p, 0, none⟩)) ∧ wq.cell? ⟨pw, 3 + t, none⟩ = some (.pointer (some ⟨d.pr, 0, none⟩))) := hide (fun wq k => ⟨(k.cell (p := ⟨pw, t, none⟩) lpw1).trans e1, (k.cell (p := ⟨pw, 3 + t, none⟩) lpw1).trans e2⟩)
  obtain ⟨o0, o1, o3, o4, o5⟩ := unhide HOP w1 (Below.refl _ _)
  clear hop hbo hw1 cp cq
  have HOPB : Hid (∀ wq w3, Below w1.heap.size w1 wq → But [d.p, d.bw, d.bh] wq w3 → w3.cell? ⟨w.heap.size, 0, none⟩ = some (.int .i64 2) ∧ w3.cell? ⟨w.heap.size, 1, none⟩ = some (.int .i64 X) ∧ w3.cell? ⟨w.heap.size, 3, none⟩ = some (.int .i64 A) ∧ w3.cell? ⟨w.heap.size, 4, none⟩ = some (.int .i64 B) ∧ w3.cell? ⟨w.heap.size, 5, none⟩ = some (.int .i64 C)) := hide (fun wq w3 k b => by
    have e := unhide HOP wq k
    have hbl := b.block w.heap.size (Nat.lt_of_lt_of_le (unhide HLO) k.size) (unhide HNE)
    have hc := fun j => World.cell?_of_block (a := ⟨w.heap.size, j, none⟩) hbl
    simp only [hc]
    exact e)
  go_quiet (first | (go_at_call 12; exact Calls.quiet_of_same (unhide HT _)))
  obtain ⟨w2, hw2⟩ : ∃ w2, w2 = w1.drewN nq := ⟨_, rfl⟩
  rw [← hw2]
  have HC2 : Hid (Below w1.heap.size w1 w2) := hide (by rw [hw2]; exact below_drewN (Below.refl _ _) nq)
  have HB2 : Hid (Below w.heap.size w w2) := hide ((unhide HB1).trans ((unhide HC2).mono (unhide HB1).size))
  clear hw2 e1 e2 lpw1 o0 o1 o3 o4 o5
  obtain ⟨o0, o1, o3, o4, o5⟩ := unhide HOP w2 (unhide HC2)
  go_wp2_with fail
  refine (unhide HP w2 (unhide HB2)).mono ?_
  rintro e w3 ⟨rfl, b3⟩
  have HC3 : Hid (Below w1.heap.size w1 w3) := hide ((unhide HC2).trans (b3.mono (unhide HC2).size))
  have HB3 : Hid (Below w.heap.size w w3) := hide ((unhide HB2).trans (b3.mono (unhide HB2).size))
  clear b3
  clear o0 o1 o3 o4 o5
  obtain ⟨o0, o1, o3, o4, o5⟩ := unhide HOP w3 (unhide HC3)
  go_wp2_with fail
  refine (unhide HQ w3 (unhide HB3)).mono ?_
  rintro e w4 ⟨rfl, k4⟩
  have HE4 : Hid ((∃ rt' D', WAt w0 w4 pw tag rt' kt S D' V ∧ ∀ i, i < 3 → (D' i).isSome = (D i).isSome) ∧ (∀ g, g < w.heap.size → rt g = 0 → kt g = 0 → w4.heap[g]? = w.heap[g]?) ∧ w.heap.size ≤ w4.heap.size) := hide ⟨⟨rt, D, unhide HW w4 ((unhide HB3).trans (k4.below.mono (unhide HB3).size)), fun _ _ => rfl⟩, fun g hg _ _ => ((unhide HB3).trans (k4.below.mono (unhide HB3).size)).block g hg, ((unhide HB3).trans (k4.below.mono (unhide HB3).size)).size⟩
  clear k4 HP HQ HW HOPB HOP HPW o0 o1 o3 o4 o5
  go_wp2_with fail
  refine (num_any _ _).mono ?_
  rintro e w' ⟨rfl, hw'⟩
  obtain rfl := hw'.symm
  go_wp2
  go_ret
  exact ⟨rfl, unhide HE4⟩
theorem words_alloc_full {w0 w : World} {pw : Nat} {tag rt kt : Nat → Nat} {S : BookSt} {D : Nat → Option Dat} {V : Nat → Value} (h : WAt w0 w pw tag rt kt S D V) (X Y A B C : Int) (U : Nat) (sD : Value) (d : Dat) (hd : D (t3 X) = some d) (hf : Fits A B C) (hn : d.R.size < d.R.used + 1 + (B.toNat + C.toNat)) :
    Calls Try.prog 14 #[.pointer (some ⟨pw, 0, none⟩), .agg #[.int .i64 2, .int .i64 X, .int .i64 Y, .int .i64 A, .int .i64 B, .int .i64 C, .int .u64 (U : Nat), sD]] w fun e w' => e = .returned (.bool true) ∧ (∃ rt' D', WAt w0 w' pw tag rt' kt S D' V ∧ ∀ i, i < 3 → (D' i).isSome = (D i).isSome) ∧ (∀ g, g < w.heap.size → rt g = 0 → kt g = 0 → w'.heap[g]? = w.heap[g]?) ∧ w.heap.size ≤ w'.heap.size := by
  have hwb := h.bl _ _ (t3_lt X) hd
  have HNE : Hid (w.heap.size ∉ [d.p, d.bw, d.bh]) := hide (by have a1 := hwb.ar.lp; have a2 := hwb.ar.lw; have a3 := hwb.ar.lh; simp; omega)
  obtain ⟨f1, f2, f3, f4, f5, f6⟩ := hf
  obtain ⟨A, rfl⟩ := Int.eq_ofNat_of_zero_le (show 0 ≤ A by omega)
  obtain ⟨B, rfl⟩ := Int.eq_ofNat_of_zero_le f3
  obtain ⟨C, rfl⟩ := Int.eq_ofNat_of_zero_le f5
  rw [Int.toNat_natCast, Int.toNat_natCast] at hn
  have hsz := hwb.rel.sz
  have hus := hwb.rel.us
  have HW := hide (fun w1 (k : Below w.heap.size w w1) => h.below k)
  have HP := hide (fun w1 (k : Below w.heap.size w w1) => alloc_full A B C w1 (hwb.ar.below k) ⟨f1, f2, f3, f4, f5, f6⟩ (by omega))
  have HQ := hide (fun w1 (k : Below w.heap.size w w1) => ralloc_full (hwb.ref.below k) A B C ⟨f1, f2, f3, f4, f5, f6⟩ hn)
  clear hn hsz hus
  clear hwb
  have hx := t3_lt X
  obtain ⟨cp, _⟩ := h.cp _ hx
  obtain ⟨cq, _⟩ := h.cq _ hx
  have hb := h.bl _ _ hx hd
  have HT := hide (fun w1 => three_nat X w1)
  rw [hd] at cp cq
  have lpw := h.bk.fl.lt
  clear h hb hd
  have y0 : (0 : Int) ≤ (t3 X : Int) := by omega
  have y1 : (t3 X : Int) < 3 := by omega
  generalize t3 X = t at *
  go_enter Try.func14, Try.ntmps14
  go_wp2_with fail
  obtain ⟨w1, hw1⟩ : ∃ w1, w1 = w.alloc (.cells #[.int .i64 2, .int .i64 X, .int .i64 Y, .int .i64 A, .int .i64 B, .int .i64 C, .int .u64 (U : Nat), sD] 26) := ⟨_, rfl⟩
  rw [← hw1]
  have HB1 : Hid (Below w.heap.size w w1) := hide (by rw [hw1]; exact (Below.refl _ _).alloc (Nat.le_refl _) _)
  have e1 : w1.cell? ⟨pw, t, none⟩ = some (.pointer (some ⟨d.p, 0, none⟩)) := ((unhide HB1).cell (p := ⟨pw, t, none⟩) lpw).trans cp
  have e2 : w1.cell? ⟨pw, 3 + t, none⟩ = some (.pointer (some ⟨d.pr, 0, none⟩)) := ((unhide HB1).cell (p := ⟨pw, 3 + t, none⟩) lpw).trans cq
  have hop : w1.heap[w.heap.size]? = some (.cells #[.int .i64 2, .int .i64 X, .int .i64 Y, .int .i64 A, .int .i64 B, .int .i64 C, .int .u64 (U : Nat), sD] 26) := by rw [hw1]; exact heap_alloc_new w _
  have hbo : w.heap.size < w1.heap.size := by rw [hw1]; simp
  have HOP : Hid (∀ wq, Below w1.heap.size w1 wq → wq.cell? ⟨w.heap.size, 0, none⟩ = some (.int .i64 2) ∧ wq.cell? ⟨w.heap.size, 1, none⟩ = some (.int .i64 X) ∧ wq.cell? ⟨w.heap.size, 3, none⟩ = some (.int .i64 A) ∧ wq.cell? ⟨w.heap.size, 4, none⟩ = some (.int .i64 B) ∧ wq.cell? ⟨w.heap.size, 5, none⟩ = some (.int .i64 C)) := hide (fun wq k => by
    have e := k.block w.heap.size hbo
    rw [hop] at e
    simp only [World.cell?, e]
    exact ⟨rfl, rfl, rfl, rfl, rfl⟩)
  have HLO := hide hbo
  have lpw1 : pw < w1.heap.size := by omega
  have HPW : Hid (∀ wq, Below w1.heap.size w1 wq → wq.cell? ⟨pw, t, none⟩ = some (.pointer (some ⟨d.p, 0, none⟩)) ∧ wq.cell? ⟨pw, 3 + t, none⟩ = some (.pointer (some ⟨d.pr, 0, none⟩))) := hide (fun wq k => ⟨(k.cell (p := ⟨pw, t, none⟩) lpw1).trans e1, (k.cell (p := ⟨pw, 3 + t, none⟩) lpw1).trans e2⟩)
  obtain ⟨o0, o1, o3, o4, o5⟩ := unhide HOP w1 (Below.refl _ _)
  clear hop hbo hw1 cp cq
  have HOPB : Hid (∀ wq w3, Below w1.heap.size w1 wq → But [d.p, d.bw, d.bh] wq w3 → w3.cell? ⟨w.heap.size, 0, none⟩ = some (.int .i64 2) ∧ w3.cell? ⟨w.heap.size, 1, none⟩ = some (.int .i64 X) ∧ w3.cell? ⟨w.heap.size, 3, none⟩ = some (.int .i64 A) ∧ w3.cell? ⟨w.heap.size, 4, none⟩ = some (.int .i64 B) ∧ w3.cell? ⟨w.heap.size, 5, none⟩ = some (.int .i64 C)) := hide (fun wq w3 k b => by
    have e := unhide HOP wq k
    have hbl := b.block w.heap.size (Nat.lt_of_lt_of_le (unhide HLO) k.size) (unhide HNE)
    have hc := fun j => World.cell?_of_block (a := ⟨w.heap.size, j, none⟩) hbl
    simp only [hc]
    exact e)
  go_quiet (first | (go_at_call 12; exact Calls.quiet_of_same (unhide HT _)))
  obtain ⟨w2, hw2⟩ : ∃ w2, w2 = w1.drewN nq := ⟨_, rfl⟩
  rw [← hw2]
  have HC2 : Hid (Below w1.heap.size w1 w2) := hide (by rw [hw2]; exact below_drewN (Below.refl _ _) nq)
  have HB2 : Hid (Below w.heap.size w w2) := hide ((unhide HB1).trans ((unhide HC2).mono (unhide HB1).size))
  clear hw2 e1 e2 lpw1 o0 o1 o3 o4 o5
  obtain ⟨o0, o1, o3, o4, o5⟩ := unhide HOP w2 (unhide HC2)
  go_wp2_with fail
  refine (unhide HP w2 (unhide HB2)).mono ?_
  rintro e w3 ⟨rfl, b3⟩
  have HC3 : Hid (Below w1.heap.size w1 w3) := hide ((unhide HC2).trans (b3.mono (unhide HC2).size))
  have HB3 : Hid (Below w.heap.size w w3) := hide ((unhide HB2).trans (b3.mono (unhide HB2).size))
  clear b3
  clear o0 o1 o3 o4 o5
  obtain ⟨o0, o1, o3, o4, o5⟩ := unhide HOP w3 (unhide HC3)
  go_wp2_with fail
  refine (unhide HQ w3 (unhide HB3)).mono ?_
  rintro e w4 ⟨rfl, k4⟩
  have HE4 : Hid ((∃ rt' D', WAt w0 w4 pw tag rt' kt S D' V ∧ ∀ i, i < 3 → (D' i).isSome = (D i).isSome) ∧ (∀ g, g < w.heap.size → rt g = 0 → kt g = 0 → w4.heap[g]? = w.heap[g]?) ∧ w.heap.size ≤ w4.heap.size) := hide ⟨⟨rt, D, unhide HW w4 ((unhide HB3).trans (k4.below.mono (unhide HB3).size)), fun _ _ => rfl⟩, fun g hg _ _ => ((unhide HB3).trans (k4.below.mono (unhide HB3).size)).block g hg, ((unhide HB3).trans (k4.below.mono (unhide HB3).size)).size⟩
  clear k4 HP HQ HW HOPB HOP HPW o0 o1 o3 o4 o5
  go_wp2_with fail
  refine (num_any _ _).mono ?_
  rintro e w' ⟨rfl, hw'⟩
  obtain rfl := hw'.symm
  go_wp2
  go_ret
  exact ⟨rfl, unhide HE4⟩
theorem words_alloc_yes {w0 w : World} {pw : Nat} {tag rt kt : Nat → Nat} {S : BookSt} {D : Nat → Option Dat} {V : Nat → Value} (h : WAt w0 w pw tag rt kt S D V) (X Y A B C : Int) (U : Nat) (sD : Value) (d : Dat) (hd : D (t3 X) = some d) (hf : Fits A B C) (hn : d.R.used + 1 + (B.toNat + C.toNat) ≤ d.R.size) :
    Calls Try.prog 14 #[.pointer (some ⟨pw, 0, none⟩), .agg #[.int .i64 2, .int .i64 X, .int .i64 Y, .int .i64 A, .int .i64 B, .int .i64 C, .int .u64 (U : Nat), sD]] w fun e w' => e = .returned (.bool true) ∧ (∃ rt' D', WAt w0 w' pw tag rt' kt S D' V ∧ ∀ i, i < 3 → (D' i).isSome = (D i).isSome) ∧ (∀ g, g < w.heap.size → rt g = 0 → kt g = 0 → w'.heap[g]? = w.heap[g]?) ∧ w.heap.size ≤ w'.heap.size := by
  have hwb := h.bl _ _ (t3_lt X) hd
  have HNE : Hid (w.heap.size ∉ [d.p, d.bw, d.bh]) := hide (by have a1 := hwb.ar.lp; have a2 := hwb.ar.lw; have a3 := hwb.ar.lh; simp; omega)
  obtain ⟨f1, f2, f3, f4, f5, f6⟩ := hf
  obtain ⟨A, rfl⟩ := Int.eq_ofNat_of_zero_le (show 0 ≤ A by omega)
  obtain ⟨B, rfl⟩ := Int.eq_ofNat_of_zero_le f3
  obtain ⟨C, rfl⟩ := Int.eq_ofNat_of_zero_le f5
  rw [Int.toNat_natCast, Int.toNat_natCast] at hn
  have hsz := hwb.rel.sz
  have hus := hwb.rel.us
  have HP := hide (fun w1 (k : Below w.heap.size w w1) => alloc_yes A B C w1 (hwb.ar.below k) ⟨f1, f2, f3, f4, f5, f6⟩ (by omega))
  have HQ := hide (fun w1 w2 (k : Below w.heap.size w w1) (b : But [d.p, d.bw, d.bh] w1 w2) => ralloc_yes (((h.below k).refs b (fun x hx => by rw [(h.below k).mem (t3_lt X) hd x hx]; omega)).1 _ _ (t3_lt X) hd) ((h.below k).refs b (fun x hx => by rw [(h.below k).mem (t3_lt X) hd x hx]; omega)).2 A B C ⟨f1, f2, f3, f4, f5, f6⟩ hn)
  have HEND : Hid (∀ w1 w2 w', Below w.heap.size w w1 → But [d.p, d.bw, d.bh] w1 w2 → Ar w2 d.p d.bw d.bh (laid d.ws d.used (1 + B + C) (A + 256 * B + 4294967296 * C)) (mark d.hs d.used (1 + B + C)) (d.used + (1 + B + C)) → (∃ rt' F v', RefAt w' d.pr (t3 X) rt' (d.R.lay A B C (List.replicate (B + C) 0) F v') ∧ RChg (Mine (t3 X)) rt rt' w2 w') → (∃ rt' D', WAt w0 w' pw tag rt' kt S D' V ∧ ∀ i, i < 3 → (D' i).isSome = (D i).isSome) ∧ (∀ g, g < w.heap.size → rt g = 0 → kt g = 0 → w'.heap[g]? = w.heap[g]?) ∧ w.heap.size ≤ w'.heap.size) := hide (fun w1 w2 w' k b ar ⟨rt', F, v', hR, c⟩ => ⟨⟨rt', _, (h.below k).one (t3_lt X) hd b c _ _ _ _ ar hR (alloc_rel hwb.rel hwb.ref.ok A B C F v' (by omega)), setD_some hd _⟩, h.frame (t3_lt X) hd k b c⟩)
  rw [hus] at HP HEND
  generalize d.R.used = ru at HP HQ HEND
  clear hn hsz hus
  clear hwb
  have hx := t3_lt X
  obtain ⟨cp, _⟩ := h.cp _ hx
  obtain ⟨cq, _⟩ := h.cq _ hx
  have hb := h.bl _ _ hx hd
  have HT := hide (fun w1 => three_nat X w1)
  rw [hd] at cp cq
  have lpw := h.bk.fl.lt
  clear h hb hd
  have y0 : (0 : Int) ≤ (t3 X : Int) := by omega
  have y1 : (t3 X : Int) < 3 := by omega
  generalize t3 X = t at *
  go_enter Try.func14, Try.ntmps14
  go_wp2_with fail
  obtain ⟨w1, hw1⟩ : ∃ w1, w1 = w.alloc (.cells #[.int .i64 2, .int .i64 X, .int .i64 Y, .int .i64 A, .int .i64 B, .int .i64 C, .int .u64 (U : Nat), sD] 26) := ⟨_, rfl⟩
  rw [← hw1]
  have HB1 : Hid (Below w.heap.size w w1) := hide (by rw [hw1]; exact (Below.refl _ _).alloc (Nat.le_refl _) _)
  have e1 : w1.cell? ⟨pw, t, none⟩ = some (.pointer (some ⟨d.p, 0, none⟩)) := ((unhide HB1).cell (p := ⟨pw, t, none⟩) lpw).trans cp
  have e2 : w1.cell? ⟨pw, 3 + t, none⟩ = some (.pointer (some ⟨d.pr, 0, none⟩)) := ((unhide HB1).cell (p := ⟨pw, 3 + t, none⟩) lpw).trans cq
  have hop : w1.heap[w.heap.size]? = some (.cells #[.int .i64 2, .int .i64 X, .int .i64 Y, .int .i64 A, .int .i64 B, .int .i64 C, .int .u64 (U : Nat), sD] 26) := by rw [hw1]; exact heap_alloc_new w _
  have hbo : w.heap.size < w1.heap.size := by rw [hw1]; simp
  have HOP : Hid (∀ wq, Below w1.heap.size w1 wq → wq.cell? ⟨w.heap.size, 0, none⟩ = some (.int .i64 2) ∧ wq.cell? ⟨w.heap.size, 1, none⟩ = some (.int .i64 X) ∧ wq.cell? ⟨w.heap.size, 3, none⟩ = some (.int .i64 A) ∧ wq.cell? ⟨w.heap.size, 4, none⟩ = some (.int .i64 B) ∧ wq.cell? ⟨w.heap.size, 5, none⟩ = some (.int .i64 C)) := hide (fun wq k => by
    have e := k.block w.heap.size hbo
    rw [hop] at e
    simp only [World.cell?, e]
    exact ⟨rfl, rfl, rfl, rfl, rfl⟩)
  have HLO := hide hbo
  have lpw1 : pw < w1.heap.size := by omega
  have HPW : Hid (∀ wq, Below w1.heap.size w1 wq → wq.cell? ⟨pw, t, none⟩ = some (.pointer (some ⟨d.p, 0, none⟩)) ∧ wq.cell? ⟨pw, 3 + t, none⟩ = some (.pointer (some ⟨d.pr, 0, none⟩))) := hide (fun wq k => ⟨(k.cell (p := ⟨pw, t, none⟩) lpw1).trans e1, (k.cell (p := ⟨pw, 3 + t, none⟩) lpw1).trans e2⟩)
  obtain ⟨o0, o1, o3, o4, o5⟩ := unhide HOP w1 (Below.refl _ _)
  clear hop hbo hw1 cp cq
  have HOPB : Hid (∀ wq w3, Below w1.heap.size w1 wq → But [d.p, d.bw, d.bh] wq w3 → w3.cell? ⟨w.heap.size, 0, none⟩ = some (.int .i64 2) ∧ w3.cell? ⟨w.heap.size, 1, none⟩ = some (.int .i64 X) ∧ w3.cell? ⟨w.heap.size, 3, none⟩ = some (.int .i64 A) ∧ w3.cell? ⟨w.heap.size, 4, none⟩ = some (.int .i64 B) ∧ w3.cell? ⟨w.heap.size, 5, none⟩ = some (.int .i64 C)) := hide (fun wq w3 k b => by
    have e := unhide HOP wq k
    have hbl := b.block w.heap.size (Nat.lt_of_lt_of_le (unhide HLO) k.size) (unhide HNE)
    have hc := fun j => World.cell?_of_block (a := ⟨w.heap.size, j, none⟩) hbl
    simp only [hc]
    exact e)
  go_quiet (first | (go_at_call 12; exact Calls.quiet_of_same (unhide HT _)))
  obtain ⟨w2, hw2⟩ : ∃ w2, w2 = w1.drewN nq := ⟨_, rfl⟩
  rw [← hw2]
  have HC2 : Hid (Below w1.heap.size w1 w2) := hide (by rw [hw2]; exact below_drewN (Below.refl _ _) nq)
  have HB2 : Hid (Below w.heap.size w w2) := hide ((unhide HB1).trans ((unhide HC2).mono (unhide HB1).size))
  clear hw2 e1 e2 lpw1 o0 o1 o3 o4 o5
  obtain ⟨o0, o1, o3, o4, o5⟩ := unhide HOP w2 (unhide HC2)
  go_wp2_with fail
  refine (unhide HP w2 (unhide HB2)).mono ?_
  rintro e w3 ⟨rfl, ar3, b3⟩
  have HX3 := hide (And.intro b3 ar3)
  clear b3 ar3 o0 o1 o3 o4 o5 HP
  obtain ⟨o0, o1, o3, o4, o5⟩ := unhide HOPB w2 w3 (unhide HC2) (unhide HX3).1
  have HQ3 := hide (unhide HQ w2 w3 (unhide HB2) (unhide HX3).1)
  clear HQ
  go_wp2_with fail
  refine (unhide HQ3).mono ?_
  rintro e w4 ⟨rfl, r4⟩
  have HE4 := hide (unhide HEND w2 w3 w4 (unhide HB2) (unhide HX3).1 (unhide HX3).2 r4)
  clear r4 HQ3 HEND HX3 HOPB HOP HPW o0 o1 o3 o4 o5
  go_wp2_with fail
  refine (num_any _ _).mono ?_
  rintro e w' ⟨rfl, hw'⟩
  obtain rfl := hw'.symm
  go_wp2
  go_ret
  exact ⟨rfl, unhide HE4⟩
theorem words_all {w0 w : World} {pw : Nat} {tag rt kt : Nat → Nat} {S : BookSt} {D : Nat → Option Dat} {V : Nat → Value} (h : WAt w0 w pw tag rt kt S D V) (K X Y A B C : Int) (U : Nat) (sD : Value) (d : Dat) (hd : D (t3 X) = some d) (hU : U < 18446744073709551616) :
    Calls Try.prog 14 #[.pointer (some ⟨pw, 0, none⟩), .agg #[.int .i64 K, .int .i64 X, .int .i64 Y, .int .i64 A, .int .i64 B, .int .i64 C, .int .u64 (U : Nat), sD]] w fun e w' => e = .returned (.bool true) ∧ (∃ rt' D', WAt w0 w' pw tag rt' kt S D' V ∧ ∀ i, i < 3 → (D' i).isSome = (D i).isSome) ∧ (∀ g, g < w.heap.size → rt g = 0 → kt g = 0 → w'.heap[g]? = w.heap[g]?) ∧ w.heap.size ≤ w'.heap.size := by
  have asks : ∀ (e : Ending) (w' : World), e = .returned (.bool true) ∧ Below w.heap.size w w' → e = .returned (.bool true) ∧ (∃ rt' D', WAt w0 w' pw tag rt' kt S D' V ∧ ∀ i, i < 3 → (D' i).isSome = (D i).isSome) ∧ (∀ g, g < w.heap.size → rt g = 0 → kt g = 0 → w'.heap[g]? = w.heap[g]?) ∧ w.heap.size ≤ w'.heap.size := fun e w' ⟨he, k⟩ => ⟨he, ⟨rt, D, h.below k, fun _ _ => rfl⟩, fun g hg _ _ => k.block g hg, k.size⟩
  by_cases k2 : K = 2
  · subst k2
    by_cases hf : Fits A B C
    · by_cases hn : d.R.size < d.R.used + 1 + (B.toNat + C.toNat)
      · exact words_alloc_full h X Y A B C U sD d hd hf hn
      · exact words_alloc_yes h X Y A B C U sD d hd hf (by omega)
    · exact words_alloc_shape h X Y A B C U sD d hd hf
  · by_cases k3 : K = 3
    · subst k3
      exact (words_obj h X Y A B C U sD d hd).mono asks
    · by_cases k4 : K = 4
      · subst k4
        exact (words_get h X Y A B C U sD d hd).mono asks
      · by_cases k5 : K = 5
        · subst k5
          exact words_set h X Y A B C U sD d hd hU
        · by_cases k9 : K = 9
          · subst k9
            exact (words_moved h X Y A B C U sD d hd).mono asks
          · exact (words_none h K X Y A B C U sD d hd k2 k3 k4 k5 k9).mono asks
end Go.Proofs.Ytdgdnpgjbphgaab
