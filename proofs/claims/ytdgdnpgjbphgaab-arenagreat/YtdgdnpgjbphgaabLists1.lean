/- lists: the steps about lists and whole blocks: the lesser ones. -/
import Derived.Test.YtdgdnpgjbphgaabWords
import Derived.Deep.RegionHeld3
namespace Go.Proofs.Ytdgdnpgjbphgaab
open Go.ChangeShapes Go.WideShapes Go.ChangeAt Go.RowKit
set_option linter.unusedVariables false
set_option maxRecDepth 100000
set_option maxHeartbeats 4000000

theorem lists_none {w0 w : World} {pw : Nat} {tag rt kt : Nat → Nat} {S : BookSt} {D : Nat → Option Dat} {V : Nat → Value} (h : WAt w0 w pw tag rt kt S D V) (K : Int) (X Y A B C : Int) (U : Nat) (sD : Value) (d : Dat) (hd : D (t3 X) = some d) (k6 : K ≠ 6) (k7 : K ≠ 7) (k8 : K ≠ 8) (k10 : K ≠ 10) (k11 : K ≠ 11) (k12 : K ≠ 12) :
    Calls Try.prog 15 #[.pointer (some ⟨pw, 0, none⟩), .agg #[.int .i64 K, .int .i64 X, .int .i64 Y, .int .i64 A, .int .i64 B, .int .i64 C, .int .u64 (U : Nat), sD]] w fun e w' => e = .returned (.bool true) ∧ Below w.heap.size w w' := by
  have d6 : (K == 6) = false := by rw [beq_eq_false_iff_ne]; exact k6
  have d7 : (K == 7) = false := by rw [beq_eq_false_iff_ne]; exact k7
  have d8 : (K == 8) = false := by rw [beq_eq_false_iff_ne]; exact k8
  have d10 : (K == 10) = false := by rw [beq_eq_false_iff_ne]; exact k10
  have d11 : (K == 11) = false := by rw [beq_eq_false_iff_ne]; exact k11
  have d12 : (K == 12) = false := by rw [beq_eq_false_iff_ne]; exact k12
  clear k6 k7 k8 k10 k11 k12
  have hx := t3_lt X
  obtain ⟨cp, _⟩ := h.cp _ hx
  obtain ⟨cq, _⟩ := h.cq _ hx
  have hb := h.bl _ _ hx hd
  have HT := hide (fun w1 => three_nat X w1)
  rw [hd] at cp cq
  have lpw := h.bk.fl.lt
  clear h hb hd
  have y0 : (0 : Int) ≤ (t3 X : Int) := by omega
  have y1 : (t3 X : Int) < 3 := by omega
  generalize t3 X = t at *
  go_enter Try.func15, Try.ntmps15
  go_wp2_with fail
  obtain ⟨w1, hw1⟩ : ∃ w1, w1 = w.alloc (.cells #[.int .i64 K, .int .i64 X, .int .i64 Y, .int .i64 A, .int .i64 B, .int .i64 C, .int .u64 (U : Nat), sD] 26) := ⟨_, rfl⟩
  rw [← hw1]
  have HB1 : Hid (Below w.heap.size w w1) := hide (by rw [hw1]; exact (Below.refl _ _).alloc (Nat.le_refl _) _)
  have e1 : w1.cell? ⟨pw, t, none⟩ = some (.pointer (some ⟨d.p, 0, none⟩)) := ((unhide HB1).cell (p := ⟨pw, t, none⟩) lpw).trans cp
  have e2 : w1.cell? ⟨pw, 3 + t, none⟩ = some (.pointer (some ⟨d.pr, 0, none⟩)) := ((unhide HB1).cell (p := ⟨pw, 3 + t, none⟩) lpw).trans cq
  have hop : w1.heap[w.heap.size]? = some (.cells #[.int .i64 K, .int .i64 X, .int .i64 Y, .int .i64 A, .int .i64 B, .int .i64 C, .int .u64 (U : Nat), sD] 26) := by rw [hw1]; exact heap_alloc_new w _
  have hbo : w.heap.size < w1.heap.size := by rw [hw1]; simp
  have HOP : Hid (∀ wq, Below w1.heap.size w1 wq → wq.cell? ⟨w.heap.size, 0, none⟩ = some (.int .i64 K) ∧ wq.cell? ⟨w.heap.size, 1, none⟩ = some (.int .i64 X) ∧ wq.cell? ⟨w.heap.size, 3, none⟩ = some (.int .i64 A) ∧ wq.cell? ⟨w.heap.size, 4, none⟩ = some (.int .i64 B)) := hide (fun wq k => by
    have e := k.block w.heap.size hbo
    rw [hop] at e
    simp only [World.cell?, e]
    exact ⟨rfl, rfl, rfl, rfl⟩)
  have HLO := hide hbo
  have lpw1 : pw < w1.heap.size := by omega
  have HPW : Hid (∀ wq, Below w1.heap.size w1 wq → wq.cell? ⟨pw, t, none⟩ = some (.pointer (some ⟨d.p, 0, none⟩)) ∧ wq.cell? ⟨pw, 3 + t, none⟩ = some (.pointer (some ⟨d.pr, 0, none⟩))) := hide (fun wq k => ⟨(k.cell (p := ⟨pw, t, none⟩) lpw1).trans e1, (k.cell (p := ⟨pw, 3 + t, none⟩) lpw1).trans e2⟩)
  obtain ⟨o0, o1, o3, o4⟩ := unhide HOP w1 (Below.refl _ _)
  clear hop hbo hw1 cp cq
  go_quiet (first | (go_at_call 12; exact Calls.quiet_of_same (unhide HT _)))
  obtain ⟨w2, hw2⟩ : ∃ w2, w2 = w1.drewN nq := ⟨_, rfl⟩
  rw [← hw2]
  have HC2 : Hid (Below w1.heap.size w1 w2) := hide (by rw [hw2]; exact below_drewN (Below.refl _ _) nq)
  have HB2 : Hid (Below w.heap.size w w2) := hide ((unhide HB1).trans ((unhide HC2).mono (unhide HB1).size))
  clear hw2 e1 e2 lpw1 o0 o1 o3 o4
  obtain ⟨o0, o1, o3, o4⟩ := unhide HOP w2 (unhide HC2)
  go_wp2
  go_ret
  exact ⟨rfl, unhide HB2⟩
theorem lists_clear {w0 w : World} {pw : Nat} {tag rt kt : Nat → Nat} {S : BookSt} {D : Nat → Option Dat} {V : Nat → Value} (h : WAt w0 w pw tag rt kt S D V) (X Y A B C : Int) (U : Nat) (sD : Value) (d : Dat) (hd : D (t3 X) = some d) :
    Calls Try.prog 15 #[.pointer (some ⟨pw, 0, none⟩), .agg #[.int .i64 12, .int .i64 X, .int .i64 Y, .int .i64 A, .int .i64 B, .int .i64 C, .int .u64 (U : Nat), sD]] w fun e w' => e = .returned (.bool true) ∧ ∃ tag' rt' kt' S' D' V', WAt w0 w' pw tag' rt' kt' S' D' V' ∧ S'.turn ≤ S.turn + 1 := by
  have hwb := h.bl _ _ (t3_lt X) hd
  have HP := hide (fun w1 (k : Below w.heap.size w w1) => p_clear (hwb.ar.below k))
  have HQ := hide (fun w1 w2 (k : Below w.heap.size w w1) (b : But [d.p, d.bw, d.bh] w1 w2) => rclear_any (((h.below k).refs b (fun x hx => by rw [(h.below k).mem (t3_lt X) hd x hx]; omega)).1 _ _ (t3_lt X) hd) ((h.below k).refs b (fun x hx => by rw [(h.below k).mem (t3_lt X) hd x hx]; omega)).2)
  have HEND : Hid (∀ w1 w2 w', Below w.heap.size w w1 → But [d.p, d.bw, d.bh] w1 w2 → Ar w2 d.p d.bw d.bh d.ws d.hs 1 → RefAt w' d.pr (t3 X) rt (RefSt.new d.R.size) → RChg (Mine (t3 X)) rt rt w2 w' → ∃ tag' rt' kt' S' D' V', WAt w0 w' pw tag' rt' kt' S' D' V' ∧ S'.turn ≤ S.turn + 1) := hide (fun w1 w2 w' k b ar hR c => ⟨tag, rt, kt, S, _, V, (h.below k).one (t3_lt X) hd b c _ _ _ _ ar hR (hwb.rel.clear hwb.ar.u1), by omega⟩)
  clear hwb
  have hx := t3_lt X
  obtain ⟨cp, _⟩ := h.cp _ hx
  obtain ⟨cq, _⟩ := h.cq _ hx
  have hb := h.bl _ _ hx hd
  have HT := hide (fun w1 => three_nat X w1)
  rw [hd] at cp cq
  have lpw := h.bk.fl.lt
  clear h hb hd
  have y0 : (0 : Int) ≤ (t3 X : Int) := by omega
  have y1 : (t3 X : Int) < 3 := by omega
  generalize t3 X = t at *
  go_enter Try.func15, Try.ntmps15
  go_wp2_with fail
  obtain ⟨w1, hw1⟩ : ∃ w1, w1 = w.alloc (.cells #[.int .i64 12, .int .i64 X, .int .i64 Y, .int .i64 A, .int .i64 B, .int .i64 C, .int .u64 (U : Nat), sD] 26) := ⟨_, rfl⟩
  rw [← hw1]
  have HB1 : Hid (Below w.heap.size w w1) := hide (by rw [hw1]; exact (Below.refl _ _).alloc (Nat.le_refl _) _)
  have e1 : w1.cell? ⟨pw, t, none⟩ = some (.pointer (some ⟨d.p, 0, none⟩)) := ((unhide HB1).cell (p := ⟨pw, t, none⟩) lpw).trans cp
  have e2 : w1.cell? ⟨pw, 3 + t, none⟩ = some (.pointer (some ⟨d.pr, 0, none⟩)) := ((unhide HB1).cell (p := ⟨pw, 3 + t, none⟩) lpw).trans cq
  have hop : w1.heap[w.heap.size]? = some (.cells #[.int .i64 12, .int .i64 X, .int .i64 Y, .int .i64 A, .int .i64 B, .int .i64 C, .int .u64 (U : Nat), sD] 26) := by rw [hw1]; exact heap_alloc_new w _
  have hbo : w.heap.size < w1.heap.size := by rw [hw1]; simp
  have HOP : Hid (∀ wq, Below w1.heap.size w1 wq → wq.cell? ⟨w.heap.size, 0, none⟩ = some (.int .i64 12) ∧ wq.cell? ⟨w.heap.size, 1, none⟩ = some (.int .i64 X) ∧ wq.cell? ⟨w.heap.size, 3, none⟩ = some (.int .i64 A) ∧ wq.cell? ⟨w.heap.size, 4, none⟩ = some (.int .i64 B)) := hide (fun wq k => by
    have e := k.block w.heap.size hbo
    rw [hop] at e
    simp only [World.cell?, e]
    exact ⟨rfl, rfl, rfl, rfl⟩)
  have HLO := hide hbo
  have lpw1 : pw < w1.heap.size := by omega
  have HPW : Hid (∀ wq, Below w1.heap.size w1 wq → wq.cell? ⟨pw, t, none⟩ = some (.pointer (some ⟨d.p, 0, none⟩)) ∧ wq.cell? ⟨pw, 3 + t, none⟩ = some (.pointer (some ⟨d.pr, 0, none⟩))) := hide (fun wq k => ⟨(k.cell (p := ⟨pw, t, none⟩) lpw1).trans e1, (k.cell (p := ⟨pw, 3 + t, none⟩) lpw1).trans e2⟩)
  obtain ⟨o0, o1, o3, o4⟩ := unhide HOP w1 (Below.refl _ _)
  clear hop hbo hw1 cp cq
  go_quiet (first | (go_at_call 12; exact Calls.quiet_of_same (unhide HT _)))
  obtain ⟨w2, hw2⟩ : ∃ w2, w2 = w1.drewN nq := ⟨_, rfl⟩
  rw [← hw2]
  have HC2 : Hid (Below w1.heap.size w1 w2) := hide (by rw [hw2]; exact below_drewN (Below.refl _ _) nq)
  have HB2 : Hid (Below w.heap.size w w2) := hide ((unhide HB1).trans ((unhide HC2).mono (unhide HB1).size))
  clear hw2 e1 e2 lpw1 o0 o1 o3 o4
  obtain ⟨o0, o1, o3, o4⟩ := unhide HOP w2 (unhide HC2)
  go_wp2_with fail
  refine (unhide HP w2 (unhide HB2)).mono ?_
  rintro e w3 ⟨rfl, ar3, b3⟩
  have HX3 := hide (And.intro b3 ar3)
  clear b3 ar3 HP
  have HQ3 := hide (unhide HQ w2 w3 (unhide HB2) (unhide HX3).1)
  clear HQ
  go_wp2_with fail
  refine (unhide HQ3).mono ?_
  rintro e w4 ⟨rfl, r4, c4⟩
  have HE4 := hide (unhide HEND w2 w3 w4 (unhide HB2) (unhide HX3).1 (unhide HX3).2 r4 c4)
  clear r4 c4 HQ3 HEND HX3 HOP HPW
  go_wp2
  go_ret
  exact ⟨rfl, unhide HE4⟩
theorem lists_sizes {w0 w : World} {pw : Nat} {tag rt kt : Nat → Nat} {S : BookSt} {D : Nat → Option Dat} {V : Nat → Value} (h : WAt w0 w pw tag rt kt S D V) (X Y A B C : Int) (U : Nat) (sD : Value) (d : Dat) (hd : D (t3 X) = some d) :
    Calls Try.prog 15 #[.pointer (some ⟨pw, 0, none⟩), .agg #[.int .i64 10, .int .i64 X, .int .i64 Y, .int .i64 A, .int .i64 B, .int .i64 C, .int .u64 (U : Nat), sD]] w fun e w' => e = .returned (.bool true) ∧ Below w.heap.size w w' := by
  have hwb := h.bl _ _ (t3_lt X) hd
  have hsz := hwb.rel.sz
  have hus := hwb.rel.us
  have HP : Hid (∀ w1, Below w.heap.size w w1 → Calls Try.prog 38 #[.pointer (some ⟨d.p, 0, none⟩)] w1 fun e w' => e = .returned (.int .i64 (d.R.size : Nat)) ∧ w' = w1) := hide (fun w1 k => by rw [← hsz]; exact size_any w1 (hwb.ar.below k))
  have HQ : Hid (∀ w1, Below w.heap.size w w1 → Calls Try.prog 11 #[.pointer (some ⟨d.p, 0, none⟩)] w1 fun e w' => e = .returned (.int .i64 (d.R.used : Nat)) ∧ w' = w1) := hide (fun w1 k => by rw [← hus]; exact used_any w1 (hwb.ar.below k))
  have HR := hide (fun w1 (k : Below w.heap.size w w1) => And.intro (hwb.ref.below k).c0 (hwb.ref.below k).c1)
  clear hwb hsz hus
  have hx := t3_lt X
  obtain ⟨cp, _⟩ := h.cp _ hx
  obtain ⟨cq, _⟩ := h.cq _ hx
  have hb := h.bl _ _ hx hd
  have HT := hide (fun w1 => three_nat X w1)
  rw [hd] at cp cq
  have lpw := h.bk.fl.lt
  clear h hb hd
  have y0 : (0 : Int) ≤ (t3 X : Int) := by omega
  have y1 : (t3 X : Int) < 3 := by omega
  generalize t3 X = t at *
  go_enter Try.func15, Try.ntmps15
  go_wp2_with fail
  obtain ⟨w1, hw1⟩ : ∃ w1, w1 = w.alloc (.cells #[.int .i64 10, .int .i64 X, .int .i64 Y, .int .i64 A, .int .i64 B, .int .i64 C, .int .u64 (U : Nat), sD] 26) := ⟨_, rfl⟩
  rw [← hw1]
  have HB1 : Hid (Below w.heap.size w w1) := hide (by rw [hw1]; exact (Below.refl _ _).alloc (Nat.le_refl _) _)
  have e1 : w1.cell? ⟨pw, t, none⟩ = some (.pointer (some ⟨d.p, 0, none⟩)) := ((unhide HB1).cell (p := ⟨pw, t, none⟩) lpw).trans cp
  have e2 : w1.cell? ⟨pw, 3 + t, none⟩ = some (.pointer (some ⟨d.pr, 0, none⟩)) := ((unhide HB1).cell (p := ⟨pw, 3 + t, none⟩) lpw).trans cq
  have hop : w1.heap[w.heap.size]? = some (.cells #[.int .i64 10, .int .i64 X, .int .i64 Y, .int .i64 A, .int .i64 B, .int .i64 C, .int .u64 (U : Nat), sD] 26) := by rw [hw1]; exact heap_alloc_new w _
  have hbo : w.heap.size < w1.heap.size := by rw [hw1]; simp
  have HOP : Hid (∀ wq, Below w1.heap.size w1 wq → wq.cell? ⟨w.heap.size, 0, none⟩ = some (.int .i64 10) ∧ wq.cell? ⟨w.heap.size, 1, none⟩ = some (.int .i64 X) ∧ wq.cell? ⟨w.heap.size, 3, none⟩ = some (.int .i64 A) ∧ wq.cell? ⟨w.heap.size, 4, none⟩ = some (.int .i64 B)) := hide (fun wq k => by
    have e := k.block w.heap.size hbo
    rw [hop] at e
    simp only [World.cell?, e]
    exact ⟨rfl, rfl, rfl, rfl⟩)
  have HLO := hide hbo
  have lpw1 : pw < w1.heap.size := by omega
  have HPW : Hid (∀ wq, Below w1.heap.size w1 wq → wq.cell? ⟨pw, t, none⟩ = some (.pointer (some ⟨d.p, 0, none⟩)) ∧ wq.cell? ⟨pw, 3 + t, none⟩ = some (.pointer (some ⟨d.pr, 0, none⟩))) := hide (fun wq k => ⟨(k.cell (p := ⟨pw, t, none⟩) lpw1).trans e1, (k.cell (p := ⟨pw, 3 + t, none⟩) lpw1).trans e2⟩)
  obtain ⟨o0, o1, o3, o4⟩ := unhide HOP w1 (Below.refl _ _)
  clear hop hbo hw1 cp cq
  go_quiet (first | (go_at_call 12; exact Calls.quiet_of_same (unhide HT _)))
  obtain ⟨w2, hw2⟩ : ∃ w2, w2 = w1.drewN nq := ⟨_, rfl⟩
  rw [← hw2]
  have HC2 : Hid (Below w1.heap.size w1 w2) := hide (by rw [hw2]; exact below_drewN (Below.refl _ _) nq)
  have HB2 : Hid (Below w.heap.size w w2) := hide ((unhide HB1).trans ((unhide HC2).mono (unhide HB1).size))
  clear hw2 e1 e2 lpw1 o0 o1 o3 o4
  obtain ⟨o0, o1, o3, o4⟩ := unhide HOP w2 (unhide HC2)
  generalize d.R.size = r0 at *
  generalize d.R.used = r1 at *
  obtain ⟨p0, p1⟩ := unhide HR w2 (unhide HB2)
  have q0 : ((r0 : Int) == (r0 : Int)) = true := by simp
  have q1 : ((r1 : Int) == (r1 : Int)) = true := by simp
  have HP2 := hide (fun n => unhide HP (w2.drewN n) (below_drewN (unhide HB2) n))
  have HQ2 := hide (fun n => unhide HQ (w2.drewN n) (below_drewN (unhide HB2) n))
  have HP0 := hide (unhide HP w2 (unhide HB2))
  have HQ0 := hide (unhide HQ w2 (unhide HB2))
  go_wp2_with fail
  go_quiet (first | (go_at_call 38; exact Calls.quiet_of_same (unhide HP0)) | (go_at_call 11; exact Calls.quiet_of_same (unhide HQ0)) | (go_at_call 38; exact Calls.quiet_of_same (unhide HP2 _)) | (go_at_call 11; exact Calls.quiet_of_same (unhide HQ2 _)))
  go_wp2
  go_ret
  exact ⟨rfl, below_drewN (unhide HB2) nq⟩
theorem lists_take_core {w0 w : World} {pw : Nat} {tag rt kt : Nat → Nat} {S : BookSt} {D : Nat → Option Dat} {V : Nat → Value} (h : WAt w0 w pw tag rt kt S D V) (X Y A B C : Int) (U : Nat) (sD : Value) (d : Dat) (hd : D (t3 X) = some d) (s : Dat) (hsy : D (t3 Y) = some s) (u f : Nat) (PP QQ : World → World → Prop) (Post : World → Prop)
    (HP0 : ∀ wq, Below w.heap.size w wq → Calls Try.prog 36 #[.pointer (some ⟨d.p, 0, none⟩), .pointer (some ⟨s.p, 0, none⟩), .int .i64 A] wq fun e w' => e = .returned (.tuple #[.int .i64 (u : Nat), .int .i64 (f : Nat)]) ∧ PP wq w')
    (HD0 : ∀ wq w3, PP wq w3 → PP wq w3.drew)
    (HK0 : ∀ wq w3, Below w.heap.size w wq → PP wq w3 → w3.heap[pw]? = wq.heap[pw]? ∧ ∀ g, g < wq.heap.size → w.heap.size ≤ g → w3.heap[g]? = wq.heap[g]?)
    (HQ0 : ∀ wq w3, Below w.heap.size w wq → PP wq w3 → Calls Try.prog 37 #[.pointer (some ⟨d.pr, 0, none⟩), .pointer (some ⟨s.pr, 0, none⟩), .int .i64 A] w3 fun e w' => e = .returned (.tuple #[.int .i64 (u : Nat), .int .i64 (f : Nat)]) ∧ QQ w3 w')
    (HK1 : ∀ wq w3 w4, Below w.heap.size w wq → PP wq w3 → QQ w3 w4 → w4.heap[pw]? = wq.heap[pw]? ∧ ∀ g, g < wq.heap.size → w.heap.size ≤ g → w4.heap[g]? = wq.heap[g]?)
    (HE0 : ∀ wq w3 w4, Below w.heap.size w wq → PP wq w3 → QQ w3 w4 → Post w4) :
    Calls Try.prog 15 #[.pointer (some ⟨pw, 0, none⟩), .agg #[.int .i64 8, .int .i64 X, .int .i64 Y, .int .i64 A, .int .i64 B, .int .i64 C, .int .u64 (U : Nat), sD]] w fun e w' => e = .returned (.bool true) ∧ Post w' := by
  have hy := t3_lt Y
  obtain ⟨cpy, _⟩ := h.cp _ hy
  obtain ⟨cqy, _⟩ := h.cq _ hy
  rw [hsy] at cpy cqy
  have HTY := hide (fun w1 => three_nat Y w1)
  have HP := hide HP0
  have HK := hide HK0
  have HD := hide HD0
  have HQ := hide HQ0
  have HKK := hide HK1
  have HE := hide HE0
  clear HP0 HK0 HD0 HQ0 HK1 HE0 hsy
  obtain ⟨ty, hty⟩ : ∃ ty, ty = t3 Y := ⟨_, rfl⟩
  rw [← hty] at cpy cqy hy HTY
  clear hty
  have v0 : (0 : Int) ≤ (ty : Int) := by omega
  have v1 : (ty : Int) < 3 := by omega
  have hx := t3_lt X
  obtain ⟨cp, _⟩ := h.cp _ hx
  obtain ⟨cq, _⟩ := h.cq _ hx
  have hb := h.bl _ _ hx hd
  have HT := hide (fun w1 => three_nat X w1)
  rw [hd] at cp cq
  have lpw := h.bk.fl.lt
  clear h hb hd
  have y0 : (0 : Int) ≤ (t3 X : Int) := by omega
  have y1 : (t3 X : Int) < 3 := by omega
  generalize t3 X = t at *
  go_enter Try.func15, Try.ntmps15
  go_wp2_with fail
  obtain ⟨w1, hw1⟩ : ∃ w1, w1 = w.alloc (.cells #[.int .i64 8, .int .i64 X, .int .i64 Y, .int .i64 A, .int .i64 B, .int .i64 C, .int .u64 (U : Nat), sD] 26) := ⟨_, rfl⟩
  rw [← hw1]
  have HB1 : Hid (Below w.heap.size w w1) := hide (by rw [hw1]; exact (Below.refl _ _).alloc (Nat.le_refl _) _)
  have e1 : w1.cell? ⟨pw, t, none⟩ = some (.pointer (some ⟨d.p, 0, none⟩)) := ((unhide HB1).cell (p := ⟨pw, t, none⟩) lpw).trans cp
  have e2 : w1.cell? ⟨pw, 3 + t, none⟩ = some (.pointer (some ⟨d.pr, 0, none⟩)) := ((unhide HB1).cell (p := ⟨pw, 3 + t, none⟩) lpw).trans cq
  have hop : w1.heap[w.heap.size]? = some (.cells #[.int .i64 8, .int .i64 X, .int .i64 Y, .int .i64 A, .int .i64 B, .int .i64 C, .int .u64 (U : Nat), sD] 26) := by rw [hw1]; exact heap_alloc_new w _
  have hbo : w.heap.size < w1.heap.size := by rw [hw1]; simp
  have HOP : Hid (∀ wq, Below w1.heap.size w1 wq → wq.cell? ⟨w.heap.size, 0, none⟩ = some (.int .i64 8) ∧ wq.cell? ⟨w.heap.size, 1, none⟩ = some (.int .i64 X) ∧ wq.cell? ⟨w.heap.size, 2, none⟩ = some (.int .i64 Y) ∧ wq.cell? ⟨w.heap.size, 3, none⟩ = some (.int .i64 A)) := hide (fun wq k => by
    have e := k.block w.heap.size hbo
    rw [hop] at e
    simp only [World.cell?, e]
    exact ⟨rfl, rfl, rfl, rfl⟩)
  have HLO := hide hbo
  have lpw1 : pw < w1.heap.size := by omega
  have HPW : Hid (∀ wq, Below w1.heap.size w1 wq → wq.cell? ⟨pw, t, none⟩ = some (.pointer (some ⟨d.p, 0, none⟩)) ∧ wq.cell? ⟨pw, 3 + t, none⟩ = some (.pointer (some ⟨d.pr, 0, none⟩))) := hide (fun wq k => ⟨(k.cell (p := ⟨pw, t, none⟩) lpw1).trans e1, (k.cell (p := ⟨pw, 3 + t, none⟩) lpw1).trans e2⟩)
  obtain ⟨o0, o1, o2, o3⟩ := unhide HOP w1 (Below.refl _ _)
  have HPY : Hid (∀ wq, Below w1.heap.size w1 wq → wq.cell? ⟨pw, ty, none⟩ = some (.pointer (some ⟨s.p, 0, none⟩)) ∧ wq.cell? ⟨pw, 3 + ty, none⟩ = some (.pointer (some ⟨s.pr, 0, none⟩))) := hide (fun wq k => ⟨(k.cell (p := ⟨pw, ty, none⟩) lpw1).trans (((unhide HB1).cell (p := ⟨pw, ty, none⟩) lpw).trans cpy), (k.cell (p := ⟨pw, 3 + ty, none⟩) lpw1).trans (((unhide HB1).cell (p := ⟨pw, 3 + ty, none⟩) lpw).trans cqy)⟩)
  have HS2 : Hid (∀ (wq w3 : World), Below w1.heap.size w1 wq → w3.heap[pw]? = wq.heap[pw]? → w3.heap[w.heap.size]? = wq.heap[w.heap.size]? → w3.cell? ⟨w.heap.size, 2, none⟩ = some (.int .i64 Y) ∧ w3.cell? ⟨w.heap.size, 3, none⟩ = some (.int .i64 A) ∧ w3.cell? ⟨pw, ty, none⟩ = some (.pointer (some ⟨s.p, 0, none⟩)) ∧ w3.cell? ⟨pw, 3 + ty, none⟩ = some (.pointer (some ⟨s.pr, 0, none⟩))) := hide (fun wq w3 k e1 e2 => by
    obtain ⟨_, _, o2, o3⟩ := unhide HOP wq k
    obtain ⟨p1, p2⟩ := unhide HPY wq k
    exact ⟨(World.cell?_of_block (a := ⟨w.heap.size, 2, none⟩) e2).trans o2, (World.cell?_of_block (a := ⟨w.heap.size, 3, none⟩) e2).trans o3, (World.cell?_of_block (a := ⟨pw, ty, none⟩) e1).trans p1, (World.cell?_of_block (a := ⟨pw, 3 + ty, none⟩) e1).trans p2⟩)
  clear hop hbo hw1 cp cq cpy cqy
  go_quiet (first | (go_at_call 12; exact Calls.quiet_of_same (unhide HT _)))
  obtain ⟨w2, hw2⟩ : ∃ w2, w2 = w1.drewN nq := ⟨_, rfl⟩
  rw [← hw2]
  have HC2 : Hid (Below w1.heap.size w1 w2) := hide (by rw [hw2]; exact below_drewN (Below.refl _ _) nq)
  have HB2 : Hid (Below w.heap.size w w2) := hide ((unhide HB1).trans ((unhide HC2).mono (unhide HB1).size))
  clear hw2 e1 e2 lpw1 o0 o1 o2 o3
  obtain ⟨o0, o1, o2, o3⟩ := unhide HOP w2 (unhide HC2)
  obtain ⟨m1, m2⟩ := unhide HPY w2 (unhide HC2)
  go_wp2_with fail
  go_quiet (first | (go_at_call 12; exact Calls.quiet_of_same (unhide HTY _)))
  obtain ⟨w2', hw2'⟩ : ∃ w2', w2' = w2.drewN nq := ⟨_, rfl⟩
  rw [← hw2']
  have HC2' : Hid (Below w1.heap.size w1 w2') := hide (by rw [hw2']; exact below_drewN (unhide HC2) nq)
  have HB2' : Hid (Below w.heap.size w w2') := hide (by rw [hw2']; exact below_drewN (unhide HB2) nq)
  clear hw2' o0 o1 o2 o3 m1 m2 HC2 HB2
  obtain ⟨o0, o1, o2, o3⟩ := unhide HOP w2' (unhide HC2')
  obtain ⟨m1, m2⟩ := unhide HPY w2' (unhide HC2')
  go_wp2_with fail
  have HT3 : Hid (∀ wq, Still w2' wq → Below w.heap.size w wq) := hide (fun wq k => ⟨k.os.trans (unhide HB2').os, k.tape.trans (unhide HB2').tape, k.output.trans (unhide HB2').output, by rw [k.heap]; exact (unhide HB2').size, fun g hg => by rw [k.heap]; exact (unhide HB2').block g hg⟩)
  have HC3 : Hid (∀ wq, Still w2' wq → Below w1.heap.size w1 wq) := hide (fun wq k => ⟨k.os.trans (unhide HC2').os, k.tape.trans (unhide HC2').tape, k.output.trans (unhide HC2').output, by rw [k.heap]; exact (unhide HC2').size, fun g hg => by rw [k.heap]; exact (unhide HC2').block g hg⟩)
  have HKP : Hid (∀ wq w3, Still w2' wq → PP wq w3 → w3.cell? ⟨w.heap.size, 2, none⟩ = some (.int .i64 Y) ∧ w3.cell? ⟨w.heap.size, 3, none⟩ = some (.int .i64 A) ∧ w3.cell? ⟨pw, ty, none⟩ = some (.pointer (some ⟨s.p, 0, none⟩)) ∧ w3.cell? ⟨pw, 3 + ty, none⟩ = some (.pointer (some ⟨s.pr, 0, none⟩))) := hide (fun wq w3 k hp => unhide HS2 wq w3 (unhide HC3 wq k) (unhide HK wq w3 (unhide HT3 wq k) hp).1 ((unhide HK wq w3 (unhide HT3 wq k) hp).2 _ (Nat.lt_of_lt_of_le (unhide HLO) (unhide HC3 wq k).size) (Nat.le_refl _)))
  have HKQ : Hid (∀ wq w3 w4, Still w2' wq → PP wq w3 → QQ w3 w4 → w4.cell? ⟨w.heap.size, 2, none⟩ = some (.int .i64 Y) ∧ w4.cell? ⟨w.heap.size, 3, none⟩ = some (.int .i64 A) ∧ w4.cell? ⟨pw, 3 + ty, none⟩ = some (.pointer (some ⟨s.pr, 0, none⟩))) := hide (fun wq w3 w4 k hp hq => by
    have := unhide HS2 wq w4 (unhide HC3 wq k) (unhide HKK wq w3 w4 (unhide HT3 wq k) hp hq).1 ((unhide HKK wq w3 w4 (unhide HT3 wq k) hp hq).2 _ (Nat.lt_of_lt_of_le (unhide HLO) (unhide HC3 wq k).size) (Nat.le_refl _))
    exact ⟨this.1, this.2.1, this.2.2.2⟩)
  have HP3 := hide (fun wq (k : Still w2' wq) => unhide HP wq (unhide HT3 wq k))
  clear HP HT
  go_region_held3 (fun w' => w'.cell? ⟨w.heap.size, 2, none⟩ = some (.int .i64 Y) ∧ w'.cell? ⟨w.heap.size, 3, none⟩ = some (.int .i64 A) ∧ w'.cell? ⟨pw, ty, none⟩ = some (.pointer (some ⟨s.p, 0, none⟩)))
    (first | exact ⟨o2, o3, m1⟩ | assumption | exact ⟨(unhide HKP w2'.drew _ ⟨rfl, rfl, rfl, rfl⟩ (by assumption)).1, (unhide HKP w2'.drew _ ⟨rfl, rfl, rfl, rfl⟩ (by assumption)).2.1, (unhide HKP w2'.drew _ ⟨rfl, rfl, rfl, rfl⟩ (by assumption)).2.2.1⟩)
    (first
      | (go_at_call 12; refine (unhide HTY _).mono ?_; rintro e w9 ⟨rfl, hw9⟩; obtain rfl := hw9.symm)
      | (go_at_call 36; refine (unhide HP3 w2'.drew ⟨rfl, rfl, rfl, rfl⟩).mono ?_; rintro e w3 ⟨rfl, hp3⟩))
  obtain ⟨z2, z3, _, z4⟩ := unhide HKP w2'.drew w3 ⟨rfl, rfl, rfl, rfl⟩ hp3
  have hp3d := unhide HD _ _ hp3
  have HQ3 := hide (unhide HQ w2'.drew w3.drew (unhide HT3 w2'.drew ⟨rfl, rfl, rfl, rfl⟩) hp3d)
  have HX3 := hide hp3d
  clear hp3d
  clear hp3 o0 o1 o2 o3 m1 m2 HP3 HKP HQ
  go_wp2_with fail
  go_region_held3 (fun w' => w'.cell? ⟨w.heap.size, 2, none⟩ = some (.int .i64 Y) ∧ w'.cell? ⟨w.heap.size, 3, none⟩ = some (.int .i64 A) ∧ w'.cell? ⟨pw, 3 + ty, none⟩ = some (.pointer (some ⟨s.pr, 0, none⟩)))
    (first | exact ⟨z2, z3, z4⟩ | assumption | exact unhide HKQ w2'.drew w3.drew _ ⟨rfl, rfl, rfl, rfl⟩ (unhide HX3) (by assumption))
    (first
      | (go_at_call 12; refine (unhide HTY _).mono ?_; rintro e w9 ⟨rfl, hw9⟩; obtain rfl := hw9.symm)
      | (go_at_call 37; refine (unhide HQ3).mono ?_; rintro e w4 ⟨rfl, hq4⟩))
  have HE4 := hide (unhide HE w2'.drew w3.drew w4 (unhide HT3 w2'.drew ⟨rfl, rfl, rfl, rfl⟩) (unhide HX3) hq4)
  clear hq4 HQ3 HKQ HX3 HE HOP HPW HPY HS2 HKK HK z2 z3 z4
  go_wp2_with fail
  refine (num_any _ _).mono ?_
  rintro e w' ⟨rfl, hw'⟩
  obtain rfl := hw'.symm
  go_wp2
  go_ret
  exact ⟨rfl, unhide HE4⟩
end Go.Proofs.Ytdgdnpgjbphgaab
