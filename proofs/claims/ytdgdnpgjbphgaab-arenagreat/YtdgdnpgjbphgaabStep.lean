/- step. -/
import Derived.Test.YtdgdnpgjbphgaabLists2
import Derived.Test.YtdgdnpgjbphgaabLists4
import Derived.Test.YtdgdnpgjbphgaabLists5
namespace Go.Proofs.Ytdgdnpgjbphgaab
open Go.ChangeShapes Go.WideShapes Go.ChangeAt Go.RowKit
set_option linter.unusedVariables false
set_option maxRecDepth 100000
set_option maxHeartbeats 4000000

theorem lists_all {w0 w : World} {pw : Nat} {tag rt kt : Nat → Nat} {S : BookSt} {D : Nat → Option Dat} {V : Nat → Value} (h : WAt w0 w pw tag rt kt S D V) (K X Y A B C : Int) (U cD : Nat) (aD : Option Addr) (l : List Nat) (d : Dat) (hd : D (t3 X) = some d) (hB1 : B ≤ 9223372036854775807) (hB2 : -9223372036854775808 ≤ B) (hturn : S.turn < 1000000) (hl : l.length ≤ 140737488351232) (hB0 : Bytes w0 aD l) (hs : Small l) :
    Calls Try.prog 15 #[.pointer (some ⟨pw, 0, none⟩), .agg #[.int .i64 K, .int .i64 X, .int .i64 Y, .int .i64 A, .int .i64 B, .int .i64 C, .int .u64 (U : Nat), .slice aD l.length cD]] w fun e w' => e = .returned (.bool true) ∧ ∃ tag' rt' kt' S' D' V', WAt w0 w' pw tag' rt' kt' S' D' V' ∧ S'.turn ≤ S.turn + 1 := by
  have asks : ∀ (e : Ending) (w' : World), e = .returned (.bool true) ∧ Below w.heap.size w w' → e = .returned (.bool true) ∧ ∃ tag' rt' kt' S' D' V', WAt w0 w' pw tag' rt' kt' S' D' V' ∧ S'.turn ≤ S.turn + 1 := fun e w' ⟨he, k⟩ => ⟨he, tag, rt, kt, S, D, V, h.below k, by omega⟩
  by_cases k6 : K = 6
  · subst k6
    exact lists_bytes h X Y A B C U _ d hd hB1 hB2 hturn
  · by_cases k7 : K = 7
    · subst k7
      exact lists_setbytes h X Y A B C U cD aD l d hd hB1 hB2 hl hB0 hs
    · by_cases k8 : K = 8
      · subst k8
        exact lists_take h X Y A B C U _ d hd
      · by_cases k10 : K = 10
        · subst k10
          exact (lists_sizes h X Y A B C U _ d hd).mono asks
        · by_cases k11 : K = 11
          · subst k11
            exact lists_image h X Y A B C U _ d hd hturn
          · by_cases k12 : K = 12
            · subst k12
              exact lists_clear h X Y A B C U _ d hd
            · exact (lists_none h K X Y A B C U _ d hd k6 k7 k8 k10 k11 k12).mono asks
theorem step_nil {w0 w : World} {pw : Nat} {tag rt kt : Nat → Nat} {S : BookSt} {D : Nat → Option Dat} {V : Nat → Value} (h : WAt w0 w pw tag rt kt S D V) (K X Y A B C : Int) (U cD : Nat) (aD : Option Addr) (l : List Nat) (hd : D (t3 X) = none) (hK : K ≠ 1) :
    Calls Try.prog 6 #[.pointer (some ⟨pw, 0, none⟩), .agg #[.int .i64 K, .int .i64 X, .int .i64 Y, .int .i64 A, .int .i64 B, .int .i64 C, .int .u64 (U : Nat), .slice aD l.length cD]] w fun e w' => e = .returned (.bool true) ∧ Below w.heap.size w w' := by
  have HT := hide (fun w1 => three_nat X w1)
  have hx := t3_lt X
  have lpw := h.bk.fl.lt
  have y0 : (0 : Int) ≤ (t3 X : Int) := by omega
  have y1 : (t3 X : Int) < 3 := by omega
  obtain ⟨cp, _⟩ := h.cp _ hx
  rw [hd] at cp
  have d1 : (K == 1) = false := by rw [beq_eq_false_iff_ne]; exact hK
  clear hK hd
  clear h
  generalize t3 X = t at *
  go_enter Try.func6, Try.ntmps6
  go_upto_region 1 with fail
  obtain ⟨w1, hw1⟩ : ∃ w1, w1 = w.alloc (.cells #[.int .i64 K, .int .i64 X, .int .i64 Y, .int .i64 A, .int .i64 B, .int .i64 C, .int .u64 (U : Nat), .slice aD l.length cD] 26) := ⟨_, rfl⟩
  rw [← hw1]
  have HB1 : Hid (Below w.heap.size w w1) := hide (by rw [hw1]; exact (Below.refl _ _).alloc (Nat.le_refl _) _)
  have hop : w1.heap[w.heap.size]? = some (.cells #[.int .i64 K, .int .i64 X, .int .i64 Y, .int .i64 A, .int .i64 B, .int .i64 C, .int .u64 (U : Nat), .slice aD l.length cD] 26) := by rw [hw1]; exact heap_alloc_new w _
  have hbo : w.heap.size < w1.heap.size := by rw [hw1]; simp
  have HOP : Hid (∀ wq : World, wq.heap[w.heap.size]? = w1.heap[w.heap.size]? → wq.cell? ⟨w.heap.size, 0, none⟩ = some (.int .i64 K) ∧ wq.cell? ⟨w.heap.size, 1, none⟩ = some (.int .i64 X) ∧ wq.cell? ⟨w.heap.size, 2, none⟩ = some (.int .i64 Y) ∧ wq.cell? ⟨w.heap.size, 3, none⟩ = some (.int .i64 A) ∧ wq.cell? ⟨w.heap.size, 4, none⟩ = some (.int .i64 B) ∧ wq.cell? ⟨w.heap.size, 5, none⟩ = some (.int .i64 C) ∧ wq.cell? ⟨w.heap.size, 6, none⟩ = some (.int .u64 (U : Nat)) ∧ wq.cell? ⟨w.heap.size, 7, none⟩ = some (.slice aD l.length cD)) := hide (fun wq e => by
    rw [hop] at e
    simp only [World.cell?, e]
    exact ⟨rfl, rfl, rfl, rfl, rfl, rfl, rfl, rfl⟩)
  have HLO := hide hbo
  obtain ⟨o0, o1, o2, o3, o4, o5, o6, o7⟩ := unhide HOP w1 rfl
  clear hop hbo hw1
  have e1 : w1.cell? ⟨pw, t, none⟩ = some (.pointer none) := ((unhide HB1).cell (p := ⟨pw, t, none⟩) lpw).trans cp
  clear cp
  go_wp2_with fail
  refine (unhide HT w1).mono ?_
  rintro e w' ⟨rfl, hw'⟩
  obtain rfl := hw'.symm
  go_wp2
  go_ret
  exact ⟨rfl, unhide HB1⟩
theorem step_some {w0 w : World} {pw : Nat} {tag rt kt : Nat → Nat} {S : BookSt} {D : Nat → Option Dat} {V : Nat → Value} (h : WAt w0 w pw tag rt kt S D V) (K X Y A B C : Int) (U cD : Nat) (aD : Option Addr) (l : List Nat) (d : Dat) (hd : D (t3 X) = some d) (hK : K ≠ 1) (hU : U < 18446744073709551616) (hB1 : B ≤ 9223372036854775807) (hB2 : -9223372036854775808 ≤ B) (hturn : S.turn < 1000000) (hl : l.length ≤ 140737488351232) (hB0 : Bytes w0 aD l) (hs : Small l) :
    Calls Try.prog 6 #[.pointer (some ⟨pw, 0, none⟩), .agg #[.int .i64 K, .int .i64 X, .int .i64 Y, .int .i64 A, .int .i64 B, .int .i64 C, .int .u64 (U : Nat), .slice aD l.length cD]] w fun e w' => e = .returned (.bool true) ∧ ∃ tag' rt' kt' S' D' V', WAt w0 w' pw tag' rt' kt' S' D' V' ∧ S'.turn ≤ S.turn + 1 := by
  have HT := hide (fun w1 => three_nat X w1)
  have hx := t3_lt X
  have lpw := h.bk.fl.lt
  have y0 : (0 : Int) ≤ (t3 X : Int) := by omega
  have y1 : (t3 X : Int) < 3 := by omega
  obtain ⟨cp, _⟩ := h.cp _ hx
  rw [hd] at cp
  have d1 : (K == 1) = false := by rw [beq_eq_false_iff_ne]; exact hK
  have hk0 := (h.tag0 (Nat.le_refl w.heap.size)).2
  have HWD : Hid (∀ w1, Below w.heap.size w w1 → w.heap.size < w1.heap.size → Calls Try.prog 14 #[.pointer (some ⟨pw, 0, none⟩), .agg #[.int .i64 K, .int .i64 X, .int .i64 Y, .int .i64 A, .int .i64 B, .int .i64 C, .int .u64 (U : Nat), .slice aD l.length cD]] w1 fun e w' => e = .returned (.bool true) ∧ ((∃ rt' D', WAt w0 w' pw tag rt' kt S D' V ∧ ∀ i, i < 3 → (D' i).isSome = (D i).isSome) ∧ w'.heap[w.heap.size]? = w1.heap[w.heap.size]?)) := hide (fun w1 k hbo => by
    refine (words_all (h.below k) K X Y A B C U _ d hd hU).mono ?_
    rintro e w' ⟨rfl, q1, q2, _⟩
    exact ⟨rfl, q1, q2 _ hbo hk0.1 hk0.2.1⟩)
  have HLS : Hid (∀ w2, (∃ rt' D', WAt w0 w2 pw tag rt' kt S D' V ∧ ∀ i, i < 3 → (D' i).isSome = (D i).isSome) → Calls Try.prog 15 #[.pointer (some ⟨pw, 0, none⟩), .agg #[.int .i64 K, .int .i64 X, .int .i64 Y, .int .i64 A, .int .i64 B, .int .i64 C, .int .u64 (U : Nat), .slice aD l.length cD]] w2 fun e w' => e = .returned (.bool true) ∧ ∃ tag' rt' kt' S' D' V', WAt w0 w' pw tag' rt' kt' S' D' V' ∧ S'.turn ≤ S.turn + 1) := hide (fun w2 ⟨rt', D', hw, hD⟩ => by
    have h1 := hD (t3 X) (t3_lt X)
    rw [hd] at h1
    obtain ⟨d', hd'⟩ := Option.isSome_iff_exists.1 h1
    exact lists_all hw K X Y A B C U cD aD l d' hd' hB1 hB2 hturn hl hB0 hs)
  clear hK hd hk0 hB0 hs
  clear h
  generalize t3 X = t at *
  go_enter Try.func6, Try.ntmps6
  go_upto_region 1 with fail
  obtain ⟨w1, hw1⟩ : ∃ w1, w1 = w.alloc (.cells #[.int .i64 K, .int .i64 X, .int .i64 Y, .int .i64 A, .int .i64 B, .int .i64 C, .int .u64 (U : Nat), .slice aD l.length cD] 26) := ⟨_, rfl⟩
  rw [← hw1]
  have HB1 : Hid (Below w.heap.size w w1) := hide (by rw [hw1]; exact (Below.refl _ _).alloc (Nat.le_refl _) _)
  have hop : w1.heap[w.heap.size]? = some (.cells #[.int .i64 K, .int .i64 X, .int .i64 Y, .int .i64 A, .int .i64 B, .int .i64 C, .int .u64 (U : Nat), .slice aD l.length cD] 26) := by rw [hw1]; exact heap_alloc_new w _
  have hbo : w.heap.size < w1.heap.size := by rw [hw1]; simp
  have HOP : Hid (∀ wq : World, wq.heap[w.heap.size]? = w1.heap[w.heap.size]? → wq.cell? ⟨w.heap.size, 0, none⟩ = some (.int .i64 K) ∧ wq.cell? ⟨w.heap.size, 1, none⟩ = some (.int .i64 X) ∧ wq.cell? ⟨w.heap.size, 2, none⟩ = some (.int .i64 Y) ∧ wq.cell? ⟨w.heap.size, 3, none⟩ = some (.int .i64 A) ∧ wq.cell? ⟨w.heap.size, 4, none⟩ = some (.int .i64 B) ∧ wq.cell? ⟨w.heap.size, 5, none⟩ = some (.int .i64 C) ∧ wq.cell? ⟨w.heap.size, 6, none⟩ = some (.int .u64 (U : Nat)) ∧ wq.cell? ⟨w.heap.size, 7, none⟩ = some (.slice aD l.length cD)) := hide (fun wq e => by
    rw [hop] at e
    simp only [World.cell?, e]
    exact ⟨rfl, rfl, rfl, rfl, rfl, rfl, rfl, rfl⟩)
  have HLO := hide hbo
  obtain ⟨o0, o1, o2, o3, o4, o5, o6, o7⟩ := unhide HOP w1 rfl
  clear hop hbo hw1
  have e1 : w1.cell? ⟨pw, t, none⟩ = some (.pointer (some ⟨d.p, 0, none⟩)) := ((unhide HB1).cell (p := ⟨pw, t, none⟩) lpw).trans cp
  have HW1 := hide (unhide HWD w1 (unhide HB1) (unhide HLO))
  clear cp HWD
  go_wp2_with fail
  refine (unhide HT w1).mono ?_
  rintro e w' ⟨rfl, hw'⟩
  obtain rfl := hw'.symm
  go_wp2_with fail
  refine (unhide HW1).mono ?_
  rintro e w2 ⟨rfl, q2, f2⟩
  have HL2 := hide (unhide HLS w2 q2)
  clear o0 o1 o2 o3 o4 o5 o6 o7 HW1 HLS q2 e1
  obtain ⟨o0, o1, o2, o3, o4, o5, o6, o7⟩ := unhide HOP w2 f2
  go_wp2_with fail
  refine (unhide HL2).mono ?_
  rintro e w3 ⟨rfl, q3⟩
  have HE := hide q3
  clear q3 HL2 o0 o1 o2 o3 o4 o5 o6 o7
  go_wp2
  go_ret
  exact ⟨rfl, unhide HE⟩
/-- a pair's pointers are set -/
theorem WAt.cells {w0 w : World} {pw : Nat} {tag rt kt : Nat → Nat} {S : BookSt} {D : Nat → Option Dat} {V : Nat → Value} (h : WAt w0 w pw tag rt kt S D V) (t : Nat) (ht : t < 3) (x : Option Dat) (hx : ∀ d, x = some d → Blk w t kt rt d) :
    WAt w0 ((w.setCell ⟨pw, t, none⟩ (ptr x)).setCell ⟨pw, 3 + t, none⟩ (qtr x)) pw tag rt kt S (fun j => if j = t then x else D j) V := by
  obtain ⟨w', hw'⟩ : ∃ w', w' = (w.setCell ⟨pw, t, none⟩ (ptr x)).setCell ⟨pw, 3 + t, none⟩ (qtr x) := ⟨_, rfl⟩
  rw [← hw']
  have hsz : w'.heap.size = w.heap.size := by rw [hw']; simp
  have ho : ∀ g, g ≠ pw → w'.heap[g]? = w.heap[g]? := fun g hg => by rw [hw']; exact (setCell_else _ pw (3 + t) g _ hg).trans (setCell_else _ pw t g _ hg)
  have hc : ∀ j, j ≠ t → j ≠ 3 + t → w'.cell? ⟨pw, j, none⟩ = w.cell? ⟨pw, j, none⟩ := fun j h1 h2 => by
    rw [hw', World.cell?_setCell_other _ _ _ _ (fun e => by injection e with e1 e2; omega), World.cell?_setCell_other _ _ _ _ (fun e => by injection e with e1 e2; omega)]
  have hf : ∀ j, w'.frozen? ⟨pw, j, none⟩ = w.frozen? ⟨pw, j, none⟩ := fun j => by rw [hw', World.frozen?_setCell, World.frozen?_setCell]
  have hn : ∀ g, tag g ≠ 0 ∨ rt g ≠ 0 ∨ kt g ≠ 0 → g ≠ pw := fun g hg e => by
    rw [e] at hg
    have := h.tp
    have := h.bk.tp
    omega
  have kb : ∀ i d, Blk w i kt rt d → Blk w' i kt rt d := fun i d hb => hb.keep (by omega) (fun g _ hk => ho g (hn g (.inr (.inr (by omega))))) (fun g _ hm => ho g (hn g (.inr (.inl hm.1)))) (fun _ _ => rfl)
  refine ⟨fun i hi => ⟨?_, by rw [hf]; exact (h.cp i hi).2⟩, fun i hi => ⟨?_, by rw [hf]; exact (h.cq i hi).2⟩, h.bk.keep2 (by omega) (fun g hg => ho g (hn g (.inl hg))) (fun j h1 h2 => ⟨hc j (by omega) (by omega), hf j⟩), fun k hk => ?_, fun i d hi hd => ?_, h.ap, h.tp, fun g hg => by rw [hsz]; exact h.un g hg, h.lo, h.bp, ?_⟩
  · by_cases e : i = t
    · subst e
      rw [if_pos rfl, hw', World.cell?_setCell_other _ _ _ _ (fun e => by injection e with e1 e2; omega)]
      exact World.cell?_setCell_same' _ _ _ (by rw [(h.cp i hi).1]; rfl)
    · rw [if_neg e, hc i e (by omega)]
      exact (h.cp i hi).1
  · by_cases e : i = t
    · subst e
      rw [if_pos rfl, hw']
      exact World.cell?_setCell_same' _ _ _ (by rw [World.cell?_setCell_other _ _ _ _ (fun e => by injection e with e1 e2; omega), (h.cq i hi).1]; rfl)
    · rw [if_neg e, hc (3 + i) (by omega) (by omega)]
      exact (h.cq i hi).1
  · obtain ⟨r1, r2, ⟨n, f, r3⟩, r4⟩ := h.rm k hk
    exact ⟨(hc _ (by omega) (by omega)).trans r1, (hf _).trans r2, ⟨n, f, r3.same (fun g hg => ho g (hn g (.inr (.inr (by rw [r4 g hg]; omega)))))⟩, r4⟩
  · by_cases e : i = t
    · subst e
      rw [if_pos rfl] at hd
      exact kb i d (hx d hd)
    · rw [if_neg e] at hd
      exact kb i d (h.bl i d hi hd)
  · refine ⟨by rw [hw']; exact h.bel.os, by rw [hw']; exact h.bel.tape, by rw [hw']; exact h.bel.output, by rw [hsz]; exact h.bel.size, fun g hg => ?_⟩
    rw [ho g (fun e => by have := h.bp; omega)]
    exact h.bel.block g hg
/-- three blocks of nobody's become a pair's -/
theorem WAt.retag {w0 w : World} {pw : Nat} {tag rt kt : Nat → Nat} {S : BookSt} {D : Nat → Option Dat} {V : Nat → Value} (h : WAt w0 w pw tag rt kt S D V) (B : List Nat) (k : Nat) (hB : ∀ g ∈ B, tag g = 0 ∧ rt g = 0 ∧ kt g = 0 ∧ g ≠ pw ∧ w0.heap.size ≤ g ∧ g < w.heap.size) : WAt w0 w pw tag rt (fun g => if g ∈ B then k else kt g) S D V := by
  have old : ∀ g, kt g ≠ 0 → (if g ∈ B then k else kt g) = kt g := fun g hg => if_neg (fun hm => hg (hB g hm).2.2.1)
  have z : ∀ g, (if g ∈ B then k else kt g) ≠ 0 → g ∈ B ∨ kt g ≠ 0 := fun g hg => by
    by_cases e : g ∈ B
    · exact .inl e
    · rw [if_neg e] at hg; exact .inr hg
  refine ⟨h.cp, h.cq, h.bk, fun j hj => ?_, fun i d hi hd => ?_, fun g => ⟨fun hg => ?_, fun hg => ?_⟩, ⟨h.tp.1, ?_⟩, fun g hg => ?_, fun g hg => ?_, h.bp, h.bel⟩
  · obtain ⟨r1, r2, r3, r4⟩ := h.rm j hj
    exact ⟨r1, r2, r3, fun g hg => (old g (by rw [r4 g hg]; omega)).trans (r4 g hg)⟩
  · have hb := h.bl i d hi hd
    exact ⟨hb.ar, hb.ref, hb.rel, (old _ (by rw [hb.t1]; omega)).trans hb.t1, (old _ (by rw [hb.t2]; omega)).trans hb.t2, (old _ (by rw [hb.t3]; omega)).trans hb.t3⟩
  · have h1 := (h.ap g).1 hg
    exact ⟨h1.1, (if_neg (fun hm => hg (hB g hm).1)).trans h1.2⟩
  · have h1 := (h.ap g).2 hg
    exact (if_neg (fun hm => hg (hB g hm).2.1)).trans h1
  · exact (if_neg (fun hm => (hB pw hm).2.2.2.1 rfl)).trans h.tp.2
  · rcases hg with hg | hg
    · exact h.un g (.inl hg)
    · rcases z g hg with e | e
      · exact (hB g e).2.2.2.2.2
      · exact h.un g (.inr e)
  · rcases hg with hg | hg | hg
    · exact h.lo g (.inl hg)
    · exact h.lo g (.inr (.inl hg))
    · rcases z g hg with e | e
      · exact (hB g e).2.2.2.2.1
      · exact h.lo g (.inr (.inr e))
theorem step_new_no {w0 w : World} {pw : Nat} {tag rt kt : Nat → Nat} {S : BookSt} {D : Nat → Option Dat} {V : Nat → Value} (h : WAt w0 w pw tag rt kt S D V) (X Y A B C : Int) (U cD : Nat) (aD : Option Addr) (l : List Nat) (hA : A < 1 ∨ 1048576 < A) :
    Calls Try.prog 6 #[.pointer (some ⟨pw, 0, none⟩), .agg #[.int .i64 1, .int .i64 X, .int .i64 Y, .int .i64 A, .int .i64 B, .int .i64 C, .int .u64 (U : Nat), .slice aD l.length cD]] w fun e w' => e = .returned (.bool true) ∧ ∃ tag' rt' kt' S' D' V', WAt w0 w' pw tag' rt' kt' S' D' V' ∧ S'.turn ≤ S.turn + 1 := by
  have HT := hide (fun w1 => three_nat X w1)
  have hx := t3_lt X
  have lpw := h.bk.fl.lt
  have y0 : (0 : Int) ≤ (t3 X : Int) := by omega
  have y1 : (t3 X : Int) < 3 := by omega
  have HCP : Hid (∀ wq, Below w.heap.size w wq → ((∃ v, wq.cell? ⟨pw, t3 X, none⟩ = some v) ∧ wq.frozen? ⟨pw, t3 X, none⟩ = false) ∧ (∃ v, wq.cell? ⟨pw, 3 + t3 X, none⟩ = some v) ∧ wq.frozen? ⟨pw, 3 + t3 X, none⟩ = false) := hide (fun wq k => ⟨⟨⟨_, ((h.below k).cp _ (t3_lt X)).1⟩, ((h.below k).cp _ (t3_lt X)).2⟩, ⟨_, ((h.below k).cq _ (t3_lt X)).1⟩, ((h.below k).cq _ (t3_lt X)).2⟩)
  have HP := hide (fun w1 => new_no A hA w1)
  have HQ := hide (fun w1 : World => rnew_no (w := w1) A hA)
  have HE : Hid (∀ wq, Below w.heap.size w wq → ∃ tag' rt' kt' S' D' V', WAt w0 ((wq.setCell ⟨pw, t3 X, none⟩ (ptr none)).setCell ⟨pw, 3 + t3 X, none⟩ (qtr none)) pw tag' rt' kt' S' D' V' ∧ S'.turn ≤ S.turn + 1) := hide (fun wq k => ⟨tag, rt, kt, S, _, V, (h.below k).cells (t3 X) (t3_lt X) none (fun d e => by cases e), by omega⟩)
  clear hA
  clear h
  generalize t3 X = t at *
  go_enter Try.func6, Try.ntmps6
  go_upto_region 1 with fail
  obtain ⟨w1, hw1⟩ : ∃ w1, w1 = w.alloc (.cells #[.int .i64 1, .int .i64 X, .int .i64 Y, .int .i64 A, .int .i64 B, .int .i64 C, .int .u64 (U : Nat), .slice aD l.length cD] 26) := ⟨_, rfl⟩
  rw [← hw1]
  have HB1 : Hid (Below w.heap.size w w1) := hide (by rw [hw1]; exact (Below.refl _ _).alloc (Nat.le_refl _) _)
  have hop : w1.heap[w.heap.size]? = some (.cells #[.int .i64 1, .int .i64 X, .int .i64 Y, .int .i64 A, .int .i64 B, .int .i64 C, .int .u64 (U : Nat), .slice aD l.length cD] 26) := by rw [hw1]; exact heap_alloc_new w _
  have hbo : w.heap.size < w1.heap.size := by rw [hw1]; simp
  have HOP : Hid (∀ wq : World, wq.heap[w.heap.size]? = w1.heap[w.heap.size]? → wq.cell? ⟨w.heap.size, 0, none⟩ = some (.int .i64 1) ∧ wq.cell? ⟨w.heap.size, 1, none⟩ = some (.int .i64 X) ∧ wq.cell? ⟨w.heap.size, 2, none⟩ = some (.int .i64 Y) ∧ wq.cell? ⟨w.heap.size, 3, none⟩ = some (.int .i64 A) ∧ wq.cell? ⟨w.heap.size, 4, none⟩ = some (.int .i64 B) ∧ wq.cell? ⟨w.heap.size, 5, none⟩ = some (.int .i64 C) ∧ wq.cell? ⟨w.heap.size, 6, none⟩ = some (.int .u64 (U : Nat)) ∧ wq.cell? ⟨w.heap.size, 7, none⟩ = some (.slice aD l.length cD)) := hide (fun wq e => by
    rw [hop] at e
    simp only [World.cell?, e]
    exact ⟨rfl, rfl, rfl, rfl, rfl, rfl, rfl, rfl⟩)
  have HLO := hide hbo
  obtain ⟨o0, o1, o2, o3, o4, o5, o6, o7⟩ := unhide HOP w1 rfl
  clear hop hbo hw1
  clear o2 o4 o5 o6 o7
  go_wp2_with fail
  refine (unhide HT w1).mono ?_
  rintro e w' ⟨rfl, hw'⟩
  obtain rfl := hw'.symm
  go_wp2_with fail
  refine (unhide HP w1).mono ?_
  rintro e w' ⟨rfl, hw'⟩
  obtain rfl := hw'.symm
  go_wp2_with fail
  refine (unhide HQ w1).mono ?_
  rintro e w2 ⟨rfl, hs⟩
  have hb2 := still_below (unhide HB1) hs
  obtain ⟨⟨⟨v1, c1⟩, f1⟩, ⟨v2, c2⟩, f2⟩ := unhide HCP w2 hb2
  have HE2 := hide (unhide HE w2 hb2)
  clear hs hb2 o0 o1 o3 HE HCP HOP
  go_wp2_with fail
  refine (num_any _ _).mono ?_
  rintro e w' ⟨rfl, hw'⟩
  obtain rfl := hw'.symm
  go_wp2
  go_ret
  exact ⟨rfl, unhide HE2⟩
theorem step_new_yes {w0 w : World} {pw : Nat} {tag rt kt : Nat → Nat} {S : BookSt} {D : Nat → Option Dat} {V : Nat → Value} (h : WAt w0 w pw tag rt kt S D V) (X Y A B C : Int) (U cD : Nat) (aD : Option Addr) (l : List Nat) (n : Nat) (hA : A = n) (h1 : 1 ≤ n) (h2 : n ≤ 1048576) :
    Calls Try.prog 6 #[.pointer (some ⟨pw, 0, none⟩), .agg #[.int .i64 1, .int .i64 X, .int .i64 Y, .int .i64 A, .int .i64 B, .int .i64 C, .int .u64 (U : Nat), .slice aD l.length cD]] w fun e w' => e = .returned (.bool true) ∧ ∃ tag' rt' kt' S' D' V', WAt w0 w' pw tag' rt' kt' S' D' V' ∧ S'.turn ≤ S.turn + 1 := by
  have HT := hide (fun w1 => three_nat X w1)
  have hx := t3_lt X
  have lpw := h.bk.fl.lt
  have y0 : (0 : Int) ≤ (t3 X : Int) := by omega
  have y1 : (t3 X : Int) < 3 := by omega
  have HCP : Hid (∀ wq, Below w.heap.size w wq → ((∃ v, wq.cell? ⟨pw, t3 X, none⟩ = some v) ∧ wq.frozen? ⟨pw, t3 X, none⟩ = false) ∧ (∃ v, wq.cell? ⟨pw, 3 + t3 X, none⟩ = some v) ∧ wq.frozen? ⟨pw, 3 + t3 X, none⟩ = false) := hide (fun wq k => ⟨⟨⟨_, ((h.below k).cp _ (t3_lt X)).1⟩, ((h.below k).cp _ (t3_lt X)).2⟩, ⟨_, ((h.below k).cq _ (t3_lt X)).1⟩, ((h.below k).cq _ (t3_lt X)).2⟩)
  subst hA
  have HP := hide (fun w1 => new_yes n h1 h2 w1)
  have HQ := hide (fun w2 (k : Below w.heap.size w w2) => rnew_yes (w := w2) (t3 X) (rt := rt) (fun g hg => Nat.lt_of_lt_of_le (h.un g (.inl hg)) k.size) n h1 h2)
  have HE : Hid (∀ w1 w2 w3 p bw bh, Below w.heap.size w w1 → Ar w2 p bw bh (List.replicate n 0) (List.replicate n false) 1 → w1.heap.size ≤ p → w1.heap.size ≤ bw → w1.heap.size ≤ bh → Below w1.heap.size w1 w2 → RefAt w3 w2.heap.size (t3 X) (tagPut rt w2.heap.size (10 + t3 X)) (RefSt.new n) → RChg (fun _ => False) rt (tagPut rt w2.heap.size (10 + t3 X)) w2 w3 → (((∃ v, w3.cell? ⟨pw, t3 X, none⟩ = some v) ∧ w3.frozen? ⟨pw, t3 X, none⟩ = false) ∧ (∃ v, w3.cell? ⟨pw, 3 + t3 X, none⟩ = some v) ∧ w3.frozen? ⟨pw, 3 + t3 X, none⟩ = false) ∧ ∃ tag' rt' kt' S' D' V', WAt w0 ((w3.setCell ⟨pw, t3 X, none⟩ (.pointer (some ⟨p, 0, none⟩))).setCell ⟨pw, 3 + t3 X, none⟩ (.pointer (some ⟨w2.heap.size, 0, none⟩))) pw tag' rt' kt' S' D' V' ∧ S'.turn ≤ S.turn + 1) := hide (fun w1 w2 w3 p bw bh k ar l1 l2 l3 b2 hR c => by
    have k2 := k.trans (b2.mono k.size)
    have hs1 := k.size
    have fr : ∀ g ∈ [p, bw, bh], tag g = 0 ∧ rt g = 0 ∧ kt g = 0 ∧ g ≠ pw ∧ w0.heap.size ≤ g ∧ g < w2.heap.size := fun g hg => by
      have q1 := ar.lp
      have q2 := ar.lw
      have q3 := ar.lh
      have hg2 : w.heap.size ≤ g ∧ g < w2.heap.size := by
        simp at hg
        rcases hg with rfl | rfl | rfl <;> omega
      have h5 := h.tag0 hg2.1
      exact ⟨h5.1, h5.2.1, h5.2.2.1, h5.2.2.2.1, h5.2.2.2.2, hg2.2⟩
    have h3 := ((h.below k2).retag [p, bw, bh] (2 + t3 X) fr).refOnly c
    refine ⟨⟨⟨⟨_, (h3.cp _ (t3_lt X)).1⟩, (h3.cp _ (t3_lt X)).2⟩, ⟨_, (h3.cq _ (t3_lt X)).1⟩, (h3.cq _ (t3_lt X)).2⟩, ?_⟩
    exact ⟨tag, _, _, S, _, V, h3.cells (t3 X) (t3_lt X) (some ⟨p, bw, bh, List.replicate n 0, List.replicate n false, 1, w2.heap.size, RefSt.new n⟩) (fun d e => by
      injection e with e
      subst e
      exact ⟨ar.conf c.size (c.blk _ ar.lp id) (c.blk _ ar.lw id) (c.blk _ ar.lh id), hR, Rel.new n h1, if_pos (by simp), if_pos (by simp), if_pos (by simp)⟩), by omega⟩)
  clear h
  generalize t3 X = t at *
  go_enter Try.func6, Try.ntmps6
  go_upto_region 1 with fail
  obtain ⟨w1, hw1⟩ : ∃ w1, w1 = w.alloc (.cells #[.int .i64 1, .int .i64 X, .int .i64 Y, .int .i64 (n : Nat), .int .i64 B, .int .i64 C, .int .u64 (U : Nat), .slice aD l.length cD] 26) := ⟨_, rfl⟩
  rw [← hw1]
  have HB1 : Hid (Below w.heap.size w w1) := hide (by rw [hw1]; exact (Below.refl _ _).alloc (Nat.le_refl _) _)
  have hop : w1.heap[w.heap.size]? = some (.cells #[.int .i64 1, .int .i64 X, .int .i64 Y, .int .i64 (n : Nat), .int .i64 B, .int .i64 C, .int .u64 (U : Nat), .slice aD l.length cD] 26) := by rw [hw1]; exact heap_alloc_new w _
  have hbo : w.heap.size < w1.heap.size := by rw [hw1]; simp
  have HOP : Hid (∀ wq : World, wq.heap[w.heap.size]? = w1.heap[w.heap.size]? → wq.cell? ⟨w.heap.size, 0, none⟩ = some (.int .i64 1) ∧ wq.cell? ⟨w.heap.size, 1, none⟩ = some (.int .i64 X) ∧ wq.cell? ⟨w.heap.size, 2, none⟩ = some (.int .i64 Y) ∧ wq.cell? ⟨w.heap.size, 3, none⟩ = some (.int .i64 (n : Nat)) ∧ wq.cell? ⟨w.heap.size, 4, none⟩ = some (.int .i64 B) ∧ wq.cell? ⟨w.heap.size, 5, none⟩ = some (.int .i64 C) ∧ wq.cell? ⟨w.heap.size, 6, none⟩ = some (.int .u64 (U : Nat)) ∧ wq.cell? ⟨w.heap.size, 7, none⟩ = some (.slice aD l.length cD)) := hide (fun wq e => by
    rw [hop] at e
    simp only [World.cell?, e]
    exact ⟨rfl, rfl, rfl, rfl, rfl, rfl, rfl, rfl⟩)
  have HLO := hide hbo
  obtain ⟨o0, o1, o2, o3, o4, o5, o6, o7⟩ := unhide HOP w1 rfl
  clear hop hbo hw1
  clear o2 o4 o5 o6 o7
  go_wp2_with fail
  refine (unhide HT w1).mono ?_
  rintro e w' ⟨rfl, hw'⟩
  obtain rfl := hw'.symm
  go_wp2_with fail
  refine (unhide HP w1).mono ?_
  rintro e w2 ⟨p, bw, bh, rfl, ar, l1, l2, l3, b2⟩
  have HA := hide (And.intro ar (And.intro l1 (And.intro l2 (And.intro l3 b2))))
  obtain ⟨_, _, _, q3, _, _, _, _⟩ := unhide HOP w2 (b2.block _ (unhide HLO))
  have HQ2 := hide (unhide HQ w2 ((unhide HB1).trans (b2.mono (unhide HB1).size)))
  clear o0 o1 o3 ar l1 l2 l3 b2
  go_wp2_with fail
  refine (unhide HQ2).mono ?_
  rintro e w3 ⟨rfl, hR, c⟩
  obtain ⟨a1, a2, a3, a4, a5⟩ := unhide HA
  obtain ⟨⟨⟨⟨v1, c1⟩, f1⟩, ⟨v2, c2⟩, f2⟩, he⟩ := unhide HE w1 w2 w3 p bw bh (unhide HB1) a1 a2 a3 a4 a5 hR c
  have HE2 := hide he
  clear hR c a1 a2 a3 a4 a5 he HE HCP HQ2 HA q3 HOP
  go_wp2_with fail
  refine (num_any _ _).mono ?_
  rintro e w' ⟨rfl, hw'⟩
  obtain rfl := hw'.symm
  go_wp2
  go_ret
  exact ⟨rfl, unhide HE2⟩
theorem step_any {w0 w : World} {pw : Nat} {tag rt kt : Nat → Nat} {S : BookSt} {D : Nat → Option Dat} {V : Nat → Value} (h : WAt w0 w pw tag rt kt S D V) (K X Y A B C : Int) (U cD : Nat) (aD : Option Addr) (l : List Nat) (hU : U < 18446744073709551616) (hB1 : B ≤ 9223372036854775807) (hB2 : -9223372036854775808 ≤ B) (hturn : S.turn < 1000000) (hl : l.length ≤ 140737488351232) (hB0 : Bytes w0 aD l) (hs : Small l) :
    Calls Try.prog 6 #[.pointer (some ⟨pw, 0, none⟩), .agg #[.int .i64 K, .int .i64 X, .int .i64 Y, .int .i64 A, .int .i64 B, .int .i64 C, .int .u64 (U : Nat), .slice aD l.length cD]] w fun e w' => e = .returned (.bool true) ∧ ∃ tag' rt' kt' S' D' V', WAt w0 w' pw tag' rt' kt' S' D' V' ∧ S'.turn ≤ S.turn + 1 := by
  by_cases hK : K = 1
  · subst hK
    by_cases hA : A < 1 ∨ 1048576 < A
    · exact step_new_no h X Y A B C U cD aD l hA
    · obtain ⟨n, rfl⟩ := Int.eq_ofNat_of_zero_le (show 0 ≤ A by omega)
      exact step_new_yes h X Y _ B C U cD aD l n rfl (by omega) (by omega)
  · cases hd : D (t3 X) with
    | none =>
      refine (step_nil h K X Y A B C U cD aD l hd hK).mono ?_
      rintro e w' ⟨rfl, k⟩
      exact ⟨rfl, tag, rt, kt, S, D, V, h.below k, by omega⟩
    | some d => exact step_some h K X Y A B C U cD aD l d hd hK hU hB1 hB2 hturn hl hB0 hs
end Go.Proofs.Ytdgdnpgjbphgaab
