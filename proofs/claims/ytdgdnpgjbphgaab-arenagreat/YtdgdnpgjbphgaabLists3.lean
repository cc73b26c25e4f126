/- lists: Bytes, Image. -/
import Derived.Test.YtdgdnpgjbphgaabLists1
import Derived.Test.YtdgdnpgjbphgaabBoth
import Derived.Test.YtdgdnpgjbphgaabBegun
namespace Go.Proofs.Ytdgdnpgjbphgaab
open Go.ChangeShapes Go.WideShapes Go.ChangeAt Go.RowKit
set_option linter.unusedVariables false
set_option maxRecDepth 100000
set_option maxHeartbeats 4000000

theorem Span.below {w w' : World} {e : TypeId} {v : Value} {n : Nat} {f : Nat → Value} (h : Span w e v n f) (k : Below w.heap.size w w') : Span w' e v n f := h.same (fun g hg => k.block g (h.lt g hg))
theorem Line.below {w w' : World} {e : TypeId} {v : Value} {n : Nat} {f : Nat → Value} (h : Line w e v n f) (k : Below w.heap.size w w') : Line w' e v n f := h.same (fun g hg => k.block g (h.lt g hg))
theorem WAt.tag0 {w0 w : World} {pw : Nat} {tag rt kt : Nat → Nat} {S : BookSt} {D : Nat → Option Dat} {V : Nat → Value} (h : WAt w0 w pw tag rt kt S D V) {g : Nat} (hg : w.heap.size ≤ g) : tag g = 0 ∧ rt g = 0 ∧ kt g = 0 ∧ g ≠ pw ∧ w0.heap.size ≤ g := by
  have lpw := h.bk.fl.lt
  have hs := h.bel.size
  refine ⟨?_, ?_, ?_, by omega, by omega⟩
  · cases e : tag g with
    | zero => rfl
    | succ m => have := h.bk.un g (by omega); omega
  · cases e : rt g with
    | zero => rfl
    | succ m => have := h.un g (.inl (by omega)); omega
  · cases e : kt g with
    | zero => rfl
    | succ m => have := h.un g (.inr (by omega)); omega
theorem lists_bytes {w0 w : World} {pw : Nat} {tag rt kt : Nat → Nat} {S : BookSt} {D : Nat → Option Dat} {V : Nat → Value} (h : WAt w0 w pw tag rt kt S D V) (X Y A B C : Int) (U : Nat) (sD : Value) (d : Dat) (hd : D (t3 X) = some d) (hB1 : B ≤ 9223372036854775807) (hB2 : -9223372036854775808 ≤ B) (hturn : S.turn < 1000000) :
    Calls Try.prog 15 #[.pointer (some ⟨pw, 0, none⟩), .agg #[.int .i64 6, .int .i64 X, .int .i64 Y, .int .i64 A, .int .i64 B, .int .i64 C, .int .u64 (U : Nat), sD]] w fun e w' => e = .returned (.bool true) ∧ ∃ tag' rt' kt' S' D' V', WAt w0 w' pw tag' rt' kt' S' D' V' ∧ S'.turn ≤ S.turn + 1 := by
  have hwb := h.bl _ _ (t3_lt X) hd
  obtain ⟨err, n, F, hn, hF, HP0, HQ0⟩ := bytes_both hwb A B C hB1 hB2
  have HP := hide HP0
  have HQ := hide HQ0
  have HF := hide hF
  have HTK : Hid (∀ w5 v f, Below w.heap.size w w5 → Span w5 5 v n f → (∀ g, v.ownBlock = some g → w.heap.size ≤ g) → Calls Try.prog 32 #[.pointer (some ⟨pw, 6, none⟩), v] w5 fun e w' => e = .returned (.tuple #[]) ∧ ((∃ tag' rt' kt' S' D' V', WAt w0 w' pw tag' rt' kt' S' D' V' ∧ S'.turn ≤ S.turn + 1) ∧ ∀ v2 f2, Span w5 5 v2 n f2 → (∀ g, v2.ownBlock = some g → w.heap.size ≤ g ∧ v.ownBlock ≠ some g) → Span w' 5 v2 n f2)) := hide (fun w5 v f k hl hg => by
    refine (take_bytes (h.below k).bk hturn v n f hl (fun g hgg => ⟨(h.tag0 (hg g hgg)).1, (h.tag0 (hg g hgg)).2.2.2.1⟩) (by omega)).mono ?_
    rintro e w' ⟨rfl, tag', S', hbk, ht, hno⟩
    refine ⟨rfl, ⟨tag', rt, kt, S', D, V, (h.below k).noted v _ (fun g hgg => (h.tag0 (hg g hgg)).2) hbk hno, by omega⟩, fun v2 f2 h2 hg2 => h2.same (fun g hgg => hno.blk g (h2.lt g hgg) ?_ (h.tag0 (hg2 g hgg).1).2.2.2.1)⟩
    unfold tagAt
    rw [if_neg (hg2 g hgg).2]
    exact (h.tag0 (hg2 g hgg).1).1)
  have HW := hide (fun w1 (k : Below w.heap.size w w1) => h.below k)
  clear hwb HP0 HQ0 hF
  have hx := t3_lt X
  obtain ⟨cp, _⟩ := h.cp _ hx
  obtain ⟨cq, _⟩ := h.cq _ hx
  have hb := h.bl _ _ hx hd
  have HT := hide (fun w1 => three_nat X w1)
  rw [hd] at cp cq
  have lpw := h.bk.fl.lt
  clear h hb hd
  have y0 : (0 : Int) ≤ (t3 X : Int) := by omega
  have y1 : (t3 X : Int) < 3 := by omega
  generalize t3 X = t at *
  go_enter Try.func15, Try.ntmps15
  go_wp2_with fail
  obtain ⟨w1, hw1⟩ : ∃ w1, w1 = w.alloc (.cells #[.int .i64 6, .int .i64 X, .int .i64 Y, .int .i64 A, .int .i64 B, .int .i64 C, .int .u64 (U : Nat), sD] 26) := ⟨_, rfl⟩
  rw [← hw1]
  have HB1 : Hid (Below w.heap.size w w1) := hide (by rw [hw1]; exact (Below.refl _ _).alloc (Nat.le_refl _) _)
  have e1 : w1.cell? ⟨pw, t, none⟩ = some (.pointer (some ⟨d.p, 0, none⟩)) := ((unhide HB1).cell (p := ⟨pw, t, none⟩) lpw).trans cp
  have e2 : w1.cell? ⟨pw, 3 + t, none⟩ = some (.pointer (some ⟨d.pr, 0, none⟩)) := ((unhide HB1).cell (p := ⟨pw, 3 + t, none⟩) lpw).trans cq
  have hop : w1.heap[w.heap.size]? = some (.cells #[.int .i64 6, .int .i64 X, .int .i64 Y, .int .i64 A, .int .i64 B, .int .i64 C, .int .u64 (U : Nat), sD] 26) := by rw [hw1]; exact heap_alloc_new w _
  have hbo : w.heap.size < w1.heap.size := by rw [hw1]; simp
  have HOP : Hid (∀ wq, Below w1.heap.size w1 wq → wq.cell? ⟨w.heap.size, 0, none⟩ = some (.int .i64 6) ∧ wq.cell? ⟨w.heap.size, 1, none⟩ = some (.int .i64 X) ∧ wq.cell? ⟨w.heap.size, 3, none⟩ = some (.int .i64 A) ∧ wq.cell? ⟨w.heap.size, 4, none⟩ = some (.int .i64 B) ∧ wq.cell? ⟨w.heap.size, 5, none⟩ = some (.int .i64 C)) := hide (fun wq k => by
    have e := k.block w.heap.size hbo
    rw [hop] at e
    simp only [World.cell?, e]
    exact ⟨rfl, rfl, rfl, rfl, rfl⟩)
  have HLO := hide hbo
  have lpw1 : pw < w1.heap.size := by omega
  have HPW : Hid (∀ wq, Below w1.heap.size w1 wq → wq.cell? ⟨pw, t, none⟩ = some (.pointer (some ⟨d.p, 0, none⟩)) ∧ wq.cell? ⟨pw, 3 + t, none⟩ = some (.pointer (some ⟨d.pr, 0, none⟩))) := hide (fun wq k => ⟨(k.cell (p := ⟨pw, t, none⟩) lpw1).trans e1, (k.cell (p := ⟨pw, 3 + t, none⟩) lpw1).trans e2⟩)
  obtain ⟨o0, o1, o3, o4, o5⟩ := unhide HOP w1 (Below.refl _ _)
  clear hop hbo hw1 cp cq
  go_quiet (first | (go_at_call 12; exact Calls.quiet_of_same (unhide HT _)))
  obtain ⟨w2, hw2⟩ : ∃ w2, w2 = w1.drewN nq := ⟨_, rfl⟩
  rw [← hw2]
  have HC2 : Hid (Below w1.heap.size w1 w2) := hide (by rw [hw2]; exact below_drewN (Below.refl _ _) nq)
  have HB2 : Hid (Below w.heap.size w w2) := hide ((unhide HB1).trans ((unhide HC2).mono (unhide HB1).size))
  clear hw2 e1 e2 lpw1 o0 o1 o3 o4 o5
  obtain ⟨o0, o1, o3, o4, o5⟩ := unhide HOP w2 (unhide HC2)
  go_wp2_with fail
  refine (unhide HP w2 (unhide HB2)).mono ?_
  rintro e w3 ⟨a3, c3, rfl, s3, f3, b3⟩
  have HC3 : Hid (Below w1.heap.size w1 w3) := hide ((unhide HC2).trans (b3.mono (unhide HC2).size))
  have HB3 : Hid (Below w.heap.size w w3) := hide ((unhide HB2).trans (b3.mono (unhide HB2).size))
  have HS3 := hide (And.intro s3 f3)
  clear b3 s3 f3
  clear o0 o1 o3 o4 o5
  obtain ⟨o0, o1, o3, o4, o5⟩ := unhide HOP w3 (unhide HC3)
  go_wp2_with fail
  refine (unhide HP w3 (unhide HB3)).mono ?_
  rintro e w4 ⟨a4, c4, rfl, s4, f4, b4⟩
  have HC4 : Hid (Below w1.heap.size w1 w4) := hide ((unhide HC3).trans (b4.mono (unhide HC3).size))
  have HB4 : Hid (Below w.heap.size w w4) := hide ((unhide HB3).trans (b4.mono (unhide HB3).size))
  have HS4 := hide (And.intro s4 (And.intro f4 b4))
  clear b4 s4 f4
  clear o0 o1 o3 o4 o5
  obtain ⟨o0, o1, o3, o4, o5⟩ := unhide HOP w4 (unhide HC4)
  go_wp2_with fail
  refine (unhide HQ w4 (unhide HB4)).mono ?_
  rintro e w5 ⟨a5, c5, rfl, s5, f5, b5⟩
  have HC5 : Hid (Below w1.heap.size w1 w5) := hide ((unhide HC4).trans (b5.mono (unhide HC4).size))
  have HB5 : Hid (Below w.heap.size w w5) := hide ((unhide HB4).trans (b5.mono (unhide HB4).size))
  have t3 : Span w5 5 (.slice a3 n c3) n (fun i => .int .u8 (F i : Nat)) := ((unhide HS3).1.below (unhide HS4).2.2).below b5
  have t4 : Span w5 5 (.slice a4 n c4) n (fun i => .int .u8 (F i : Nat)) := (unhide HS4).1.below b5
  have hz2 := (unhide HB2).size
  have hz3 := (unhide HB3).size
  have hz4 := (unhide HB4).size
  have g3 : ∀ g, Value.ownBlock (.slice a3 n c3) = some g → w.heap.size ≤ g ∧ g < w3.heap.size := fun g hg => ⟨by have := (unhide HS3).2 g hg; omega, (unhide HS3).1.lt g hg⟩
  have g4 : ∀ g, Value.ownBlock (.slice a4 n c4) = some g → w3.heap.size ≤ g ∧ g < w4.heap.size := fun g hg => ⟨(unhide HS4).2.1 g hg, (unhide HS4).1.lt g hg⟩
  have g5 : ∀ g, Value.ownBlock (.slice a5 n c5) = some g → w4.heap.size ≤ g := f5
  have h34 : w3.heap.size ≤ w4.heap.size := (unhide HS4).2.2.size
  have HSP := hide (And.intro t3 (And.intro t4 s5))
  have HGG : Hid ((∀ g, Value.ownBlock (.slice a3 n c3) = some g → w.heap.size ≤ g) ∧ (∀ g, Value.ownBlock (.slice a4 n c4) = some g → w.heap.size ≤ g ∧ Value.ownBlock (.slice a3 n c3) ≠ some g) ∧ (∀ g, Value.ownBlock (.slice a5 n c5) = some g → w.heap.size ≤ g ∧ Value.ownBlock (.slice a3 n c3) ≠ some g)) := hide ⟨fun g hg => (g3 g hg).1, fun g hg => ⟨by have := (g4 g hg).1; omega, fun e => by have := (g3 g e).2; have := (g4 g hg).1; omega⟩, fun g hg => ⟨by have := g5 g hg; omega, fun e => by have := (g3 g e).2; have := g5 g hg; omega⟩⟩
  have HC1 := hide (same_span (unhide HF) t3 s5)
  have HC2x := hide (same_span (unhide HF) t4 s5)
  clear b5 s5 f5 t3 t4 g3 g4 g5 hz2 hz3 hz4 h34 HS3 HS4 o0 o1 o3 o4 o5 HOP HPW HP HQ
  go_wp2_with fail
  refine (unhide HC1).mono ?_
  rintro e w' ⟨rfl, hw'⟩
  obtain rfl := hw'.symm
  go_wp2_with fail
  refine (num_any _ _).mono ?_
  rintro e w' ⟨rfl, hw'⟩
  obtain rfl := hw'.symm
  go_wp2_with fail
  refine (unhide HC2x).mono ?_
  rintro e w' ⟨rfl, hw'⟩
  obtain rfl := hw'.symm
  go_wp2_with fail
  refine (num_any _ _).mono ?_
  rintro e w' ⟨rfl, hw'⟩
  obtain rfl := hw'.symm
  by_cases hk : n ≤ 5000
  · have d1 : decide ((n : Int) ≤ 5000) = true := decide_eq_true (by omega)
    have d1' : decide (n ≤ 5000) = true := decide_eq_true hk
    have HT6 := hide (unhide HTK w5 _ _ (unhide HB5) (unhide HSP).1 (unhide HGG).1)
    go_wp2_with fail
    refine (unhide HT6).mono ?_
    rintro e w6 ⟨rfl, he6, hs6⟩
    have HE6 := hide he6
    have HC6 := hide (same_span (unhide HF) (hs6 _ _ (unhide HSP).2.1 (unhide HGG).2.1) (hs6 _ _ (unhide HSP).2.2 (unhide HGG).2.2))
    clear he6 hs6 HT6 HTK
    go_wp2_with fail
    refine (unhide HC6).mono ?_
    rintro e w' ⟨rfl, hw'⟩
    obtain rfl := hw'.symm
    go_wp2
    go_ret
    exact ⟨rfl, unhide HE6⟩
  · have d1 : decide ((n : Int) ≤ 5000) = false := decide_eq_false (by omega)
    have d1' : decide (n ≤ 5000) = false := decide_eq_false hk
    clear HTK
    go_wp2_with fail
    go_loopw [14] (fun i wq => ∃ (k : Nat) (f : Nat → Value), k ≤ n ∧ i = .int .i64 k ∧ Span wq 5 (.slice a3 n c3) n f ∧ (∀ j, k ≤ j → j < n → f j = .int .u8 (F j : Nat)) ∧ Wrote (.slice a3 n c3) w5 wq) (fun i _ => n - (intOf i).toNat)
    case atStart => exact ⟨0, _, by omega, rfl, (unhide HSP).1, (fun _ _ _ => rfl), Wrote.refl _ _⟩
    case round =>
      obtain ⟨k, f, hkn, rfl, hlq, hfq, hwq⟩ := hrel
      rename World => wq
      by_cases hlt : k < n
      · have e1 : decide ((k : Int) < (n : Int)) = true := decide_eq_true (by omega)
        have e1' : decide (k < n) = true := decide_eq_true hlt
        have x0 : (0 : Int) ≤ (k : Int) := by omega
        have x1 : (k : Int) < (n : Int) := by omega
        obtain ⟨g1, og, cp1, hv1, hgb, hc1⟩ := hlq.at (by omega)
        obtain ⟨ca, fa⟩ := hc1 k hlt
        rw [hfq k (Nat.le_refl _) hlt] at ca
        have h256 := unhide HF k
        simp only [Value.slice.injEq] at hv1
        obtain ⟨rfl, _, rfl⟩ := hv1
        have HLQ := hide hlq
        have HWQ := hide hwq
        have HFQ := hide hfq
        generalize F k = x at *
        clear hlq hwq hfq hc1
        go_wp2_with fail
        go_roundw
        case rel =>
          refine ⟨k + 1, _, by omega, by go_num, (unhide HLQ).put k _ hlt, fun j h1 h2 => ?_, (unhide HWQ).set rfl (og + k) _⟩
          rw [if_neg (by omega)]
          exact unhide HFQ j (by omega) h2
        case measure => simp [intOf]; omega
      · have e1 : decide ((k : Int) < (n : Int)) = false := decide_eq_false (by omega)
        have e1' : decide (k < n) = false := decide_eq_false hlt
        have st : ∀ v2 f2, Span w5 5 v2 n f2 → (∀ g, v2.ownBlock = some g → w.heap.size ≤ g ∧ Value.ownBlock (.slice a3 n c3) ≠ some g) → Span wq 5 v2 n f2 := fun v2 f2 h2 hg2 => h2.same (fun g hg => hwq.blk g (hg2 g hg).2)
        have HC6 := hide (same_span (unhide HF) (st _ _ (unhide HSP).2.1 (unhide HGG).2.1) (st _ _ (unhide HSP).2.2 (unhide HGG).2.2))
        have hbl : Below w.heap.size w wq := ⟨hwq.os.trans (unhide HB5).os, hwq.tape.trans (unhide HB5).tape, hwq.output.trans (unhide HB5).output, by rw [hwq.size]; exact (unhide HB5).size, fun g hg => by
          rw [hwq.blk g (fun e => by have := (unhide HGG).1 g e; omega)]
          exact (unhide HB5).block g hg⟩
        have HE6 := hide (unhide HW wq hbl)
        clear hlq hwq hfq st hbl
        go_wp2_with fail
        refine (unhide HC6).mono ?_
        rintro e w' ⟨rfl, hw'⟩
        obtain rfl := hw'.symm
        go_wp2
        go_ret
        exact ⟨rfl, tag, rt, kt, S, D, V, unhide HE6, by omega⟩
end Go.Proofs.Ytdgdnpgjbphgaab
