/- answers: Fill. -/
import Derived.Test.YtidfbelckdlbhabRfl
import Derived.Test.YtidfbelckdlbhabEqs
import Derived.Test.YtidfbelckdlbhabBnx
namespace Larder
theorem FillIs.len {P T K F : List Nat} {s : Bool} (h : FillIs P T K F s) : K.length ≤ P.length + T.length ∧ F.length ≤ P.length := by
  rcases h with ⟨_, rfl, rfl, _⟩ | ⟨p, h1, _, _, _, ⟨i, g1, g2, _, _, rfl, rfl⟩ | ⟨_, rfl, rfl⟩⟩
  · simp
  · simp only [List.length_append, List.length_take, List.length_drop]
    omega
  · simp only [List.length_append, List.length_take, List.length_drop, List.length_nil]
    omega
end Larder
namespace Go.Proofs.Ytidfbelckdlbhab
open Go.ChangeShapes Go.WideShapes Go.ChangeAt Go.RowKit
set_option linter.unusedVariables false
set_option maxRecDepth 20000
set_option maxHeartbeats 2000000

theorem rfill_any (a b : Option Addr) (c d : Nat) (w : World) (P T : List Nat) (hP : P.length ≤ 1048576) (hT : T.length ≤ 1048576) (hs : Small P) (hB : Bytes w a P) (hB2 : Bytes w b T) (hc : P.length ≤ c) (hc2 : c ≤ 9223372036854775807) (hz2 : b = none → d = 0) :
    Calls Try.prog 22 #[.slice a P.length c, .slice b T.length d] w (FillEnd P T w) := by
  rcases Nat.eq_zero_or_pos P.length with h0 | h0
  · have : P = [] := List.eq_nil_of_length_eq_zero h0
    subst this
    exact rfill_nil a b c T.length d w T
  · obtain ⟨g0, off, rfl, _, _⟩ := hB.at h0
    exact rfill_some g0 off b P.length T.length c d w P T rfl rfl hP hT hs hB hB2 hc hc2 hz2

/-- a copy stands -/
def TwOk (W : World) (a : Option Addr) (n c : Nat) (l : List Nat) : Prop := Bytes W a l ∧ n = l.length ∧ l.length ≤ c ∧ c ≤ 140737488355328 ∧ (a = none → c = 0)
theorem TwOk.next {W W' : World} {a : Option Addr} {n c : Nat} {l : List Nat} (h : TwOk W a n c l) (hb : Below W.heap.size W W') : TwOk W' a n c l := ⟨h.1.below hb, h.2⟩

theorem answers_fill {aP aT : Option Addr} {cP cT : Nat} {P T : List Nat} (v3 v4 v5 v6 v7 v8 v9 v10 v11 v12 v13 v14 v15 v16 v17 : Value) (w : World) (m : Int) (hm : w.cell? ⟨0, 0, none⟩ = some (.int .i64 m)) (hP : InB w aP cP P) (hT : InB w aT cT T) (lP : P.length ≤ 1048576) (lT : T.length ≤ 1048576) :
    Calls Try.prog 9 #[.agg #[.int .i64 8, .slice aP P.length cP, .slice aT T.length cT, v3, v4, v5, v6, v7, v8, v9, v10, v11, v12, v13, v14, v15, v16, v17]] w fun e w' => e = .returned (.bool true) ∧ Below w.heap.size w w' := by
  obtain ⟨n, hn⟩ : ∃ n, n = P.length := ⟨_, rfl⟩
  obtain ⟨k, hk⟩ : ∃ k, k = T.length := ⟨_, rfl⟩
  rw [← hn, ← hk]
  have h00 : 0 < w.heap.size := by
    rcases Nat.eq_zero_or_pos w.heap.size with q | q
    · rw [show w.cell? ⟨0, 0, none⟩ = none by simp [World.cell?, Array.getElem?_eq_none (show w.heap.size ≤ 0 by omega)]] at hm
      cases hm
    · exact q
  obtain ⟨A, hA⟩ : ∃ A : Array Value, A = #[.int .i64 8, .slice aP n cP, .slice aT k cT, v3, v4, v5, v6, v7, v8, v9, v10, v11, v12, v13, v14, v15, v16, v17] := ⟨_, rfl⟩
  have h0 : Bx w A (w.alloc (.cells A 34)) := ⟨heap_alloc_new _ _, (Below.refl _ _).alloc (Nat.le_refl _) _⟩
  obtain ⟨bP, sP, q1, q2, q3, q4⟩ := hP
  obtain ⟨bT, sT, r1, r2, r3, r4⟩ := hT
  have kx : ∀ W : World, Bx w A W → W.cell? ⟨w.heap.size, 1, none⟩ = some (.slice aP n cP) ∧ W.cell? ⟨w.heap.size, 2, none⟩ = some (.slice aT k cT) := fun W h => by
    rw [cell_of_row _ _ _ _ _ _ h.1, cell_of_row _ _ _ _ _ _ h.1, hA]; exact ⟨rfl, rfl⟩
  have F1 : Hid (∀ W, Hid (Bx w A W) → Calls Try.prog 15 #[.slice aP n cP] W fun e w' => ∃ a' c', e = .returned (.slice a' n c') ∧ Hid (Bx w A w' ∧ TwOk w' a' n c' P) ∧ w'.cell? ⟨w.heap.size, 1, none⟩ = some (.slice aP n cP) ∧ w'.cell? ⟨w.heap.size, 2, none⟩ = some (.slice aT k cT)) := hide (fun W hW => by
    have h := twin_any aP cP P (by omega) (bP.below (unhide hW).2) q4
    rw [← hn] at h
    exact h.mono (fun e w' ⟨a', c', g1, g2, g3, g4, g5⟩ => by
      rw [← hn] at g1
      exact ⟨a', c', g1, hide ⟨(unhide hW).next g5, g2, hn, g3.1, g3.2, g4⟩, kx w' ((unhide hW).next g5)⟩))
  have F2 : Hid (∀ W a1 c1, Hid (Bx w A W ∧ TwOk W a1 n c1 P) → Calls Try.prog 15 #[.slice aT k cT] W fun e w' => ∃ a' c', e = .returned (.slice a' k c') ∧ Hid (Bx w A w' ∧ TwOk w' a1 n c1 P ∧ TwOk w' a' k c' T) ∧ w'.cell? ⟨w.heap.size, 1, none⟩ = some (.slice aP n cP) ∧ w'.cell? ⟨w.heap.size, 2, none⟩ = some (.slice aT k cT)) := hide (fun W a1 c1 hW => by
    have h := twin_any aT cT T (by omega) (bT.below (unhide hW).1.2) r4
    rw [← hk] at h
    exact h.mono (fun e w' ⟨a', c', g1, g2, g3, g4, g5⟩ => by
      rw [← hk] at g1
      exact ⟨a', c', g1, hide ⟨(unhide hW).1.next g5, (unhide hW).2.next g5, g2, hk, g3.1, g3.2, g4⟩, kx w' ((unhide hW).1.next g5)⟩))
  have F3 : Hid (∀ W a1 c1 a2 c2, Hid (Bx w A W ∧ TwOk W a1 n c1 P ∧ TwOk W a2 k c2 T) → Calls Try.prog 21 #[.slice a1 n c1, .slice a2 k c2] W fun e w' => ∃ b1 d1 b2 d2 K F s, e = .returned (.tuple #[.slice b1 (List.length K) d1, .slice b2 (List.length F) d2, .bool s]) ∧ Hid (Bx w A w' ∧ Larder.FillIs P T K F s ∧ Bytes w' b1 K ∧ Bytes w' b2 F) ∧ w'.cell? ⟨w.heap.size, 1, none⟩ = some (.slice aP n cP) ∧ w'.cell? ⟨w.heap.size, 2, none⟩ = some (.slice aT k cT)) := hide (fun W a1 c1 a2 c2 hW => by
    obtain ⟨x1, ⟨x2, x3, x4, x5, x6⟩, y2, y3, y4, y5, y6⟩ := unhide hW
    have h := fill_any a1 a2 c1 c2 W P T m lP lT sP x2 y2 x4 x5 x6 y6 ((x1.2.cell (p := ⟨0, 0, none⟩) h00).trans hm) (Nat.lt_of_lt_of_le h00 x1.2.size)
    rw [← hn, ← hk] at h
    exact h.mono (fun e w' ⟨b1, d1, b2, d2, K, F, s, g1, g2, g3, g4, g5⟩ => ⟨b1, d1, b2, d2, K, F, s, g1, hide ⟨x1.next g5, g2, g3, g4⟩, kx w' (x1.next g5)⟩))
  have F4 : Hid (∀ W b1 b2 K F s, Hid (Bx w A W ∧ Larder.FillIs P T K F s ∧ Bytes W b1 K ∧ Bytes W b2 F) → Calls Try.prog 22 #[.slice aP n cP, .slice aT k cT] W fun e w' => ∃ a1 c1 a2 c2, e = .returned (.tuple #[.slice a1 (List.length K) c1, .slice a2 (List.length F) c2, .bool s]) ∧ Hid ((Bx w A w' ∧ Larder.FillIs P T K F s ∧ Bytes w' b1 K ∧ Bytes w' b2 F) ∧ Bytes w' a1 K ∧ Bytes w' a2 F) ∧ w'.cell? ⟨w.heap.size, 1, none⟩ = some (.slice aP n cP) ∧ w'.cell? ⟨w.heap.size, 2, none⟩ = some (.slice aT k cT)) := hide (fun W b1 b2 K F s hW => by
    obtain ⟨x1, x2, x3, x4⟩ := unhide hW
    have h := rfill_any aP aT cP cT W P T lP lT sP (bP.below x1.2) (bT.below x1.2) q1 q2 r4
    rw [← hn, ← hk] at h
    exact h.mono (fun e w' ⟨a1, d1, a2, d2, K', F', s', g1, g2, g3, g4, g5⟩ => by
      obtain ⟨rfl, rfl, rfl⟩ := g2.one x2
      exact ⟨a1, d1, a2, d2, g1, hide ⟨⟨x1.next g5, x2, x3.below g5, x4.below g5⟩, g3, g4⟩, kx w' (x1.next g5)⟩))
  have F5 : Hid (∀ W b1 d1 b2 a1 c1 a2 K F s, Hid ((Bx w A W ∧ Larder.FillIs P T K F s ∧ Bytes W b1 K ∧ Bytes W b2 F) ∧ Bytes W a1 K ∧ Bytes W a2 F) → Calls Try.prog 23 #[.slice b1 (List.length K) d1, .slice a1 (List.length K) c1] W fun e w' => e = .returned (.bool true) ∧ Hid ((Bx w A w' ∧ Larder.FillIs P T K F s ∧ Bytes w' b1 K ∧ Bytes w' b2 F) ∧ Bytes w' a1 K ∧ Bytes w' a2 F) ∧ w'.cell? ⟨w.heap.size, 1, none⟩ = some (.slice aP n cP) ∧ w'.cell? ⟨w.heap.size, 2, none⟩ = some (.slice aT k cT)) := hide (fun W b1 d1 b2 a1 c1 a2 K F s hW => by
    obtain ⟨⟨x1, x2, x3, x4⟩, x5, x6⟩ := unhide hW
    have hl := x2.len
    exact (eq_any (c1 := d1) (c2 := c1) (by omega) (by omega) x3 x5).mono (fun e w' ⟨g1, g2⟩ => ⟨by rw [g1, decide_eq_true rfl], hide ⟨⟨x1.next g2.below, x2, x3.below g2.below, x4.below g2.below⟩, x5.below g2.below, x6.below g2.below⟩, kx w' (x1.next g2.below)⟩))
  have F6 : Hid (∀ W b1 b2 d2 a1 a2 c2 K F s, Hid ((Bx w A W ∧ Larder.FillIs P T K F s ∧ Bytes W b1 K ∧ Bytes W b2 F) ∧ Bytes W a1 K ∧ Bytes W a2 F) → Calls Try.prog 23 #[.slice b2 (List.length F) d2, .slice a2 (List.length F) c2] W fun e w' => e = .returned (.bool true) ∧ Hid (Bx w A w') ∧ w'.cell? ⟨w.heap.size, 1, none⟩ = some (.slice aP n cP) ∧ w'.cell? ⟨w.heap.size, 2, none⟩ = some (.slice aT k cT)) := hide (fun W b1 b2 d2 a1 a2 c2 K F s hW => by
    obtain ⟨⟨x1, x2, x3, x4⟩, x5, x6⟩ := unhide hW
    have hl := x2.len
    exact (eq_any (c1 := d2) (c2 := c2) (by omega) (by omega) x4 x6).mono (fun e w' ⟨g1, g2⟩ => ⟨by rw [g1, decide_eq_true rfl], hide (x1.next g2.below), kx w' (x1.next g2.below)⟩))
  have h1 := hide h0
  have h1d : Hid (Bx w A (w.alloc (.cells A 34)).drew) := hide h0.drew
  clear h0 kx bP sP q1 q2 q3 q4 hn hk bT sT r1 r2 r3 r4 hm h00
  subst hA
  go_enter Try.func9, Try.ntmps9
  go_wp2_with fail
  go_region_held3 (fun w' => w'.cell? ⟨w.heap.size, 1, none⟩ = some (.slice aP n cP) ∧ w'.cell? ⟨w.heap.size, 2, none⟩ = some (.slice aT k cT)) (go_keep) (first | (go_at_call 15; with_reducible refine (unhide F1 _ h1d).mono ?_; rintro e w5 ⟨a1, c1, rfl, g5, x1⟩) | (go_at_call 15; with_reducible refine (unhide F2 _ a1 c1 g5).mono ?_; rintro e w6 ⟨a2, c2, rfl, g6, x2⟩) | (go_at_call 21; refine (unhide F3 _ a1 c1 a2 c2 g6).mono ?_; rintro e w7 ⟨b1, d1, b2, d2, K, F, s, rfl, g7, x3⟩))
  all_goals go_wp2_with (first | (go_at_call 22; refine (unhide F4 _ b1 b2 K F s g7).mono ?_; rintro e w8 ⟨e1, f1, e2, f2, rfl, g8, x4⟩) | (go_at_call 23; with_reducible refine (unhide F5 _ b1 d1 b2 e1 f1 e2 K F s g8).mono ?_; rintro e w9 ⟨rfl, g9, x5⟩) | (go_at_call 23; with_reducible refine (unhide F6 _ b1 b2 d2 e1 e2 f2 K F s g9).mono ?_; rintro e w10 ⟨rfl, g10, x6⟩))
  all_goals go_ret
  all_goals exact ⟨ret_bool (by simp), (unhide g10).2⟩
end Go.Proofs.Ytidfbelckdlbhab
