/- WireTaken: the law's calls. -/
import Derived.Test.YtfgemcmiilbodaaDoorTka
import Derived.Lib.SlBytesConst
namespace Go.Proofs.YtfgemcmiilbodaaDoor
open Go.ChangeShapes Go.WideShapes Go.ChangeAt Go.RowKit
set_option linter.unusedVariables false
set_option linter.unusedSimpArgs false
set_option maxRecDepth 100000
set_option maxHeartbeats 4000000

/-- bytes that a call of Decode may be handed -/
structure DecIn (w : World) (a : Option Addr) (n cp : Nat) (T : List Nat) : Prop where
  by' : Bytes w a T
  sm : Small T
  len : n = T.length
  le : n ≤ cp
  top : cp ≤ 9223372036854775807
  few : n ≤ 140737488355328
  lt : ∀ b off, a = some ⟨b, off, none⟩ → 0 < n → b < w.heap.size
theorem DecIn.below {w W : World} {a : Option Addr} {n cp : Nat} {T : List Nat} (h : DecIn w a n cp T) (hb : Below w.heap.size w W) : DecIn W a n cp T := ⟨h.by'.below hb, h.sm, h.len, h.le, h.top, h.few, fun b off e h0 => Nat.lt_of_lt_of_le (h.lt b off e h0) hb.size⟩
theorem DecIn.first {w : World} {b off n cp : Nat} {T : List Nat} (h : DecIn w (some ⟨b, off, none⟩) n cp T) (k : Nat) (hk : k ≤ n) : DecIn w (some ⟨b, off, none⟩) k cp (T.take k) := by
  have := h.len
  have := h.le
  have := h.few
  exact ⟨h.by'.first k, h.sm.take k, by rw [List.length_take]; omega, by omega, h.top, by omega, fun b off e h0 => h.lt b off e (by omega)⟩
theorem dec_ok {w : World} {a : Option Addr} {n cp : Nat} {T : List Nat} (h : DecIn w a n cp T) (hU : UOk w) {x : Tr 9} {r : List Nat} (p : Nat) (hP : repP 9 T = .ok x r) (hp : n = p + 1 + r.length) :
    Calls Tryd.prog 5 #[.slice a n cp] w fun e w' => ∃ (k0 k1 : Int) (ta : Option Addr) (tn tc : Nat) (la : Option Addr) (ln lc : Nat), e = .returned (.tuple #[.agg #[.int .i64 k0, .int .i64 k1, .slice ta tn tc, .slice la ln lc], .int .i64 ((p : Int) + 1), .int .i64 0]) ∧ Hid (Below w.heap.size w w' ∧ DrAt w' 9 (fun b => w.heap.size ≤ b) x (.int .i64 k0) (.int .i64 k1) (.slice ta tn tc) (.slice la ln lc)) := by
  refine (wdecode_any w a n cp T hU h.by' h.sm h.len h.le h.top h.few h.lt hU.2.2).mono ?_
  rintro e w' ⟨k0, k1, ta, tn, tc, la, ln, lc, N, rfl, hh⟩
  obtain ⟨h1, h2, h3⟩ := unhide hh
  obtain ⟨rfl, h4⟩ := h2 x r hP
  refine ⟨k0, k1, ta, tn, tc, la, ln, lc, ?_, hide ⟨h1, h4⟩⟩
  rw [hP]
  have e : (n : Int) - (r.length : Int) = (p : Int) + 1 := by omega
  rw [e]
  rfl
theorem dec_no {w : World} {a : Option Addr} {n cp : Nat} {T : List Nat} (h : DecIn w a n cp T) (hU : UOk w) (Q : Larder8.St (Tr 9)) (hP : repP 9 T = Q) (hQ : ∀ x r, Q ≠ .ok x r) :
    Calls Tryd.prog 5 #[.slice a n cp] w fun e w' => ∃ (k0 k1 : Int) (ta : Option Addr) (tn tc : Nat) (la : Option Addr) (ln lc : Nat), e = .returned (.tuple #[.agg #[.int .i64 k0, .int .i64 k1, .slice ta tn tc, .slice la ln lc], .int .i64 0, .int .i64 Q.err]) ∧ Hid (Below w.heap.size w w') := by
  subst hP
  refine (wdecode_any w a n cp T hU h.by' h.sm h.len h.le h.top h.few h.lt hU.2.2).mono ?_
  rintro e w' ⟨k0, k1, ta, tn, tc, la, ln, lc, N, rfl, hh⟩
  obtain ⟨h1, h2, h3⟩ := unhide hh
  obtain ⟨rfl, -⟩ := h3 hQ
  exact ⟨k0, k1, ta, tn, tc, la, ln, lc, rfl, hide h1⟩
theorem five_read : repP 9 [58, 45, 53, 13, 10, 58] = .ok (mkR 3 (-5) [] []) [58] := by rfl
theorem dec_five (w : World) (hU : UOk w) :
    Calls Tryd.prog 5 #[.slice (some ⟨w.heap.size, 0, none⟩) 6 6] (w.alloc (.cells #[.int .u8 58, .int .u8 45, .int .u8 53, .int .u8 13, .int .u8 10, .int .u8 58] 5 (6, 7))) fun e w' => ∃ (k0 : Int) (ta : Option Addr) (tn tc : Nat) (la : Option Addr) (ln lc : Nat), e = .returned (.tuple #[.agg #[.int .i64 k0, .int .i64 (-5), .slice ta tn tc, .slice la ln lc], .int .i64 5, .int .i64 0]) ∧ Hid (Below w.heap.size w w') := by
  have k1 : Below w.heap.size w (w.alloc (.cells #[.int .u8 58, .int .u8 45, .int .u8 53, .int .u8 13, .int .u8 10, .int .u8 58] 5 (6, 7))) := (Below.refl _ _).alloc (Nat.le_refl _) _
  have hI : DecIn (w.alloc (.cells #[.int .u8 58, .int .u8 45, .int .u8 53, .int .u8 13, .int .u8 10, .int .u8 58] 5 (6, 7))) (some ⟨w.heap.size, 0, none⟩) 6 6 [58, 45, 53, 13, 10, 58] := by
    refine ⟨.inr ⟨w.heap.size, 0, rfl, by simp, fun i hi => ?_⟩, fun i hi => ?_, rfl, Nat.le_refl _, by omega, by omega, fun b off e _ => by cases e; simp⟩
    · rw [cell_of_row _ _ _ _ _ _ (heap_alloc_new w _)]
      simp only [List.length_cons, List.length_nil] at hi
      rcases (show i = 0 ∨ i = 1 ∨ i = 2 ∨ i = 3 ∨ i = 4 ∨ i = 5 by omega) with rfl | rfl | rfl | rfl | rfl | rfl <;> rfl
    · simp only [List.length_cons, List.length_nil] at hi
      rcases (show i = 0 ∨ i = 1 ∨ i = 2 ∨ i = 3 ∨ i = 4 ∨ i = 5 by omega) with rfl | rfl | rfl | rfl | rfl | rfl <;> decide
  refine (dec_ok hI (UOk.below _ _ hU k1) 4 five_read rfl).mono ?_
  rintro e w' ⟨k0, k1', ta, tn, tc, la, ln, lc, rfl, hh⟩
  obtain ⟨h1, h2⟩ := unhide hh
  have e1 : Value.int .i64 k1' = .int .i64 (-5) := h2.2.1
  cases e1
  exact ⟨k0, ta, tn, tc, la, ln, lc, rfl, hide (k1.trans (h1.mono (by simp)))⟩
/-- the law's world: its argument's box, beside all that was there -/
structure TkAt (W V : World) (a : Option Addr) (n cp : Nat) (ma : Option Addr) (m mp : Nat) : Prop where
  bel : Below W.heap.size W V
  box : V.heap[W.heap.size]? = some (.cells #[.slice a n cp, .slice ma m mp] 24 (0, 0))
theorem TkAt.new (W : World) (a : Option Addr) (n cp : Nat) (ma : Option Addr) (m mp : Nat) : TkAt W (W.alloc (.cells #[.slice a n cp, .slice ma m mp] 24)) a n cp ma m mp := ⟨(Below.refl _ _).alloc (Nat.le_refl _) _, heap_alloc_new _ _⟩
theorem TkAt.next {W V V' : World} {a : Option Addr} {n cp : Nat} {ma : Option Addr} {m mp : Nat} (h : TkAt W V a n cp ma m mp) (hb : Below V.heap.size V V') : TkAt W V' a n cp ma m mp := ⟨h.bel.trans (hb.mono h.bel.size), (hb.block _ (block_lt h.box)).trans h.box⟩
theorem TkAt.nextA {W V V' : World} {a : Option Addr} {n cp : Nat} {ma : Option Addr} {m mp : Nat} (h : TkAt W V a n cp ma m mp) (hb : Below V.heap.size V V') (o : Obj) : TkAt W (V'.alloc o) a n cp ma m mp := (h.next hb).next ((Below.refl _ _).alloc (Nat.le_refl _) _)
theorem TkAt.c0 {W V : World} {a : Option Addr} {n cp : Nat} {ma : Option Addr} {m mp : Nat} (h : TkAt W V a n cp ma m mp) : V.cell? ⟨W.heap.size, 0, none⟩ = some (.slice a n cp) := by rw [cell_of_row _ _ _ _ _ _ h.box]; rfl
theorem TkAt.c1 {W V : World} {a : Option Addr} {n cp : Nat} {ma : Option Addr} {m mp : Nat} (h : TkAt W V a n cp ma m mp) : V.cell? ⟨W.heap.size, 1, none⟩ = some (.slice ma m mp) := by rw [cell_of_row _ _ _ _ _ _ h.box]; rfl
end Go.Proofs.YtfgemcmiilbodaaDoor
