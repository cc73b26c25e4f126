/- Decode: replies are read, however deep. -/
import Derived.Test.YtfgemcmiilbodaaDoorDcw
namespace Go.Proofs.YtfgemcmiilbodaaDoor
open Go.ChangeShapes Go.WideShapes Go.ChangeAt Go.RowKit
set_option linter.unusedVariables false
set_option linter.unusedSimpArgs false
set_option maxRecDepth 20000
set_option maxHeartbeats 8000000

theorem arr_ok (pd d : Nat) (hp : 2 < pd) (hd : d ≤ 8) (RP : d ≠ 0 → RepOk pd d (((8 - d : Nat) : Int) + 1)) : ArrOk pd d := by
  intro W a n cp R h hU hl
  by_cases h0 : d = 0
  · subst h0
    have hI : (((8 - 0 : Nat) : Int) == 8) = true := by decide
    unfold arrP
    rw [if_pos rfl]
    cases hn : Larder8.numP (-1) (-1) R with
    | short => exact arr_bad8 W pd (8 - 0) 0 a n cp R hI h hl .short .short hn (.inl ⟨rfl, rfl⟩)
    | wrong => exact arr_bad8 W pd (8 - 0) 0 a n cp R hI h hl .wrong .wrong hn (.inr ⟨rfl, rfl⟩)
    | ok v r =>
      have hv := Larder8.numP_in hn
      obtain rfl : v = -1 := by omega
      simp only
      rw [if_pos trivial]
      exact arr_nil8 W pd (8 - 0) 0 a n cp R r hI h hl hn
  · have hI : (((8 - d : Nat) : Int) == 8) = false := by rw [beq_eq_false_iff_ne]; omega
    unfold arrP
    rw [if_neg h0]
    cases hn : Larder8.numP (-1) 65536 R with
    | short => exact arr_bad W pd (8 - d) d a n cp R hI h hl .short .short hn (.inl ⟨rfl, rfl⟩)
    | wrong => exact arr_bad W pd (8 - d) d a n cp R hI h hl .wrong .wrong hn (.inr ⟨rfl, rfl⟩)
    | ok v r =>
      have hv := Larder8.numP_in hn
      simp only
      by_cases h1 : v = -1
      · subst h1
        rw [if_pos rfl]
        exact arr_nil W pd (8 - d) d a n cp R r hI h hl hn
      · rw [if_neg h1]
        obtain ⟨m, rfl⟩ : ∃ m : Nat, v = (m : Int) := ⟨v.toNat, by omega⟩
        rw [Int.toNat_natCast]
        exact arr_list W pd (8 - d) d m a n cp R r (by omega) h hU hp hl hn (RP h0)
theorem rep_ok (pd : Nat) (hp : 2 < pd) : ∀ d, d ≤ 8 → RepOk pd (d + 1) ((8 - d : Nat) : Int)
  | 0, hd => fun W a n cp R h hU hl => reply_of W pd a n cp R 0 h hU hp hl (arr_ok pd 0 hp hd (fun e => absurd rfl e))
  | d + 1, hd => fun W a n cp R h hU hl => reply_of W pd a n cp R (d + 1) h hU hp hl (arr_ok pd (d + 1) hp hd (fun _ => by
      have ih := rep_ok pd hp d (by omega)
      have e : ((8 - (d + 1) : Nat) : Int) + 1 = ((8 - d : Nat) : Int) := by omega
      rw [e]
      exact ih))
/-- nothing is there to be read -/
theorem reply_empty (w : World) (pd : Nat) (a : Option Addr) (cp : Nat) (hb : w.heap[pd]? = some (.cells #[.slice a 0 cp] 44 (0, 0))) :
    Calls Tryd.prog 13 #[.pointer (some ⟨pd, 0, none⟩), .int .i64 0] w (RpEnd w pd 9 .short) := by
  have B3 := hide (Bx.new w pd (block_lt hb))
  have c1 : (w.alloc (.cells #[.int .i64 0, .int .i64 0, .slice none 0 0, .slice none 0 0] 27)).cell? ⟨pd, 0, none⟩ = some (.slice a 0 cp) := by
    rw [cell_of_row _ _ _ _ _ _ ((heap_alloc_old w _ (block_lt hb)).trans hb)]; rfl
  clear hb
  go_enter Tryd.func13, Tryd.ntmps13
  go_wp2_with fail
  refine bodyPost_ret (reply_end _ _ (heap_alloc_new _ _) rfl rfl) rfl ?_
  exact ⟨0, 0, none, 0, 0, none, 0, 0, rfl, hide ⟨(unhide B3).k, fun x r e => (by cases e)⟩⟩
/-- the decoder's reply, of any bytes -/
theorem top_any (w : World) (pd : Nat) (a : Option Addr) (n cp : Nat) (T : List Nat) (hp : 2 < pd) (hU : UOk w) (hb : w.heap[pd]? = some (.cells #[.slice a n cp] 44 (0, 0))) (hB : Bytes w a T) (hS : Small T) (hn : n = T.length) (hc : n ≤ cp) (hm : cp ≤ 9223372036854775807) (hl : n ≤ 140737488355328) (ha : ∀ b off, a = some ⟨b, off, none⟩ → 0 < n → b < pd) :
    Calls Tryd.prog 13 #[.pointer (some ⟨pd, 0, none⟩), .int .i64 0] w (RpEnd w pd 9 (repP 9 T)) := by
  cases T with
  | nil =>
    simp only [List.length_nil] at hn
    subst hn
    exact reply_empty w pd a cp hb
  | cons c T =>
    rcases hB with e | ⟨b, off, rfl, h1, h2⟩
    · cases e
    · have hn0 : 0 < n := by rw [hn]; simp
      exact rep_ok pd hp 8 (Nat.le_refl _) w (some ⟨b, off, none⟩) n cp (c :: T) ⟨hb, ⟨.inr ⟨b, off, rfl, h1, h2⟩, hn, hc, by omega⟩, fun b' off' e _ => by cases e; have := ha b off rfl hn0; omega, hS, b, off, rfl, ha b off rfl hn0⟩ hU (by omega)
end Go.Proofs.YtfgemcmiilbodaaDoor
