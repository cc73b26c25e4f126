/- record: the law's starts. -/
import Derived.Test.YtljeedgnjgeopaaZh
import Derived.Test.YtljeedgnjgeopaaZf
import Derived.Lib.SlBytesConst
namespace Larder
/-- the entry with which it starts -/
def e0 : EntP := ⟨1, 0, [(0, [[65]])]⟩
theorem e0_ok : OkE e0 := ⟨⟨by decide, by decide⟩, by decide, by decide, by decide, fun a ha => by
  obtain rfl := List.mem_singleton.1 ha
  refine ⟨by decide, by decide, by decide, fun t ht => ?_⟩
  obtain rfl := List.mem_singleton.1 ht
  exact ⟨by decide, fun c hc => by
    obtain rfl := List.mem_singleton.1 hc
    decide⟩⟩
theorem e0_len : (recE e0).length = 56 := by
  unfold recE
  rw [frame_len]
  rfl
theorem e0_num : Numd 1 0 [e0] := ⟨by decide, fun i e h => by
  cases i with
  | zero => cases h; exact ⟨rfl, rfl, e0_ok⟩
  | succ i => cases h⟩
end Larder
namespace Go.Proofs.Ytljeedgnjgeopaa
open Go.ChangeShapes Go.WideShapes Go.ChangeAt Go.RowKit Go.Shelf
set_option linter.unusedVariables false
set_option linter.unusedSimpArgs false
set_option maxRecDepth 100000
set_option maxHeartbeats 4000000
theorem fst_none_nil {wr : Int → Int} : Larder.fstR wr [] = none := by
  cases h : Larder.fstR wr [] with
  | none => rfl
  | some e => exact absurd h fst_nil
theorem starts_any (w : World) : Calls Try.prog 8 #[] w fun e w' => e = .returned (.bool true) ∧ Hid (Below w.heap.size w w') := by
  obtain ⟨W, hW⟩ : ∃ W, ((w.alloc (.cells #[.int .u8 65] 5 (1, 2))).alloc (.cells #[.slice (some ⟨w.heap.size, 0, none⟩) 1 1] 27)).alloc (.cells #[.int .i64 0, .slice (some ⟨w.heap.size + 1, 0, none⟩) 1 1] 64) = W := ⟨_, rfl⟩
  have kc := Lib.run_convert_bytes_const (P := Try.prog) w 27 5 #[.int .u8 65] 1 1 Try.underlying27 Try.underlying5
  have b1 := (Below.refl w.heap.size w).alloc (Nat.le_refl _) (.cells #[.int .u8 65] 5 (1, 2))
  have h1 := heap_alloc_new w (.cells #[.int .u8 65] 5 (1, 2))
  have s1 : (w.alloc (.cells #[.int .u8 65] 5 (1, 2))).heap.size = w.heap.size + 1 := by simp
  generalize hw1 : w.alloc (.cells #[.int .u8 65] 5 (1, 2)) = w1 at *
  have b2 := (Below.refl w1.heap.size w1).alloc (Nat.le_refl _) (.cells #[.slice (some ⟨w.heap.size, 0, none⟩) 1 1] 27)
  have h2 := heap_alloc_new w1 (.cells #[.slice (some ⟨w.heap.size, 0, none⟩) 1 1] 27)
  have s2 : (w1.alloc (.cells #[.slice (some ⟨w.heap.size, 0, none⟩) 1 1] 27)).heap.size = w.heap.size + 2 := by simp [s1]
  generalize hw2 : w1.alloc (.cells #[.slice (some ⟨w.heap.size, 0, none⟩) 1 1] 27) = w2 at *
  have b3 := (Below.refl w2.heap.size w2).alloc (Nat.le_refl _) (.cells #[.int .i64 0, .slice (some ⟨w.heap.size + 1, 0, none⟩) 1 1] 64)
  have h3 := heap_alloc_new w2 (.cells #[.int .i64 0, .slice (some ⟨w.heap.size + 1, 0, none⟩) 1 1] 64)
  rw [hW] at b3 h3
  rw [s1] at h2
  rw [s2] at h3
  have HB0 : Hid (Below w.heap.size w W) := hide (b1.trans ((b2.mono (by omega)).trans (b3.mono (by omega))))
  have x1 := (b3.block _ (by omega)).trans ((b2.block _ (by omega)).trans h1)
  have x2 := (b3.block _ (by omega)).trans h2
  have hG : GrpI W (some ⟨w.heap.size + 2, 0, none⟩) [(0, [[65]])] := by
    refine .inr ⟨w.heap.size + 2, 0, rfl, blk_lt h3, fun i x hx => ?_⟩
    cases i with
    | succ i => cases hx
    | zero =>
      cases hx
      refine ⟨cell_blk h3 0, _, _, cell_blk h3 1, .inr ⟨w.heap.size + 1, 0, rfl, blk_lt x2, fun i T hT => ?_⟩⟩
      cases i with
      | succ i => cases hT
      | zero =>
        cases hT
        refine ⟨_, _, cell_blk x2 0, .inr ⟨w.heap.size, 0, rfl, blk_lt x1, fun i hi => ?_⟩⟩
        obtain rfl : i = 0 := by simp at hi; omega
        exact cell_blk x1 0
  have hL := line_any W 1 0 _ 1 1 [(0, [[65]])] hG rfl (fun a ha t ht c hc => by
    obtain rfl := List.mem_singleton.1 ha
    obtain rfl := List.mem_singleton.1 ht
    obtain rfl := List.mem_singleton.1 hc
    decide) (by decide)
  have C15 : Hid (Calls Try.prog 15 #[.agg #[.int .i64 1, .int .u64 0, .slice (some ⟨w.heap.size + 1 + 1, 0, none⟩) 1 1]] W fun e W' => ∃ (a : Option Addr) (c : Nat), e = .returned (.tuple #[.slice a 56 c, .int .i64 0]) ∧ Hid (Below w.heap.size w W' ∧ RB W' (.slice a 56 c) (Larder.recE Larder.e0))) := hide (hL.mono (fun e W' hl => by
    rcases hl with ⟨-, a, n, c, q1, q2, q3⟩ | ⟨q1, -⟩
    · have : n = 56 := q2.trans Larder.e0_len
      subst this
      exact ⟨a, c, q1, hide ⟨(unhide HB0).trans ((unhide q3).1.bel.mono (unhide HB0).size), (unhide q3).2⟩⟩
    · exact absurd q1 (by decide)))
  have C11 : Hid (∀ (W' : World) (a : Option Addr) (c : Nat), Below w.heap.size w W' ∧ RB W' (.slice a 56 c) (Larder.recE Larder.e0) → Calls Try.prog 11 #[.slice a 56 c] W' fun e W2 => ∃ (a2 : Option Addr) (c2 : Nat), e = .returned (.slice a2 56 c2) ∧ Hid (Below w.heap.size w W2 ∧ RB W2 (.slice a2 56 c2) (Larder.recE Larder.e0))) := hide (fun W' a c h => by
    have := dcopy_any W' a c (Larder.recE Larder.e0) (by rw [Larder.e0_len]; omega) (RB.bytes h.2).1
    rw [Larder.e0_len] at this
    exact this.mono (fun e W2 hh => ⟨_, _, hh.1, hide ⟨h.1.trans ((unhide hh.2).2.mono h.1.size), (unhide hh.2).1⟩⟩))
  have C25 : Hid (∀ (W' : World) (a : Option Addr) (c : Nat), Below w.heap.size w W' ∧ RB W' (.slice a 56 c) (Larder.recE Larder.e0) → Calls Try.prog 25 #[.slice a 56 c] W' fun e W2 => ∃ (b o c2 : Nat), e = .returned (.tuple #[.slice (some ⟨b, o, none⟩) 1 c2, .int .i64 56]) ∧ W2.cell? ⟨b, o, none⟩ = some (.int .i64 1) ∧ Hid (Below w.heap.size w W2)) := hide (fun W' a c h => by
    have hrow : Larder.Row w64i (Larder.recE Larder.e0) [Larder.e0] := by
      have := Larder.row_pre (wr := w64i) (t := []) Larder.e0_num (fun e he => by
        obtain rfl := List.mem_singleton.1 he
        decide) fst_none_nil
      rw [List.append_nil, List.flatMap_singleton] at this
      exact this
    have hsm : ∀ x ∈ Larder.recE Larder.e0, x < 256 := recE_small ⟨by decide, by decide, ⟨by decide, fun a ha => by
      obtain rfl := List.mem_singleton.1 ha
      exact ⟨by decide, by decide, by decide⟩⟩, fun a ha t ht c hc => by
      obtain rfl := List.mem_singleton.1 ha
      obtain rfl := List.mem_singleton.1 ht
      obtain rfl := List.mem_singleton.1 hc
      decide⟩
    refine (read_any W' a 56 c _ _ hrow h.2.rst hsm (by rw [Larder.e0_len]; omega)).mono (fun e W2 hh => ?_)
    obtain ⟨a2, c2, q1, q2⟩ := hh
    obtain ⟨k1, k2, k3⟩ := unhide q2
    rcases k2.eb with h0 | ⟨b, o, rfl, hl, hc⟩
    · cases h0
    · refine ⟨b, o, c2, ?_, ?_, hide (h.1.trans (k1.mono h.1.size))⟩
      · have : Larder.offR [Larder.e0] [Larder.e0].length = 56 := by
          rw [Larder.offR_len, List.flatMap_singleton, Larder.e0_len]
        rw [this] at q1
        exact q1
      · exact (hc 0 _ rfl).1)
  clear hG hL b1 b2 b3 h1 h2 h3 s1 s2 x1 x2 HB0
  rw [← hw1] at hw2 kc
  rw [← hw2] at hW
  rw [← hW] at C15
  clear hw1 hw2 hW
  go_enter Try.func8, Try.ntmps8
  go_wp2_with (first
    | (go_at_call 15; refine (unhide C15).mono ?_; clear C15; rintro e w2 ⟨a2, c2, rfl, z2⟩)
    | (go_at_call 17; refine (num_ok _).mono ?_; rintro e w5 ⟨rfl, hw5⟩; obtain rfl := hw5.symm)
    | (go_at_call 11; refine ((unhide C11) w2 a2 c2 (unhide z2)).mono ?_; rintro e w3 ⟨a3, c3, rfl, z3⟩)
    | (go_at_call 25; refine ((unhide C25) w3 a3 c3 (unhide z3)).mono ?_; rintro e w4 ⟨b4, o4, c4, rfl, x4, z4⟩))
  go_ret
  exact ⟨rfl, z4⟩
end Go.Proofs.Ytljeedgnjgeopaa
