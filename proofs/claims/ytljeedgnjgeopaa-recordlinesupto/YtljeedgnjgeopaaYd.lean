/- record: the reader: texts. -/
import Derived.Test.YtljeedgnjgeopaaYc
import Derived.Lib.SliceRun
namespace Larder
def txV (s : Rd) : List Nat := if ofBig (tkV s 4) ≤ 4096 then tkV (tkS s 4) (ofBig (tkV s 4)) else []
def txS (s : Rd) : Rd := if ofBig (tkV s 4) ≤ 4096 then tkS (tkS s 4) (ofBig (tkV s 4)) else none
end Larder
namespace Go.Proofs.Ytljeedgnjgeopaa
open Go.ChangeShapes Go.WideShapes Go.ChangeAt Go.RowKit
set_option linter.unusedVariables false
set_option linter.unusedSimpArgs false
set_option maxRecDepth 100000
set_option maxHeartbeats 4000000
theorem RdAt.flag {w : World} {g : Nat} {s : Larder.Rd} (h : RdAt w g s) : w.cell? ⟨g, 1, none⟩ = some (.bool s.isNone) := by
  obtain ⟨a, n, c, h1, h2⟩ := h
  exact cell_blk h1 1
theorem text_any (w : World) (g : Nat) (s : Larder.Rd) (h : RdAt w g s) (hs : SmS s) : Calls Try.prog 78 #[.pointer (some ⟨g, 0, none⟩)] w (TkEnd w g (Larder.txV s) (Larder.txS s)) := by
  have C73 := num32 w g s h hs
  unfold Larder.txV Larder.txS
  generalize Larder.tkS s 4 = S at C73 ⊢
  unfold NmEnd at C73
  generalize Larder.ofBig (Larder.tkV s 4) = v at C73 ⊢
  by_cases hv : v ≤ 4096
  · rw [if_pos hv, if_pos hv]
    have f1 : decide ((v : Int) ≤ 4096) = true := decide_eq_true (by omega)
    have f2 : decide (v ≤ 4096) = true := decide_eq_true hv
    have q1 : IntKind.i64.wrap (v : Int) = (v : Int) := by rw [IntKind.wrap_i64]; omega
    have C66 : Hid (∀ W, RdAt W g S → Calls Try.prog 66 #[.pointer (some ⟨g, 0, none⟩), .bool true] W fun e w' => (∃ v, e = .returned v) ∧ W = w') := hide (fun W hW => (want_t W g S hW).mono fun e w' ⟨q1, q2⟩ => ⟨q1, q2.symm⟩)
    cases S with
    | none =>
      have C73' : Calls Try.prog 73 #[.pointer (some ⟨g, 0, none⟩)] w fun e w' => e = .returned (.int .u32 (v : Nat)) ∧ w'.cell? ⟨g, 1, none⟩ = some (.bool true) ∧ Hid (Kx g w w' ∧ RdAt w' g none) := C73.mono fun e w' ⟨q1, q2⟩ => ⟨q1, (unhide q2).2.flag, q2⟩
      clear C73 h hs
      unfold TkEnd
      go_enter Try.func78, Try.ntmps78
      go_wp2_with (first
        | (go_at_call 66; refine ((unhide C66) _ (unhide k2).2).mono ?_; clear C66; rintro e w3 ⟨⟨u, rfl⟩, rfl⟩)
        | (go_at_call 73; refine C73'.mono ?_; clear C73'; rintro e w2 ⟨rfl, y1, k2⟩))
      go_ret
      exact ⟨none, 0, 0, rfl, rfl, hide ⟨(unhide k2).1, (unhide k2).2, .inl ⟨rfl, rfl, rfl, rfl⟩⟩⟩
    | some l =>
      have C73' : Calls Try.prog 73 #[.pointer (some ⟨g, 0, none⟩)] w fun e w' => e = .returned (.int .u32 (v : Nat)) ∧ w'.cell? ⟨g, 1, none⟩ = some (.bool false) ∧ Hid (Kx g w w' ∧ RdAt w' g (some l)) := C73.mono fun e w' ⟨q1, q2⟩ => ⟨q1, (unhide q2).2.flag, q2⟩
      have C57 : Hid (∀ W, RdAt W g (some l) → Calls Try.prog 57 #[.pointer (some ⟨g, 0, none⟩), .int .i64 (v : Nat)] W (TkEnd W g (Larder.tkV (some l) v) (Larder.tkS (some l) v))) := hide (fun W hW => take_any W g v (some l) hW)
      generalize Larder.tkV (some l) v = V at C57 ⊢
      generalize Larder.tkS (some l) v = S' at C57 ⊢
      clear C73 h hs
      unfold TkEnd at C57 ⊢
      go_enter Try.func78, Try.ntmps78
      go_wp2_with (first
        | (go_at_call 66; refine ((unhide C66) _ (unhide k2).2).mono ?_; clear C66; rintro e w3 ⟨⟨u, rfl⟩, rfl⟩)
        | (go_at_call 73; refine C73'.mono ?_; clear C73'; rintro e w2 ⟨rfl, y1, k2⟩)
        | (go_at_call 57; refine ((unhide C57) _ (unhide k2).2).mono ?_; clear C57; rintro e w4 ⟨a, n, c, rfl, e4, k4⟩; replace e4 := hide e4))
      go_ret
      exact ⟨a, n, c, rfl, unhide e4, hide ⟨(unhide k2).1.trans (unhide k4).1, (unhide k4).2⟩⟩
  · rw [if_neg hv, if_neg hv]
    have f1 : decide ((v : Int) ≤ 4096) = false := decide_eq_false (by omega)
    have f2 : decide (v ≤ 4096) = false := decide_eq_false hv
    have C73' : Calls Try.prog 73 #[.pointer (some ⟨g, 0, none⟩)] w fun e w' => e = .returned (.int .u32 (v : Nat)) ∧ Hid (Kx g w w' ∧ RdAt w' g S) := C73
    have C66 : Hid (∀ W, RdAt W g S → Calls Try.prog 66 #[.pointer (some ⟨g, 0, none⟩), .bool false] W fun e w' => (∃ v, e = .returned v) ∧ w'.cell? ⟨g, 1, none⟩ = some (.bool true) ∧ Hid (Kx g W w' ∧ RdAt w' g none)) := hide (fun W hW => (want_f W g S hW).mono fun e w' ⟨q1, q2⟩ => ⟨q1, (unhide q2).2.flag, q2⟩)
    clear C73 h hs
    unfold TkEnd
    go_enter Try.func78, Try.ntmps78
    go_wp2_with (first
      | (go_at_call 66; refine ((unhide C66) _ (unhide k2).2).mono ?_; clear C66; rintro e w3 ⟨⟨u, rfl⟩, y3, k3⟩)
      | (go_at_call 73; refine C73'.mono ?_; clear C73'; rintro e w2 ⟨rfl, k2⟩))
    go_ret
    exact ⟨none, 0, 0, rfl, rfl, hide ⟨(unhide k2).1.trans (unhide k3).1, (unhide k3).2, .inl ⟨rfl, rfl, rfl, rfl⟩⟩⟩
/-- bytes in new memory, and the reader moved on -/
def ArEnd (w : World) (g : Nat) (V : List Nat) (S : Larder.Rd) (e : Ending) (w' : World) : Prop := ∃ a n c, e = .returned (.slice a n c) ∧ n = V.length ∧ Hid (Kx g w w' ∧ RdAt w' g S ∧ RB w' (.slice a n c) V ∧ ∀ b, (Value.slice a n c).ownBlock = some b → w.heap.size ≤ b)
theorem clone_any (w : World) (a : Option Addr) (n c : Nat) (V : List Nat) (g : Nat) (h : Rst w g a n c V) (hg : g < w.heap.size) (hl : V.length ≤ 1099511627776) : Calls Try.prog 77 #[.slice a n c] w fun e w' => ∃ a' n' c', e = .returned (.slice a' n' c') ∧ n' = V.length ∧ Hid (Nw w w' (.slice a' n' c') ∧ RB w' (.slice a' n' c') V) := by
  have q22 : ∀ (w : World) (a : Option Addr) (n c n' c' : Nat), (binOp .eql 27 (.slice a n c) (.slice none n' c')).run Try.prog w = .ok (.bool a.isNone) w := fun w a n c n' c' => Lib.run_eql_slice_nil w _ _ a n c n' c' Try.underlying27
  obtain ⟨i0, hi0, hz0, hz1, hz2⟩ := info_parts4 info5
  have hlen := h.len
  have hB := h.bytes (Nat.le_of_lt hg)
  cases a with
  | none =>
    have hv : V = [] := by
      rcases h with ⟨-, -, -, e⟩ | ⟨b, off, e, -⟩
      · exact e
      · cases e
    have hn0 : n = 0 := by rw [hlen, hv]; rfl
    have hc0 : c = 0 := by
      rcases h with ⟨-, -, e, -⟩ | ⟨b, off, e, -⟩
      · exact e
      · cases e
    subst hv hn0 hc0
    clear h hlen hB
    go_enter Try.func77, Try.ntmps77
    go_wp2_with fail
    go_ret
    exact ⟨none, 0, 0, rfl, rfl, hide ⟨Nw.nil w, .inl ⟨rfl, rfl⟩⟩⟩
  | some ad =>
    have HB := hide hB
    have HLEN := hide hlen
    have hn4 : n ≤ 1099511627776 := by omega
    have hal := (Below.refl w.heap.size w).alloc (Nat.le_refl _) (.cells #[] 5)
    have hnew := heap_alloc_new w (.cells #[] 5)
    have HAL := hide hal
    have HR : Hid (Rws (w.alloc (.cells #[] 5)) 5 1 (.slice (some ⟨w.heap.size, 0, none⟩) 0 0) 0 (fun k => .int .u8 (([] : List Nat).getD k 0 : Nat))) := hide (.inr ⟨w.heap.size, 0, #[], rfl, hnew, Nat.le_refl _, by decide, rfl, fun k hk => by omega⟩)
    have HN : Hid (Nw w (w.alloc (.cells #[] 5)) (.slice (some ⟨w.heap.size, 0, none⟩) 0 0)) := hide ⟨hal, fun q hq => by cases hq; exact Nat.le_refl _⟩
    clear h hlen hB hal hnew
    go_enter Try.func77, Try.ntmps77
    go_wp2_with (first
      | (at_builtin; refine append_gen rfl _ _ 27 rfl 5 i0 _ 1 1 Try.underlying27 hi0 hz0 hz1 hz2 rfl (.slice (some ⟨w.heap.size, 0, none⟩) 0 0) 0 _ rfl (unhide HR) (some ad) n c rfl (cellsB V) (by rw [cellsB_len, unhide HLEN]; omega) (fun e => by cases e) (bytes_news ((unhide HB).below' (unhide HAL))) (cellsB_one V) (by omega) (by unfold maxLen; omega) ?_; intro v5 w5 h5 k5; obtain ⟨a5, c5, rfl⟩ := h5.shape; have N5 := hide ((unhide HN).ga k5); have R5 : Hid (RB w5 (.slice a5 (0 + n) c5) ([] ++ V)) := hide (RB.app (n := 0) rfl (by rw [← unhide HLEN]; exact h5)); clear h5 k5; go_frame))
    go_ret
    exact ⟨a5, 0 + n, c5, rfl, by rw [Nat.zero_add]; exact unhide HLEN, hide ⟨unhide N5, by have := unhide R5; rwa [List.nil_append] at this⟩⟩
theorem arg_any (w : World) (g : Nat) (s : Larder.Rd) (h : RdAt w g s) (hs : SmS s) : Calls Try.prog 76 #[.pointer (some ⟨g, 0, none⟩)] w (ArEnd w g (Larder.txV s) (Larder.txS s)) := by
  have C78 := text_any w g s h hs
  have hg := rdlt h
  have hV : (Larder.txV s).length ≤ 4096 := by
    unfold Larder.txV
    split
    · rcases tk_len (Larder.tkS s 4) (Larder.ofBig (Larder.tkV s 4)) with e | e <;> omega
    · simp
  generalize Larder.txV s = V at C78 hV ⊢
  generalize Larder.txS s = S at C78 ⊢
  have C77 : Hid (∀ W a n c, Rst W g a n c V → g < W.heap.size → Calls Try.prog 77 #[.slice a n c] W fun e w' => ∃ a' n' c', e = .returned (.slice a' n' c') ∧ n' = V.length ∧ Hid (Nw W w' (.slice a' n' c') ∧ RB w' (.slice a' n' c') V)) := hide (fun W a n c h1 h2 => clone_any W a n c V g h1 h2 (by omega))
  clear h hs hV
  unfold TkEnd at C78
  unfold ArEnd
  go_enter Try.func76, Try.ntmps76
  go_wp2_with (first
    | (go_at_call 77; refine ((unhide C77) w2 a n c (unhide k2).2.2 (rdlt (unhide k2).2.1)).mono ?_; clear C77; rintro e w3 ⟨a3, n3, c3, rfl, e3, k3⟩; replace e3 := hide e3)
    | (go_at_call 78; refine C78.mono ?_; clear C78; rintro e w2 ⟨a, n, c, rfl, e2, k2⟩; replace e2 := hide e2))
  go_ret
  exact ⟨a3, n3, c3, rfl, unhide e3, hide ⟨(unhide k2).1.trans (.below (unhide k3).1.bel), (unhide k2).2.1.below (unhide k3).1.bel, (unhide k3).2, fun b hb => Nat.le_trans (unhide k2).1.size ((unhide k3).1.own b hb)⟩⟩
end Go.Proofs.Ytljeedgnjgeopaa
