/- Decode: a reply is read, if arrays are. -/
import Derived.Test.YtfgemcmiilbodaaDoorDcs
namespace Go.Proofs.YtfgemcmiilbodaaDoor
open Go.ChangeShapes Go.WideShapes Go.ChangeAt Go.RowKit
set_option linter.unusedVariables false
set_option linter.unusedSimpArgs false
set_option maxRecDepth 20000
set_option maxHeartbeats 4000000

/-- arrays inside 8 - d others are read -/
def ArrOk (pd d : Nat) : Prop := ∀ (W : World) (a : Option Addr) (n cp : Nat) (R : List Nat), DcAt W pd a n cp R → UOk W → n ≤ 140737488355328 → Part W pd (d + 1) 21 #[.pointer (some ⟨pd, 0, none⟩), .int .i64 ((8 - d : Nat) : Int)] (arrP (repP d) R)
theorem reply_none (w : World) (pd : Nat) (a : Option Addr) (n cp : Nat) (d : Nat) (h : DcAt w pd a n cp []) :
    Calls Tryd.prog 13 #[.pointer (some ⟨pd, 0, none⟩), .int .i64 ((8 - d : Nat) : Int)] w (RpEnd w pd (d + 1) .short) := by
  have hlen := h.rst.len
  simp only [List.length_nil] at hlen
  subst hlen
  have B3 := hide (Bx.new w pd (block_lt h.box))
  have c1 := (h.below ((Below.refl _ _).alloc (Nat.le_refl _) (.cells #[.int .i64 0, .int .i64 0, .slice none 0 0, .slice none 0 0] 27))).cell0
  clear h
  go_enter Tryd.func13, Tryd.ntmps13
  go_wp2_with fail
  refine bodyPost_ret (reply_end _ _ (heap_alloc_new _ _) rfl rfl) rfl ?_
  exact ⟨0, 0, none, 0, 0, none, 0, 0, rfl, hide ⟨(unhide B3).k, fun x r e => (by cases e)⟩⟩
theorem reply_of (w : World) (pd : Nat) (a : Option Addr) (n cp : Nat) (T : List Nat) (d : Nat) (h : DcAt w pd a n cp T) (hU : UOk w) (hp : 2 < pd) (hl : n ≤ 140737488355328) (AR : ArrOk pd d) :
    Calls Tryd.prog 13 #[.pointer (some ⟨pd, 0, none⟩), .int .i64 ((8 - d : Nat) : Int)] w (RpEnd w pd (d + 1) (repP (d + 1) T)) := by
  cases T with
  | nil => exact reply_none w pd a n cp d h
  | cons c r =>
    unfold repP
    by_cases m43 : c = 43
    · subst m43; rw [if_pos rfl]; exact reply_status w pd a n cp r d h hU hp hl
    rw [if_neg m43]
    by_cases m45 : c = 45
    · subst m45; rw [if_pos rfl]; exact reply_error w pd a n cp r d h hU hp hl
    rw [if_neg m45]
    by_cases m58 : c = 58
    · subst m58; rw [if_pos rfl]; exact reply_num w pd a n cp r d h hU hp hl
    rw [if_neg m58]
    by_cases m36 : c = 36
    · subst m36; rw [if_pos rfl]; exact reply_bulk w pd a n cp r d h hU hp hl
    rw [if_neg m36]
    by_cases m42 : c = 42
    · subst m42; rw [if_pos rfl]; exact reply_array w pd a n cp r d h hU hp hl AR
    rw [if_neg m42]
    exact reply_other w pd a n cp c r d h hU hp hl m43 m45 m58 m36 m42
end Go.Proofs.YtfgemcmiilbodaaDoor
