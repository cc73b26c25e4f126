/- Lex, whole. -/
import Derived.Test.YtidfbelckdlbhabGreatLex
namespace Go.Proofs.YtidfbelckdlbhabGreat
open Go.ChangeShapes Go.WideShapes Go.ChangeAt Go.RowKit
set_option linter.unusedVariables false
set_option maxRecDepth 20000

theorem str_dash (m : List Nat) (hs : Small m) : ((str m).toList == [45]) = decide (m = [45]) := str_is m [45] hs (small_lit _ rfl)
theorem str_plus (m : List Nat) (hs : Small m) : ((str m).toList == [43]) = decide (m = [43]) := str_is m [43] hs (small_lit _ rfl)
/-- Lex has answered -/
def LexEnd (R : (Int × List Nat × Bool) × Nat) (w : World) (e : Ending) (w' : World) : Prop := ∃ v, e = .returned (.tuple #[.agg #[.int .i64 R.1.1, v, .bool R.1.2.2], .int .i64 (R.2 : Nat)]) ∧ OwnB w' w.heap.size v R.1.2.1 ∧ Below w.heap.size w w'

theorem lex_any (a : Option Addr) (cap : Nat) (w : World) (l : List Nat) (hl : l.length ≤ 140737488355328) (hs : Small l) (hcap : l.length ≤ cap) (hB : Bytes w a l) :
    Calls Tryz.prog 9 #[.slice a l.length cap] w (LexEnd (Larder.lexRes l) w) := by
  have hal : ∀ o : Obj, Below w.heap.size w (w.alloc o) := fun o => (Below.refl _ _).alloc (Nat.le_refl _) _
  have hcv := fun o : Obj => conv_any a cap (w.alloc o) l (hB.below (hal o))
  by_cases q1 : l = [45]
  · have e : Larder.lexRes l = ((-1, [], false), 0) := by unfold Larder.lexRes; rw [if_pos q1]
    rw [e]
    exact (lex_A a l.length cap w (str l) hcv (by rw [str_dash _ hs]; exact decide_eq_true q1)).mono (fun e w' ⟨h1, h2⟩ => ⟨_, h1, OwnB.nil _ _, h2⟩)
  have e1 : ((str l).toList == [45]) = false := by rw [str_dash _ hs]; exact decide_eq_false q1
  by_cases q2 : l = [43]
  · have e : Larder.lexRes l = ((1, [], false), 0) := by unfold Larder.lexRes; rw [if_neg q1, if_pos q2]
    rw [e]
    exact (lex_B a l.length cap w (str l) hcv e1 (by rw [str_plus _ hs]; exact decide_eq_true q2)).mono (fun e w' ⟨h1, h2⟩ => ⟨_, h1, OwnB.nil _ _, h2⟩)
  have e2 : ((str l).toList == [43]) = false := by rw [str_plus _ hs]; exact decide_eq_false q2
  by_cases h0 : 0 < l.length
  · obtain ⟨b, off, rfl, hb, hc⟩ := hB.at h0
    have c0 := hc 0 h0
    rw [Nat.add_zero] at c0
    have hml : (l.drop 1).length = l.length - 1 := List.length_drop ..
    have hBm : 1 < l.length → ∀ W, Below w.heap.size w W → Bytes W (some ⟨b, off + 1, none⟩) (l.drop 1) := fun _ W hW => (show Bytes w (some ⟨b, off + 1, none⟩) (l.drop 1) from .inr ⟨b, off + 1, rfl, hb, fun i hi => by
      rw [hml] at hi
      rw [Larder.getD_drop, Nat.add_assoc, hc (1 + i) (by omega)]⟩).below hW
    by_cases q91 : l.getD 0 0 = 91
    · have e : Larder.lexRes l = ((0, l.drop 1, false), 0) := by unfold Larder.lexRes; rw [if_neg q1, if_neg q2, if_pos ⟨h0, q91⟩]
      rw [e]
      rw [q91] at c0
      by_cases h1 : l.length = 1
      · have em : l.drop 1 = [] := List.eq_nil_of_length_eq_zero (by omega)
        rw [em, h1]
        rw [h1] at hcv
        by_cases hc1 : cap = 1
        · subst hc1
          exact lex_brim_91 b off w (str l) [] hb c0 hcv e1 e2 (fun W _ => clone_any (some ⟨b, off, none⟩) 0 W [] (by simp) (.inl rfl))
        · exact lex_one_91 b off cap w (str l) [] (by omega) hb c0 hcv e1 e2 (fun W _ => clone_any (some ⟨b, off + 1, none⟩) (cap - 1) W [] (by simp) (.inl rfl))
      · refine lex_open_91 b off l.length cap w (str l) (l.drop 1) (by omega) hl hcap hb c0 hcv e1 e2 (fun W hW => ?_)
        have := clone_any (some ⟨b, off + 1, none⟩) (cap - 1) W (l.drop 1) (by omega) (hBm (by omega) W hW)
        rw [hml] at this
        exact this
    by_cases q40 : l.getD 0 0 = 40
    · have e : Larder.lexRes l = ((0, l.drop 1, true), 0) := by unfold Larder.lexRes; rw [if_neg q1, if_neg q2, if_neg (fun h => q91 h.2), if_pos ⟨h0, q40⟩]
      rw [e]
      rw [q40] at c0
      by_cases h1 : l.length = 1
      · have em : l.drop 1 = [] := List.eq_nil_of_length_eq_zero (by omega)
        rw [em, h1]
        rw [h1] at hcv
        by_cases hc1 : cap = 1
        · subst hc1
          exact lex_brim_40 b off w (str l) [] hb c0 hcv e1 e2 (fun W _ => clone_any (some ⟨b, off, none⟩) 0 W [] (by simp) (.inl rfl))
        · exact lex_one_40 b off cap w (str l) [] (by omega) hb c0 hcv e1 e2 (fun W _ => clone_any (some ⟨b, off + 1, none⟩) (cap - 1) W [] (by simp) (.inl rfl))
      · refine lex_open_40 b off l.length cap w (str l) (l.drop 1) (by omega) hl hcap hb c0 hcv e1 e2 (fun W hW => ?_)
        have := clone_any (some ⟨b, off + 1, none⟩) (cap - 1) W (l.drop 1) (by omega) (hBm (by omega) W hW)
        rw [hml] at this
        exact this
    have e : Larder.lexRes l = ((0, [], false), 91) := by unfold Larder.lexRes; rw [if_neg q1, if_neg q2, if_neg (fun h => q91 h.2), if_neg (fun h => q40 h.2)]
    rw [e]
    exact (lex_E b off l.length cap _ w (str l) h0 hl hb c0 (hs 0 h0) q91 q40 hcv e1 e2).mono (fun e w' ⟨h1, h2⟩ => ⟨_, h1, OwnB.nil _ _, h2⟩)
  · obtain rfl : l = [] := List.eq_nil_of_length_eq_zero (by omega)
    have e : Larder.lexRes [] = ((0, [], false), 91) := by unfold Larder.lexRes; rw [if_neg q1, if_neg q2, if_neg (fun h => h0 h.1), if_neg (fun h => h0 h.1)]
    rw [e]
    exact (lex_F a cap w (str []) hcv e1 e2).mono (fun e w' ⟨h1, h2⟩ => ⟨_, h1, OwnB.nil _ _, h2⟩)
end Go.Proofs.YtidfbelckdlbhabGreat
