/- WireBack: within; Copy of no bytes; fit's small arms. -/
import Derived.Test.YtfgemcmiilbodaaDoorTka
import Derived.Test.YtfgemcmiilbodaaDoorBka
import Derived.Test.YtfgemcmiilbodaaDoorBkb
import Derived.Test.YtfgemcmiilbodaaDoorUnt
namespace Go.Proofs.YtfgemcmiilbodaaDoor
open Go.ChangeShapes Go.WideShapes Go.ChangeAt Go.RowKit
set_option linter.unusedVariables false
set_option linter.unusedSimpArgs false
set_option maxRecDepth 100000
set_option maxHeartbeats 8000000

def clP (c : Nat) : Bool := !(c == 13 || c == 10)
theorem cl_step {T : List Nat} {i : Nat} (hi : i < T.length) : (T.take (i + 1)).filter clP = (T.take i).filter clP ++ (if clP (T.getD i 0) then [T.getD i 0] else []) := by
  have e : T.take (i + 1) = T.take i ++ [T.getD i 0] := by
    rw [List.take_add_one, List.getElem?_eq_getElem hi, List.getD_eq_getElem?_getD, List.getElem?_eq_getElem hi]
    rfl
  rw [e, List.filter_append]
  congr 1
  by_cases h : clP (T.getD i 0) = true
  · rw [if_pos h, List.filter_cons_of_pos h]; rfl
  · rw [if_neg h, List.filter_cons_of_neg h]; rfl
theorem cl_end {T : List Nat} {i : Nat} (h : T.length ≤ i ∨ 1024 ≤ ((T.take i).filter clP).length) (hm : ((T.take i).filter clP).length ≤ 1024) : cleanL T = (T.take i).filter clP := by
  show (T.filter clP).take 1024 = _
  rcases h with h | h
  · rw [List.take_of_length_le h] at hm ⊢
    exact List.take_of_length_le hm
  · have e : T.filter clP = (T.take i).filter clP ++ (T.drop i).filter clP := by rw [← List.filter_append, List.take_append_drop]
    rw [e, List.take_append_of_le_length h, List.take_of_length_le hm]
theorem byte_row (W : World) (c : Nat) : Bytes (W.alloc (.cells #[.int .u8 (c : Nat)] 5)) (some ⟨W.heap.size, 0, none⟩) [c] := .inr ⟨W.heap.size, 0, rfl, by simp, fun i hi => by
  obtain rfl : i = 0 := by simpa using hi
  rw [cell_of_row _ _ _ _ _ _ (heap_alloc_new W _)]
  rfl⟩
theorem clean_any (w : World) (a : Option Addr) (n cp : Nat) (T : List Nat) (hn : n = T.length) (hB : Bytes w a T) (hl : n ≤ 140737488351232) :
    Calls Tryd.prog 17 #[.slice a n cp, .int .i64 1024] w fun e w' => ∃ va vn vc, e = .returned (.slice va vn vc) ∧ Hid (vn = (cleanL T).length ∧ Gro w w' w.heap.size (.slice va vn vc) vn (cleanL T)) := by
  have HN := hide hn
  have HB := hide hB
  have AL : Hid (∀ W : World, ∀ o, Below W.heap.size W (W.alloc o)) := hide (fun W o => (Below.refl _ _).alloc (Nat.le_refl _) _)
  obtain ⟨i5, hi5, hz5, hs5, hb5⟩ := info_partsS Tryd.info5s
  clear hn hB
  go_enter Tryd.func17, Tryd.ntmps17
  go_wp2_with fail
  go_loopw [5, 6] (fun v iv wr => ∃ (i m vc : Nat) (va : Option Addr), v = .slice va m vc ∧ iv = .int .i64 (i : Nat) ∧ i ≤ n ∧ m ≤ 1024 ∧ Hid (Gro w wr w.heap.size (.slice va m vc) m ((T.take i).filter clP))) (fun _ iv _ => n - (intOf iv).toNat)
  case atStart => exact ⟨0, 0, 0, none, rfl, rfl, Nat.zero_le _, Nat.zero_le _, hide (Gro.start w _ (Nat.le_refl _))⟩
  case round =>
    obtain ⟨i, m, vc, va, rfl, rfl, hi, hm, HG⟩ := hrel
    rename World => wr
    by_cases hlt : i < n
    · have f1 : decide ((i : Int) < (n : Int)) = true := decide_eq_true (by omega)
      by_cases hmt : m < 1024
      · have f2 : decide ((m : Int) < 1024) = true := decide_eq_true (by omega)
        have g1 : (0 : Int) ≤ (i : Int) := by omega
        have g2 : (i : Int) < (n : Int) := by omega
        obtain ⟨b, off, rfl, hb, hcell⟩ : ∃ b off, a = some ⟨b, off, none⟩ ∧ b < w.heap.size ∧ ∀ k, k < T.length → w.cell? ⟨b, off + k, none⟩ = some (.int .u8 (T.getD k 0 : Nat)) := by
          rcases unhide HB with h | h
          · have := unhide HN; rw [h] at this; simp at this; omega
          · exact h
        have ci : wr.cell? ⟨b, off + i, none⟩ = some (.int .u8 (T.getD i 0 : Nat)) := by
          rw [(unhide HG).bel.cell (show b < _ from hb)]
          exact hcell i (by have := unhide HN; omega)
        have HST := hide (cl_step (T := T) (i := i) (by have := unhide HN; omega))
        obtain ⟨c, hc⟩ : ∃ c, c = T.getD i 0 := ⟨_, rfl⟩
        rw [← hc] at ci HST
        clear hc hcell
        by_cases h13 : c = 13
        · subst h13
          have HG2 : Hid (Gro w wr w.heap.size (.slice va m vc) m ((T.take (i + 1)).filter clP)) := hide (by rw [unhide HST]; simpa [clP] using unhide HG)
          go_wp2_with fail
          all_goals go_roundw
          all_goals first | exact ⟨i + 1, m, vc, va, rfl, rfl, by omega, hm, HG2⟩ | (simp [intOf]; omega)
        by_cases h10 : c = 10
        · subst h10
          have HG2 : Hid (Gro w wr w.heap.size (.slice va m vc) m ((T.take (i + 1)).filter clP)) := hide (by rw [unhide HST]; simpa [clP] using unhide HG)
          go_wp2_with fail
          all_goals go_roundw
          all_goals first | exact ⟨i + 1, m, vc, va, rfl, rfl, by omega, hm, HG2⟩ | (simp [intOf]; omega)
        have e13 : ((c : Int) == 13) = false := by rw [beq_eq_false_iff_ne]; omega
        have e10 : ((c : Int) == 10) = false := by rw [beq_eq_false_iff_ne]; omega
        have n13 : (c == 13) = false := by rw [beq_eq_false_iff_ne]; exact h13
        have n10 : (c == 10) = false := by rw [beq_eq_false_iff_ne]; exact h10
        have x13 : ((c : Int) != 13) = true := by rw [bne_iff_ne]; omega
        have x10 : ((c : Int) != 10) = true := by rw [bne_iff_ne]; omega
        have HP : Hid (clP c = true) := hide (by simp [clP, h13, h10])
        go_wp2_with (at_builtin; refine append_bytes rfl _ _ 22 rfl i5 Tryd.underlying22 hi5 hz5 hs5 hb5 (.slice va m vc) m (byV ((T.take i).filter clP)) rfl ((unhide HG).below (unhide AL _ _)).row (some ⟨wr.heap.size, 0, none⟩) 1 [c] rfl (byte_row wr c) (by simp; omega) ?_; intro v1 w1 h1 g1; have HZ := hide (((unhide HG).below (unhide AL _ _)).app h1 g1); obtain ⟨a1, c1, rfl⟩ := h1.shape; clear h1 g1)
        all_goals first | (exfalso; rename_i q _; simp [x13, x10] at q; done) | go_roundw
        all_goals first | exact ⟨i + 1, m + 1, c1, a1, rfl, rfl, by omega, by omega, hide (by rw [unhide HST, if_pos (unhide HP)]; exact unhide HZ)⟩ | (simp [intOf]; omega)
      · have f2 : decide ((m : Int) < 1024) = false := decide_eq_false (by omega)
        have HE : Hid (cleanL T = (T.take i).filter clP) := hide (cl_end (.inr (by rw [← (unhide HG).len]; omega)) (by rw [← (unhide HG).len]; omega))
        go_wp2_with fail
        go_ret
        exact ⟨va, m, vc, rfl, hide (by rw [unhide HE]; exact ⟨(unhide HG).len, unhide HG⟩)⟩
    · have f1 : decide ((i : Int) < (n : Int)) = false := decide_eq_false (by omega)
      have HE : Hid (cleanL T = (T.take i).filter clP) := hide (cl_end (.inl (by have := unhide HN; omega)) (by rw [← (unhide HG).len]; omega))
      go_wp2_with fail
      go_ret
      exact ⟨va, m, vc, rfl, hide (by rw [unhide HE]; exact ⟨(unhide HG).len, unhide HG⟩)⟩
end Go.Proofs.YtfgemcmiilbodaaDoor
namespace Go.Proofs.YtfgemcmiilbodaaDoor
open Go.ChangeShapes Go.WideShapes Go.ChangeAt Go.RowKit
set_option linter.unusedVariables false
set_option linter.unusedSimpArgs false
set_option maxRecDepth 100000
set_option maxHeartbeats 8000000

theorem within_any (w : World) (c : Int) (n : Nat) (hn : 0 < n) (hl : n ≤ 1073741824) (h1 : -9223372036854775808 ≤ c) (h2 : c ≤ 9223372036854775807) :
    Calls Tryd.prog 12 #[.int .i64 c, .int .i64 (n : Nat)] w fun e w' => ∃ q : Nat, e = .returned (.int .i64 (q : Nat)) ∧ q < n ∧ w = w' := by
  have r1 := Int.lt_tmod_of_pos c (show (0 : Int) < n by omega)
  have r2 := Int.tmod_lt_of_pos c (show (0 : Int) < n by omega)
  have z : ((n : Int) == 0) = false := by rw [beq_eq_false_iff_ne]; omega
  have z2 : ((n : Int) = 0) = False := eq_false (by omega)
  have z3 : (n = 0) = False := eq_false (by omega)
  go_enter Tryd.func12, Tryd.ntmps12
  go_wp2_with fail
  go_ret
  have e1 := Int.emod_nonneg (c.tmod n + n) (show (n : Int) ≠ 0 by omega)
  have e2 := Int.emod_lt_of_pos (c.tmod n + n) (show (0 : Int) < n by omega)
  exact ⟨((c.tmod n + n) % n).toNat, by rw [Int.toNat_of_nonneg e1]; rfl, by omega, rfl⟩
/-- Copy of no bytes -/
theorem copy_none (w : World) (cap : Nat) : Calls Tryd.prog 9 #[.slice none 0 cap] w fun e w' => e = .returned (.slice (some ⟨w.heap.size, 0, none⟩) 0 0) ∧ Hid (Gro w w' w.heap.size (.slice (some ⟨w.heap.size, 0, none⟩) 0 0) 0 []) := by
  have m1 : ∀ w', (Instr.makeSlice 22 (.int .i64 0) (.int .i64 0)).run Tryd.prog w' = .ok (.slice (some ⟨w'.heap.size, 0, none⟩) 0 0) (w'.alloc (.cells (madeCells #[.int .u8 0] 0) 5)) := fun w' => run_make_row' (P := Tryd.prog) 22 5 (.int .u8 0) 1 Tryd.underlying22 Tryd.info5 rfl .i64 .i64 0 (by omega) (by omega) w'
  have HB := (Below.refl w.heap.size w).alloc (Nat.le_refl _) (.cells (madeCells #[.int .u8 0] 0) 5)
  have HG := heap_alloc_new w (.cells (madeCells #[.int .u8 0] 0) 5)
  obtain ⟨i0, hi, hy0, hy1, hy2⟩ := info_parts Tryd.info5
  have hcp := fun W => run_copy_none (P := Tryd.prog) W 22 22 3 5 (some ⟨w.heap.size, 0, none⟩) none 0 0 0 cap Tryd.underlying22 (by rw [hi]; simp [hy1]) rfl
  have HR : Hid (Gro w (w.alloc (.cells (madeCells #[.int .u8 0] 0) 5)) w.heap.size (.slice (some ⟨w.heap.size, 0, none⟩) 0 0) 0 []) := hide ⟨HB, HB.size, .inr ⟨w.heap.size, 0, _, rfl, HG, Nat.le_refl _, by simp only [maxLen]; omega, by simp [madeCells], fun k hk => by omega⟩, fun g hg => by simp [Value.ownBlock] at hg; omega, rfl⟩
  clear HB HG
  go_enter Tryd.func9, Tryd.ntmps9
  go_wp2
  go_ret
  exact ⟨rfl, HR⟩
end Go.Proofs.YtfgemcmiilbodaaDoor
