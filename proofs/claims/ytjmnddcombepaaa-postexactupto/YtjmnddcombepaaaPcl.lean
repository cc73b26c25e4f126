/- Heard, walked. -/
import Derived.Test.YtjmnddcombepaaaPck
namespace Go.Proofs.Ytjmnddcombepaaa
open Go.ChangeShapes Go.WideShapes Go.ChangeAt Go.RowKit Go.Maps Go.Sort
set_option linter.unusedVariables false
set_option linter.unusedSimpArgs false
set_option maxRecDepth 100000
set_option maxHeartbeats 4000000

/-- Heard's answer -/
def hearL (G : List UInt8 → List UInt8 → Bool) (S : List Key) (T : List UInt8) : List Hit := hearN S T (metL G S T) 8
def HEnd (w : World) (l : List Hit) (e : Ending) (w' : World) : Prop := ∃ (a : Option Addr) (n cap : Nat), e = .returned (.slice a n cap) ∧ Hid (OwnH w' w.heap.size (.slice a n cap) l ∧ Below w.heap.size w w' ∧ n = l.length)
theorem OwnH.raw {w : World} {base : Nat} {v : Value} {l : List Hit} (h : OwnH w base v l) (o : Obj) : (w.alloc o).ownsRow base 45 3 v l.length (l.flatMap hitC) := World.ownsRow.alloc h o
theorem OwnH.shape {w : World} {base : Nat} {v : Value} {l : List Hit} (h : OwnH w base v l) : ∃ a cap, v = .slice a l.length cap := by
  rcases h.2 with ⟨rfl, h0⟩ | ⟨g, cap, cur, rfl, _⟩
  · exact ⟨none, 0, by rw [h0]⟩
  · exact ⟨_, _, rfl⟩
theorem heard_any (G : List UInt8 → List UInt8 → Bool) (hG : GlobIs G) (w : World) (p b : Nat) (D : Dt) (S : List Key) (T : List UInt8) (h : PostAt w p b D S) (hS : S.length ≤ 68719476736) (hl : ∀ k ∈ S, k.2.1.length ≤ 4096) (hT : T.length ≤ 140737488355328) :
    Calls Try.prog 14 #[.pointer (some ⟨p, 0, none⟩), .string (bs T)] w (HEnd w (hearL G S T)) := by
  have CM := hide (metBy_any G hG w p b D S T h (by omega) hl hT)
  unfold SEnd at CM
  have hML : Hid ((metL G S T).length ≤ 68719476736 ∧ ∀ P ∈ metL G S T, P.length ≤ 4096) := hide ⟨by
    have := textsL_len S (fun k => k.2.2 == true)
    exact Nat.le_trans (List.length_filter_le _ _) (Nat.le_trans this hS), fun P hP => by
    obtain ⟨k, hk, _, rfl⟩ := textsL_sub (List.mem_filter.1 hP).1
    exact hl k hk⟩
  unfold hearL
  generalize metL G S T = M at CM hML ⊢
  obtain ⟨i0, hi, hz0, hz1, hz2⟩ := info_parts info45
  have CL : Hid (∀ (W : World) (pv v : Value) (l : List Hit) (c : Nat) (X : List UInt8) (q : Bool), c < 8 → X.length ≤ 140737488355328 → Hid (HeAt w W pv M v l) → Calls Try.prog 31 #[.pointer (some ⟨p, 0, none⟩), .int .i64 (c : Nat), .string (bs X), .bool q] W fun e w' => e = .returned (.bool (decide (((c : Int), X, q) ∈ S))) ∧ Hid (HeAt w w' pv M v l)) := hide (fun W pv v l c X q hc hX hW => (listens_any W p b D S c X q (h.below (unhide hW).bel) ⟨WalkArith.wf_i64 (by omega), by show X.length ≤ maxLen; unfold maxLen; omega⟩).mono (fun e w' ⟨h1, h2⟩ => ⟨h1, hide ((unhide hW).below (unhide h2))⟩))
  have CN : Hid (∀ (W : World) (pv v : Value) (l : List Hit) (X : List UInt8), X.length ≤ 140737488355328 → Hid (HeAt w W pv M v l) → Calls Try.prog 32 #[.string (bs X)] W fun e w' => e = .returned (.string (bs X)) ∧ Hid (HeAt w w' pv M v l)) := hide (fun W pv v l X hX hW => (clone_any W X (by omega)).mono (fun e w' ⟨h1, h2⟩ => ⟨h1, hide ((unhide hW).below (unhide h2))⟩))
  have HLW := hide h.lt
  clear h hl
  go_enter Try.func14, Try.ntmps14
  go_wp2_with (go_at_call 33; with_reducible refine (unhide CM).mono ?_; rintro e w1 ⟨pa, pn, pc, rfl, k1⟩)
  have hpn : Hid (pn = M.length) := hide (unhide k1).2.2
  have hpl : pn ≤ 68719476736 := by rw [unhide hpn]; exact (unhide hML).1
  go_loopw [13, 6] (fun iv v wr => ∃ (c : Nat), iv = .int .i64 (c : Nat) ∧ c ≤ 8 ∧ Hid (HeAt w wr (.slice pa pn pc) M v (hearN S T M c))) (fun iv _ _ => 8 - (intOf iv).toNat)
  case atStart => exact ⟨0, rfl, by omega, hide ⟨(unhide k1).2.1, (unhide k1).1, OwnH.nil _ _⟩⟩
  case round =>
    rename World => wo
    obtain ⟨c, rfl, hc, HE⟩ := hrel
    by_cases hc8 : c < 8
    · have f1 : decide ((c : Int) < 8) = true := decide_eq_true (by omega)
      have HL1 := hearN_len S T M c
      have hcl : Hid ((hearN S T M c).length ≤ 8 * 68719476737) := hide (by
        have h1 := (unhide hML).1
        have : c * (M.length + 1) ≤ 8 * 68719476737 := Nat.mul_le_mul (by omega) (by omega)
        omega)
      clear HL1
      by_cases hm : ((c : Int), T, false) ∈ S
      · have fd : decide (((c : Int), T, false) ∈ S) = true := decide_eq_true hm
        have CL1 := hide (unhide CL wo _ _ _ c T false hc8 hT HE)
        rw [fd] at CL1
        have hh : Hid (hearT S T c = [((c : Int), false, T)]) := hide (by unfold hearT; rw [if_pos hm])
        clear hm fd
        go_wp2_with (first
          | (go_at_call 31; with_reducible refine (unhide CL1).mono ?_; rintro e w2 ⟨rfl, k2⟩)
          | (go_at_call 32; with_reducible refine (unhide CN w2 _ _ _ T hT k2).mono ?_; rintro e w3 ⟨rfl, k3⟩; have hrw3 := (unhide k3).hits.raw (.cells #[.int .i64 (c : Nat), .bool false, .string (bs T)] 45); have hsz3 := (unhide k3).bel.size)
          | (at_builtin; refine wpList_append_own _ rfl _ _ 35 rfl w.heap.size 45 i0 _ 3 32 Try.underlying35 hi hz0 hz1 hz2 rfl (by decide) _ _ _ rfl hrw3 ⟨w3.heap.size, 0, none⟩ 1 1 [.int .i64 (c : Nat), .bool false, .string (bs T)] rfl rfl (cell_three_new _ _ _ _ _) (by simp [Value.oneCell']) (by have := unhide hcl; unfold maxLen; omega) (by have := unhide hcl; omega) (by simp; omega) ?_; intro v' w4 hown' hg4 hnil4; have K4 := hide ((unhide k3).push (x := ((c : Int), false, T)) hg4 hown'); go_frame))
        go_loopw [29, 6] (fun jv v wr => ∃ (j : Nat), jv = .int .i64 (j : Nat) ∧ j ≤ pn ∧ Hid (HeAt w wr (.slice pa pn pc) M v (hearN S T M c ++ (hearT S T c ++ hearP S c (M.take j))))) (fun jv _ _ => pn - (intOf jv).toNat)
        case atStart => exact ⟨0, rfl, Nat.zero_le _, hide (by rw [List.take_zero, show hearP S c [] = [] from rfl, List.append_nil, unhide hh]; exact unhide K4)⟩
        case round =>
          rename World => wr
          obtain ⟨j, rfl, hj, HJ⟩ := hrel
          by_cases hlt : j < pn
          · have g0 : decide ((j : Int) < (pn : Int)) = true := decide_eq_true (by omega)
            have g1 : (0 : Int) ≤ (j : Int) := by omega
            have g2 : (j : Int) < (pn : Int) := by omega
            have hjM : Hid (j < M.length) := hide (by rw [← unhide hpn]; exact hlt)
            obtain ⟨pg, rfl, -, hpgl, hcell⟩ := (unhide HJ).pats.cell (unhide hjM)
            have hPl : Hid ((M.getD j []).length ≤ 140737488355328) := hide (Nat.le_trans ((unhide hML).2 _ (getD_mem (unhide hjM))) (by decide))
            have htk : Hid (M.take (j + 1) = M.take j ++ [M.getD j []]) := hide (take_snoc (unhide hjM))
            have hjl : Hid ((hearN S T M c ++ (hearT S T c ++ hearP S c (M.take j))).length ≤ 9 * 68719476739) := hide (by
              have h1 := unhide hcl
              have h2 := hearT_len S T c
              have h3 := hearP_len S c (M.take j)
              have h4 := (unhide hML).1
              rw [List.length_take] at h3
              simp only [List.length_append]
              omega)
            generalize M.getD j [] = P at hcell hPl htk
            have CL2 := hide (unhide CL wr _ _ _ c P true hc8 (unhide hPl) HJ)
            by_cases hm2 : ((c : Int), P, true) ∈ S
            · have fd2 : decide (((c : Int), P, true) ∈ S) = true := decide_eq_true hm2
              rw [fd2] at CL2
              have hs2 : Hid (hearP S c (M.take (j + 1)) = hearP S c (M.take j) ++ [((c : Int), true, P)]) := hide (by rw [unhide htk, hearP_snoc, if_pos hm2])
              clear hm2 fd2
              generalize hl0 : hearN S T M c ++ (hearT S T c ++ hearP S c (M.take j)) = l0 at hjl CL2 HJ
              have HL0 := hide hl0
              clear hl0
              go_wp2_with (first
                | (go_at_call 31; with_reducible refine (unhide CL2).mono ?_; rintro e w5 ⟨rfl, k5⟩)
                | (go_at_call 32; with_reducible refine (unhide CN w5 _ _ _ P (unhide hPl) k5).mono ?_; rintro e w6 ⟨rfl, k6⟩; have hrw6 := (unhide k6).hits.raw (.cells #[.int .i64 (c : Nat), .bool true, .string (bs P)] 45); have hsz6 := (unhide k6).bel.size)
                | (at_builtin; refine wpList_append_own _ rfl _ _ 35 rfl w.heap.size 45 i0 _ 3 32 Try.underlying35 hi hz0 hz1 hz2 rfl (by decide) _ _ _ rfl hrw6 ⟨w6.heap.size, 0, none⟩ 1 1 [.int .i64 (c : Nat), .bool true, .string (bs P)] rfl rfl (cell_three_new _ _ _ _ _) (by simp [Value.oneCell']) (by have := unhide hjl; unfold maxLen; omega) (by have := unhide hjl; omega) (by simp; omega) ?_; intro v7 w7 hown7 hg7 hnil7; have K7 := hide ((unhide k6).push (x := ((c : Int), true, P)) hg7 hown7); go_frame))
              all_goals go_roundw
              case rel => exact ⟨j + 1, by go_num, by omega, hide (by rw [unhide hs2, ← List.append_assoc (hearT S T c), ← List.append_assoc, unhide HL0]; exact unhide K7)⟩
              case measure => simp [intOf]; omega
            · have fd2 : decide (((c : Int), P, true) ∈ S) = false := decide_eq_false hm2
              rw [fd2] at CL2
              have hs2 : Hid (hearP S c (M.take (j + 1)) = hearP S c (M.take j)) := hide (by rw [unhide htk, hearP_snoc, if_neg hm2, List.append_nil])
              clear hm2 fd2
              go_wp2_with (first
                | (go_at_call 31; with_reducible refine (unhide CL2).mono ?_; rintro e w5 ⟨rfl, k5⟩))
              all_goals go_roundw
              case rel => exact ⟨j + 1, by go_num, by omega, hide (by rw [unhide hs2]; exact unhide k5)⟩
              case measure => simp [intOf]; omega
          · obtain rfl : j = pn := by omega
            have g0 : decide ((j : Int) < (j : Int)) = false := decide_eq_false (by omega)
            have HX : Hid (∀ W v, Hid (HeAt w W (.slice pa j pc) M v (hearN S T M c ++ (hearT S T c ++ hearP S c (M.take j)))) → HeAt w W (.slice pa j pc) M v (hearN S T M (c + 1))) := hide (fun W v hW => by
              have e := unhide hW
              rw [unhide hpn, List.take_length, ← unhide hpn] at e
              exact e)
            go_wp2
            all_goals go_roundw
            case rel => exact ⟨c + 1, by go_num, by omega, hide (unhide HX _ _ HJ)⟩
            case measure => simp [intOf]; omega
      · have fd : decide (((c : Int), T, false) ∈ S) = false := decide_eq_false hm
        have CL1 := hide (unhide CL wo _ _ _ c T false hc8 hT HE)
        rw [fd] at CL1
        have hh : Hid (hearT S T c = []) := hide (by unfold hearT; rw [if_neg hm])
        clear hm fd
        go_wp2_with (first
          | (go_at_call 31; with_reducible refine (unhide CL1).mono ?_; rintro e w2 ⟨rfl, k2⟩))
        go_loopw [29, 6] (fun jv v wr => ∃ (j : Nat), jv = .int .i64 (j : Nat) ∧ j ≤ pn ∧ Hid (HeAt w wr (.slice pa pn pc) M v (hearN S T M c ++ (hearT S T c ++ hearP S c (M.take j))))) (fun jv _ _ => pn - (intOf jv).toNat)
        case atStart => exact ⟨0, rfl, Nat.zero_le _, hide (by rw [List.take_zero, show hearP S c [] = [] from rfl, List.append_nil, unhide hh]; rw [List.append_nil]; exact unhide k2)⟩
        case round =>
          rename World => wr
          obtain ⟨j, rfl, hj, HJ⟩ := hrel
          by_cases hlt : j < pn
          · have g0 : decide ((j : Int) < (pn : Int)) = true := decide_eq_true (by omega)
            have g1 : (0 : Int) ≤ (j : Int) := by omega
            have g2 : (j : Int) < (pn : Int) := by omega
            have hjM : Hid (j < M.length) := hide (by rw [← unhide hpn]; exact hlt)
            obtain ⟨pg, rfl, -, hpgl, hcell⟩ := (unhide HJ).pats.cell (unhide hjM)
            have hPl : Hid ((M.getD j []).length ≤ 140737488355328) := hide (Nat.le_trans ((unhide hML).2 _ (getD_mem (unhide hjM))) (by decide))
            have htk : Hid (M.take (j + 1) = M.take j ++ [M.getD j []]) := hide (take_snoc (unhide hjM))
            have hjl : Hid ((hearN S T M c ++ (hearT S T c ++ hearP S c (M.take j))).length ≤ 9 * 68719476739) := hide (by
              have h1 := unhide hcl
              have h2 := hearT_len S T c
              have h3 := hearP_len S c (M.take j)
              have h4 := (unhide hML).1
              rw [List.length_take] at h3
              simp only [List.length_append]
              omega)
            generalize M.getD j [] = P at hcell hPl htk
            have CL2 := hide (unhide CL wr _ _ _ c P true hc8 (unhide hPl) HJ)
            by_cases hm2 : ((c : Int), P, true) ∈ S
            · have fd2 : decide (((c : Int), P, true) ∈ S) = true := decide_eq_true hm2
              rw [fd2] at CL2
              have hs2 : Hid (hearP S c (M.take (j + 1)) = hearP S c (M.take j) ++ [((c : Int), true, P)]) := hide (by rw [unhide htk, hearP_snoc, if_pos hm2])
              clear hm2 fd2
              generalize hl0 : hearN S T M c ++ (hearT S T c ++ hearP S c (M.take j)) = l0 at hjl CL2 HJ
              have HL0 := hide hl0
              clear hl0
              go_wp2_with (first
                | (go_at_call 31; with_reducible refine (unhide CL2).mono ?_; rintro e w5 ⟨rfl, k5⟩)
                | (go_at_call 32; with_reducible refine (unhide CN w5 _ _ _ P (unhide hPl) k5).mono ?_; rintro e w6 ⟨rfl, k6⟩; have hrw6 := (unhide k6).hits.raw (.cells #[.int .i64 (c : Nat), .bool true, .string (bs P)] 45); have hsz6 := (unhide k6).bel.size)
                | (at_builtin; refine wpList_append_own _ rfl _ _ 35 rfl w.heap.size 45 i0 _ 3 32 Try.underlying35 hi hz0 hz1 hz2 rfl (by decide) _ _ _ rfl hrw6 ⟨w6.heap.size, 0, none⟩ 1 1 [.int .i64 (c : Nat), .bool true, .string (bs P)] rfl rfl (cell_three_new _ _ _ _ _) (by simp [Value.oneCell']) (by have := unhide hjl; unfold maxLen; omega) (by have := unhide hjl; omega) (by simp; omega) ?_; intro v7 w7 hown7 hg7 hnil7; have K7 := hide ((unhide k6).push (x := ((c : Int), true, P)) hg7 hown7); go_frame))
              all_goals go_roundw
              case rel => exact ⟨j + 1, by go_num, by omega, hide (by rw [unhide hs2, ← List.append_assoc (hearT S T c), ← List.append_assoc, unhide HL0]; exact unhide K7)⟩
              case measure => simp [intOf]; omega
            · have fd2 : decide (((c : Int), P, true) ∈ S) = false := decide_eq_false hm2
              rw [fd2] at CL2
              have hs2 : Hid (hearP S c (M.take (j + 1)) = hearP S c (M.take j)) := hide (by rw [unhide htk, hearP_snoc, if_neg hm2, List.append_nil])
              clear hm2 fd2
              go_wp2_with (first
                | (go_at_call 31; with_reducible refine (unhide CL2).mono ?_; rintro e w5 ⟨rfl, k5⟩))
              all_goals go_roundw
              case rel => exact ⟨j + 1, by go_num, by omega, hide (by rw [unhide hs2]; exact unhide k5)⟩
              case measure => simp [intOf]; omega
          · obtain rfl : j = pn := by omega
            have g0 : decide ((j : Int) < (j : Int)) = false := decide_eq_false (by omega)
            have HX : Hid (∀ W v, Hid (HeAt w W (.slice pa j pc) M v (hearN S T M c ++ (hearT S T c ++ hearP S c (M.take j)))) → HeAt w W (.slice pa j pc) M v (hearN S T M (c + 1))) := hide (fun W v hW => by
              have e := unhide hW
              rw [unhide hpn, List.take_length, ← unhide hpn] at e
              exact e)
            go_wp2
            all_goals go_roundw
            case rel => exact ⟨c + 1, by go_num, by omega, hide (unhide HX _ _ HJ)⟩
            case measure => simp [intOf]; omega
    · obtain rfl : c = 8 := by omega
      have f1 : decide (((8 : Nat) : Int) < 8) = false := decide_eq_false (by omega)
      have f1' : decide ((8 : Int) < 8) = false := by decide
      obtain ⟨va, vc, rfl⟩ := (unhide HE).hits.shape
      have KE : Hid (OwnH wo w.heap.size (.slice va (hearN S T M 8).length vc) (hearN S T M 8) ∧ Below w.heap.size w wo) := hide ⟨(unhide HE).hits, (unhide HE).bel⟩
      go_wp2
      go_ret
      exact ⟨va, _, vc, rfl, hide ⟨(unhide KE).1, (unhide KE).2, rfl⟩⟩
end Go.Proofs.Ytjmnddcombepaaa
