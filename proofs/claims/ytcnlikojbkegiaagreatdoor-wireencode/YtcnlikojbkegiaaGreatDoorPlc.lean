/- The document's plain: whole. -/
import Derived.Test.YtcnlikojbkegiaaGreatDoorPlb
namespace Go.Proofs.YtcnlikojbkegiaaGreatDoor
open Go.ChangeShapes Go.WideShapes Go.ChangeAt Go.RowKit
set_option linter.unusedVariables false
set_option linter.unusedSimpArgs false
set_option maxRecDepth 20000
set_option maxHeartbeats 4000000

def plainB : (d : Nat) → Tr d → Bool
  | 0, _ => false
  | d + 1, x => fitK x.nd.k x.nd.n x.nd.t x.nd.l.length (decide (x.nd.l.length ≤ 65536) && x.nd.l.all (plainB d))
theorem foldl_max_iff {α : Type} (f : α → Nat) : ∀ (l : List α) (m B : Nat), (l.map f).foldl max m ≤ B ↔ m ≤ B ∧ ∀ y ∈ l, f y ≤ B
  | [], m, B => by simp
  | x :: l, m, B => by
    simp only [List.map_cons, List.foldl_cons]
    rw [foldl_max_iff f l (max m (f x)) B]
    simp only [List.mem_cons, forall_eq_or_imp]
    constructor
    · rintro ⟨h1, h2⟩; exact ⟨by omega, by omega, h2⟩
    · rintro ⟨h1, h2, h3⟩; exact ⟨by omega, h3⟩
theorem fit_plain : ∀ (d : Nat) (x : Tr d) (i : Nat), i ≤ 8 → fitB d x i = (plainB d x && decide (i + deepN d x ≤ 8))
  | 0, _, _, _ => rfl
  | d + 1, x, i, hi => by
    have IH := fit_plain d
    show fitK x.nd.k x.nd.n x.nd.t x.nd.l.length (decide (i + 1 ≤ 8) && decide (x.nd.l.length ≤ 65536) && x.nd.l.all (fun y => fitB d y (i + 1))) = (fitK x.nd.k x.nd.n x.nd.t x.nd.l.length (decide (x.nd.l.length ≤ 65536) && x.nd.l.all (plainB d)) && decide (i + (if x.nd.k = 6 then 1 + (x.nd.l.map (deepN d)).foldl max 0 else 0) ≤ 8))
    by_cases h6 : x.nd.k = 6
    · rw [h6]
      simp only [fitK, if_true, show ¬ ((6 : Int) = 1 ∨ (6 : Int) = 2) by decide, show ¬ ((6 : Int) = 3) by decide, show ¬ ((6 : Int) = 4) by decide, show ¬ ((6 : Int) = 5 ∨ (6 : Int) = 7) by decide, if_false]
      have key : (decide (i + 1 ≤ 8) && x.nd.l.all (fun y => fitB d y (i + 1))) = (x.nd.l.all (plainB d) && decide (i + (1 + (x.nd.l.map (deepN d)).foldl max 0) ≤ 8)) := by
        by_cases h8 : i + 1 ≤ 8
        · rw [decide_eq_true h8, Bool.true_and, Bool.eq_iff_iff]
          have e : (i + (1 + (x.nd.l.map (deepN d)).foldl max 0) ≤ 8) ↔ (x.nd.l.map (deepN d)).foldl max 0 ≤ 7 - i := by omega
          simp only [List.all_eq_true, Bool.and_eq_true, decide_eq_true_eq]
          rw [e, foldl_max_iff]
          constructor
          · intro h
            have h' : ∀ y ∈ x.nd.l, plainB d y = true ∧ i + 1 + deepN d y ≤ 8 := fun y hy => by
              have := h y hy
              rw [IH y (i + 1) h8] at this
              simpa using this
            exact ⟨fun y hy => (h' y hy).1, Nat.zero_le _, fun y hy => by have := (h' y hy).2; omega⟩
          · rintro ⟨h1, -, h2⟩ y hy
            rw [IH y (i + 1) h8]
            have := h2 y hy
            simp [h1 y hy]
            omega
        · rw [decide_eq_false h8, decide_eq_false (show ¬ i + (1 + (x.nd.l.map (deepN d)).foldl max 0) ≤ 8 by omega)]
          simp
      have e2 : (decide (i + 1 ≤ 8) && decide (x.nd.l.length ≤ 65536) && x.nd.l.all (fun y => fitB d y (i + 1))) = (decide (x.nd.l.length ≤ 65536) && (decide (i + 1 ≤ 8) && x.nd.l.all (fun y => fitB d y (i + 1)))) := by
        cases decide (i + 1 ≤ 8) <;> cases decide (x.nd.l.length ≤ 65536) <;> simp
      rw [e2, key]
      simp only [Bool.and_assoc]
    · rw [if_neg h6, decide_eq_true (show i + 0 ≤ 8 by omega), Bool.and_true]
      unfold fitK
      simp only [h6, if_false]
theorem crlf_yes {T : List Nat} {i : Nat} (hi : i < T.length) (h : T.getD i 0 = 10 ∨ T.getD i 0 = 13) : crlf T = true := by
  unfold crlf
  rw [List.any_eq_true]
  refine ⟨T.getD i 0, ?_, by rcases h with h | h <;> rw [h] <;> rfl⟩
  have e : T.getD i 0 = T[i] := by simp [List.getD, hi]
  rw [e]
  exact List.getElem_mem hi
theorem crlf_no {T : List Nat} (h : ∀ i, i < T.length → T.getD i 0 ≠ 10 ∧ T.getD i 0 ≠ 13) : crlf T = false := by
  unfold crlf
  rw [List.any_eq_false]
  intro c hc
  obtain ⟨i, hi, e⟩ := List.mem_iff_getElem.1 hc
  have := h i hi
  have e2 : T.getD i 0 = T[i] := by simp [List.getD, hi]
  rw [e2, e] at this
  simp [this.1, this.2]
theorem plain_text (w : World) (K : Int) (hK : K = 1 ∨ K = 2) (ta la : Option Addr) (tn tc lc : Nat) (T : List Nat) (hn : tn = T.length) (h1 : tn ≤ 1024) (hB : Bytes w ta T) :
    Calls Tryz.prog 49 #[.agg #[.int .i64 K, .int .i64 0, .slice ta tn tc, .slice la 0 lc]] w fun e w' => e = .returned (.bool (!(crlf T))) ∧ Below w.heap.size w w' := by
  obtain ⟨W0, HW⟩ : ∃ W0, W0 = w.alloc (.cells #[.int .i64 K, .int .i64 0, .slice ta tn tc, .slice la 0 lc] 31) := ⟨_, rfl⟩
  have bw : Below w.heap.size w W0 := by rw [HW]; exact (Below.refl _ _).alloc (Nat.le_refl _) _
  have hg : W0.heap[w.heap.size]? = some (.cells #[.int .i64 K, .int .i64 0, .slice ta tn tc, .slice la 0 lc] 31 (0, 0)) := by rw [HW]; exact heap_alloc_new _ _
  have a0 : W0.cell? ⟨w.heap.size, 0, none⟩ = some (.int .i64 K) := cell_of_row _ _ _ _ _ _ hg
  have a1 : W0.cell? ⟨w.heap.size, 1, none⟩ = some (.int .i64 0) := cell_of_row _ _ _ _ _ _ hg
  have a2 : W0.cell? ⟨w.heap.size, 2, none⟩ = some (.slice ta tn tc) := cell_of_row _ _ _ _ _ _ hg
  have a3 : W0.cell? ⟨w.heap.size, 3, none⟩ = some (.slice la 0 lc) := cell_of_row _ _ _ _ _ _ hg
  have f6 : decide ((1024 : Int) < (tn : Int)) = false := decide_eq_false (by omega)
  have f7 : decide (1024 < tn) = false := decide_eq_false (by omega)
  have HB := hide hB
  have HN := hide hn
  have BW := hide bw
  clear hB hn bw hg
  have key : ∀ b1 : Bool, decide (0 < tn) = b1 → decide ((0 : Int) < (tn : Int)) = b1 → Calls Tryz.prog 49 #[.agg #[.int .i64 K, .int .i64 0, .slice ta tn tc, .slice la 0 lc]] w fun e w' => e = .returned (.bool (!(crlf T))) ∧ Below w.heap.size w w' := by
    intro b1 f2 f3
    rcases hK with rfl | rfl
    all_goals cases b1
    all_goals go_enter Tryz.func49, Tryz.ntmps49
    all_goals go_upto_region 1 with fail
    all_goals rw [← HW]
    all_goals clear HW
    all_goals go_wp2
    all_goals go_loopw [6] (fun iv wr => ∃ i : Nat, iv = .int .i64 (i : Nat) ∧ i ≤ tn ∧ Hid (wr = W0) ∧ Hid (∀ j, j < i → T.getD j 0 ≠ 10 ∧ T.getD j 0 ≠ 13)) (fun iv _ => tn - (intOf iv).toNat)
    all_goals first
      | exact ⟨0, rfl, Nat.zero_le _, hide rfl, hide (fun j hj => by omega)⟩
      | skip
    all_goals
      obtain ⟨i, rfl, hi, hwr, hall⟩ := hrel
      obtain rfl := unhide hwr
      clear hwr
      rcases Nat.lt_or_ge i tn with hlt | hge
      · have g0 : decide ((i : Int) < (tn : Int)) = true := decide_eq_true (by omega)
        have g1 : (0 : Int) ≤ (i : Int) := by omega
        have g2 : (i : Int) < (tn : Int) := by omega
        have hN := unhide HN
        obtain ⟨b, off, rfl, hb, hc⟩ : ∃ b off, ta = some ⟨b, off, none⟩ ∧ b < w.heap.size ∧ ∀ i, i < T.length → w.cell? ⟨b, off + i, none⟩ = some (.int .u8 (T.getD i 0 : Nat)) := by
          rcases unhide HB with h | h
          · rw [h] at hN; simp at hN; omega
          · exact h
        have c0 : wr.cell? ⟨b, off + i, none⟩ = some (.int .u8 (T.getD i 0 : Nat)) := by rw [(unhide BW).cell (p := ⟨b, off + i, none⟩) hb]; exact hc i (by omega)
        have YES : Hid (T.getD i 0 = 10 ∨ T.getD i 0 = 13 → crlf T = true) := hide (crlf_yes (by omega))
        obtain ⟨c, hcc⟩ : ∃ c, c = T.getD i 0 := ⟨_, rfl⟩
        have HC := hide hcc
        rw [← hcc] at c0
        clear hcc hc hN
        by_cases c10 : c = 10
        · subst c10
          go_wp2
          go_ret
          refine ⟨?_, unhide BW⟩
          rw [unhide YES (.inl (unhide HC).symm)]
          rfl
        · by_cases c13 : c = 13
          · subst c13
            go_wp2
            go_ret
            refine ⟨?_, unhide BW⟩
            rw [unhide YES (.inr (unhide HC).symm)]
            rfl
          · have t1 : decide ((c : Int) = 10) = false := decide_eq_false (by omega)
            have t2 : decide ((c : Int) = 13) = false := decide_eq_false (by omega)
            have t3 : decide (c = 10) = false := decide_eq_false (by omega)
            have t4 : decide (c = 13) = false := decide_eq_false (by omega)
            have t5 : ((c : Int) == 10) = false := by rw [beq_eq_false_iff_ne]; omega
            have t6 : ((c : Int) == 13) = false := by rw [beq_eq_false_iff_ne]; omega
            have t7 : ¬ (c : Int) = 10 := by omega
            go_wp2
            go_roundw
            case rel =>
              refine ⟨i + 1, by go_num, by omega, hide (by first | rfl | trivial), hide (fun j hj => ?_)⟩
              rcases Nat.lt_or_ge j i with q | q
              · exact unhide hall j q
              · obtain rfl : j = i := by omega
                rw [← unhide HC]; exact ⟨c10, c13⟩
            case measure => simp [intOf]; omega
      · obtain rfl : i = tn := by omega
        have g0 : decide ((i : Int) < (i : Int)) = false := decide_eq_false (by omega)
        go_wp2
        go_loopw [7] (fun iv wr' => iv = .int .i64 0 ∧ Hid (wr' = wr)) (fun _ _ => 0)
        case atStart => exact ⟨rfl, hide rfl⟩
        case round =>
          obtain ⟨rfl, hw⟩ := hrel
          obtain rfl := (unhide hw).symm
          clear hw
          go_wp2
          go_ret
          refine ⟨?_, unhide BW⟩
          rw [crlf_no (fun j hj => unhide hall j (by have := unhide HN; omega))]
          rfl
  exact key _ rfl (by
    rcases Nat.eq_zero_or_pos tn with q | q
    · rw [q]; rfl
    · rw [decide_eq_true q]; exact decide_eq_true (by omega))
end Go.Proofs.YtcnlikojbkegiaaGreatDoor
