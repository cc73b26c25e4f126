/- fits. -/
import Derived.Test.YtidfbelckdlbhaaWrb
namespace Go.Proofs.Ytidfbelckdlbhaa
open Go.ChangeShapes Go.WideShapes Go.ChangeAt Go.RowKit
set_option linter.unusedVariables false
set_option linter.unusedSimpArgs false
set_option maxRecDepth 20000
set_option maxHeartbeats 2000000

theorem fits_step (ms : List Larder.Mb) (i : Nat) (m : Larder.Mb) (c : Nat) (h : ms[i]? = some m) : Larder.fitsL (ms.take (i + 1)) c = (Larder.fitsL (ms.take i) c || Larder.between m.lo (Larder.hiOf m) c) := by
  have hi := (List.getElem?_eq_some_iff.1 h).1
  rw [List.take_succ_eq_append_getElem hi, (List.getElem?_eq_some_iff.1 h).2]
  simp [Larder.fitsL]
theorem fits_any (x : Larder.Pcd) (am : Option Addr) (cm c : Nat) (w : World) (hc : c < 256) (hl : x.ms.length ≤ 35184372088832) (hs : MsSmall x.ms) (hM : MsAt w am x.ms) :
    Calls Try.prog 12 #[.agg (pcV x am cm), .int .u8 (c : Nat)] w fun e w' => e = .returned (.bool (Larder.fitsL x.ms c != x.nt)) ∧ Below w.heap.size w w' := by
  obtain ⟨d, b, nt, ms⟩ := x
  have hl : ms.length ≤ 35184372088832 := hl
  have hM : MsAt w am ms := hM
  have hs : MsSmall ms := hs
  unfold pcV
  dsimp only
  have bx : Below w.heap.size w (w.alloc (.cells #[.int .i64 d, .int .u8 (b : Nat), .bool nt, .slice am ms.length cm] 38)) := (Below.refl _ _).alloc (Nat.le_refl _) _
  have br := heap_alloc_new w (.cells #[.int .i64 d, .int .u8 (b : Nat), .bool nt, .slice am ms.length cm] 38)
  obtain ⟨A, hA⟩ : ∃ A : Array Value, A = #[.int .i64 d, .int .u8 (b : Nat), .bool nt, .slice am ms.length cm] := ⟨_, rfl⟩
  have kx : ∀ W : World, W.heap[w.heap.size]? = some (.cells A 38 (0, 0)) → W.cell? ⟨w.heap.size, 2, none⟩ = some (.bool nt) ∧ W.cell? ⟨w.heap.size, 3, none⟩ = some (.slice am ms.length cm) := fun W h => by
    rw [cell_of_row _ _ _ _ _ _ h, cell_of_row _ _ _ _ _ _ h, hA]; exact ⟨rfl, rfl⟩
  rw [← hA] at bx br
  have HX := hide bx
  have HR := hide br
  have KX := hide kx
  have hsz : (w.alloc (.cells A 38)).heap.size = w.heap.size + 1 := by simp
  have HZ := hide hsz
  have BO : Hid (∀ W, Hid (Below (w.heap.size + 1) (w.alloc (.cells A 38)) W) → Below w.heap.size w W ∧ W.heap[w.heap.size]? = some (.cells A 38 (0, 0)) ∧ w.heap.size + 1 ≤ W.heap.size) := hide (fun W h => ⟨(unhide HX).trans ((unhide h).mono (by omega)), ((unhide h).block _ (by omega)).trans (unhide HR), by have := (unhide h).size; rw [unhide HZ] at this; exact this⟩)
  have x0 := kx _ br
  have HM := hide hM
  have HS := hide hs
  clear bx br kx hsz hM hs
  subst hA
  go_enter Try.func12, Try.ntmps12
  go_wp2_with fail
  go_loopw [5, 6, 7, 8] (fun fv iv _ _ wr => ∃ i : Nat, iv = .int .i64 (i : Nat) ∧ fv = .bool (Larder.fitsL (ms.take i) c) ∧ i ≤ ms.length ∧ Hid (Below (w.heap.size + 1) (w.alloc (.cells #[.int .i64 d, .int .u8 (b : Nat), .bool nt, .slice am ms.length cm] 38)) wr)) (fun _ iv _ _ _ => ms.length - (intOf iv).toNat)
  case atStart => exact ⟨0, rfl, rfl, Nat.zero_le _, hide (Below.refl _ _)⟩
  case round =>
    rename World => wo
    obtain ⟨i, rfl, rfl, hi, K⟩ := hrel
    obtain ⟨b1, b2, b3⟩ := unhide BO _ K
    have x1 := unhide KX wo b2
    have HB1 := hide b1
    have HB3 := hide b3
    clear b1 b2 b3 x0
    by_cases hlt : i < ms.length
    · obtain ⟨m, hm⟩ : ∃ m, ms[i]? = some m := ⟨_, List.getElem?_eq_getElem hlt⟩
      have hsm := unhide HS m (List.mem_of_getElem? hm)
      have HST := hide (fits_step ms i m c hm)
      have di : decide ((i : Int) < (ms.length : Int)) = true := decide_eq_true (by omega)
      rcases (unhide HM).below (unhide HB1) with h | ⟨mb, mo, rfl, hmb, hmc⟩
      · rw [h] at hlt; simp at hlt
      obtain ⟨y1, y2, y3, y4⟩ := hmc i m hm
      obtain ⟨lo, hi', rg, pl⟩ := m
      dsimp only at y1 y2 y3 y4 hsm
      clear hmc hmb
      unfold Larder.hiOf at HST
      dsimp only at HST
      generalize hFN : Larder.fitsL (ms.take (i + 1)) c = FN at HST
      have HQ := hide hFN
      clear hFN
      generalize Larder.fitsL (ms.take i) c = F at HST ⊢
      have l1 : Hid (∀ h : Nat, Larder.between lo h c = ((decide (lo ≤ c) && decide (c ≤ h)) || (decide (h ≤ c) && decide (c ≤ lo)))) := hide (fun h => by unfold Larder.between; simp only [Bool.decide_or, Bool.decide_and])
      have KB := hide ((unhide K).alloc (unhide HB3) (.cells #[.int .u8 (lo : Nat), .int .u8 (hi' : Nat), .bool rg, .bool pl] 60))
      cases rg with
      | false =>
        rw [if_neg (by decide)] at HST
        cases F with
        | true =>
          have hFN : FN = true := by rw [unhide HST]; rfl
          clear HST l1
          go_wp2
          all_goals go_roundw
          all_goals first | exact ⟨i + 1, by simp, by rw [unhide HQ, hFN], by omega, KB⟩ | (simp only [intOf]; omega)
        | false =>
          have HFN : Hid (FN = ((decide (lo ≤ c) && decide (c ≤ lo)) || (decide (lo ≤ c) && decide (c ≤ lo)))) := hide (by rw [unhide HST, unhide l1]; rfl)
          clear HST l1
          by_cases q1 : lo ≤ c
          · by_cases q2 : c ≤ lo
            · have hFN : FN = true := by rw [unhide HFN]; simp only [decide_eq_true q1, decide_eq_true q2, Bool.and_true, Bool.true_and, Bool.and_false, Bool.false_and, Bool.or_true, Bool.true_or, Bool.or_false, Bool.false_or, Bool.or_self]
              clear HFN
              have s1 : decide ((lo : Int) ≤ (c : Int)) = true := decide_eq_true (by omega)
              have s2 : decide ((c : Int) ≤ (lo : Int)) = true := decide_eq_true (by omega)
              have n1 : decide (lo ≤ c) = true := decide_eq_true q1
              have n2 : decide (c ≤ lo) = true := decide_eq_true q2
              clear q1 q2
              go_wp2
              all_goals go_roundw
              all_goals first | exact ⟨i + 1, by simp, by rw [unhide HQ, hFN], by omega, KB⟩ | (simp only [intOf]; omega)
            · have hFN : FN = false := by rw [unhide HFN]; simp only [decide_eq_true q1, decide_eq_false q2, Bool.and_true, Bool.true_and, Bool.and_false, Bool.false_and, Bool.or_true, Bool.true_or, Bool.or_false, Bool.false_or, Bool.or_self]
              clear HFN
              have s1 : decide ((lo : Int) ≤ (c : Int)) = true := decide_eq_true (by omega)
              have s2 : decide ((c : Int) ≤ (lo : Int)) = false := decide_eq_false (by omega)
              have n1 : decide (lo ≤ c) = true := decide_eq_true q1
              have n2 : decide (c ≤ lo) = false := decide_eq_false q2
              clear q1 q2
              go_wp2
              all_goals go_roundw
              all_goals first | exact ⟨i + 1, by simp, by rw [unhide HQ, hFN], by omega, KB⟩ | (simp only [intOf]; omega)
          · have hFN : FN = false := by rw [unhide HFN]; simp only [decide_eq_false q1, Bool.and_true, Bool.true_and, Bool.and_false, Bool.false_and, Bool.or_true, Bool.true_or, Bool.or_false, Bool.false_or, Bool.or_self]
            clear HFN
            have s1 : decide ((lo : Int) ≤ (c : Int)) = false := decide_eq_false (by omega)
            have n1 : decide (lo ≤ c) = false := decide_eq_false q1
            clear q1
            go_wp2
            all_goals go_roundw
            all_goals first | exact ⟨i + 1, by simp, by rw [unhide HQ, hFN], by omega, KB⟩ | (simp only [intOf]; omega)
      | true =>
        rw [if_pos rfl] at HST
        cases F with
        | true =>
          have hFN : FN = true := by rw [unhide HST]; rfl
          clear HST l1
          go_wp2
          all_goals go_roundw
          all_goals first | exact ⟨i + 1, by simp, by rw [unhide HQ, hFN], by omega, KB⟩ | (simp only [intOf]; omega)
        | false =>
          have HFN : Hid (FN = ((decide (lo ≤ c) && decide (c ≤ hi')) || (decide (hi' ≤ c) && decide (c ≤ lo)))) := hide (by rw [unhide HST, unhide l1]; rfl)
          clear HST l1
          by_cases q1 : lo ≤ c
          · by_cases q2 : c ≤ hi'
            · have hFN : FN = true := by rw [unhide HFN]; simp only [decide_eq_true q1, decide_eq_true q2, Bool.and_true, Bool.true_and, Bool.and_false, Bool.false_and, Bool.or_true, Bool.true_or, Bool.or_false, Bool.false_or, Bool.or_self]
              clear HFN
              have s1 : decide ((lo : Int) ≤ (c : Int)) = true := decide_eq_true (by omega)
              have s2 : decide ((c : Int) ≤ (hi' : Int)) = true := decide_eq_true (by omega)
              have n1 : decide (lo ≤ c) = true := decide_eq_true q1
              have n2 : decide (c ≤ hi') = true := decide_eq_true q2
              clear q1 q2
              go_wp2
              all_goals go_roundw
              all_goals first | exact ⟨i + 1, by simp, by rw [unhide HQ, hFN], by omega, KB⟩ | (simp only [intOf]; omega)
            · by_cases q3 : hi' ≤ c
              · by_cases q4 : c ≤ lo
                · have hFN : FN = true := by rw [unhide HFN]; simp only [decide_eq_true q1, decide_eq_false q2, decide_eq_true q3, decide_eq_true q4, Bool.and_true, Bool.true_and, Bool.and_false, Bool.false_and, Bool.or_true, Bool.true_or, Bool.or_false, Bool.false_or, Bool.or_self]
                  clear HFN
                  have s1 : decide ((lo : Int) ≤ (c : Int)) = true := decide_eq_true (by omega)
                  have s2 : decide ((c : Int) ≤ (hi' : Int)) = false := decide_eq_false (by omega)
                  have s3 : decide ((hi' : Int) ≤ (c : Int)) = true := decide_eq_true (by omega)
                  have s4 : decide ((c : Int) ≤ (lo : Int)) = true := decide_eq_true (by omega)
                  have n1 : decide (lo ≤ c) = true := decide_eq_true q1
                  have n2 : decide (c ≤ hi') = false := decide_eq_false q2
                  have n3 : decide (hi' ≤ c) = true := decide_eq_true q3
                  have n4 : decide (c ≤ lo) = true := decide_eq_true q4
                  clear q1 q2 q3 q4
                  go_wp2
                  all_goals go_roundw
                  all_goals first | exact ⟨i + 1, by simp, by rw [unhide HQ, hFN], by omega, KB⟩ | (simp only [intOf]; omega)
                · have hFN : FN = false := by rw [unhide HFN]; simp only [decide_eq_true q1, decide_eq_false q2, decide_eq_true q3, decide_eq_false q4, Bool.and_true, Bool.true_and, Bool.and_false, Bool.false_and, Bool.or_true, Bool.true_or, Bool.or_false, Bool.false_or, Bool.or_self]
                  clear HFN
                  have s1 : decide ((lo : Int) ≤ (c : Int)) = true := decide_eq_true (by omega)
                  have s2 : decide ((c : Int) ≤ (hi' : Int)) = false := decide_eq_false (by omega)
                  have s3 : decide ((hi' : Int) ≤ (c : Int)) = true := decide_eq_true (by omega)
                  have s4 : decide ((c : Int) ≤ (lo : Int)) = false := decide_eq_false (by omega)
                  have n1 : decide (lo ≤ c) = true := decide_eq_true q1
                  have n2 : decide (c ≤ hi') = false := decide_eq_false q2
                  have n3 : decide (hi' ≤ c) = true := decide_eq_true q3
                  have n4 : decide (c ≤ lo) = false := decide_eq_false q4
                  clear q1 q2 q3 q4
                  go_wp2
                  all_goals go_roundw
                  all_goals first | exact ⟨i + 1, by simp, by rw [unhide HQ, hFN], by omega, KB⟩ | (simp only [intOf]; omega)
              · have hFN : FN = false := by rw [unhide HFN]; simp only [decide_eq_true q1, decide_eq_false q2, decide_eq_false q3, Bool.and_true, Bool.true_and, Bool.and_false, Bool.false_and, Bool.or_true, Bool.true_or, Bool.or_false, Bool.false_or, Bool.or_self]
                clear HFN
                have s1 : decide ((lo : Int) ≤ (c : Int)) = true := decide_eq_true (by omega)
                have s2 : decide ((c : Int) ≤ (hi' : Int)) = false := decide_eq_false (by omega)
                have s3 : decide ((hi' : Int) ≤ (c : Int)) = false := decide_eq_false (by omega)
                have n1 : decide (lo ≤ c) = true := decide_eq_true q1
                have n2 : decide (c ≤ hi') = false := decide_eq_false q2
                have n3 : decide (hi' ≤ c) = false := decide_eq_false q3
                clear q1 q2 q3
                go_wp2
                all_goals go_roundw
                all_goals first | exact ⟨i + 1, by simp, by rw [unhide HQ, hFN], by omega, KB⟩ | (simp only [intOf]; omega)
          · by_cases q3 : hi' ≤ c
            · by_cases q4 : c ≤ lo
              · have hFN : FN = true := by rw [unhide HFN]; simp only [decide_eq_false q1, decide_eq_true q3, decide_eq_true q4, Bool.and_true, Bool.true_and, Bool.and_false, Bool.false_and, Bool.or_true, Bool.true_or, Bool.or_false, Bool.false_or, Bool.or_self]
                clear HFN
                have s1 : decide ((lo : Int) ≤ (c : Int)) = false := decide_eq_false (by omega)
                have s3 : decide ((hi' : Int) ≤ (c : Int)) = true := decide_eq_true (by omega)
                have s4 : decide ((c : Int) ≤ (lo : Int)) = true := decide_eq_true (by omega)
                have n1 : decide (lo ≤ c) = false := decide_eq_false q1
                have n3 : decide (hi' ≤ c) = true := decide_eq_true q3
                have n4 : decide (c ≤ lo) = true := decide_eq_true q4
                clear q1 q3 q4
                go_wp2
                all_goals go_roundw
                all_goals first | exact ⟨i + 1, by simp, by rw [unhide HQ, hFN], by omega, KB⟩ | (simp only [intOf]; omega)
              · have hFN : FN = false := by rw [unhide HFN]; simp only [decide_eq_false q1, decide_eq_true q3, decide_eq_false q4, Bool.and_true, Bool.true_and, Bool.and_false, Bool.false_and, Bool.or_true, Bool.true_or, Bool.or_false, Bool.false_or, Bool.or_self]
                clear HFN
                have s1 : decide ((lo : Int) ≤ (c : Int)) = false := decide_eq_false (by omega)
                have s3 : decide ((hi' : Int) ≤ (c : Int)) = true := decide_eq_true (by omega)
                have s4 : decide ((c : Int) ≤ (lo : Int)) = false := decide_eq_false (by omega)
                have n1 : decide (lo ≤ c) = false := decide_eq_false q1
                have n3 : decide (hi' ≤ c) = true := decide_eq_true q3
                have n4 : decide (c ≤ lo) = false := decide_eq_false q4
                clear q1 q3 q4
                go_wp2
                all_goals go_roundw
                all_goals first | exact ⟨i + 1, by simp, by rw [unhide HQ, hFN], by omega, KB⟩ | (simp only [intOf]; omega)
            · have hFN : FN = false := by rw [unhide HFN]; simp only [decide_eq_false q1, decide_eq_false q3, Bool.and_true, Bool.true_and, Bool.and_false, Bool.false_and, Bool.or_true, Bool.true_or, Bool.or_false, Bool.false_or, Bool.or_self]
              clear HFN
              have s1 : decide ((lo : Int) ≤ (c : Int)) = false := decide_eq_false (by omega)
              have s3 : decide ((hi' : Int) ≤ (c : Int)) = false := decide_eq_false (by omega)
              have n1 : decide (lo ≤ c) = false := decide_eq_false q1
              have n3 : decide (hi' ≤ c) = false := decide_eq_false q3
              clear q1 q3
              go_wp2
              all_goals go_roundw
              all_goals first | exact ⟨i + 1, by simp, by rw [unhide HQ, hFN], by omega, KB⟩ | (simp only [intOf]; omega)
    · obtain rfl : i = ms.length := by omega
      have di : decide ((ms.length : Int) < (ms.length : Int)) = false := decide_eq_false (by omega)
      rw [List.take_length]
      go_wp2
      all_goals go_ret
      all_goals exact ⟨rfl, unhide HB1⟩
end Go.Proofs.Ytidfbelckdlbhaa
