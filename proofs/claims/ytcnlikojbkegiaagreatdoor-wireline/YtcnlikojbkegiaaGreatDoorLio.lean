/- Line: where a quoted part ends. -/
import Derived.Test.YtcnlikojbkegiaaGreatDoorLin
namespace Go.Proofs.YtcnlikojbkegiaaGreatDoor
open Go.ChangeShapes Go.WideShapes Go.ChangeAt Go.RowKit
set_option linter.unusedVariables false
set_option linter.unusedSimpArgs false
set_option maxRecDepth 20000
set_option maxHeartbeats 4000000

def clV : Option Nat → Int
  | some k => (k : Nat)
  | none => -1
theorem drop_at {T : List Nat} {i : Nat} (h : i < T.length) : T.drop i = T.getD i 0 :: T.drop (i + 1) := by
  rw [List.drop_eq_getElem_cons h]
  simp [List.getD, h]
theorem closing_step1 {q i : Nat} {T : List Nat} (h : i < T.length) (hc : T.getD i 0 ≠ q) (hs : ¬ (T.getD i 0 = 92 ∧ (q = 34 ∨ (i + 1 < T.length ∧ T.getD (i + 1) 0 = q)))) : Larder8.closingL q (T.drop i) = (Larder8.closingL q (T.drop (i + 1))).map (· + 1) := by
  rw [drop_at h, Larder8.closingL, if_neg hc, if_neg]
  rintro ⟨h1, h2⟩
  refine hs ⟨h1, h2.imp id (fun h3 => ?_)⟩
  rw [List.head?_drop] at h3
  obtain ⟨h4, h5⟩ := List.getElem?_eq_some_iff.1 h3
  exact ⟨h4, by simp [List.getD, h4, h5]⟩
theorem closing_step2 {q i : Nat} {T : List Nat} (h : i < T.length) (hc : T.getD i 0 ≠ q) (hs : T.getD i 0 = 92 ∧ (q = 34 ∨ (i + 1 < T.length ∧ T.getD (i + 1) 0 = q))) : Larder8.closingL q (T.drop i) = (Larder8.closingL q (T.drop (i + 2))).map (· + 2) := by
  rw [drop_at h, Larder8.closingL, if_neg hc, if_pos, List.drop_drop]
  refine ⟨hs.1, hs.2.imp id (fun ⟨h4, h5⟩ => ?_)⟩
  rw [List.head?_drop, List.getElem?_eq_getElem h4]
  simpa [List.getD, h4] using h5
theorem closing_here {q i : Nat} {T : List Nat} (h : i < T.length) (hc : T.getD i 0 = q) : Larder8.closingL q (T.drop i) = some 0 := by
  rw [drop_at h, Larder8.closingL, if_pos hc]
theorem closing_end {q i : Nat} {T : List Nat} (h : T.length ≤ i) : Larder8.closingL q (T.drop i) = none := by
  rw [List.drop_eq_nil_of_le h, Larder8.closingL]
theorem closing_any (w : World) (a : Option Addr) (cp tn q : Nat) (T : List Nat) (hq : q = 34 ∨ q = 39) (hn : tn = T.length) (hB : Bytes w a T) (hl : tn ≤ 1048576) :
    Calls Tryz.prog 61 #[.slice a tn cp, .int .u8 (q : Nat)] w fun e w' => e = .returned (.int .i64 (clV (Larder8.closingL q T))) ∧ w' = w := by
  obtain ⟨R, hR⟩ : ∃ R, R = clV (Larder8.closingL q T) := ⟨_, rfl⟩
  rw [← hR]
  have HR := hide hR
  have HN := hide hn
  have HB := hide hB
  clear hn hB hR
  rcases hq with rfl | rfl
  all_goals go_enter Tryz.func61, Tryz.ntmps61
  all_goals go_wp2
  · go_loopw [5] (fun iv wr => ∃ i : Nat, iv = .int .i64 (i : Nat) ∧ i ≤ tn + 1 ∧ Hid (Larder8.closingL 34 T = (Larder8.closingL 34 (T.drop i)).map (· + i)) ∧ Hid (wr = w)) (fun iv _ => tn + 1 - (intOf iv).toNat)
    case atStart => exact ⟨0, rfl, Nat.zero_le _, hide (by simp), hide rfl⟩
    case round =>
      obtain ⟨i, rfl, hi, hcl, hw⟩ := hrel
      obtain rfl := (unhide hw).symm
      clear hw
      rcases Nat.lt_or_ge i tn with hlt | hge
      · have f0 : decide ((i : Int) < (tn : Int)) = true := decide_eq_true (by omega)
        have g1 : (0 : Int) ≤ (i : Int) := by omega
        have g2 : (i : Int) < (tn : Int) := by omega
        have hN := unhide HN
        obtain ⟨b, off, rfl, hb, hc⟩ : ∃ b off, a = some ⟨b, off, none⟩ ∧ b < w.heap.size ∧ ∀ i, i < T.length → w.cell? ⟨b, off + i, none⟩ = some (.int .u8 (T.getD i 0 : Nat)) := by
          rcases unhide HB with h | h
          · rw [h] at hN; simp at hN; omega
          · exact h
        have c0 := hc i (by omega)
        obtain ⟨c, hcc⟩ : ∃ c, c = T.getD i 0 := ⟨_, rfl⟩
        have HC := hide hcc
        rw [← hcc] at c0
        have hil : Hid (i < T.length) := hide (by omega)
        clear hcc hc hN
        by_cases h34 : c = 34
        · subst h34
          go_wp2
          go_ret
          refine ⟨?_, rfl⟩
          rw [unhide HR, unhide hcl, closing_here (unhide hil) (unhide HC).symm]
          simp [clV]
        · have t1 : ((c : Int) == 34) = false := by rw [beq_eq_false_iff_ne]; omega
          by_cases h92 : c = 92
          · subst h92
            go_wp2
            refine ⟨⟨i + 2, by go_num, by omega, hide ?_, hide (by first | rfl | trivial)⟩, by simp [intOf]; omega⟩
            rw [unhide hcl, closing_step2 (unhide hil) (by rw [← unhide HC]; decide) ⟨(unhide HC).symm, .inl rfl⟩, Option.map_map]
            congr 1
            funext k
            simp only [Function.comp_apply]
            omega
          · have t2 : ((c : Int) == 92) = false := by rw [beq_eq_false_iff_ne]; omega
            go_wp2
            refine ⟨⟨i + 1, by go_num, by omega, hide ?_, hide (by first | rfl | trivial)⟩, by simp [intOf]; omega⟩
            rw [unhide hcl, closing_step1 (unhide hil) (by rw [← unhide HC]; exact h34) (by rw [← unhide HC]; exact fun h => h92 h.1), Option.map_map]
            congr 1
            funext k
            simp only [Function.comp_apply]
            omega
      · have f0 : decide ((i : Int) < (tn : Int)) = false := decide_eq_false (by omega)
        go_wp2
        go_ret
        refine ⟨?_, rfl⟩
        rw [unhide HR, unhide hcl, closing_end (by have := unhide HN; omega)]
        rfl
  · go_loopw [5] (fun iv wr => ∃ i : Nat, iv = .int .i64 (i : Nat) ∧ i ≤ tn + 1 ∧ Hid (Larder8.closingL 39 T = (Larder8.closingL 39 (T.drop i)).map (· + i)) ∧ Hid (wr = w)) (fun iv _ => tn + 1 - (intOf iv).toNat)
    case atStart => exact ⟨0, rfl, Nat.zero_le _, hide (by simp), hide rfl⟩
    case round =>
      obtain ⟨i, rfl, hi, hcl, hw⟩ := hrel
      obtain rfl := (unhide hw).symm
      clear hw
      rcases Nat.lt_or_ge i tn with hlt | hge
      · have f0 : decide ((i : Int) < (tn : Int)) = true := decide_eq_true (by omega)
        have g1 : (0 : Int) ≤ (i : Int) := by omega
        have g2 : (i : Int) < (tn : Int) := by omega
        have hN := unhide HN
        obtain ⟨b, off, rfl, hb, hc⟩ : ∃ b off, a = some ⟨b, off, none⟩ ∧ b < w.heap.size ∧ ∀ i, i < T.length → w.cell? ⟨b, off + i, none⟩ = some (.int .u8 (T.getD i 0 : Nat)) := by
          rcases unhide HB with h | h
          · rw [h] at hN; simp at hN; omega
          · exact h
        have c0 := hc i (by omega)
        have c1 : i + 1 < tn → w.cell? ⟨b, off + (i + 1), none⟩ = some (.int .u8 (T.getD (i + 1) 0 : Nat)) := fun h => hc (i + 1) (by omega)
        obtain ⟨c, hcc⟩ : ∃ c, c = T.getD i 0 := ⟨_, rfl⟩
        obtain ⟨d, hdd⟩ : ∃ d, d = T.getD (i + 1) 0 := ⟨_, rfl⟩
        have HC := hide hcc
        have HD := hide hdd
        rw [← hcc] at c0
        rw [← hdd] at c1
        have hil : Hid (i < T.length) := hide (by omega)
        clear hcc hc hN hdd
        have NX : ∀ (p : Nat), Hid (p = 1 ∨ p = 2) → Hid (p = 1 → ¬ (T.getD i 0 = 92 ∧ ((39 : Nat) = 34 ∨ (i + 1 < T.length ∧ T.getD (i + 1) 0 = 39)))) → Hid (p = 2 → (T.getD i 0 = 92 ∧ ((39 : Nat) = 34 ∨ (i + 1 < T.length ∧ T.getD (i + 1) 0 = 39)))) → Hid (c ≠ 39) → Larder8.closingL 39 T = (Larder8.closingL 39 (T.drop (i + p))).map (· + (i + p)) := fun p hp h1 h2 h3 => by
          rcases unhide hp with rfl | rfl
          · rw [unhide hcl, closing_step1 (unhide hil) (by rw [← unhide HC]; exact unhide h3) (unhide h1 rfl), Option.map_map]
            congr 1
            funext k
            simp only [Function.comp_apply]
            omega
          · rw [unhide hcl, closing_step2 (unhide hil) (by rw [← unhide HC]; exact unhide h3) (unhide h2 rfl), Option.map_map]
            congr 1
            funext k
            simp only [Function.comp_apply]
            omega
        have HNX := hide NX
        clear NX
        by_cases h39 : c = 39
        · subst h39
          clear c1
          go_wp2
          go_ret
          refine ⟨?_, rfl⟩
          rw [unhide HR, unhide hcl, closing_here (unhide hil) (unhide HC).symm]
          simp [clV]
        · have t1 : ((c : Int) == 39) = false := by rw [beq_eq_false_iff_ne]; omega
          by_cases h92 : c = 92
          · subst h92
            by_cases hlast : i + 1 < tn
            · have f1 : decide ((i : Int) + 1 < (tn : Int)) = true := decide_eq_true (by omega)
              have g3 : (0 : Int) ≤ (i : Int) + 1 := by omega
              have g4 : (i : Int) + 1 < (tn : Int) := by omega
              have c1' := c1 hlast
              clear c1
              by_cases hd : d = 39
              · subst hd
                go_wp2
                refine ⟨⟨i + 2, by go_num, by omega, hide (unhide HNX 2 (hide (.inr rfl)) (hide (fun h => by omega)) (hide (fun _ => ⟨(unhide HC).symm, .inr ⟨by have := unhide HN; omega, (unhide HD).symm⟩⟩)) (hide (by decide))), hide (by first | rfl | trivial)⟩, by simp [intOf]; omega⟩
              · have t3 : ((d : Int) == 39) = false := by rw [beq_eq_false_iff_ne]; omega
                go_wp2
                refine ⟨⟨i + 1, by go_num, by omega, hide (unhide HNX 1 (hide (.inl rfl)) (hide (fun _ h => hd (by rw [unhide HD]; exact (h.2.resolve_left (by decide)).2))) (hide (fun h => by omega)) (hide (by decide))), hide (by first | rfl | trivial)⟩, by simp [intOf]; omega⟩
            · have f1 : decide ((i : Int) + 1 < (tn : Int)) = false := decide_eq_false (by omega)
              clear c1
              go_wp2
              refine ⟨⟨i + 1, by go_num, by omega, hide (unhide HNX 1 (hide (.inl rfl)) (hide (fun _ h => by have := unhide HN; have := (h.2.resolve_left (by decide)).1; omega)) (hide (fun h => by omega)) (hide (by decide))), hide (by first | rfl | trivial)⟩, by simp [intOf]; omega⟩
          · have t2 : ((c : Int) == 92) = false := by rw [beq_eq_false_iff_ne]; omega
            clear c1
            go_wp2
            refine ⟨⟨i + 1, by go_num, by omega, hide (unhide HNX 1 (hide (.inl rfl)) (hide (fun _ h => h92 (by rw [unhide HC]; exact h.1))) (hide (fun h => by omega)) (hide h39)), hide (by first | rfl | trivial)⟩, by simp [intOf]; omega⟩
      · have f0 : decide ((i : Int) < (tn : Int)) = false := decide_eq_false (by omega)
        go_wp2
        go_ret
        refine ⟨?_, rfl⟩
        rw [unhide HR, unhide hcl, closing_end (by have := unhide HN; omega)]
        rfl
end Go.Proofs.YtcnlikojbkegiaaGreatDoor
