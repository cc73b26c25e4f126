/- the document's Fill. -/
import Derived.Test.YtidfbelckdlbhabGreatFil
import Derived.Test.YtidfbelckdlbhabGreatCpy
namespace Go.Proofs.YtidfbelckdlbhabGreat
open Go.ChangeShapes Go.WideShapes Go.ChangeAt Go.RowKit
set_option linter.unusedVariables false
set_option maxRecDepth 20000
set_option maxHeartbeats 1000000

theorem fill_nil (b : Option Addr) (n2 d : Nat) (w : World) (T : List Nat) : Calls Tryz.prog 16 #[.slice none 0 0, .slice b n2 d] w (FillEndO [] T w) := by
  have I1 : Hid (Calls Tryz.prog 36 #[.slice none 0 0, .int .u8 42] w fun e w' => e = .returned (.int .i64 (-1)) ∧ w' = w) := hide (Tryz.bytes_IndexByte_nil 42 w)
  have hF : Hid (Larder.FillIs [] T [] [] false) := hide (Larder.fill_star (by simp))
  go_enter Tryz.func16, Tryz.ntmps16
  go_wp2_with (go_at_call 36; refine (unhide I1).mono ?_; rintro e w1 ⟨rfl, rfl⟩)
  all_goals go_ret3
  all_goals exact ⟨none, 0, none, 0, [], [], false, rfl, unhide hF, .inl rfl, .inl rfl, Below.refl _ _, ownB_nil _ _, ownB_nil _ _, fun g hg => by simp [Value.ownBlock] at hg⟩

theorem fill_any (a b : Option Addr) (c d : Nat) (w : World) (P T : List Nat) (m : Int) (hP : P.length ≤ 1048576) (hT : T.length ≤ 1048576) (hs : Small P) (hB : Bytes w a P) (hB2 : Bytes w b T) (hc : P.length ≤ c) (hc2 : c ≤ 9223372036854775807) (hz : a = none → c = 0) (hz2 : b = none → d = 0) (hm : w.cell? ⟨0, 0, none⟩ = some (.int .i64 m)) (h00 : 0 < w.heap.size) :
    Calls Tryz.prog 16 #[.slice a P.length c, .slice b T.length d] w (FillEndO P T w) := by
  cases a with
  | none =>
    have hl0 : P = [] := by
      rcases hB with h | ⟨b, off, h, _⟩
      · exact h
      · cases h
    subst hl0
    obtain rfl := hz rfl
    exact fill_nil b T.length d w T
  | some x => exact fill_some x b P.length T.length c d w P T m rfl rfl hP hT hs hB hB2 hc hc2 hz2 hm h00

theorem rfill_nil (a b : Option Addr) (c n2 d : Nat) (w : World) (T : List Nat) : Calls Tryz.prog 19 #[.slice a 0 c, .slice b n2 d] w (FillEnd [] T w) := by
  have hF : Hid (Larder.FillIs [] T [] [] false) := hide (Larder.fill_star (by simp))
  go_enter Tryz.func19, Tryz.ntmps19
  go_wp2_with fail
  go_loopw [7] (fun iv wr => wr = w ∧ iv = .int .i64 0) (fun _ _ => 0)
  case atStart => exact ⟨rfl, rfl⟩
  case round =>
    obtain ⟨rfl, rfl⟩ := hrel
    go_wp2
    go_ret3
    exact ⟨none, 0, none, 0, [], [], false, rfl, unhide hF, .inl rfl, .inl rfl, Below.refl _ _⟩

theorem rfill_some (g0 off : Nat) (b : Option Addr) (n n2 c d : Nat) (w : World) (P T : List Nat) (hn : n = P.length) (hn2 : n2 = T.length) (hP : P.length ≤ 1048576) (hT : T.length ≤ 1048576) (hs : Small P) (hB : Bytes w (some ⟨g0, off, none⟩) P) (hB2 : Bytes w b T) (hc : P.length ≤ c) (hc2 : c ≤ 9223372036854775807) (hz2 : b = none → d = 0) :
    Calls Tryz.prog 19 #[.slice (some ⟨g0, off, none⟩) n c, .slice b n2 d] w (FillEnd P T w) := by
  have CP : Hid (∀ (a : Option Addr) (k cap : Nat) (l : List Nat), k = l.length → l.length ≤ 1048576 → Bytes w a l → ∀ W, Hid (Below w.heap.size w W) → Calls Tryz.prog 32 #[.slice a k cap] W fun e w' => ∃ v, e = .returned v ∧ Hid (OwnB w' W.heap.size v l ∧ Below W.heap.size W w')) := hide (fun a k cap l hk hl hb W hW => by
    rw [hk]
    exact (copyB_any a cap W l (by omega) (hb.below (unhide hW))).mono (fun e w' ⟨v, h1, h2, h3⟩ => ⟨v, h1, hide ⟨h2, h3⟩⟩))
  have HN := hide hn
  have HN2 := hide hn2
  have H1 := hide hB
  have H2 := hide hB2
  have HS := hide hs
  have hcell : Hid (∀ i, i < n → w.cell? ⟨g0, off + i, none⟩ = some (.int .u8 (P.getD i 0 : Nat))) := hide (fun i hi => by
    have h := hB.plain i (by omega)
    rw [add_plain] at h
    rw [h]
    simp [List.getD_eq_getElem?_getD, show i < P.length by omega])
  rw [← hn] at hP hc
  rw [← hn2] at hT
  clear hB hB2 hs hn hn2
  go_enter Tryz.func19, Tryz.ntmps19
  go_wp2_with fail
  go_loopw [7] (fun iv wr => wr = w ∧ ∃ i : Nat, iv = .int .i64 (i : Nat) ∧ i ≤ n ∧ ∀ j, j < i → P.getD j 0 ≠ 42) (fun iv _ => n - (intOf iv).toNat)
  case atStart => exact ⟨rfl, 0, rfl, Nat.zero_le _, fun j hj => by omega⟩
  case round =>
    obtain ⟨hwr, i, rfl, hi, hno⟩ := hrel
    have hwr' := hwr.symm
    clear hwr
    subst hwr'
    have HNO := hide hno
    clear hno
    by_cases hin : i < n
    · have c1 := unhide hcell i hin
      by_cases hy : P.getD i 0 = 42
      · rw [hy] at c1
        have HY := hide hy
        clear hy
        have f2 : decide ((i : Int) < (n : Int)) = true := decide_eq_true (by omega)
        have f3 : decide ((i : Int) = (n : Int)) = false := decide_eq_false (by omega)
        have k2 : IntKind.i64.wrap ((i : Int) + 1) = ((i + 1 : Nat) : Int) := by rw [IntKind.wrap_i64]; omega
        go_wp2_with fail
        go_loopw [8, 9, 10] (fun ev fv iv wr => wr = w ∧ ev = .int .i64 n ∧ fv = .slice none 0 0 ∧ ∃ j : Nat, iv = .int .i64 (j : Nat) ∧ i < j ∧ j ≤ n ∧ ∀ q, i < q → q < j → ¬ Larder.Arr P q) (fun _ _ iv _ => n - (intOf iv).toNat)
        case atStart => exact ⟨rfl, rfl, rfl, i + 1, by simp, by omega, by omega, fun q h1 h2 => by omega⟩
        case round =>
          obtain ⟨hwr, rfl, rfl, j, rfl, hij, hj, hno2⟩ := hrel
          have hwr' := hwr.symm
          clear hwr
          subst hwr'
          have HNO2 := hide hno2
          clear hno2 c1
          have HW0 : Hid (Below w.heap.size w w) := hide (Below.refl _ _)
          have CK : Hid (∀ W, Hid (Below w.heap.size w W) → Calls Tryz.prog 32 #[.slice (some ⟨g0, off, none⟩) i c] W fun e w' => ∃ v, e = .returned v ∧ Hid (OwnB w' W.heap.size v (P.take i) ∧ Below W.heap.size W w')) := hide (unhide CP (some ⟨g0, off, none⟩) i c (P.take i) (by rw [List.length_take, ← unhide HN]; omega) (by rw [List.length_take]; omega) ((unhide H1).take i))
          have k3 : IntKind.i64.wrap ((j : Int) + 2) = ((j + 2 : Nat) : Int) := by rw [IntKind.wrap_i64]; omega
          have k4 : IntKind.i64.wrap ((j : Int) + 1) = ((j + 1 : Nat) : Int) := by rw [IntKind.wrap_i64]; omega
          by_cases hjn : j + 2 < n
          · have ca := unhide hcell j (by omega)
            have cb := unhide hcell (j + 1) (by omega)
            have t1 : decide (((j + 2 : Nat) : Int) < (n : Int)) = true := decide_eq_true (by omega)
            by_cases harr : Larder.Arr P j
            · rw [harr.1] at ca
              rw [harr.2] at cb
              have CF : Hid (Calls Tryz.prog 32 #[.slice (some ⟨g0, off + (j + 2), none⟩) (n - (j + 2)) (c - (j + 2))] w fun e w' => ∃ v, e = .returned v ∧ Hid (OwnB w' w.heap.size v (P.drop (j + 2)) ∧ Below w.heap.size w w')) := hide (unhide CP (some ⟨g0, off + (j + 2), none⟩) (n - (j + 2)) (c - (j + 2)) (P.drop (j + 2)) (by rw [List.length_drop, ← unhide HN]) (by rw [List.length_drop, ← unhide HN]; omega) (by have h := (unhide H1).drop (j + 2); rwa [add_plain] at h) w HW0)
              have hF : Hid (Larder.FillIs P T (P.take i ++ T ++ (P.take j).drop (i + 1)) (P.drop (j + 2)) true) := hide (.inr ⟨i, by rw [← unhide HN]; omega, unhide HY, unhide HNO, rfl, .inl ⟨j, hij, by rw [← unhide HN]; omega, harr, unhide HNO2, rfl, rfl⟩⟩)
              have hcx : ¬ c = j + 2 := by omega
              have hcy : ¬ c = i + 1 := by omega
              have hR : Hid (Bytes w (some ⟨g0, off + (i + 1), none⟩) ((P.take j).drop (i + 1))) := hide (by have h := ((unhide H1).take j).drop (i + 1); rwa [add_plain] at h)
              have hkR : Hid (j - (i + 1) = ((P.take j).drop (i + 1)).length) := hide (by rw [List.length_drop, List.length_take, ← unhide HN]; omega)
              clear harr
              go_wp2_with (first | (go_at_call 32; with_reducible refine (unhide CF).mono ?_; rintro e w3 ⟨v3, rfl, h3⟩) | (go_at_call 32; with_reducible refine (unhide CK _ (hide (unhide h3).2)).mono ?_; rintro e w4 ⟨v4, rfl, h4⟩) | (at_builtin; refine wpList_app rfl _ _ rfl w3.heap.size v4 (P.take i) T b n2 d rfl rfl (unhide h4).1 (unhide HN2) ((unhide H2).below (chain (unhide (hide (unhide h3).2)) (unhide h4).2 (Nat.le_refl _))) hz2 (by rw [← unhide HN2, List.length_take]; omega) (unhide h4).2.size ?_; intro v5 w5 o5 b5; have h5 : Hid (OwnB w5 w3.heap.size v5 (P.take i ++ T) ∧ Below w3.heap.size w3 w5) := hide ⟨o5, (unhide h4).2.trans b5⟩; clear o5 b5) | (at_builtin; refine wpList_app rfl _ _ rfl w3.heap.size v5 (P.take i ++ T) ((P.take j).drop (i + 1)) (some ⟨g0, off + (i + 1), none⟩) (j - (i + 1)) (c - (i + 1)) rfl rfl (unhide h5).1 (unhide hkR) ((unhide hR).below (chain (unhide (hide (unhide h3).2)) (unhide h5).2 (Nat.le_refl _))) (fun h => by cases h) (by rw [List.length_append, ← unhide HN2, List.length_take, ← (unhide hkR)]; omega) (unhide h5).2.size ?_; intro v6 w6 o6 b6; have h6 : Hid (OwnB w6 w3.heap.size v6 (P.take i ++ T ++ ((P.take j).drop (i + 1))) ∧ Below w3.heap.size w3 w6) := hide ⟨o6, (unhide h5).2.trans b6⟩; clear o6 b6))
              all_goals go_ret3
              all_goals obtain ⟨a6, c6, rfl, y6, _⟩ := (unhide h6).1.shape
              all_goals obtain ⟨a3, c3, rfl, y3, _⟩ := (unhide h3).1.shape
              all_goals exact ⟨a6, c6, a3, c3, _, _, true, rfl, unhide hF, y6, y3.below (unhide h6).2, chain (unhide h3).2 (unhide h6).2 (Nat.le_refl _)⟩
            · have HA := hide harr
              have nxt : Hid (∀ q, i < q → q < j + 1 → ¬ Larder.Arr P q) := hide (fun q h1 h2 => by
                rcases Nat.lt_or_ge q j with z | z
                · exact unhide HNO2 q h1 z
                · have : q = j := by omega
                  rw [this]
                  exact unhide HA)
              have f3 : (((P.getD j 0 : Nat) : Int) == 45) = true → (((P.getD (j + 1) 0 : Nat) : Int) == 62) = false := fun h => by
                have e1 : P.getD j 0 = 45 := by have h' := eq_of_beq h; omega
                have e2 : P.getD (j + 1) 0 ≠ 62 := fun e => harr ⟨e1, e⟩
                simp only [beq_eq_false_iff_ne, ne_eq]
                omega
              clear harr
              generalize P.getD j 0 = y at *
              generalize P.getD (j + 1) 0 = z at *
              by_cases hy : y = 45
              · subst hy
                have f4 := f3 rfl
                clear f3
                go_wp2
                all_goals go_roundw
                all_goals first | exact ⟨trivial, rfl, rfl, j + 1, by simp, by omega, by omega, unhide nxt⟩ | (simp [intOf]; omega)
              · have f4 : ((y : Int) == 45) = false := by simp only [beq_eq_false_iff_ne, ne_eq]; omega
                clear f3
                go_wp2
                all_goals go_roundw
                all_goals first | exact ⟨trivial, rfl, rfl, j + 1, by simp, by omega, by omega, unhide nxt⟩ | (simp [intOf]; omega)
          · have t1 : decide (((j + 2 : Nat) : Int) < (n : Int)) = false := decide_eq_false (by omega)
            have hF : Hid (Larder.FillIs P T (P.take i ++ T ++ P.drop (i + 1)) [] true) := hide (.inr ⟨i, by rw [← unhide HN]; omega, unhide HY, unhide HNO, rfl, .inr ⟨fun q h1 h2 => unhide HNO2 q h1 (by rw [← unhide HN] at h2; omega), rfl, rfl⟩⟩)
            have hkR : Hid (n - (i + 1) = (P.drop (i + 1)).length) := hide (by rw [List.length_drop, ← unhide HN])
            by_cases hcy : c = i + 1
            · have hR : Hid (Bytes w (some ⟨g0, off, none⟩) (P.drop (i + 1))) := hide (.inl (List.eq_nil_of_length_eq_zero (by rw [← unhide hkR]; omega)))
              have hkR0 : Hid (0 = (P.drop (i + 1)).length) := hide (by rw [← unhide hkR]; omega)
              subst hcy
              go_wp2_with (first | (go_at_call 32; with_reducible refine (unhide CK _ HW0).mono ?_; rintro e w4 ⟨v4, rfl, h4⟩) | (at_builtin; refine wpList_app rfl _ _ rfl w.heap.size v4 (P.take i) T b n2 d rfl rfl (unhide h4).1 (unhide HN2) ((unhide H2).below (chain (unhide HW0) (unhide h4).2 (Nat.le_refl _))) hz2 (by rw [← unhide HN2, List.length_take]; omega) (unhide h4).2.size ?_; intro v5 w5 o5 b5; have h5 : Hid (OwnB w5 w.heap.size v5 (P.take i ++ T) ∧ Below w.heap.size w w5) := hide ⟨o5, (unhide h4).2.trans b5⟩; clear o5 b5) | (at_builtin; refine wpList_app rfl _ _ rfl w.heap.size v5 (P.take i ++ T) (P.drop (i + 1)) (some ⟨g0, off, none⟩) 0 0 rfl rfl (unhide h5).1 (unhide hkR0) ((unhide hR).below (chain (unhide HW0) (unhide h5).2 (Nat.le_refl _))) (fun h => by cases h) (by rw [List.length_append, ← unhide HN2, List.length_take, ← (unhide hkR0)]; omega) (unhide h5).2.size ?_; intro v6 w6 o6 b6; have h6 : Hid (OwnB w6 w.heap.size v6 (P.take i ++ T ++ (P.drop (i + 1))) ∧ Below w.heap.size w w6) := hide ⟨o6, (unhide h5).2.trans b6⟩; clear o6 b6))
              all_goals go_ret3
              all_goals obtain ⟨a6, c6, rfl, y6, _⟩ := (unhide h6).1.shape
              all_goals exact ⟨a6, c6, none, 0, _, [], true, rfl, unhide hF, y6, .inl rfl, (unhide h6).2⟩
            · have hR : Hid (Bytes w (some ⟨g0, off + (i + 1), none⟩) (P.drop (i + 1))) := hide (by have h := (unhide H1).drop (i + 1); rwa [add_plain] at h)
              go_wp2_with (first | (go_at_call 32; with_reducible refine (unhide CK _ HW0).mono ?_; rintro e w4 ⟨v4, rfl, h4⟩) | (at_builtin; refine wpList_app rfl _ _ rfl w.heap.size v4 (P.take i) T b n2 d rfl rfl (unhide h4).1 (unhide HN2) ((unhide H2).below (chain (unhide HW0) (unhide h4).2 (Nat.le_refl _))) hz2 (by rw [← unhide HN2, List.length_take]; omega) (unhide h4).2.size ?_; intro v5 w5 o5 b5; have h5 : Hid (OwnB w5 w.heap.size v5 (P.take i ++ T) ∧ Below w.heap.size w w5) := hide ⟨o5, (unhide h4).2.trans b5⟩; clear o5 b5) | (at_builtin; refine wpList_app rfl _ _ rfl w.heap.size v5 (P.take i ++ T) (P.drop (i + 1)) (some ⟨g0, off + (i + 1), none⟩) (n - (i + 1)) (c - (i + 1)) rfl rfl (unhide h5).1 (unhide hkR) ((unhide hR).below (chain (unhide HW0) (unhide h5).2 (Nat.le_refl _))) (fun h => by cases h) (by rw [List.length_append, ← unhide HN2, List.length_take, ← (unhide hkR)]; omega) (unhide h5).2.size ?_; intro v6 w6 o6 b6; have h6 : Hid (OwnB w6 w.heap.size v6 (P.take i ++ T ++ (P.drop (i + 1))) ∧ Below w.heap.size w w6) := hide ⟨o6, (unhide h5).2.trans b6⟩; clear o6 b6))
              all_goals go_ret3
              all_goals obtain ⟨a6, c6, rfl, y6, _⟩ := (unhide h6).1.shape
              all_goals exact ⟨a6, c6, none, 0, _, [], true, rfl, unhide hF, y6, .inl rfl, (unhide h6).2⟩
      · have HY := hide hy
        generalize hyy : P.getD i 0 = y at *
        have f1 : ((y : Int) != 42) = true := by simp; omega
        have HYY := hide hyy
        clear hyy
        go_wp2
        go_roundw
        case rel => exact ⟨trivial, i + 1, by simp, by omega, fun j hj => by
          rcases Nat.lt_or_ge j i with q | q
          · exact unhide HNO j q
          · have : j = i := by omega
            rw [this, unhide HYY]
            exact unhide HY⟩
        case measure => simp [intOf]; omega
    · have hii : i = n := by omega
      subst hii
      clear hin hi
      have hF : Hid (Larder.FillIs P T [] [] false) := hide (Larder.fill_star (fun j hj => unhide HNO j (by rw [unhide HN]; exact hj)))
      go_wp2
      go_ret3
      exact ⟨none, 0, none, 0, [], [], false, rfl, unhide hF, .inl rfl, .inl rfl, Below.refl _ _⟩
end Go.Proofs.YtidfbelckdlbhabGreat
