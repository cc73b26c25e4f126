/- MatchEnds: the walk. -/
import Derived.Test.YtidfbelckdlbhaaDoorEna
namespace Go.Proofs.YtidfbelckdlbhaaDoor
open Go.ChangeShapes Go.WideShapes Go.ChangeAt Go.RowKit
set_option linter.unusedVariables false
set_option linter.unusedSimpArgs false
set_option maxRecDepth 20000
set_option maxHeartbeats 4000000

/-- Score of known bytes -/
theorem score_is (l : List Nat) (f s : Int) (o : Bool) (h : Larder.scoreRes l = ((f, s, o), 0)) (a : Option Addr) (n c : Nat) (W : World) (hn : n = l.length) (hl : l.length ≤ 1000) (hs : Small l) (hc : l.length ≤ c) (hc2 : c ≤ 9223372036854775807) (hB : Bytes W a l) :
    Calls Tryd.prog 6 #[.slice a n c] W fun e w' => e = .returned (.tuple #[.agg #[.int .i64 f, .int .i64 s, .bool o], .int .i64 0]) ∧ Hid (Below W.heap.size W w') := by
  subst hn
  have := score_any a c W l (by omega) hs hc hc2 hB
  rw [h] at this
  exact this.mono (fun e w' h => ⟨h.1, hide h.2⟩)
theorem lex_is (l p : List Nat) (f : Int) (o : Bool) (h : Larder.lexRes l = ((f, p, o), 0)) (a : Option Addr) (n c q : Nat) (W : World) (hn : n = l.length) (hq : q = p.length) (hl : l.length ≤ 140737488355328) (hs : Small l) (hc : l.length ≤ c) (hB : Bytes W a l) :
    Calls Tryd.prog 9 #[.slice a n c] W fun e w' => ∃ a' c', e = .returned (.tuple #[.agg #[.int .i64 f, .slice a' q c', .bool o], .int .i64 0]) ∧ Hid (Bytes w' a' p ∧ Below W.heap.size W w') := by
  subst hn hq
  have := lex_any a c W l hl hs hc hB
  rw [h] at this
  refine this.mono ?_
  rintro e w' ⟨v, rfl, h1, h2⟩
  obtain ⟨a', c', rfl, hb, _⟩ := h1.shape
  exact ⟨a', c', rfl, hide ⟨hb, h2⟩⟩

theorem ends_any (w : World) (aP aT : Option Addr) (P T : List Nat) (nP cP nT cT : Nat) (I J : Int) (v0 v5 v6 v7 v8 v9 v10 v11 v12 v13 v14 v15 v16 v17 : Value) (ht : Tab w) (hI : -9223372036854775808 ≤ I ∧ I ≤ 9223372036854775807) (hJ : -9223372036854775808 ≤ J ∧ J ≤ 9223372036854775807) (hnP : nP = P.length) (hnT : nT = T.length) (hP : Bytes w aP P) (hT : Bytes w aT T) (sP : Small P) (sT : Small T) (zP : aP = none → cP = 0) (lP : P.length ≤ 140737488351232) (lT : T.length ≤ 140737488351232) :
    Calls Tryd.prog 3 #[.agg #[v0, .slice aP nP cP, .slice aT nT cT, .int .i64 I, .int .i64 J, v5, v6, v7, v8, v9, v10, v11, v12, v13, v14, v15, v16, v17]] w fun e w' => e = .returned (.bool true) ∧ Below w.heap.size w w' := by
  have kc := fun (w : World) (C : Array Value) (n c : Nat) => Lib.run_convert_bytes_const (P := Tryd.prog) w 22 5 C n c Tryd.underlying22 Tryd.underlying5
  obtain ⟨w0, hw0⟩ : ∃ w0, w0 = w.alloc (.cells #[v0, .slice aP nP cP, .slice aT nT cT, .int .i64 I, .int .i64 J, v5, v6, v7, v8, v9, v10, v11, v12, v13, v14, v15, v16, v17] 28) := ⟨_, rfl⟩
  have B0 : Below w.heap.size w w0 := by rw [hw0]; exact (Below.refl _ _).alloc (Nat.le_refl _) _
  have H0 : Has w0 [(w.heap.size, #[v0, .slice aP nP cP, .slice aT nT cT, .int .i64 I, .int .i64 J, v5, v6, v7, v8, v9, v10, v11, v12, v13, v14, v15, v16, v17], 28)] := by
    rw [hw0]
    intro x hx
    rcases List.mem_cons.1 hx with rfl | hx
    · exact heap_alloc_new w _
    · cases hx
  have C4 : Hid (Calls Tryd.prog 4 #[] (w.alloc (.cells #[v0, .slice aP nP cP, .slice aT nT cT, .int .i64 I, .int .i64 J, v5, v6, v7, v8, v9, v10, v11, v12, v13, v14, v15, v16, v17] 28)) fun e w' => e = .returned (.bool true) ∧ Hid (Below w.heap.size w w') ∧ Hid (Has w' [(w.heap.size, #[v0, .slice aP nP cP, .slice aT nT cT, .int .i64 I, .int .i64 J, v5, v6, v7, v8, v9, v10, v11, v12, v13, v14, v15, v16, v17], 28)])) := hide (by
    rw [← hw0]
    refine (wakes_any w0).mono ?_
    rintro e w' ⟨rfl, h⟩
    exact ⟨rfl, hide (B0.trans (h.mono B0.size)), hide (H0.below h)⟩)
  obtain ⟨N, hN⟩ : ∃ N, N = Larder.spellI I := ⟨_, rfl⟩
  obtain ⟨ln, hln⟩ : ∃ ln, ln = N.length := ⟨_, rfl⟩
  have ln21 : ln ≤ 21 := by rw [hln, hN]; exact spell_short I hI.1 hI.2
  have sN : Small N := by rw [hN]; exact spell_smallI I
  have HTB := hide ht
  have HP := hide hP
  have HT := hide hT
  have C5 : Hid (∀ W, Hid (Below w.heap.size w W) → Calls Tryd.prog 5 #[.int .i64 I] W fun e w' => ∃ a c, e = .returned (.slice a ln c) ∧ Hid (Bytes w' a N ∧ (a = none → c = 0) ∧ N.length ≤ c ∧ c ≤ 9223372036854775807 ∧ Below W.heap.size W w')) := hide (fun W hW => by
    refine (text_any I hI.1 hI.2 W ((unhide HTB).below (unhide hW))).mono ?_
    rintro e w' ⟨v, rfl, h1, h2⟩
    rw [← hN] at h1
    obtain ⟨a, c, rfl, h3, h4, h5, h6⟩ := h1.cap
    exact ⟨a, c, by rw [hln], hide ⟨h3, h4, h5, h6, h2⟩⟩)
  have SS : Larder.scoreRes N = ((0, I, false), 0) := by rw [hN]; exact Larder.score_spell I hI.1 hI.2
  have SO : Larder.scoreRes (40 :: N) = ((0, I, true), 0) := by rw [hN]; exact Larder.score_open I hI.1 hI.2
  have HSS := hide SS
  have HSO := hide SO
  have HLN := hide hln
  have HSN := hide sN
  have HNP := hide hnP
  have HNT := hide hnT
  have HSP := hide sP
  have HST := hide sT
  have HZP := hide zP
  have HLP := hide lP
  have HLT := hide lT
  clear SS SO hln hN sN hP hT hnP hnT sP sT zP lP lT H0 B0 hw0 ht
  go_enter Tryd.func3, Tryd.ntmps3
  go_wp2_with fail
  refine (unhide C4).mono ?_
  rintro e w1 ⟨rfl, b1, h1⟩
  have x3 : w1.cell? ⟨w.heap.size, 3, none⟩ = some (.int .i64 I) := (unhide h1).cell (List.mem_cons_self ..) 3 _ rfl
  clear C4
  go_wp2_with fail
  refine (unhide C5 _ b1).mono ?_
  rintro e w2 ⟨a2, c2, rfl, k2⟩
  clear C5 x3
  have h2 := hide ((unhide h1).below (unhide k2).2.2.2.2)
  have b2 := hide (chain (unhide b1) (unhide k2).2.2.2.2 (Nat.le_refl _))
  go_wp2_with fail
  refine (score_is N 0 I false (unhide HSS) a2 ln c2 w2 (unhide HLN) (by rw [← unhide HLN]; omega) (unhide HSN) (unhide k2).2.2.1 (unhide k2).2.2.2.1 (unhide k2).1).mono ?_
  rintro e w3 ⟨rfl, k3⟩
  have h3 := hide (((unhide h2).below (unhide k3)).add #[.int .i64 0, .int .i64 I, .bool false] 24)
  have b3 := hide ((chain (unhide b2) (unhide k3) (Nat.le_refl _)).alloc (Nat.le_trans (unhide b2).size (unhide k3).size) (.cells #[.int .i64 0, .int .i64 I, .bool false] 24))
  have n3 := hide ((((unhide k2).1.below (unhide k3)).below ((Below.refl _ _).alloc (Nat.le_refl _) (.cells #[.int .i64 0, .int .i64 I, .bool false] 24))).below ((Below.refl _ _).alloc (Nat.le_refl _) (.cells #[.int .u8 40] 5 (1, 2))))
  have kc3 := kc (w3.alloc (.cells #[.int .i64 0, .int .i64 I, .bool false] 24)) #[.int .u8 40] 1 1
  have g3 : Hid (((w3.alloc (.cells #[.int .i64 0, .int .i64 I, .bool false] 24)).alloc (.cells #[.int .u8 40] 5 (1, 2))).cell? ⟨w3.heap.size + 1, 0, none⟩ = some (.int .u8 (40 : Nat))) := hide (by
    have := heap_alloc_new (w3.alloc (.cells #[.int .i64 0, .int .i64 I, .bool false] 24)) (.cells #[.int .u8 40] 5 (1, 2))
    rw [show (w3.alloc (.cells #[.int .i64 0, .int .i64 I, .bool false] 24)).heap.size = w3.heap.size + 1 by simp] at this
    rw [cell_of_row _ _ _ _ _ _ this]; rfl)
  rw [show (w3.alloc (.cells #[.int .i64 0, .int .i64 I, .bool false] 24)).heap.size = w3.heap.size + 1 by simp] at kc3
  go_wp2_with (at_builtin; refine wpList_app1 rfl _ _ rfl rfl (w3.heap.size + 1) 40 N a2 ln c2 rfl rfl (unhide g3) (unhide HLN) (unhide n3) (unhide k2).2.1 (by rw [← unhide HLN]; omega) ?_; intro a4 c4 w4 y4 z4 q4)
  have h4 := hide (((unhide h3).below ((Below.refl _ _).alloc (Nat.le_refl _) (.cells #[.int .u8 40] 5 (1, 2)))).below z4)
  have b4 := hide (chain ((unhide b3).alloc (unhide b3).size (.cells #[.int .u8 40] 5 (1, 2))) z4 (Nat.le_refl _))
  refine (score_is (40 :: N) 0 I true (unhide HSO) a4 (N.length + 1) c4 w4 rfl (by rw [List.length_cons, ← unhide HLN]; omega) (small_cons (by decide) (unhide HSN)) q4.1 q4.2 y4).mono ?_
  rintro e w5 ⟨rfl, k5⟩
  clear kc3 g3 n3
  have h5 := hide (((unhide h4).below (unhide k5)).add #[.int .i64 0, .int .i64 I, .bool true] 24)
  have b5 := hide ((chain (unhide b4) (unhide k5) (Nat.le_refl _)).alloc (Nat.le_trans (unhide b4).size (unhide k5).size) (.cells #[.int .i64 0, .int .i64 I, .bool true] 24))
  have kc5 := kc (w5.alloc (.cells #[.int .i64 0, .int .i64 I, .bool true] 24)) #[.int .u8 45, .int .u8 105, .int .u8 110, .int .u8 102] 4 4
  have m5 := hide (lit_bytes (w5.alloc (.cells #[.int .i64 0, .int .i64 I, .bool true] 24)) [45, 105, 110, 102] (4, 5))
  rw [show (w5.alloc (.cells #[.int .i64 0, .int .i64 I, .bool true] 24)).heap.size = w5.heap.size + 1 by simp] at kc5 m5
  go_wp2_with fail
  have h6' := hide ((unhide h5).below ((Below.refl _ _).alloc (Nat.le_refl _) (.cells #[.int .u8 45, .int .u8 105, .int .u8 110, .int .u8 102] 5 (4, 5))))
  have b6' := hide ((unhide b5).alloc (unhide b5).size (.cells #[.int .u8 45, .int .u8 105, .int .u8 110, .int .u8 102] 5 (4, 5)))
  refine (score_is [45, 105, 110, 102] (-1) 0 false Larder.score_low (some ⟨w5.heap.size + 1, 0, none⟩) 4 4 ((w5.alloc (.cells #[.int .i64 0, .int .i64 I, .bool true] 24)).alloc (.cells #[.int .u8 45, .int .u8 105, .int .u8 110, .int .u8 102] 5 (4, 5))) rfl (by decide) (small_lit _ rfl) (by decide) (by decide) (unhide m5)).mono ?_
  rintro e w6 ⟨rfl, k6⟩
  clear kc5 m5
  have h6 := hide (((unhide h6').below (unhide k6)).add #[.int .i64 (-1), .int .i64 0, .bool false] 24)
  have b6 := hide ((chain (unhide b6') (unhide k6) (Nat.le_refl _)).alloc (Nat.le_trans (unhide b6').size (unhide k6).size) (.cells #[.int .i64 (-1), .int .i64 0, .bool false] 24))
  have kc6 := kc (w6.alloc (.cells #[.int .i64 (-1), .int .i64 0, .bool false] 24)) #[.int .u8 43, .int .u8 105, .int .u8 110, .int .u8 102] 4 4
  have m6 := hide (lit_bytes (w6.alloc (.cells #[.int .i64 (-1), .int .i64 0, .bool false] 24)) [43, 105, 110, 102] (4, 5))
  rw [show (w6.alloc (.cells #[.int .i64 (-1), .int .i64 0, .bool false] 24)).heap.size = w6.heap.size + 1 by simp] at kc6 m6
  go_wp2_with fail
  have h7' := hide ((unhide h6).below ((Below.refl _ _).alloc (Nat.le_refl _) (.cells #[.int .u8 43, .int .u8 105, .int .u8 110, .int .u8 102] 5 (4, 5))))
  have b7' := hide ((unhide b6).alloc (unhide b6).size (.cells #[.int .u8 43, .int .u8 105, .int .u8 110, .int .u8 102] 5 (4, 5)))
  refine (score_is [43, 105, 110, 102] 1 0 false Larder.score_high (some ⟨w6.heap.size + 1, 0, none⟩) 4 4 ((w6.alloc (.cells #[.int .i64 (-1), .int .i64 0, .bool false] 24)).alloc (.cells #[.int .u8 43, .int .u8 105, .int .u8 110, .int .u8 102] 5 (4, 5))) rfl (by decide) (small_lit _ rfl) (by decide) (by decide) (unhide m6)).mono ?_
  rintro e w7 ⟨rfl, k7⟩
  clear kc6 m6
  have h7 := hide (((unhide h7').below (unhide k7)).add #[.int .i64 1, .int .i64 0, .bool false] 24)
  have b7 := hide ((chain (unhide b7') (unhide k7) (Nat.le_refl _)).alloc (Nat.le_trans (unhide b7').size (unhide k7).size) (.cells #[.int .i64 1, .int .i64 0, .bool false] 24))
  have x4 : (w7.alloc (.cells #[.int .i64 1, .int .i64 0, .bool false] 24)).cell? ⟨w.heap.size, 4, none⟩ = some (.int .i64 J) := (unhide h7).cell (List.mem_cons_of_mem _ (List.mem_cons_of_mem _ (List.mem_cons_of_mem _ (List.mem_cons_of_mem _ (List.mem_cons_self ..))))) 4 _ rfl
  go_wp2_with fail
  clear x4
  generalize w7.alloc (.cells #[.int .i64 1, .int .i64 0, .bool false] 24) = WA at *
  have CS : ∀ W, Has W ((w7.heap.size, #[.int .i64 1, .int .i64 0, .bool false], 24) :: (w6.heap.size, #[.int .i64 (-1), .int .i64 0, .bool false], 24) :: (w5.heap.size, #[.int .i64 0, .int .i64 I, .bool true], 24) :: (w3.heap.size, #[.int .i64 0, .int .i64 I, .bool false], 24) :: [(w.heap.size, #[v0, .slice aP nP cP, .slice aT nT cT, .int .i64 I, .int .i64 J, v5, v6, v7, v8, v9, v10, v11, v12, v13, v14, v15, v16, v17], 28)]) → W.cell? ⟨w.heap.size, 3, none⟩ = some (.int .i64 I) ∧ W.cell? ⟨w3.heap.size, 0, none⟩ = some (.int .i64 0) ∧ W.cell? ⟨w3.heap.size, 1, none⟩ = some (.int .i64 I) ∧ W.cell? ⟨w3.heap.size, 2, none⟩ = some (.bool false) ∧ W.cell? ⟨w5.heap.size, 0, none⟩ = some (.int .i64 0) ∧ W.cell? ⟨w5.heap.size, 1, none⟩ = some (.int .i64 I) ∧ W.cell? ⟨w5.heap.size, 2, none⟩ = some (.bool true) ∧ W.cell? ⟨w6.heap.size, 0, none⟩ = some (.int .i64 (-1)) ∧ W.cell? ⟨w6.heap.size, 1, none⟩ = some (.int .i64 0) ∧ W.cell? ⟨w6.heap.size, 2, none⟩ = some (.bool false) ∧ W.cell? ⟨w7.heap.size, 0, none⟩ = some (.int .i64 1) ∧ W.cell? ⟨w7.heap.size, 1, none⟩ = some (.int .i64 0) ∧ W.cell? ⟨w7.heap.size, 2, none⟩ = some (.bool false) := fun W h => ⟨h.cell (List.mem_cons_of_mem _ (List.mem_cons_of_mem _ (List.mem_cons_of_mem _ (List.mem_cons_of_mem _ (List.mem_cons_self ..))))) 3 _ rfl, h.cell (List.mem_cons_of_mem _ (List.mem_cons_of_mem _ (List.mem_cons_of_mem _ (List.mem_cons_self ..)))) 0 _ rfl, h.cell (List.mem_cons_of_mem _ (List.mem_cons_of_mem _ (List.mem_cons_of_mem _ (List.mem_cons_self ..)))) 1 _ rfl, h.cell (List.mem_cons_of_mem _ (List.mem_cons_of_mem _ (List.mem_cons_of_mem _ (List.mem_cons_self ..)))) 2 _ rfl, h.cell (List.mem_cons_of_mem _ (List.mem_cons_of_mem _ (List.mem_cons_self ..))) 0 _ rfl, h.cell (List.mem_cons_of_mem _ (List.mem_cons_of_mem _ (List.mem_cons_self ..))) 1 _ rfl, h.cell (List.mem_cons_of_mem _ (List.mem_cons_of_mem _ (List.mem_cons_self ..))) 2 _ rfl, h.cell (List.mem_cons_of_mem _ (List.mem_cons_self ..)) 0 _ rfl, h.cell (List.mem_cons_of_mem _ (List.mem_cons_self ..)) 1 _ rfl, h.cell (List.mem_cons_of_mem _ (List.mem_cons_self ..)) 2 _ rfl, h.cell (List.mem_cons_self ..) 0 _ rfl, h.cell (List.mem_cons_self ..) 1 _ rfl, h.cell (List.mem_cons_self ..) 2 _ rfl⟩
  have HCS := hide CS
  obtain ⟨xI, xS0, xS1, xS2, xO0, xO1, xO2, xL0, xL1, xL2, xH0, xH1, xH2⟩ := CS WA (unhide h7)
  clear CS
  have kA : Hid (Below WA.heap.size WA WA.drew) := hide (Below.refl WA.heap.size WA).drew
  obtain ⟨p1, hp1⟩ : ∃ p : Bool, decide (I ≤ J) = p := ⟨_, rfl⟩
  obtain ⟨p2, hp2⟩ : ∃ p : Bool, decide (I < J) = p := ⟨_, rfl⟩
  obtain ⟨p3, hp3⟩ : ∃ p : Bool, decide (J ≤ I) = p := ⟨_, rfl⟩
  obtain ⟨p4, hp4⟩ : ∃ p : Bool, decide (J < I) = p := ⟨_, rfl⟩
  obtain ⟨p5, hp5⟩ : ∃ p : Bool, (J == I) = p := ⟨_, rfl⟩
  have hp5b : (decide (I ≤ J) && decide (J ≤ I)) = p5 := by
    rw [← hp5]
    by_cases h : J = I
    · subst h; simp
    · have h1 : (J == I) = false := by simp [h]
      rw [h1]
      by_cases h2 : I ≤ J <;> by_cases h3 : J ≤ I <;> simp [h2, h3] <;> omega
  have hp9 : (decide (I < J) && decide (J ≤ I)) = false := by
    by_cases h2 : I < J <;> by_cases h3 : J ≤ I <;> simp [h2, h3] <;> omega
  have E1 : Hid (∀ W, Hid (Below WA.heap.size WA W) → Calls Tryd.prog 7 #[.agg #[.int .i64 0, .int .i64 I, .bool false], .agg #[.int .i64 1, .int .i64 0, .bool false], .int .i64 J] W fun e w' => e = .returned (.bool p1) ∧ Hid (Below WA.heap.size WA w') ∧ w'.cell? ⟨w.heap.size, 3, none⟩ = some (.int .i64 I) ∧ w'.cell? ⟨w3.heap.size, 0, none⟩ = some (.int .i64 0) ∧ w'.cell? ⟨w3.heap.size, 1, none⟩ = some (.int .i64 I) ∧ w'.cell? ⟨w3.heap.size, 2, none⟩ = some (.bool false) ∧ w'.cell? ⟨w5.heap.size, 0, none⟩ = some (.int .i64 0) ∧ w'.cell? ⟨w5.heap.size, 1, none⟩ = some (.int .i64 I) ∧ w'.cell? ⟨w5.heap.size, 2, none⟩ = some (.bool true) ∧ w'.cell? ⟨w6.heap.size, 0, none⟩ = some (.int .i64 (-1)) ∧ w'.cell? ⟨w6.heap.size, 1, none⟩ = some (.int .i64 0) ∧ w'.cell? ⟨w6.heap.size, 2, none⟩ = some (.bool false) ∧ w'.cell? ⟨w7.heap.size, 0, none⟩ = some (.int .i64 1) ∧ w'.cell? ⟨w7.heap.size, 1, none⟩ = some (.int .i64 0) ∧ w'.cell? ⟨w7.heap.size, 2, none⟩ = some (.bool false)) := hide (fun W hW => by
    refine (inscore_any 0 I false 1 0 false J W).mono ?_
    rintro e w' ⟨rfl, hb⟩
    have hb2 := chain (unhide hW) hb (Nat.le_refl _)
    refine ⟨by rw [Larder.in_a, Larder.cmp_le, hp1], hide hb2, unhide HCS w' ((unhide h7).below hb2)⟩)
  have E2 : Hid (∀ W, Hid (Below WA.heap.size WA W) → Calls Tryd.prog 7 #[.agg #[.int .i64 0, .int .i64 I, .bool true], .agg #[.int .i64 1, .int .i64 0, .bool false], .int .i64 J] W fun e w' => e = .returned (.bool p2) ∧ Hid (Below WA.heap.size WA w') ∧ w'.cell? ⟨w.heap.size, 3, none⟩ = some (.int .i64 I) ∧ w'.cell? ⟨w3.heap.size, 0, none⟩ = some (.int .i64 0) ∧ w'.cell? ⟨w3.heap.size, 1, none⟩ = some (.int .i64 I) ∧ w'.cell? ⟨w3.heap.size, 2, none⟩ = some (.bool false) ∧ w'.cell? ⟨w5.heap.size, 0, none⟩ = some (.int .i64 0) ∧ w'.cell? ⟨w5.heap.size, 1, none⟩ = some (.int .i64 I) ∧ w'.cell? ⟨w5.heap.size, 2, none⟩ = some (.bool true) ∧ w'.cell? ⟨w6.heap.size, 0, none⟩ = some (.int .i64 (-1)) ∧ w'.cell? ⟨w6.heap.size, 1, none⟩ = some (.int .i64 0) ∧ w'.cell? ⟨w6.heap.size, 2, none⟩ = some (.bool false) ∧ w'.cell? ⟨w7.heap.size, 0, none⟩ = some (.int .i64 1) ∧ w'.cell? ⟨w7.heap.size, 1, none⟩ = some (.int .i64 0) ∧ w'.cell? ⟨w7.heap.size, 2, none⟩ = some (.bool false)) := hide (fun W hW => by
    refine (inscore_any 0 I true 1 0 false J W).mono ?_
    rintro e w' ⟨rfl, hb⟩
    have hb2 := chain (unhide hW) hb (Nat.le_refl _)
    refine ⟨by rw [Larder.in_b, Larder.cmp_lt, hp2], hide hb2, unhide HCS w' ((unhide h7).below hb2)⟩)
  have E3 : Hid (∀ W, Hid (Below WA.heap.size WA W) → Calls Tryd.prog 7 #[.agg #[.int .i64 (-1), .int .i64 0, .bool false], .agg #[.int .i64 0, .int .i64 I, .bool false], .int .i64 J] W fun e w' => e = .returned (.bool p3) ∧ Hid (Below WA.heap.size WA w') ∧ w'.cell? ⟨w.heap.size, 3, none⟩ = some (.int .i64 I) ∧ w'.cell? ⟨w3.heap.size, 0, none⟩ = some (.int .i64 0) ∧ w'.cell? ⟨w3.heap.size, 1, none⟩ = some (.int .i64 I) ∧ w'.cell? ⟨w3.heap.size, 2, none⟩ = some (.bool false) ∧ w'.cell? ⟨w5.heap.size, 0, none⟩ = some (.int .i64 0) ∧ w'.cell? ⟨w5.heap.size, 1, none⟩ = some (.int .i64 I) ∧ w'.cell? ⟨w5.heap.size, 2, none⟩ = some (.bool true) ∧ w'.cell? ⟨w6.heap.size, 0, none⟩ = some (.int .i64 (-1)) ∧ w'.cell? ⟨w6.heap.size, 1, none⟩ = some (.int .i64 0) ∧ w'.cell? ⟨w6.heap.size, 2, none⟩ = some (.bool false) ∧ w'.cell? ⟨w7.heap.size, 0, none⟩ = some (.int .i64 1) ∧ w'.cell? ⟨w7.heap.size, 1, none⟩ = some (.int .i64 0) ∧ w'.cell? ⟨w7.heap.size, 2, none⟩ = some (.bool false)) := hide (fun W hW => by
    refine (inscore_any (-1) 0 false 0 I false J W).mono ?_
    rintro e w' ⟨rfl, hb⟩
    have hb2 := chain (unhide hW) hb (Nat.le_refl _)
    refine ⟨by rw [Larder.in_c, Larder.cmp_le, hp3], hide hb2, unhide HCS w' ((unhide h7).below hb2)⟩)
  have E4 : Hid (∀ W, Hid (Below WA.heap.size WA W) → Calls Tryd.prog 7 #[.agg #[.int .i64 (-1), .int .i64 0, .bool false], .agg #[.int .i64 0, .int .i64 I, .bool true], .int .i64 J] W fun e w' => e = .returned (.bool p4) ∧ Hid (Below WA.heap.size WA w') ∧ w'.cell? ⟨w.heap.size, 3, none⟩ = some (.int .i64 I) ∧ w'.cell? ⟨w3.heap.size, 0, none⟩ = some (.int .i64 0) ∧ w'.cell? ⟨w3.heap.size, 1, none⟩ = some (.int .i64 I) ∧ w'.cell? ⟨w3.heap.size, 2, none⟩ = some (.bool false) ∧ w'.cell? ⟨w5.heap.size, 0, none⟩ = some (.int .i64 0) ∧ w'.cell? ⟨w5.heap.size, 1, none⟩ = some (.int .i64 I) ∧ w'.cell? ⟨w5.heap.size, 2, none⟩ = some (.bool true) ∧ w'.cell? ⟨w6.heap.size, 0, none⟩ = some (.int .i64 (-1)) ∧ w'.cell? ⟨w6.heap.size, 1, none⟩ = some (.int .i64 0) ∧ w'.cell? ⟨w6.heap.size, 2, none⟩ = some (.bool false) ∧ w'.cell? ⟨w7.heap.size, 0, none⟩ = some (.int .i64 1) ∧ w'.cell? ⟨w7.heap.size, 1, none⟩ = some (.int .i64 0) ∧ w'.cell? ⟨w7.heap.size, 2, none⟩ = some (.bool false)) := hide (fun W hW => by
    refine (inscore_any (-1) 0 false 0 I true J W).mono ?_
    rintro e w' ⟨rfl, hb⟩
    have hb2 := chain (unhide hW) hb (Nat.le_refl _)
    refine ⟨by rw [Larder.in_d, Larder.cmp_lt, hp4], hide hb2, unhide HCS w' ((unhide h7).below hb2)⟩)
  have E5 : Hid (∀ W, Hid (Below WA.heap.size WA W) → Calls Tryd.prog 7 #[.agg #[.int .i64 (-1), .int .i64 0, .bool false], .agg #[.int .i64 1, .int .i64 0, .bool false], .int .i64 J] W fun e w' => e = .returned (.bool true) ∧ Hid (Below WA.heap.size WA w') ∧ w'.cell? ⟨w.heap.size, 3, none⟩ = some (.int .i64 I) ∧ w'.cell? ⟨w3.heap.size, 0, none⟩ = some (.int .i64 0) ∧ w'.cell? ⟨w3.heap.size, 1, none⟩ = some (.int .i64 I) ∧ w'.cell? ⟨w3.heap.size, 2, none⟩ = some (.bool false) ∧ w'.cell? ⟨w5.heap.size, 0, none⟩ = some (.int .i64 0) ∧ w'.cell? ⟨w5.heap.size, 1, none⟩ = some (.int .i64 I) ∧ w'.cell? ⟨w5.heap.size, 2, none⟩ = some (.bool true) ∧ w'.cell? ⟨w6.heap.size, 0, none⟩ = some (.int .i64 (-1)) ∧ w'.cell? ⟨w6.heap.size, 1, none⟩ = some (.int .i64 0) ∧ w'.cell? ⟨w6.heap.size, 2, none⟩ = some (.bool false) ∧ w'.cell? ⟨w7.heap.size, 0, none⟩ = some (.int .i64 1) ∧ w'.cell? ⟨w7.heap.size, 1, none⟩ = some (.int .i64 0) ∧ w'.cell? ⟨w7.heap.size, 2, none⟩ = some (.bool false)) := hide (fun W hW => by
    refine (inscore_any (-1) 0 false 1 0 false J W).mono ?_
    rintro e w' ⟨rfl, hb⟩
    have hb2 := chain (unhide hW) hb (Nat.le_refl _)
    refine ⟨by rw [Larder.in_all], hide hb2, unhide HCS w' ((unhide h7).below hb2)⟩)
  have E6 : Hid (∀ W, Hid (Below WA.heap.size WA W) → Calls Tryd.prog 7 #[.agg #[.int .i64 1, .int .i64 0, .bool false], .agg #[.int .i64 1, .int .i64 0, .bool false], .int .i64 J] W fun e w' => e = .returned (.bool false) ∧ Hid (Below WA.heap.size WA w') ∧ w'.cell? ⟨w.heap.size, 3, none⟩ = some (.int .i64 I) ∧ w'.cell? ⟨w3.heap.size, 0, none⟩ = some (.int .i64 0) ∧ w'.cell? ⟨w3.heap.size, 1, none⟩ = some (.int .i64 I) ∧ w'.cell? ⟨w3.heap.size, 2, none⟩ = some (.bool false) ∧ w'.cell? ⟨w5.heap.size, 0, none⟩ = some (.int .i64 0) ∧ w'.cell? ⟨w5.heap.size, 1, none⟩ = some (.int .i64 I) ∧ w'.cell? ⟨w5.heap.size, 2, none⟩ = some (.bool true) ∧ w'.cell? ⟨w6.heap.size, 0, none⟩ = some (.int .i64 (-1)) ∧ w'.cell? ⟨w6.heap.size, 1, none⟩ = some (.int .i64 0) ∧ w'.cell? ⟨w6.heap.size, 2, none⟩ = some (.bool false) ∧ w'.cell? ⟨w7.heap.size, 0, none⟩ = some (.int .i64 1) ∧ w'.cell? ⟨w7.heap.size, 1, none⟩ = some (.int .i64 0) ∧ w'.cell? ⟨w7.heap.size, 2, none⟩ = some (.bool false)) := hide (fun W hW => by
    refine (inscore_any 1 0 false 1 0 false J W).mono ?_
    rintro e w' ⟨rfl, hb⟩
    have hb2 := chain (unhide hW) hb (Nat.le_refl _)
    refine ⟨by rw [Larder.in_high], hide hb2, unhide HCS w' ((unhide h7).below hb2)⟩)
  have E7 : Hid (∀ W, Hid (Below WA.heap.size WA W) → Calls Tryd.prog 7 #[.agg #[.int .i64 (-1), .int .i64 0, .bool false], .agg #[.int .i64 (-1), .int .i64 0, .bool false], .int .i64 J] W fun e w' => e = .returned (.bool false) ∧ Hid (Below WA.heap.size WA w') ∧ w'.cell? ⟨w.heap.size, 3, none⟩ = some (.int .i64 I) ∧ w'.cell? ⟨w3.heap.size, 0, none⟩ = some (.int .i64 0) ∧ w'.cell? ⟨w3.heap.size, 1, none⟩ = some (.int .i64 I) ∧ w'.cell? ⟨w3.heap.size, 2, none⟩ = some (.bool false) ∧ w'.cell? ⟨w5.heap.size, 0, none⟩ = some (.int .i64 0) ∧ w'.cell? ⟨w5.heap.size, 1, none⟩ = some (.int .i64 I) ∧ w'.cell? ⟨w5.heap.size, 2, none⟩ = some (.bool true) ∧ w'.cell? ⟨w6.heap.size, 0, none⟩ = some (.int .i64 (-1)) ∧ w'.cell? ⟨w6.heap.size, 1, none⟩ = some (.int .i64 0) ∧ w'.cell? ⟨w6.heap.size, 2, none⟩ = some (.bool false) ∧ w'.cell? ⟨w7.heap.size, 0, none⟩ = some (.int .i64 1) ∧ w'.cell? ⟨w7.heap.size, 1, none⟩ = some (.int .i64 0) ∧ w'.cell? ⟨w7.heap.size, 2, none⟩ = some (.bool false)) := hide (fun W hW => by
    refine (inscore_any (-1) 0 false (-1) 0 false J W).mono ?_
    rintro e w' ⟨rfl, hb⟩
    have hb2 := chain (unhide hW) hb (Nat.le_refl _)
    refine ⟨by rw [Larder.in_low], hide hb2, unhide HCS w' ((unhide h7).below hb2)⟩)
  have E8 : Hid (∀ W, Hid (Below WA.heap.size WA W) → Calls Tryd.prog 7 #[.agg #[.int .i64 0, .int .i64 I, .bool false], .agg #[.int .i64 0, .int .i64 I, .bool false], .int .i64 J] W fun e w' => e = .returned (.bool p5) ∧ Hid (Below WA.heap.size WA w') ∧ w'.cell? ⟨w.heap.size, 3, none⟩ = some (.int .i64 I) ∧ w'.cell? ⟨w3.heap.size, 0, none⟩ = some (.int .i64 0) ∧ w'.cell? ⟨w3.heap.size, 1, none⟩ = some (.int .i64 I) ∧ w'.cell? ⟨w3.heap.size, 2, none⟩ = some (.bool false) ∧ w'.cell? ⟨w5.heap.size, 0, none⟩ = some (.int .i64 0) ∧ w'.cell? ⟨w5.heap.size, 1, none⟩ = some (.int .i64 I) ∧ w'.cell? ⟨w5.heap.size, 2, none⟩ = some (.bool true) ∧ w'.cell? ⟨w6.heap.size, 0, none⟩ = some (.int .i64 (-1)) ∧ w'.cell? ⟨w6.heap.size, 1, none⟩ = some (.int .i64 0) ∧ w'.cell? ⟨w6.heap.size, 2, none⟩ = some (.bool false) ∧ w'.cell? ⟨w7.heap.size, 0, none⟩ = some (.int .i64 1) ∧ w'.cell? ⟨w7.heap.size, 1, none⟩ = some (.int .i64 0) ∧ w'.cell? ⟨w7.heap.size, 2, none⟩ = some (.bool false)) := hide (fun W hW => by
    refine (inscore_any 0 I false 0 I false J W).mono ?_
    rintro e w' ⟨rfl, hb⟩
    have hb2 := chain (unhide hW) hb (Nat.le_refl _)
    refine ⟨by rw [Larder.in_one, Larder.cmp_le, Larder.cmp_le, hp5b], hide hb2, unhide HCS w' ((unhide h7).below hb2)⟩)
  have E9 : Hid (∀ W, Hid (Below WA.heap.size WA W) → Calls Tryd.prog 7 #[.agg #[.int .i64 0, .int .i64 I, .bool true], .agg #[.int .i64 0, .int .i64 I, .bool false], .int .i64 J] W fun e w' => e = .returned (.bool false) ∧ Hid (Below WA.heap.size WA w') ∧ w'.cell? ⟨w.heap.size, 3, none⟩ = some (.int .i64 I) ∧ w'.cell? ⟨w3.heap.size, 0, none⟩ = some (.int .i64 0) ∧ w'.cell? ⟨w3.heap.size, 1, none⟩ = some (.int .i64 I) ∧ w'.cell? ⟨w3.heap.size, 2, none⟩ = some (.bool false) ∧ w'.cell? ⟨w5.heap.size, 0, none⟩ = some (.int .i64 0) ∧ w'.cell? ⟨w5.heap.size, 1, none⟩ = some (.int .i64 I) ∧ w'.cell? ⟨w5.heap.size, 2, none⟩ = some (.bool true) ∧ w'.cell? ⟨w6.heap.size, 0, none⟩ = some (.int .i64 (-1)) ∧ w'.cell? ⟨w6.heap.size, 1, none⟩ = some (.int .i64 0) ∧ w'.cell? ⟨w6.heap.size, 2, none⟩ = some (.bool false) ∧ w'.cell? ⟨w7.heap.size, 0, none⟩ = some (.int .i64 1) ∧ w'.cell? ⟨w7.heap.size, 1, none⟩ = some (.int .i64 0) ∧ w'.cell? ⟨w7.heap.size, 2, none⟩ = some (.bool false)) := hide (fun W hW => by
    refine (inscore_any 0 I true 0 I false J W).mono ?_
    rintro e w' ⟨rfl, hb⟩
    have hb2 := chain (unhide hW) hb (Nat.le_refl _)
    refine ⟨by rw [Larder.in_none, Larder.cmp_lt, Larder.cmp_le, hp9], hide hb2, unhide HCS w' ((unhide h7).below hb2)⟩)
  clear hp5b hp9
  go_region_held3 (fun w' => w'.cell? ⟨w.heap.size, 3, none⟩ = some (.int .i64 I) ∧ w'.cell? ⟨w3.heap.size, 0, none⟩ = some (.int .i64 0) ∧ w'.cell? ⟨w3.heap.size, 1, none⟩ = some (.int .i64 I) ∧ w'.cell? ⟨w3.heap.size, 2, none⟩ = some (.bool false) ∧ w'.cell? ⟨w5.heap.size, 0, none⟩ = some (.int .i64 0) ∧ w'.cell? ⟨w5.heap.size, 1, none⟩ = some (.int .i64 I) ∧ w'.cell? ⟨w5.heap.size, 2, none⟩ = some (.bool true) ∧ w'.cell? ⟨w6.heap.size, 0, none⟩ = some (.int .i64 (-1)) ∧ w'.cell? ⟨w6.heap.size, 1, none⟩ = some (.int .i64 0) ∧ w'.cell? ⟨w6.heap.size, 2, none⟩ = some (.bool false) ∧ w'.cell? ⟨w7.heap.size, 0, none⟩ = some (.int .i64 1) ∧ w'.cell? ⟨w7.heap.size, 1, none⟩ = some (.int .i64 0) ∧ w'.cell? ⟨w7.heap.size, 2, none⟩ = some (.bool false)) (go_keep) (first
    | (go_at_call 7; with_reducible refine (unhide E1 _ kA).mono ?_; rintro e u1 ⟨rfl, q1, s1⟩)
    | (go_at_call 7; with_reducible refine (unhide E2 _ q1).mono ?_; rintro e u2 ⟨rfl, q2, s2⟩)
    | (go_at_call 7; with_reducible refine (unhide E3 _ q2).mono ?_; rintro e u3 ⟨rfl, q3, s3⟩)
    | (go_at_call 7; with_reducible refine (unhide E4 _ q3).mono ?_; rintro e u4 ⟨rfl, q4, s4⟩))
  clear xI xS0 xS1 xS2 xO0 xO1 xO2 xL0 xL1 xL2 xH0 xH1 xH2 E1 E2 E3 E4 q1 q2 q3 s1 s2 s3 kA
  obtain ⟨xI, xS0, xS1, xS2, xO0, xO1, xO2, xL0, xL1, xL2, xH0, xH1, xH2⟩ := s4
  go_wp2_with fail
  have kB : Hid (Below WA.heap.size WA u4.drew) := hide (unhide q4).drew
  go_region_held3 (fun w' => w'.cell? ⟨w.heap.size, 3, none⟩ = some (.int .i64 I) ∧ w'.cell? ⟨w3.heap.size, 0, none⟩ = some (.int .i64 0) ∧ w'.cell? ⟨w3.heap.size, 1, none⟩ = some (.int .i64 I) ∧ w'.cell? ⟨w3.heap.size, 2, none⟩ = some (.bool false) ∧ w'.cell? ⟨w5.heap.size, 0, none⟩ = some (.int .i64 0) ∧ w'.cell? ⟨w5.heap.size, 1, none⟩ = some (.int .i64 I) ∧ w'.cell? ⟨w5.heap.size, 2, none⟩ = some (.bool true) ∧ w'.cell? ⟨w6.heap.size, 0, none⟩ = some (.int .i64 (-1)) ∧ w'.cell? ⟨w6.heap.size, 1, none⟩ = some (.int .i64 0) ∧ w'.cell? ⟨w6.heap.size, 2, none⟩ = some (.bool false) ∧ w'.cell? ⟨w7.heap.size, 0, none⟩ = some (.int .i64 1) ∧ w'.cell? ⟨w7.heap.size, 1, none⟩ = some (.int .i64 0) ∧ w'.cell? ⟨w7.heap.size, 2, none⟩ = some (.bool false)) (go_keep) (first
    | (go_at_call 7; with_reducible refine (unhide E5 _ kB).mono ?_; rintro e z1 ⟨rfl, r1, t1⟩)
    | (go_at_call 7; with_reducible refine (unhide E6 _ r1).mono ?_; rintro e z2 ⟨rfl, r2, t2⟩)
    | (go_at_call 7; with_reducible refine (unhide E7 _ r2).mono ?_; rintro e z3 ⟨rfl, r3, t3⟩)
    | (go_at_call 7; with_reducible refine (unhide E8 _ r3).mono ?_; rintro e z4 ⟨rfl, r4, t4⟩)
    | (go_at_call 7; with_reducible refine (unhide E9 _ r4).mono ?_; rintro e z5 ⟨rfl, r5, t5⟩))
  clear xI xS0 xS1 xS2 xO0 xO1 xO2 xL0 xL1 xL2 xH0 xH1 xH2 E5 E6 E7 E8 E9 r1 r2 r3 r4 t1 t2 t3 t4 t5 kB HCS
  have h8 := hide ((unhide h7).below (unhide r5))
  have b8 := hide (chain (unhide b7) (unhide r5) (Nat.le_refl _))
  have x1 : z5.cell? ⟨w.heap.size, 1, none⟩ = some (.slice aP nP cP) := (unhide h8).cell (List.mem_cons_of_mem _ (List.mem_cons_of_mem _ (List.mem_cons_of_mem _ (List.mem_cons_of_mem _ (List.mem_cons_self ..))))) 1 _ rfl
  have x2 : z5.cell? ⟨w.heap.size, 2, none⟩ = some (.slice aT nT cT) := (unhide h8).cell (List.mem_cons_of_mem _ (List.mem_cons_of_mem _ (List.mem_cons_of_mem _ (List.mem_cons_of_mem _ (List.mem_cons_self ..))))) 2 _ rfl
  clear h1 h2 h3 h4 h5 h6 h6' h7' h7 b1 b2 b3 b4 b5 b6 b6' b7' k2 k3 k5 k6 k7 hp1 hp2 hp3 hp4 hp5
  go_wp2_with fail
  have hX : Hid (Has z5 [(w.heap.size, #[v0, .slice aP nP cP, .slice aT nT cT, .int .i64 I, .int .i64 J, v5, v6, v7, v8, v9, v10, v11, v12, v13, v14, v15, v16, v17], 28)]) := hide (fun x hx => unhide h8 x (by
    rcases List.mem_cons.1 hx with rfl | h
    · exact List.mem_cons_of_mem _ (List.mem_cons_of_mem _ (List.mem_cons_of_mem _ (List.mem_cons_of_mem _ (List.mem_cons_self ..))))
    · cases h))
  obtain ⟨c, hc⟩ : ∃ c, c = Larder.cmpL T P := ⟨_, rfl⟩
  have C8 : Hid (Calls Tryd.prog 8 #[.slice aT nT cT, .slice aP nP cP] z5 fun e w' => e = .returned (.int .i64 c) ∧ Hid (Below z5.heap.size z5 w')) := hide (by
    rw [unhide HNT, unhide HNP, hc]
    refine (cmp_any (by have := unhide HLT; omega) (by have := unhide HLP; omega) ((unhide HT).below (unhide b8)) ((unhide HP).below (unhide b8))).mono ?_
    rintro e w' ⟨rfl, h⟩
    exact ⟨rfl, hide h.below⟩)
  have HC := hide hc
  clear hc
  refine (unhide C8).mono ?_
  rintro e w9 ⟨rfl, k9⟩
  clear C8 x1 x2 h8 r5 q4 b7 y4
  have h9 := hide ((unhide hX).below (unhide k9))
  have b9 := hide (chain (unhide b8) (unhide k9) (Nat.le_refl _))
  clear hX b8 k9
  have kc10 := kc w9 #[.int .u8 91] 1 1
  have hC10 := hide ((unhide h9).below ((Below.refl _ _).alloc (Nat.le_refl _) (.cells #[.int .u8 91] 5 (1, 2))))
  have bC10 := hide ((unhide b9).alloc (unhide b9).size (.cells #[.int .u8 91] 5 (1, 2)))
  have x10 : (w9.alloc (.cells #[.int .u8 91] 5 (1, 2))).cell? ⟨w.heap.size, 1, none⟩ = some (.slice aP nP cP) := (unhide hC10).cell (List.mem_cons_self ..) 1 _ rfl
  have g10 : Hid ((w9.alloc (.cells #[.int .u8 91] 5 (1, 2))).cell? ⟨w9.heap.size, 0, none⟩ = some (.int .u8 (91 : Nat))) := hide (by
    have := heap_alloc_new w9 (.cells #[.int .u8 91] 5 (1, 2))
    rw [cell_of_row _ _ _ _ _ _ this]; rfl)
  go_wp2_with (at_builtin; refine wpList_app1 rfl _ _ rfl rfl (w9.heap.size) 91 P aP nP cP rfl rfl (unhide g10) (unhide HNP) ((unhide HP).below (unhide bC10)) (unhide HZP) (by have := unhide HLP; omega) ?_; intro a10 c10 w10 y10 z10' q10)
  have h10 := hide ((unhide hC10).below z10')
  have b10 := hide (chain (unhide bC10) z10' (Nat.le_refl _))
  have Y10 := hide y10
  have Q10 := hide q10
  clear kc10 hC10 bC10 x10 g10 z10' y10 q10
  refine (lex_is (91 :: P) P 0 false (Larder.lex_in P) a10 (P.length + 1) c10 nP w10 rfl (unhide HNP) (by have := unhide HLP; rw [List.length_cons]; omega) (small_cons (by decide) (unhide HSP)) (unhide Q10).1 (unhide Y10)).mono ?_
  rintro e w11 ⟨a11, c11, rfl, k11⟩
  have h11 := hide (((unhide h10).below (unhide k11).2).add #[.int .i64 0, .slice a11 nP c11, .bool false] 26)
  have b11 := hide ((chain (unhide b10) (unhide k11).2 (Nat.le_refl _)).alloc (Nat.le_trans (unhide b10).size (unhide k11).2.size) (.cells #[.int .i64 0, .slice a11 nP c11, .bool false] 26))
  have t11 := hide ((unhide k11).1.below ((Below.refl _ _).alloc (Nat.le_refl _) (.cells #[.int .i64 0, .slice a11 nP c11, .bool false] 26)))
  clear Y10 Q10 h10 b10
  have kc12 := kc (w11.alloc (.cells #[.int .i64 0, .slice a11 nP c11, .bool false] 26)) #[.int .u8 40] 1 1
  rw [show (w11.alloc (.cells #[.int .i64 0, .slice a11 nP c11, .bool false] 26)).heap.size = w11.heap.size + 1 by simp] at kc12
  have hC12 := hide ((unhide h11).below ((Below.refl _ _).alloc (Nat.le_refl _) (.cells #[.int .u8 40] 5 (1, 2))))
  have bC12 := hide ((unhide b11).alloc (unhide b11).size (.cells #[.int .u8 40] 5 (1, 2)))
  have x12 : ((w11.alloc (.cells #[.int .i64 0, .slice a11 nP c11, .bool false] 26)).alloc (.cells #[.int .u8 40] 5 (1, 2))).cell? ⟨w.heap.size, 1, none⟩ = some (.slice aP nP cP) := (unhide hC12).cell (List.mem_cons_of_mem _ (List.mem_cons_self ..)) 1 _ rfl
  have g12 : Hid (((w11.alloc (.cells #[.int .i64 0, .slice a11 nP c11, .bool false] 26)).alloc (.cells #[.int .u8 40] 5 (1, 2))).cell? ⟨w11.heap.size + 1, 0, none⟩ = some (.int .u8 (40 : Nat))) := hide (by
    have := heap_alloc_new (w11.alloc (.cells #[.int .i64 0, .slice a11 nP c11, .bool false] 26)) (.cells #[.int .u8 40] 5 (1, 2))
    rw [show (w11.alloc (.cells #[.int .i64 0, .slice a11 nP c11, .bool false] 26)).heap.size = w11.heap.size + 1 by simp] at this
    rw [cell_of_row _ _ _ _ _ _ this]; rfl)
  go_wp2_with (at_builtin; refine wpList_app1 rfl _ _ rfl rfl (w11.heap.size + 1) 40 P aP nP cP rfl rfl (unhide g12) (unhide HNP) ((unhide HP).below (unhide bC12)) (unhide HZP) (by have := unhide HLP; omega) ?_; intro a12 c12 w12 y12 z12' q12)
  have t12 := hide (((unhide t11).below ((Below.refl _ _).alloc (Nat.le_refl _) (.cells #[.int .u8 40] 5 (1, 2)))).below z12')
  have h12 := hide ((unhide hC12).below z12')
  have b12 := hide (chain (unhide bC12) z12' (Nat.le_refl _))
  have Y12 := hide y12
  have Q12 := hide q12
  clear kc12 hC12 bC12 x12 g12 z12' y12 q12
  refine (lex_is (40 :: P) P 0 true (Larder.lex_out P) a12 (P.length + 1) c12 nP w12 rfl (unhide HNP) (by have := unhide HLP; rw [List.length_cons]; omega) (small_cons (by decide) (unhide HSP)) (unhide Q12).1 (unhide Y12)).mono ?_
  rintro e w13 ⟨a13, c13, rfl, k13⟩
  have h13 := hide (((unhide h12).below (unhide k13).2).add #[.int .i64 0, .slice a13 nP c13, .bool true] 26)
  have b13 := hide ((chain (unhide b12) (unhide k13).2 (Nat.le_refl _)).alloc (Nat.le_trans (unhide b12).size (unhide k13).2.size) (.cells #[.int .i64 0, .slice a13 nP c13, .bool true] 26))
  have t13 := hide ((unhide k13).1.below ((Below.refl _ _).alloc (Nat.le_refl _) (.cells #[.int .i64 0, .slice a13 nP c13, .bool true] 26)))
  clear Y12 Q12 h12 b12
  have u13 := hide (((unhide t12).below (unhide k13).2).below ((Below.refl _ _).alloc (Nat.le_refl _) (.cells #[.int .i64 0, .slice a13 nP c13, .bool true] 26)))
  have kc14 := kc (w13.alloc (.cells #[.int .i64 0, .slice a13 nP c13, .bool true] 26)) #[.int .u8 45] 1 1
  have m14 := hide (lit_bytes (w13.alloc (.cells #[.int .i64 0, .slice a13 nP c13, .bool true] 26)) [45] (1, 2))
  rw [show (w13.alloc (.cells #[.int .i64 0, .slice a13 nP c13, .bool true] 26)).heap.size = w13.heap.size + 1 by simp] at kc14 m14
  go_wp2_with fail
  have h14' := hide ((unhide h13).below ((Below.refl _ _).alloc (Nat.le_refl _) (.cells #[.int .u8 45] 5 (1, 2))))
  have b14' := hide ((unhide b13).alloc (unhide b13).size (.cells #[.int .u8 45] 5 (1, 2)))
  refine (lex_is [45] [] (-1) false Larder.lex_first (some ⟨w13.heap.size + 1, 0, none⟩) 1 1 0 ((w13.alloc (.cells #[.int .i64 0, .slice a13 nP c13, .bool true] 26)).alloc (.cells #[.int .u8 45] 5 (1, 2))) rfl rfl (by decide) (small_lit _ rfl) (by decide) (unhide m14)).mono ?_
  rintro e w14 ⟨a14, c14, rfl, k14⟩
  have h14 := hide (((unhide h14').below (unhide k14).2).add #[.int .i64 (-1), .slice a14 0 c14, .bool false] 26)
  have b14 := hide ((chain (unhide b14') (unhide k14).2 (Nat.le_refl _)).alloc (Nat.le_trans (unhide b14').size (unhide k14).2.size) (.cells #[.int .i64 (-1), .slice a14 0 c14, .bool false] 26))
  have t14 := hide ((((unhide t13).below ((Below.refl _ _).alloc (Nat.le_refl _) (.cells #[.int .u8 45] 5 (1, 2)))).below (unhide k14).2).below ((Below.refl _ _).alloc (Nat.le_refl _) (.cells #[.int .i64 (-1), .slice a14 0 c14, .bool false] 26)))
  have u14 := hide ((((unhide u13).below ((Below.refl _ _).alloc (Nat.le_refl _) (.cells #[.int .u8 45] 5 (1, 2)))).below (unhide k14).2).below ((Below.refl _ _).alloc (Nat.le_refl _) (.cells #[.int .i64 (-1), .slice a14 0 c14, .bool false] 26)))
  clear kc14 m14 h14' b14' h13 b13 t13 u13
  have kc15 := kc (w14.alloc (.cells #[.int .i64 (-1), .slice a14 0 c14, .bool false] 26)) #[.int .u8 43] 1 1
  have m15 := hide (lit_bytes (w14.alloc (.cells #[.int .i64 (-1), .slice a14 0 c14, .bool false] 26)) [43] (1, 2))
  rw [show (w14.alloc (.cells #[.int .i64 (-1), .slice a14 0 c14, .bool false] 26)).heap.size = w14.heap.size + 1 by simp] at kc15 m15
  go_wp2_with fail
  have h15' := hide ((unhide h14).below ((Below.refl _ _).alloc (Nat.le_refl _) (.cells #[.int .u8 43] 5 (1, 2))))
  have b15' := hide ((unhide b14).alloc (unhide b14).size (.cells #[.int .u8 43] 5 (1, 2)))
  refine (lex_is [43] [] 1 false Larder.lex_last (some ⟨w14.heap.size + 1, 0, none⟩) 1 1 0 ((w14.alloc (.cells #[.int .i64 (-1), .slice a14 0 c14, .bool false] 26)).alloc (.cells #[.int .u8 43] 5 (1, 2))) rfl rfl (by decide) (small_lit _ rfl) (by decide) (unhide m15)).mono ?_
  rintro e w15 ⟨a15, c15, rfl, k15⟩
  have h15 := hide (((unhide h15').below (unhide k15).2).add #[.int .i64 1, .slice a15 0 c15, .bool false] 26)
  have b15 := hide ((chain (unhide b15') (unhide k15).2 (Nat.le_refl _)).alloc (Nat.le_trans (unhide b15').size (unhide k15).2.size) (.cells #[.int .i64 1, .slice a15 0 c15, .bool false] 26))
  have t15 := hide ((((unhide t14).below ((Below.refl _ _).alloc (Nat.le_refl _) (.cells #[.int .u8 43] 5 (1, 2)))).below (unhide k15).2).below ((Below.refl _ _).alloc (Nat.le_refl _) (.cells #[.int .i64 1, .slice a15 0 c15, .bool false] 26)))
  have u15 := hide ((((unhide u14).below ((Below.refl _ _).alloc (Nat.le_refl _) (.cells #[.int .u8 43] 5 (1, 2)))).below (unhide k15).2).below ((Below.refl _ _).alloc (Nat.le_refl _) (.cells #[.int .i64 1, .slice a15 0 c15, .bool false] 26)))
  clear kc15 m15 h15' b15' h14 b14 t14 u14
  have CS : ∀ W, Has W ((w15.heap.size, #[.int .i64 1, .slice a15 0 c15, .bool false], 26) :: (w14.heap.size, #[.int .i64 (-1), .slice a14 0 c14, .bool false], 26) :: (w13.heap.size, #[.int .i64 0, .slice a13 nP c13, .bool true], 26) :: (w11.heap.size, #[.int .i64 0, .slice a11 nP c11, .bool false], 26) :: [(w.heap.size, #[v0, .slice aP nP cP, .slice aT nT cT, .int .i64 I, .int .i64 J, v5, v6, v7, v8, v9, v10, v11, v12, v13, v14, v15, v16, v17], 28)]) → W.cell? ⟨w.heap.size, 2, none⟩ = some (.slice aT nT cT) ∧ W.cell? ⟨w11.heap.size, 0, none⟩ = some (.int .i64 0) ∧ W.cell? ⟨w11.heap.size, 1, none⟩ = some (.slice a11 nP c11) ∧ W.cell? ⟨w11.heap.size, 2, none⟩ = some (.bool false) ∧ W.cell? ⟨w13.heap.size, 0, none⟩ = some (.int .i64 0) ∧ W.cell? ⟨w13.heap.size, 1, none⟩ = some (.slice a13 nP c13) ∧ W.cell? ⟨w13.heap.size, 2, none⟩ = some (.bool true) ∧ W.cell? ⟨w14.heap.size, 0, none⟩ = some (.int .i64 (-1)) ∧ W.cell? ⟨w14.heap.size, 1, none⟩ = some (.slice a14 0 c14) ∧ W.cell? ⟨w14.heap.size, 2, none⟩ = some (.bool false) ∧ W.cell? ⟨w15.heap.size, 0, none⟩ = some (.int .i64 1) ∧ W.cell? ⟨w15.heap.size, 1, none⟩ = some (.slice a15 0 c15) ∧ W.cell? ⟨w15.heap.size, 2, none⟩ = some (.bool false) := fun W h => ⟨h.cell (List.mem_cons_of_mem _ (List.mem_cons_of_mem _ (List.mem_cons_of_mem _ (List.mem_cons_of_mem _ (List.mem_cons_self ..))))) 2 _ rfl, h.cell (List.mem_cons_of_mem _ (List.mem_cons_of_mem _ (List.mem_cons_of_mem _ (List.mem_cons_self ..)))) 0 _ rfl, h.cell (List.mem_cons_of_mem _ (List.mem_cons_of_mem _ (List.mem_cons_of_mem _ (List.mem_cons_self ..)))) 1 _ rfl, h.cell (List.mem_cons_of_mem _ (List.mem_cons_of_mem _ (List.mem_cons_of_mem _ (List.mem_cons_self ..)))) 2 _ rfl, h.cell (List.mem_cons_of_mem _ (List.mem_cons_of_mem _ (List.mem_cons_self ..))) 0 _ rfl, h.cell (List.mem_cons_of_mem _ (List.mem_cons_of_mem _ (List.mem_cons_self ..))) 1 _ rfl, h.cell (List.mem_cons_of_mem _ (List.mem_cons_of_mem _ (List.mem_cons_self ..))) 2 _ rfl, h.cell (List.mem_cons_of_mem _ (List.mem_cons_self ..)) 0 _ rfl, h.cell (List.mem_cons_of_mem _ (List.mem_cons_self ..)) 1 _ rfl, h.cell (List.mem_cons_of_mem _ (List.mem_cons_self ..)) 2 _ rfl, h.cell (List.mem_cons_self ..) 0 _ rfl, h.cell (List.mem_cons_self ..) 1 _ rfl, h.cell (List.mem_cons_self ..) 2 _ rfl⟩
  have HCS := hide CS
  obtain ⟨B2, N0, N1, N2, X0, X1, X2, F0, F1, F2, Z0, Z1, Z2⟩ := CS _ (unhide h15)
  clear CS
  obtain ⟨WB, hWB⟩ : ∃ WB, WB = (w15.alloc (.cells #[.int .i64 1, .slice a15 0 c15, .bool false] 26)) := ⟨_, rfl⟩
  rw [← hWB] at h15 b15 t15 u15
  have kB : Hid (Below WB.heap.size WB (w15.alloc (.cells #[.int .i64 1, .slice a15 0 c15, .bool false] 26))) := hide (by rw [hWB]; exact Below.refl _ _)
  clear hWB
  have UP : Hid (∀ W, Hid (Below WB.heap.size WB W) → Bytes W aT T ∧ Bytes W a11 P ∧ Bytes W a13 P ∧ ∀ w', Below W.heap.size W w' → Hid (Below WB.heap.size WB w') ∧ w'.cell? ⟨w.heap.size, 2, none⟩ = some (.slice aT nT cT) ∧ w'.cell? ⟨w11.heap.size, 0, none⟩ = some (.int .i64 0) ∧ w'.cell? ⟨w11.heap.size, 1, none⟩ = some (.slice a11 nP c11) ∧ w'.cell? ⟨w11.heap.size, 2, none⟩ = some (.bool false) ∧ w'.cell? ⟨w13.heap.size, 0, none⟩ = some (.int .i64 0) ∧ w'.cell? ⟨w13.heap.size, 1, none⟩ = some (.slice a13 nP c13) ∧ w'.cell? ⟨w13.heap.size, 2, none⟩ = some (.bool true) ∧ w'.cell? ⟨w14.heap.size, 0, none⟩ = some (.int .i64 (-1)) ∧ w'.cell? ⟨w14.heap.size, 1, none⟩ = some (.slice a14 0 c14) ∧ w'.cell? ⟨w14.heap.size, 2, none⟩ = some (.bool false) ∧ w'.cell? ⟨w15.heap.size, 0, none⟩ = some (.int .i64 1) ∧ w'.cell? ⟨w15.heap.size, 1, none⟩ = some (.slice a15 0 c15) ∧ w'.cell? ⟨w15.heap.size, 2, none⟩ = some (.bool false)) := hide (fun W hW => ⟨(unhide HT).below (chain (unhide b15) (unhide hW) (Nat.le_refl _)), (unhide u15).below (unhide hW), (unhide t15).below (unhide hW), fun w' hb => ⟨hide (chain (unhide hW) hb (Nat.le_refl _)), unhide HCS w' ((unhide h15).below (chain (unhide hW) hb (Nat.le_refl _)))⟩⟩)
  obtain ⟨g1, hg1⟩ : ∃ p : Bool, decide (0 ≤ c) = p := ⟨_, rfl⟩
  obtain ⟨g2, hg2⟩ : ∃ p : Bool, decide (0 < c) = p := ⟨_, rfl⟩
  obtain ⟨g3, hg3⟩ : ∃ p : Bool, decide (c ≤ 0) = p := ⟨_, rfl⟩
  obtain ⟨g4, hg4⟩ : ∃ p : Bool, decide (c < 0) = p := ⟨_, rfl⟩
  obtain ⟨g5, hg5⟩ : ∃ p : Bool, (c == 0) = p := ⟨_, rfl⟩
  have hneg : Larder.cmpL P T = -c := by rw [unhide HC]; exact Larder.cmpL_neg T P
  have e3 : decide (0 ≤ -c) = g3 := by rw [← hg3]; by_cases h : c ≤ 0 <;> simp [h] <;> omega
  have e4 : decide (0 < -c) = g4 := by rw [← hg4]; by_cases h : c < 0 <;> simp [h] <;> omega
  have e5 : (decide (0 ≤ c) && decide (0 ≤ -c)) = g5 := by
    rw [← hg5]
    by_cases h : c = 0
    · subst h; rfl
    · have h1 : (c == 0) = false := by simp [h]
      rw [h1]
      by_cases h2 : 0 ≤ c <;> by_cases h3 : 0 ≤ -c <;> simp [h2, h3] <;> omega
  have G1 : Hid (∀ W, Hid (Below WB.heap.size WB W) → Calls Tryd.prog 10 #[.agg #[.int .i64 0, .slice a11 nP c11, .bool false], .agg #[.int .i64 1, .slice a15 0 c15, .bool false], .slice aT nT cT] W fun e w' => e = .returned (.bool g1) ∧ Hid (Below WB.heap.size WB w') ∧ w'.cell? ⟨w.heap.size, 2, none⟩ = some (.slice aT nT cT) ∧ w'.cell? ⟨w11.heap.size, 0, none⟩ = some (.int .i64 0) ∧ w'.cell? ⟨w11.heap.size, 1, none⟩ = some (.slice a11 nP c11) ∧ w'.cell? ⟨w11.heap.size, 2, none⟩ = some (.bool false) ∧ w'.cell? ⟨w13.heap.size, 0, none⟩ = some (.int .i64 0) ∧ w'.cell? ⟨w13.heap.size, 1, none⟩ = some (.slice a13 nP c13) ∧ w'.cell? ⟨w13.heap.size, 2, none⟩ = some (.bool true) ∧ w'.cell? ⟨w14.heap.size, 0, none⟩ = some (.int .i64 (-1)) ∧ w'.cell? ⟨w14.heap.size, 1, none⟩ = some (.slice a14 0 c14) ∧ w'.cell? ⟨w14.heap.size, 2, none⟩ = some (.bool false) ∧ w'.cell? ⟨w15.heap.size, 0, none⟩ = some (.int .i64 1) ∧ w'.cell? ⟨w15.heap.size, 1, none⟩ = some (.slice a15 0 c15) ∧ w'.cell? ⟨w15.heap.size, 2, none⟩ = some (.bool false)) := hide (fun W hW => by
    have key := inlex_any (aL := a11) (aH := a15) (aM := aT) (cL := c11) (cH := c15) (cM := cT) (L := P) (H := []) (M := T) 0 false 1 false W (unhide HSP) (fun i hi => by cases hi) (unhide HST) (unhide UP W hW).2.1 (.inl rfl) (unhide UP W hW).1
    rw [← unhide HNT, ← unhide HNP, ← unhide HC] at key
    refine key.mono ?_
    rintro e w' ⟨rfl, hb⟩
    exact ⟨by rw [Larder.in_a, hg1], (unhide UP W hW).2.2.2 w' hb⟩)
  have G2 : Hid (∀ W, Hid (Below WB.heap.size WB W) → Calls Tryd.prog 10 #[.agg #[.int .i64 0, .slice a13 nP c13, .bool true], .agg #[.int .i64 1, .slice a15 0 c15, .bool false], .slice aT nT cT] W fun e w' => e = .returned (.bool g2) ∧ Hid (Below WB.heap.size WB w') ∧ w'.cell? ⟨w.heap.size, 2, none⟩ = some (.slice aT nT cT) ∧ w'.cell? ⟨w11.heap.size, 0, none⟩ = some (.int .i64 0) ∧ w'.cell? ⟨w11.heap.size, 1, none⟩ = some (.slice a11 nP c11) ∧ w'.cell? ⟨w11.heap.size, 2, none⟩ = some (.bool false) ∧ w'.cell? ⟨w13.heap.size, 0, none⟩ = some (.int .i64 0) ∧ w'.cell? ⟨w13.heap.size, 1, none⟩ = some (.slice a13 nP c13) ∧ w'.cell? ⟨w13.heap.size, 2, none⟩ = some (.bool true) ∧ w'.cell? ⟨w14.heap.size, 0, none⟩ = some (.int .i64 (-1)) ∧ w'.cell? ⟨w14.heap.size, 1, none⟩ = some (.slice a14 0 c14) ∧ w'.cell? ⟨w14.heap.size, 2, none⟩ = some (.bool false) ∧ w'.cell? ⟨w15.heap.size, 0, none⟩ = some (.int .i64 1) ∧ w'.cell? ⟨w15.heap.size, 1, none⟩ = some (.slice a15 0 c15) ∧ w'.cell? ⟨w15.heap.size, 2, none⟩ = some (.bool false)) := hide (fun W hW => by
    have key := inlex_any (aL := a13) (aH := a15) (aM := aT) (cL := c13) (cH := c15) (cM := cT) (L := P) (H := []) (M := T) 0 true 1 false W (unhide HSP) (fun i hi => by cases hi) (unhide HST) (unhide UP W hW).2.2.1 (.inl rfl) (unhide UP W hW).1
    rw [← unhide HNT, ← unhide HNP, ← unhide HC] at key
    refine key.mono ?_
    rintro e w' ⟨rfl, hb⟩
    exact ⟨by rw [Larder.in_b, hg2], (unhide UP W hW).2.2.2 w' hb⟩)
  have G3 : Hid (∀ W, Hid (Below WB.heap.size WB W) → Calls Tryd.prog 10 #[.agg #[.int .i64 (-1), .slice a14 0 c14, .bool false], .agg #[.int .i64 0, .slice a11 nP c11, .bool false], .slice aT nT cT] W fun e w' => e = .returned (.bool g3) ∧ Hid (Below WB.heap.size WB w') ∧ w'.cell? ⟨w.heap.size, 2, none⟩ = some (.slice aT nT cT) ∧ w'.cell? ⟨w11.heap.size, 0, none⟩ = some (.int .i64 0) ∧ w'.cell? ⟨w11.heap.size, 1, none⟩ = some (.slice a11 nP c11) ∧ w'.cell? ⟨w11.heap.size, 2, none⟩ = some (.bool false) ∧ w'.cell? ⟨w13.heap.size, 0, none⟩ = some (.int .i64 0) ∧ w'.cell? ⟨w13.heap.size, 1, none⟩ = some (.slice a13 nP c13) ∧ w'.cell? ⟨w13.heap.size, 2, none⟩ = some (.bool true) ∧ w'.cell? ⟨w14.heap.size, 0, none⟩ = some (.int .i64 (-1)) ∧ w'.cell? ⟨w14.heap.size, 1, none⟩ = some (.slice a14 0 c14) ∧ w'.cell? ⟨w14.heap.size, 2, none⟩ = some (.bool false) ∧ w'.cell? ⟨w15.heap.size, 0, none⟩ = some (.int .i64 1) ∧ w'.cell? ⟨w15.heap.size, 1, none⟩ = some (.slice a15 0 c15) ∧ w'.cell? ⟨w15.heap.size, 2, none⟩ = some (.bool false)) := hide (fun W hW => by
    have key := inlex_any (aL := a14) (aH := a11) (aM := aT) (cL := c14) (cH := c11) (cM := cT) (L := []) (H := P) (M := T) (-1) false 0 false W (fun i hi => by cases hi) (unhide HSP) (unhide HST) (.inl rfl) (unhide UP W hW).2.1 (unhide UP W hW).1
    rw [← unhide HNT, ← unhide HNP] at key
    refine key.mono ?_
    rintro e w' ⟨rfl, hb⟩
    exact ⟨by rw [Larder.in_c, hneg, e3], (unhide UP W hW).2.2.2 w' hb⟩)
  have G4 : Hid (∀ W, Hid (Below WB.heap.size WB W) → Calls Tryd.prog 10 #[.agg #[.int .i64 (-1), .slice a14 0 c14, .bool false], .agg #[.int .i64 0, .slice a13 nP c13, .bool true], .slice aT nT cT] W fun e w' => e = .returned (.bool g4) ∧ Hid (Below WB.heap.size WB w') ∧ w'.cell? ⟨w.heap.size, 2, none⟩ = some (.slice aT nT cT) ∧ w'.cell? ⟨w11.heap.size, 0, none⟩ = some (.int .i64 0) ∧ w'.cell? ⟨w11.heap.size, 1, none⟩ = some (.slice a11 nP c11) ∧ w'.cell? ⟨w11.heap.size, 2, none⟩ = some (.bool false) ∧ w'.cell? ⟨w13.heap.size, 0, none⟩ = some (.int .i64 0) ∧ w'.cell? ⟨w13.heap.size, 1, none⟩ = some (.slice a13 nP c13) ∧ w'.cell? ⟨w13.heap.size, 2, none⟩ = some (.bool true) ∧ w'.cell? ⟨w14.heap.size, 0, none⟩ = some (.int .i64 (-1)) ∧ w'.cell? ⟨w14.heap.size, 1, none⟩ = some (.slice a14 0 c14) ∧ w'.cell? ⟨w14.heap.size, 2, none⟩ = some (.bool false) ∧ w'.cell? ⟨w15.heap.size, 0, none⟩ = some (.int .i64 1) ∧ w'.cell? ⟨w15.heap.size, 1, none⟩ = some (.slice a15 0 c15) ∧ w'.cell? ⟨w15.heap.size, 2, none⟩ = some (.bool false)) := hide (fun W hW => by
    have key := inlex_any (aL := a14) (aH := a13) (aM := aT) (cL := c14) (cH := c13) (cM := cT) (L := []) (H := P) (M := T) (-1) false 0 true W (fun i hi => by cases hi) (unhide HSP) (unhide HST) (.inl rfl) (unhide UP W hW).2.2.1 (unhide UP W hW).1
    rw [← unhide HNT, ← unhide HNP] at key
    refine key.mono ?_
    rintro e w' ⟨rfl, hb⟩
    exact ⟨by rw [Larder.in_d, hneg, e4], (unhide UP W hW).2.2.2 w' hb⟩)
  have G5 : Hid (∀ W, Hid (Below WB.heap.size WB W) → Calls Tryd.prog 10 #[.agg #[.int .i64 (-1), .slice a14 0 c14, .bool false], .agg #[.int .i64 1, .slice a15 0 c15, .bool false], .slice aT nT cT] W fun e w' => e = .returned (.bool true) ∧ Hid (Below WB.heap.size WB w') ∧ w'.cell? ⟨w.heap.size, 2, none⟩ = some (.slice aT nT cT) ∧ w'.cell? ⟨w11.heap.size, 0, none⟩ = some (.int .i64 0) ∧ w'.cell? ⟨w11.heap.size, 1, none⟩ = some (.slice a11 nP c11) ∧ w'.cell? ⟨w11.heap.size, 2, none⟩ = some (.bool false) ∧ w'.cell? ⟨w13.heap.size, 0, none⟩ = some (.int .i64 0) ∧ w'.cell? ⟨w13.heap.size, 1, none⟩ = some (.slice a13 nP c13) ∧ w'.cell? ⟨w13.heap.size, 2, none⟩ = some (.bool true) ∧ w'.cell? ⟨w14.heap.size, 0, none⟩ = some (.int .i64 (-1)) ∧ w'.cell? ⟨w14.heap.size, 1, none⟩ = some (.slice a14 0 c14) ∧ w'.cell? ⟨w14.heap.size, 2, none⟩ = some (.bool false) ∧ w'.cell? ⟨w15.heap.size, 0, none⟩ = some (.int .i64 1) ∧ w'.cell? ⟨w15.heap.size, 1, none⟩ = some (.slice a15 0 c15) ∧ w'.cell? ⟨w15.heap.size, 2, none⟩ = some (.bool false)) := hide (fun W hW => by
    have key := inlex_any (aL := a14) (aH := a15) (aM := aT) (cL := c14) (cH := c15) (cM := cT) (L := []) (H := []) (M := T) (-1) false 1 false W (fun i hi => by cases hi) (fun i hi => by cases hi) (unhide HST) (.inl rfl) (.inl rfl) (unhide UP W hW).1
    rw [← unhide HNT] at key
    refine key.mono ?_
    rintro e w' ⟨rfl, hb⟩
    exact ⟨by rw [Larder.in_all], (unhide UP W hW).2.2.2 w' hb⟩)
  have G6 : Hid (∀ W, Hid (Below WB.heap.size WB W) → Calls Tryd.prog 10 #[.agg #[.int .i64 1, .slice a15 0 c15, .bool false], .agg #[.int .i64 1, .slice a15 0 c15, .bool false], .slice aT nT cT] W fun e w' => e = .returned (.bool false) ∧ Hid (Below WB.heap.size WB w') ∧ w'.cell? ⟨w.heap.size, 2, none⟩ = some (.slice aT nT cT) ∧ w'.cell? ⟨w11.heap.size, 0, none⟩ = some (.int .i64 0) ∧ w'.cell? ⟨w11.heap.size, 1, none⟩ = some (.slice a11 nP c11) ∧ w'.cell? ⟨w11.heap.size, 2, none⟩ = some (.bool false) ∧ w'.cell? ⟨w13.heap.size, 0, none⟩ = some (.int .i64 0) ∧ w'.cell? ⟨w13.heap.size, 1, none⟩ = some (.slice a13 nP c13) ∧ w'.cell? ⟨w13.heap.size, 2, none⟩ = some (.bool true) ∧ w'.cell? ⟨w14.heap.size, 0, none⟩ = some (.int .i64 (-1)) ∧ w'.cell? ⟨w14.heap.size, 1, none⟩ = some (.slice a14 0 c14) ∧ w'.cell? ⟨w14.heap.size, 2, none⟩ = some (.bool false) ∧ w'.cell? ⟨w15.heap.size, 0, none⟩ = some (.int .i64 1) ∧ w'.cell? ⟨w15.heap.size, 1, none⟩ = some (.slice a15 0 c15) ∧ w'.cell? ⟨w15.heap.size, 2, none⟩ = some (.bool false)) := hide (fun W hW => by
    have key := inlex_any (aL := a15) (aH := a15) (aM := aT) (cL := c15) (cH := c15) (cM := cT) (L := []) (H := []) (M := T) 1 false 1 false W (fun i hi => by cases hi) (fun i hi => by cases hi) (unhide HST) (.inl rfl) (.inl rfl) (unhide UP W hW).1
    rw [← unhide HNT] at key
    refine key.mono ?_
    rintro e w' ⟨rfl, hb⟩
    exact ⟨by rw [Larder.in_high], (unhide UP W hW).2.2.2 w' hb⟩)
  have G7 : Hid (∀ W, Hid (Below WB.heap.size WB W) → Calls Tryd.prog 10 #[.agg #[.int .i64 (-1), .slice a14 0 c14, .bool false], .agg #[.int .i64 (-1), .slice a14 0 c14, .bool false], .slice aT nT cT] W fun e w' => e = .returned (.bool false) ∧ Hid (Below WB.heap.size WB w') ∧ w'.cell? ⟨w.heap.size, 2, none⟩ = some (.slice aT nT cT) ∧ w'.cell? ⟨w11.heap.size, 0, none⟩ = some (.int .i64 0) ∧ w'.cell? ⟨w11.heap.size, 1, none⟩ = some (.slice a11 nP c11) ∧ w'.cell? ⟨w11.heap.size, 2, none⟩ = some (.bool false) ∧ w'.cell? ⟨w13.heap.size, 0, none⟩ = some (.int .i64 0) ∧ w'.cell? ⟨w13.heap.size, 1, none⟩ = some (.slice a13 nP c13) ∧ w'.cell? ⟨w13.heap.size, 2, none⟩ = some (.bool true) ∧ w'.cell? ⟨w14.heap.size, 0, none⟩ = some (.int .i64 (-1)) ∧ w'.cell? ⟨w14.heap.size, 1, none⟩ = some (.slice a14 0 c14) ∧ w'.cell? ⟨w14.heap.size, 2, none⟩ = some (.bool false) ∧ w'.cell? ⟨w15.heap.size, 0, none⟩ = some (.int .i64 1) ∧ w'.cell? ⟨w15.heap.size, 1, none⟩ = some (.slice a15 0 c15) ∧ w'.cell? ⟨w15.heap.size, 2, none⟩ = some (.bool false)) := hide (fun W hW => by
    have key := inlex_any (aL := a14) (aH := a14) (aM := aT) (cL := c14) (cH := c14) (cM := cT) (L := []) (H := []) (M := T) (-1) false (-1) false W (fun i hi => by cases hi) (fun i hi => by cases hi) (unhide HST) (.inl rfl) (.inl rfl) (unhide UP W hW).1
    rw [← unhide HNT] at key
    refine key.mono ?_
    rintro e w' ⟨rfl, hb⟩
    exact ⟨by rw [Larder.in_low], (unhide UP W hW).2.2.2 w' hb⟩)
  have G8 : Hid (∀ W, Hid (Below WB.heap.size WB W) → Calls Tryd.prog 10 #[.agg #[.int .i64 0, .slice a11 nP c11, .bool false], .agg #[.int .i64 0, .slice a11 nP c11, .bool false], .slice aT nT cT] W fun e w' => e = .returned (.bool g5) ∧ Hid (Below WB.heap.size WB w') ∧ w'.cell? ⟨w.heap.size, 2, none⟩ = some (.slice aT nT cT) ∧ w'.cell? ⟨w11.heap.size, 0, none⟩ = some (.int .i64 0) ∧ w'.cell? ⟨w11.heap.size, 1, none⟩ = some (.slice a11 nP c11) ∧ w'.cell? ⟨w11.heap.size, 2, none⟩ = some (.bool false) ∧ w'.cell? ⟨w13.heap.size, 0, none⟩ = some (.int .i64 0) ∧ w'.cell? ⟨w13.heap.size, 1, none⟩ = some (.slice a13 nP c13) ∧ w'.cell? ⟨w13.heap.size, 2, none⟩ = some (.bool true) ∧ w'.cell? ⟨w14.heap.size, 0, none⟩ = some (.int .i64 (-1)) ∧ w'.cell? ⟨w14.heap.size, 1, none⟩ = some (.slice a14 0 c14) ∧ w'.cell? ⟨w14.heap.size, 2, none⟩ = some (.bool false) ∧ w'.cell? ⟨w15.heap.size, 0, none⟩ = some (.int .i64 1) ∧ w'.cell? ⟨w15.heap.size, 1, none⟩ = some (.slice a15 0 c15) ∧ w'.cell? ⟨w15.heap.size, 2, none⟩ = some (.bool false)) := hide (fun W hW => by
    have key := inlex_any (aL := a11) (aH := a11) (aM := aT) (cL := c11) (cH := c11) (cM := cT) (L := P) (H := P) (M := T) 0 false 0 false W (unhide HSP) (unhide HSP) (unhide HST) (unhide UP W hW).2.1 (unhide UP W hW).2.1 (unhide UP W hW).1
    rw [← unhide HNT, ← unhide HNP, ← unhide HC] at key
    refine key.mono ?_
    rintro e w' ⟨rfl, hb⟩
    exact ⟨by rw [Larder.in_one, hneg, e5], (unhide UP W hW).2.2.2 w' hb⟩)
  have BB := b15
  clear hneg e3 e4 e5 UP HCS h15 t15 u15 k14 k15 k13 k11 b15
  go_wp2_with (first | (go_at_call 10; with_reducible refine (unhide G1 _ kB).mono ?_; rintro e o1 ⟨rfl, l1, B2a, N0a, N1a, N2a, X0a, X1a, X2a, F0a, F1a, F2a, Z0a, Z1a, Z2a⟩) | (go_at_call 10; with_reducible refine (unhide G2 _ l1).mono ?_; rintro e o2 ⟨rfl, l2, B2b, N0b, N1b, N2b, X0b, X1b, X2b, F0b, F1b, F2b, Z0b, Z1b, Z2b⟩) | (go_at_call 10; with_reducible refine (unhide G3 _ l2).mono ?_; rintro e o3 ⟨rfl, l3, B2c, N0c, N1c, N2c, X0c, X1c, X2c, F0c, F1c, F2c, Z0c, Z1c, Z2c⟩) | (go_at_call 10; with_reducible refine (unhide G4 _ l3).mono ?_; rintro e o4 ⟨rfl, l4, B2d, N0d, N1d, N2d, X0d, X1d, X2d, F0d, F1d, F2d, Z0d, Z1d, Z2d⟩) | (go_at_call 10; with_reducible refine (unhide G5 _ l4).mono ?_; rintro e o5 ⟨rfl, l5, B2e, N0e, N1e, N2e, X0e, X1e, X2e, F0e, F1e, F2e, Z0e, Z1e, Z2e⟩) | (go_at_call 10; with_reducible refine (unhide G6 _ l5).mono ?_; rintro e o6 ⟨rfl, l6, B2f, N0f, N1f, N2f, X0f, X1f, X2f, F0f, F1f, F2f, Z0f, Z1f, Z2f⟩) | (go_at_call 10; with_reducible refine (unhide G7 _ l6).mono ?_; rintro e o7 ⟨rfl, l7, B2g, N0g, N1g, N2g, X0g, X1g, X2g, F0g, F1g, F2g, Z0g, Z1g, Z2g⟩) | (go_at_call 10; with_reducible refine (unhide G8 _ l7).mono ?_; rintro e o8 ⟨rfl, l8, B2h, N0h, N1h, N2h, X0h, X1h, X2h, F0h, F1h, F2h, Z0h, Z1h, Z2h⟩))
  all_goals go_ret
  all_goals exact ⟨by simp, chain (unhide BB) (unhide l8) (Nat.le_refl _)⟩
end Go.Proofs.YtidfbelckdlbhaaDoor
