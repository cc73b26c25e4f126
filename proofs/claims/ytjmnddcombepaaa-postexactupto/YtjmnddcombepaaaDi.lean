/- The document's Sorted. -/
import Derived.Test.YtjmnddcombepaaaDh
namespace Go.Proofs.Ytjmnddcombepaaa
open Go.ChangeShapes Go.WideShapes Go.ChangeAt Go.RowKit Go.Maps
set_option linter.unusedVariables false
set_option linter.unusedSimpArgs false
set_option maxRecDepth 100000
set_option maxHeartbeats 8000000
/-- what Sorted answers -/
def SrEnd (w : World) (l : List (List Nat)) (e : Ending) (w' : World) : Prop := ∃ a' cap', e = .returned (.slice a' l.length cap') ∧ Hid (∃ m, m.Perm l ∧ m.Pairwise (fun x y => x ≤ y) ∧ BL w' a' m ∧ Below w.heap.size w w')
theorem BL.take {w : World} {a : Option Addr} {l : List (List Nat)} (h : BL w a l) (k : Nat) : BL w a (l.take k) := by
  rcases h with h | ⟨b, off, e, hl, hc⟩
  · exact .inl (by rw [h, List.take_nil])
  · refine .inr ⟨b, off, e, hl, fun i T hi => hc i T ?_⟩
    rw [List.getElem?_take] at hi
    split at hi
    · exact hi
    · cases hi
theorem BL.drop {w : World} {b off : Nat} {l : List (List Nat)} (h : BL w (some ⟨b, off, none⟩) l) (k : Nat) : BL w (some ⟨b, off + k, none⟩) (l.drop k) := by
  rcases h with h | ⟨b', off', e, hl, hc⟩
  · exact .inl (by rw [h, List.drop_nil])
  · cases e
    refine .inr ⟨_, _, rfl, hl, fun i T hi => ?_⟩
    rw [List.getElem?_drop] at hi
    have := hc _ T hi
    rwa [← Nat.add_assoc] at this
/-- the merged list so far: in new memory, each of its texts from before -/
def OutS (w2 W : World) (v : Value) (M : List (List Nat)) : Prop := Nw w2 W v ∧ ∃ f, Rws W 23 1 v M.length f ∧ ∀ t T, M[t]? = some T → ∃ ai ci, f t = .slice ai T.length ci ∧ Bytes w2 ai T
theorem OutS.push {w2 W' : World} {v' : Value} {M : List (List Nat)} {f : Nat → Value} {m c : Nat} {T : List Nat} {ai : Option Addr} (hm : m = M.length) (N : Nw w2 W' v') (hf : ∀ t T, M[t]? = some T → ∃ ai ci, f t = .slice ai T.length ci ∧ Bytes w2 ai T) (hB : Bytes w2 ai T)
    (h5 : Rws W' 23 1 v' (m + 1) (fun k => if k < m * 1 then f k else [Value.slice ai T.length c].getD (k - m * 1) undef)) : OutS w2 W' v' (M ++ [T]) := by
  subst hm
  refine ⟨N, _, by rw [List.length_append]; exact h5, fun t U hU => ?_⟩
  rcases Nat.lt_or_ge t M.length with ht | ht
  · rw [List.getElem?_append_left ht] at hU
    simp only [Nat.mul_one, if_pos ht]
    exact hf t U hU
  · rw [List.getElem?_append_right ht] at hU
    have h0 : t - M.length = 0 := by
      have := (List.getElem?_eq_some_iff.1 hU).1
      simp at this; omega
    rw [h0] at hU
    cases hU
    simp only [Nat.mul_one, if_neg (Nat.not_lt.2 ht), h0]
    exact ⟨ai, c, rfl, hB⟩
theorem OutS.done {w2 W : World} {a : Option Addr} {n c : Nat} {M : List (List Nat)} (h : OutS w2 W (.slice a n c) M) : BL W a M := by
  obtain ⟨N, f, hr, hf⟩ := h
  rcases hr with ⟨e, e0⟩ | ⟨g, cap, cur, e, hg, h1, h2, h3, h4⟩
  · exact .inl (List.length_eq_zero_iff.1 e0)
  · cases e
    refine .inr ⟨g, 0, rfl, blk_lt hg, fun t T hT => ?_⟩
    obtain ⟨ai, ci, q1, q2⟩ := hf t T hT
    have ht := (List.getElem?_eq_some_iff.1 hT).1
    exact ⟨ai, ci, by rw [cell_blk hg, Nat.zero_add, h4 t (by omega), q1], q2.below' N.bel⟩
/-- a list's entry, later -/
theorem BL.at {w W : World} {a : Option Addr} {l : List (List Nat)} {i : Nat} {T : List Nat} (h : BL w a l) (hT : l[i]? = some T) (hb : Below w.heap.size w W) : ∃ b off ai ci, a = some ⟨b, off, none⟩ ∧ b < w.heap.size ∧ W.cell? ⟨b, off + i, none⟩ = some (.slice ai T.length ci) ∧ Bytes w ai T := by
  rcases h with h | ⟨b, off, e, hl, hc⟩
  · rw [h] at hT; cases hT
  · obtain ⟨ai, ci, q1, q2⟩ := hc i T hT
    exact ⟨b, off, ai, ci, e, hl, (hb.cell (p := ⟨b, off + i, none⟩) hl).trans q1, q2⟩
theorem dsorted_any : ∀ (k : Nat) (w : World) (a : Option Addr) (cap : Nat) (l : List (List Nat)), l.length = k → k ≤ 500000 → (∀ T ∈ l, T.length ≤ 140737488355328) → BL w a l → k ≤ cap →
    Calls Try.prog 75 #[.slice a l.length cap] w fun e w' => SrEnd w l e w' := by
  intro k
  induction k using Nat.strongRecOn with
  | ind k ih =>
    intro w a cap l hk hk5 hT hB hcap
    by_cases h2 : k < 2
    · have C := dcopies_any w a cap l (by omega) hT hB
      have HS : Hid (l.Pairwise (fun x y => x ≤ y)) := hide (by
        match l, hk with
        | [], _ => exact List.Pairwise.nil
        | [x], _ => exact List.pairwise_singleton _ _
        | x :: y :: r, hk => simp at hk; omega)
      have f1 : decide ((l.length : Int) < 2) = true := decide_eq_true (by omega)
      have f2 : decide (l.length < 2) = true := decide_eq_true (by omega)
      clear ih hT hB h2 hk5 hk hcap
      unfold SrEnd
      go_enter Try.func75, Try.ntmps75
      go_wp2_with (go_at_call 91; refine C.mono ?_; clear C; rintro e w1 ⟨rfl, H1⟩)
      go_ret
      exact ⟨_, _, rfl, hide ⟨l, List.Perm.refl _, unhide HS, (unhide H1).1, (unhide H1).2⟩⟩
    · obtain ⟨b, off, rfl⟩ : ∃ b off, a = some ⟨b, off, none⟩ := by
        rcases hB with h | ⟨b, off, e, -⟩
        · rw [h] at hk; simp at hk; omega
        · exact ⟨b, off, e⟩
      obtain ⟨h, hh⟩ : ∃ h, h = k / 2 := ⟨_, rfl⟩
      have e1 : (l.take h).length = h := by rw [List.length_take]; omega
      have e2 : (l.drop h).length = k - h := by rw [List.length_drop]; omega
      have CA := ih h (by omega) w (some ⟨b, off, none⟩) cap (l.take h) e1 (by omega) (fun T hT' => hT T (List.mem_of_mem_take hT')) (hB.take _) (by omega)
      have CB := fun w' (hb : Below w.heap.size w w') => ih (k - h) (by omega) w' (some ⟨b, off + h, none⟩) (cap - h) (l.drop h) e2 (by omega) (fun T hT' => hT T (List.mem_of_mem_drop hT')) ((hB.below hb).drop _) (by omega)
      rw [e1] at CA
      rw [e2] at CB
      have CB := hide CB
      rw [hk]
      have f1 : decide ((k : Int) < 2) = false := decide_eq_false (by omega)
      have f2 : decide (k < 2) = false := decide_eq_false (by omega)
      have g1 : h ≤ cap := by omega
      have g2 : h ≤ k := by omega
      have g3 : cap - h ≠ 0 := by omega
      have g4 : ¬ cap = h := by omega
      have g5 : (0 : Int) ≤ (h : Int) := by omega
      have g6 : (h : Int) ≤ (cap : Int) := by omega
      have g7 : (h : Int) ≤ (k : Int) := by omega
      have q1 : (k : Int).tdiv 2 = (h : Int) := by rw [Int.tdiv_eq_ediv_of_nonneg (by omega)]; omega
      have q2 : IntKind.i64.wrap (h : Int) = (h : Int) := by rw [IntKind.wrap_i64]; omega
      obtain ⟨i0, hi0, hz0, hz1, hz2⟩ := info_parts4 info23
      obtain ⟨g, hg⟩ : ∃ g, g = k - h := ⟨_, rfl⟩
      have HG : Hid (k - h = g) := hide hg.symm
      clear hg
      have m1 := fun w' : World => run_make (P := Try.prog) w' 115 23 i0 _ Try.underlying115 hi0 hz0 .i64 .i64 0 (k : Int) (by omega) (by omega) (by rw [hz2]; omega) (by omega)
      have m1 := fun w' => (m1 w').trans (by rw [hz1, Nat.mul_one, Int.toNat_natCast])
      clear ih hh
      go_enter Try.func75, Try.ntmps75
      go_wp2_with (first | (go_at_call 75; refine CA.mono ?_; clear CA; rintro e w1 ⟨a1, c1, rfl, H1⟩; obtain ⟨A, HA⟩ := unhide H1; have HA := hide HA; clear H1) | (go_at_call 75; (with_reducible refine (unhide CB w1 (unhide HA).2.2.2).mono ?_); clear CB; rintro e w2 ⟨a2, c2, rfl, H2⟩; obtain ⟨B, HB⟩ := unhide H2; have HB := hide HB; clear H2))
      rw [unhide HG]
      have HA2 : Hid (BL w2 a1 A) := hide ((unhide HA).2.2.1.below (unhide HB).2.2.2)
      have HL1 : Hid (A.length = h) := hide (by have := (unhide HA).1.length_eq; omega)
      have HL2 : Hid (B.length = g) := hide (by have := (unhide HB).1.length_eq; have := unhide HG; omega)
      have HT1 : Hid (∀ T ∈ A, T.length ≤ 140737488355328) := hide (fun T hT' => hT T (List.mem_of_mem_take ((unhide HA).1.mem_iff.1 hT')))
      have HT2 : Hid (∀ T ∈ B, T.length ≤ 140737488355328) := hide (fun T hT' => hT T (List.mem_of_mem_drop ((unhide HB).1.mem_iff.1 hT')))
      have hgk : h + g ≤ 500000 := by have := unhide HG; omega
      clear f1 f2 g1 g3 g4 g5 g6 g7 q1 q2 m1 hT hB e1 e2
      go_loopw [5, 6, 7] (fun ov iv jv wr => ∃ (i j m : Nat) (a' : Option Addr) (c' : Nat) (M : List (List Nat)), ov = .slice a' m c' ∧ iv = .int .i64 ((i : Nat) : Int) ∧ jv = .int .i64 ((j : Nat) : Int) ∧ i ≤ h ∧ j ≤ g ∧ m = i + j ∧ Hid (m = M.length ∧ OutS w2 wr (.slice a' m c') M) ∧ Hid (Mg A B M i j)) (fun _ iv jv _ => (h + g) - ((intOf iv).toNat + (intOf jv).toNat))
      case atStart =>
        refine ⟨0, 0, 0, _, _, [], rfl, rfl, rfl, Nat.zero_le _, Nat.zero_le _, rfl, hide ⟨rfl, ⟨⟨(Below.refl _ _).alloc (Nat.le_refl _) _, fun g' hg' => ?_⟩, fun _ => undef, .inr ⟨_, _, _, rfl, heap_alloc_new _ _, Nat.zero_le _, by unfold maxLen; omega, by simp [madeCells], fun k hk => by simp at hk⟩, fun t T hT => by simp at hT⟩⟩, hide (Mg.nil A B)⟩
        cases hg'
        exact Nat.le_refl _
      case round =>
        obtain ⟨i, j, m, a', c', M, rfl, rfl, rfl, hi, hj, hmm, HS, HM⟩ := hrel
        obtain ⟨f, HML, HNW, HR, HF⟩ : ∃ f, Hid (m = M.length) ∧ Hid (Nw w2 wr (.slice a' m c')) ∧ Hid (Rws wr 23 1 (.slice a' m c') m f) ∧ Hid (∀ t T, M[t]? = some T → ∃ ai ci, f t = .slice ai T.length ci ∧ Bytes w2 ai T) := by
          obtain ⟨e, q1, f, q2, q3⟩ := unhide HS
          exact ⟨f, hide e, hide q1, hide (by rw [← e] at q2; exact q2), hide q3⟩
        have hbe := hide (unhide HNW).bel
        have r1 : (0 : Int) ≤ (i : Int) := by omega
        have r2 : (0 : Int) ≤ (j : Int) := by omega
        have HMM := hide hmm
        have hm5 : m ≤ 500000 := by omega
        clear HS hmm
        by_cases hi1 : i < h
        · obtain ⟨T, hT⟩ : ∃ T, A[i]? = some T := ⟨_, List.getElem?_eq_getElem (by have := unhide HL1; omega)⟩
          obtain ⟨b1, o1, ai, ci, rfl, b1l, u1, u1B⟩ := (unhide HA2).at hT (unhide hbe)
          have b1w : b1 < wr.heap.size := Nat.lt_of_lt_of_le b1l (unhide hbe).size
          have r3 : (i : Int) < (h : Int) := by omega
          have HT := hide hT
          have HBa := hide u1B
          have p1 : decide ((i : Int) < (h : Int)) = true := decide_eq_true (by omega)
          have p1' : decide (i < h) = true := decide_eq_true (by omega)
          by_cases hj1 : j < g
          · obtain ⟨U, hU⟩ : ∃ U, B[j]? = some U := ⟨_, List.getElem?_eq_getElem (by have := unhide HL2; omega)⟩
            obtain ⟨b2, o2, bi, di, rfl, b2l, u2, u2B⟩ := (unhide HB).2.2.1.at hU (unhide hbe)
            have b2w : b2 < wr.heap.size := Nat.lt_of_lt_of_le b2l (unhide hbe).size
            have r4 : (j : Int) < (g : Int) := by omega
            have HU := hide hU
            have C76 := fun W (hb : Below wr.heap.size wr W) => dcmp_any W (ai) (bi) T.length U.length ci di T U ((u1B.below' (unhide hbe)).below' hb) ((u2B.below' (unhide hbe)).below' hb) rfl rfl ((unhide HT1) T (List.mem_of_getElem? hT)) ((unhide HT2) U (List.mem_of_getElem? hU))
            have HBb := hide u2B
            have C76 := hide C76
            have p2 : decide ((j : Int) < (g : Int)) = true := decide_eq_true (by omega)
            have p2' : decide (j < g) = true := decide_eq_true (by omega)
            have p3 : ((j : Int) == (g : Int)) = false := by simp; omega
            have p3' : (j == g) = false := by simp; omega
            have p3'' : decide ((j : Int) = (g : Int)) = false := decide_eq_false (by omega)
            clear hT hU u1B u2B
            by_cases hc : cmpL T U ≤ 0
            · have p4 : decide (cmpL T U ≤ 0) = true := decide_eq_true hc
              have HBY := HBa
              have HLE : Hid (∀ y, B[j]? = some y → T ≤ y) := hide (fun y hy => by rw [unhide HU] at hy; cases hy; exact (cmpN_le T _).1 hc)
              clear hc
              go_wp2_with fail
              go_region_held3 (fun W => W.cell? ⟨b1, o1 + i, none⟩ = some (.slice ai T.length ci) ∧ W.cell? ⟨b2, o2 + j, none⟩ = some (.slice bi U.length di)) (first | exact ⟨u3, u4⟩ | go_keep) (first | (go_at_call 76; (with_reducible refine (unhide C76 _ ((Below.refl _ _).drew)).mono ?_); clear C76; rintro e w3 ⟨rfl, H3⟩; have HK := hide (((Below.refl wr.heap.size wr).drew).trans (unhide H3)); clear H3; have u3 := ((unhide HK).cell (p := ⟨b1, o1 + i, none⟩) b1w).trans u1; have u4 := ((unhide HK).cell (p := ⟨b2, o2 + j, none⟩) b2w).trans u2; have HAL := hide ((unhide HK).alloc (unhide HK).size (.cells #[.slice ai T.length ci] 23))))
              go_wp2_with (first | (at_builtin; refine append_rws rfl _ _ 115 rfl 23 i0 _ 1 24 Try.underlying115 hi0 hz0 hz1 hz2 rfl 23 (.slice a' m c') m f rfl ((unhide HR).below (unhide HAL)) (.inl rfl) w3.heap.size 1 rfl [.slice ai T.length ci] (by decide) rfl (made_cells w3 [.slice ai T.length ci] 23) (by simp [Value.oneCell']) (by omega) (by omega) ?_; intro v5 w5 h5 k5; obtain ⟨a5, c5, rfl⟩ := h5.shape; have S5 := hide (OutS.push (T := T) (unhide HML) (((unhide HNW).on (unhide HAL)).ga (.inr k5)) (unhide HF) (unhide HBY) h5); clear h5 k5; go_frame))
              exact ⟨⟨i + 1, j, m + 1, a5, c5, M ++ [T], rfl, congrArg (Value.int .i64) (by omega), rfl, by omega, by omega, (by have := unhide HMM; omega), hide ⟨by rw [List.length_append, ← unhide HML]; rfl, unhide S5⟩, hide ((unhide HM).left (unhide HA).2.1 (unhide HB).2.1 (unhide HT) (unhide HLE))⟩, by simp [intOf]; omega⟩
            · have p4 : decide (cmpL T U ≤ 0) = false := decide_eq_false hc
              have HBY := HBb
              have HLE : Hid (∀ y, A[i]? = some y → U ≤ y) := hide (fun y hy => by rw [unhide HT] at hy; cases hy; rcases List.le_total U T with q | q; exact q; exact absurd ((cmpN_le T U).2 q) hc)
              clear hc
              go_wp2_with fail
              go_region_held3 (fun W => W.cell? ⟨b1, o1 + i, none⟩ = some (.slice ai T.length ci) ∧ W.cell? ⟨b2, o2 + j, none⟩ = some (.slice bi U.length di)) (first | exact ⟨u3, u4⟩ | go_keep) (first | (go_at_call 76; (with_reducible refine (unhide C76 _ ((Below.refl _ _).drew)).mono ?_); clear C76; rintro e w3 ⟨rfl, H3⟩; have HK := hide (((Below.refl wr.heap.size wr).drew).trans (unhide H3)); clear H3; have u3 := ((unhide HK).cell (p := ⟨b1, o1 + i, none⟩) b1w).trans u1; have u4 := ((unhide HK).cell (p := ⟨b2, o2 + j, none⟩) b2w).trans u2; have HAL := hide ((unhide HK).alloc (unhide HK).size (.cells #[.slice bi U.length di] 23))))
              go_wp2_with (first | (at_builtin; refine append_rws rfl _ _ 115 rfl 23 i0 _ 1 24 Try.underlying115 hi0 hz0 hz1 hz2 rfl 23 (.slice a' m c') m f rfl ((unhide HR).below (unhide HAL)) (.inl rfl) w3.heap.size 1 rfl [.slice bi U.length di] (by decide) rfl (made_cells w3 [.slice bi U.length di] 23) (by simp [Value.oneCell']) (by omega) (by omega) ?_; intro v5 w5 h5 k5; obtain ⟨a5, c5, rfl⟩ := h5.shape; have S5 := hide (OutS.push (T := U) (unhide HML) (((unhide HNW).on (unhide HAL)).ga (.inr k5)) (unhide HF) (unhide HBY) h5); clear h5 k5; go_frame))
              exact ⟨⟨i, j + 1, m + 1, a5, c5, M ++ [U], rfl, rfl, congrArg (Value.int .i64) (by omega), by omega, by omega, (by have := unhide HMM; omega), hide ⟨by rw [List.length_append, ← unhide HML]; rfl, unhide S5⟩, hide ((unhide HM).right (unhide HA).2.1 (unhide HB).2.1 (unhide HU) (unhide HLE))⟩, by simp [intOf]; omega⟩
          · obtain rfl : j = g := by omega
            have p2 : decide ((j : Int) < (j : Int)) = false := decide_eq_false (by omega)
            have p2' : decide (j < j) = false := decide_eq_false (by omega)
            have p3 : ((j : Int) == (j : Int)) = true := beq_self_eq_true _
            have p3a : (j == j) = true := beq_self_eq_true _
            have p3b : decide ((j : Int) = (j : Int)) = true := decide_eq_true rfl
            have HBY := HBa
            have HLE : Hid (∀ y, B[j]? = some y → T ≤ y) := hide (fun y hy => by have := (List.getElem?_eq_some_iff.1 hy).1; have := unhide HL2; omega)
            have HAL := hide ((Below.refl wr.heap.size wr).alloc (Nat.le_refl _) (.cells #[.slice ai T.length ci] 23)).drew
            clear hT u1B
            go_wp2_with fail
            refine wp_region_noPanic ?_
            go_region
            refine NoPanic.normal ?_
            skip
            go_wp2_with (first | (at_builtin; refine append_rws rfl _ _ 115 rfl 23 i0 _ 1 24 Try.underlying115 hi0 hz0 hz1 hz2 rfl 23 (.slice a' m c') m f rfl ((unhide HR).below (unhide HAL)) (.inl rfl) wr.heap.size 1 rfl [.slice ai T.length ci] (by decide) rfl (made_cells wr [.slice ai T.length ci] 23) (by simp [Value.oneCell']) (by omega) (by omega) ?_; intro v5 w5 h5 k5; obtain ⟨a5, c5, rfl⟩ := h5.shape; have S5 := hide (OutS.push (T := T) (unhide HML) (((unhide HNW).on (unhide HAL)).ga (.inr k5)) (unhide HF) (unhide HBY) h5); clear h5 k5; go_frame))
            exact ⟨⟨i + 1, j, m + 1, a5, c5, M ++ [T], rfl, congrArg (Value.int .i64) (by omega), rfl, by omega, by omega, (by have := unhide HMM; omega), hide ⟨by rw [List.length_append, ← unhide HML]; rfl, unhide S5⟩, hide ((unhide HM).left (unhide HA).2.1 (unhide HB).2.1 (unhide HT) (unhide HLE))⟩, by simp [intOf]; omega⟩
        · obtain rfl : i = h := by omega
          have p1 : decide ((i : Int) < (i : Int)) = false := decide_eq_false (by omega)
          have p1' : decide (i < i) = false := decide_eq_false (by omega)
          by_cases hj1 : j < g
          · obtain ⟨U, hU⟩ : ∃ U, B[j]? = some U := ⟨_, List.getElem?_eq_getElem (by have := unhide HL2; omega)⟩
            obtain ⟨b2, o2, bi, di, rfl, b2l, u2, u2B⟩ := (unhide HB).2.2.1.at hU (unhide hbe)
            have r4 : (j : Int) < (g : Int) := by omega
            have HU := hide hU
            have HBY := hide u2B
            have p2 : decide ((j : Int) < (g : Int)) = true := decide_eq_true (by omega)
            have p2' : decide (j < g) = true := decide_eq_true (by omega)
            have p3 : ((j : Int) == (g : Int)) = false := by simp; omega
            have p3' : (j == g) = false := by simp; omega
            have p3'' : decide ((j : Int) = (g : Int)) = false := decide_eq_false (by omega)
            have HLE : Hid (∀ y, A[i]? = some y → U ≤ y) := hide (fun y hy => by have := (List.getElem?_eq_some_iff.1 hy).1; have := unhide HL1; omega)
            have HAL := hide ((Below.refl wr.heap.size wr).alloc (Nat.le_refl _) (.cells #[.slice bi U.length di] 23)).drew
            clear hU u2B
            go_wp2_with fail
            refine wp_region_noPanic ?_
            go_region
            refine NoPanic.normal ?_
            skip
            go_wp2_with (first | (at_builtin; refine append_rws rfl _ _ 115 rfl 23 i0 _ 1 24 Try.underlying115 hi0 hz0 hz1 hz2 rfl 23 (.slice a' m c') m f rfl ((unhide HR).below (unhide HAL)) (.inl rfl) wr.heap.size 1 rfl [.slice bi U.length di] (by decide) rfl (made_cells wr [.slice bi U.length di] 23) (by simp [Value.oneCell']) (by omega) (by omega) ?_; intro v5 w5 h5 k5; obtain ⟨a5, c5, rfl⟩ := h5.shape; have S5 := hide (OutS.push (T := U) (unhide HML) (((unhide HNW).on (unhide HAL)).ga (.inr k5)) (unhide HF) (unhide HBY) h5); clear h5 k5; go_frame))
            exact ⟨⟨i, j + 1, m + 1, a5, c5, M ++ [U], rfl, rfl, congrArg (Value.int .i64) (by omega), by omega, by omega, (by have := unhide HMM; omega), hide ⟨by rw [List.length_append, ← unhide HML]; rfl, unhide S5⟩, hide ((unhide HM).right (unhide HA).2.1 (unhide HB).2.1 (unhide HU) (unhide HLE))⟩, by simp [intOf]; omega⟩
          · obtain rfl : j = g := by omega
            have p2 : decide ((j : Int) < (j : Int)) = false := decide_eq_false (by omega)
            have p2' : decide (j < j) = false := decide_eq_false (by omega)
            have p3 : ((j : Int) == (j : Int)) = true := beq_self_eq_true _
            have p3a : (j == j) = true := beq_self_eq_true _
            have p3b : decide ((j : Int) = (j : Int)) = true := decide_eq_true rfl
            go_wp2_with fail
            unfold SrEnd
            go_ret
            have e : m = l.length := by have := unhide HG; have := unhide HMM; omega
            have hd := (unhide HM)
            rw [← unhide HL1, ← unhide HL2] at hd
            refine ⟨a', c', by first | (rw [hk]; rfl) | (rw [e]; rfl) | rfl, hide ⟨M, hd.done.1.trans (((unhide HA).1.append (unhide HB).1).trans (by rw [List.take_append_drop])), hd.done.2, OutS.done ⟨unhide HNW, f, by rw [← unhide HML]; exact unhide HR, unhide HF⟩, ?_⟩⟩
            exact ((unhide HA).2.2.2.trans ((unhide HB).2.2.2.mono (unhide HA).2.2.2.size)).trans ((unhide hbe).mono (Nat.le_trans (unhide HA).2.2.2.size (unhide HB).2.2.2.size))
end Go.Proofs.Ytjmnddcombepaaa
