/- answers: Glob. -/
import Derived.Test.YtidfbelckdlbhabRpf
import Derived.Test.YtidfbelckdlbhabGlc
import Derived.Test.YtidfbelckdlbhabCpE
import Derived.Test.YtidfbelckdlbhabBnx
import Derived.Deep.RegionHeld
import Derived.Deep.RegionWith
namespace Go.Proofs.Ytidfbelckdlbhab
open Go.ChangeShapes Go.WideShapes Go.ChangeAt Go.RowKit
set_option linter.unusedVariables false
set_option maxRecDepth 20000
set_option maxHeartbeats 4000000

/-- in a drawn region: this one alone may come up -/
theorem one_op {P : Program} {ops : Array Oper} {Q : Exit → Act → World → Prop} {md : Region.Mode} {i : Nat} {o : Oper} {f : Nat} {l : Array Bool} {a : Act} {w : World} (hr : Region.ready md ops l = [i]) (ho : ops[i]? = some o) (hg : o.guard = none)
    (h : ∀ K : Act → World → Prop, (∀ a' w', wpAnyH P md ops Q (fun _ => True) f (l.setIfInBounds i true) a' w' → K a' w') → Oper.wp P o a w K Q) : wpAnyH P md ops Q (fun _ => True) (f + 1) l a w :=
  wpAnyH_all hr (List.cons_ne_nil _ _) fun j hj => by
    rw [List.mem_singleton.1 hj]
    refine wpOp_step ho (fun K' hK => ?_)
    rw [if_pos (by simp [Region.wanted, hg])]
    exact h K' (fun a' w' h' => hK a' w' ⟨trivial, h'⟩)
/-- too much to be asked? -/
def greatB (n k : Nat) : Bool := decide (0 < n) && decide ((25000000 : Int).tdiv (n : Int) < (k : Int))
theorem great_any (aP aT : Option Addr) (n k cP cT : Nat) (v3 v4 v5 v6 v7 v8 v9 v10 v11 v12 v13 v14 v15 v16 v17 : Value) (w : World) (hn : n ≤ 1048576) (hk : k ≤ 1048576) :
    Calls Try.prog 14 #[.agg #[.int .i64 1, .slice aP n cP, .slice aT k cT, v3, v4, v5, v6, v7, v8, v9, v10, v11, v12, v13, v14, v15, v16, v17]] w fun e w' => e = .returned (.bool (greatB n k)) ∧ Below w.heap.size w w' := by
  have HB : Hid (Below w.heap.size w (w.alloc (.cells #[.int .i64 1, .slice aP n cP, .slice aT k cT, v3, v4, v5, v6, v7, v8, v9, v10, v11, v12, v13, v14, v15, v16, v17] 34))) := hide ((Below.refl _ _).alloc (Nat.le_refl _) _)
  rcases Nat.eq_zero_or_pos n with h0 | h0
  · subst h0
    have hG : Hid (greatB 0 k = false) := hide (by simp [greatB])
    generalize greatB 0 k = G at *
    go_enter Try.func14, Try.ntmps14
    go_wp2_with fail
    refine wp_region_noPanic ?_
    go_region
    all_goals refine NoPanic.normal ?_
    all_goals go_wp2
    all_goals go_ret
    all_goals exact ⟨ret_bool (by rw [unhide hG]), (unhide HB).drew⟩
  · have d1 : decide ((0 : Int) < (n : Int)) = true := decide_eq_true (by omega)
    have z1 : ((n : Int) == 0) = false := by rw [beq_eq_false_iff_ne]; omega
    obtain ⟨q, hq⟩ : ∃ q : Int, (25000000 : Int).tdiv (n : Int) = q := ⟨_, rfl⟩
    have hG : Hid (greatB n k = decide (q < (k : Int))) := hide (by unfold greatB; rw [hq, decide_eq_true h0, Bool.true_and])
    have hq1 : 0 ≤ q := by rw [← hq]; exact Int.tdiv_nonneg (by omega) (by omega)
    have hq2 : q ≤ 25000000 := by rw [← hq]; have := Int.tdiv_le_self (a := 25000000) (n : Int) (by omega); omega
    generalize greatB n k = G at *
    go_enter Try.func14, Try.ntmps14
    go_wp2_with fail
    refine wp_region_noPanic ?_
    go_region
    all_goals refine NoPanic.normal ?_
    all_goals go_wp2
    all_goals go_ret
    all_goals exact ⟨ret_bool (by rw [unhide hG]), (unhide HB).drew⟩
theorem answers_glob {aP aT : Option Addr} {cP cT : Nat} {P T : List Nat} (v3 v4 v5 v6 v7 v8 v9 v10 v11 v12 v13 v14 v15 v16 v17 : Value) (w : World) (hP : InB w aP cP P) (hT : InB w aT cT T) (lP : P.length ≤ 1048576) (lT : T.length ≤ 1048576) :
    Calls Try.prog 9 #[.agg #[.int .i64 1, .slice aP P.length cP, .slice aT T.length cT, v3, v4, v5, v6, v7, v8, v9, v10, v11, v12, v13, v14, v15, v16, v17]] w fun e w' => e = .returned (.bool true) ∧ Below w.heap.size w w' := by
  obtain ⟨n, hn⟩ : ∃ n, n = P.length := ⟨_, rfl⟩
  obtain ⟨k, hk⟩ : ∃ k, k = T.length := ⟨_, rfl⟩
  rw [← hn, ← hk]
  obtain ⟨A, hA⟩ : ∃ A : Array Value, A = #[.int .i64 1, .slice aP n cP, .slice aT k cT, v3, v4, v5, v6, v7, v8, v9, v10, v11, v12, v13, v14, v15, v16, v17] := ⟨_, rfl⟩
  have h0 : Bx w A (w.alloc (.cells A 34)) := ⟨heap_alloc_new _ _, (Below.refl _ _).alloc (Nat.le_refl _) _⟩
  obtain ⟨bP, sP, q1, q2, q3, q4⟩ := hP
  obtain ⟨bT, sT, r1, r2, r3, r4⟩ := hT
  have kx : ∀ W : World, Bx w A W → W.cell? ⟨w.heap.size, 0, none⟩ = some (.int .i64 1) ∧ W.cell? ⟨w.heap.size, 1, none⟩ = some (.slice aP n cP) ∧ W.cell? ⟨w.heap.size, 2, none⟩ = some (.slice aT k cT) ∧ W.cell? ⟨w.heap.size, 3, none⟩ = some v3 ∧ W.cell? ⟨w.heap.size, 4, none⟩ = some v4 ∧ W.cell? ⟨w.heap.size, 5, none⟩ = some v5 ∧ W.cell? ⟨w.heap.size, 6, none⟩ = some v6 ∧ W.cell? ⟨w.heap.size, 7, none⟩ = some v7 ∧ W.cell? ⟨w.heap.size, 8, none⟩ = some v8 ∧ W.cell? ⟨w.heap.size, 9, none⟩ = some v9 ∧ W.cell? ⟨w.heap.size, 10, none⟩ = some v10 ∧ W.cell? ⟨w.heap.size, 11, none⟩ = some v11 ∧ W.cell? ⟨w.heap.size, 12, none⟩ = some v12 ∧ W.cell? ⟨w.heap.size, 13, none⟩ = some v13 ∧ W.cell? ⟨w.heap.size, 14, none⟩ = some v14 ∧ W.cell? ⟨w.heap.size, 15, none⟩ = some v15 ∧ W.cell? ⟨w.heap.size, 16, none⟩ = some v16 ∧ W.cell? ⟨w.heap.size, 17, none⟩ = some v17 := fun W h => by
    simp only [cell_of_row _ _ _ _ _ _ h.1, hA]
    exact ⟨rfl, rfl, rfl, rfl, rfl, rfl, rfl, rfl, rfl, rfl, rfl, rfl, rfl, rfl, rfl, rfl, rfl, rfl⟩
  have F0 : Hid (∀ W, Hid (Bx w A W) → Calls Try.prog 14 #[.agg #[.int .i64 1, .slice aP n cP, .slice aT k cT, v3, v4, v5, v6, v7, v8, v9, v10, v11, v12, v13, v14, v15, v16, v17]] W fun e w' => e = .returned (.bool (greatB n k)) ∧ Hid (Bx w A w') ∧ w'.cell? ⟨w.heap.size, 0, none⟩ = some (.int .i64 1) ∧ w'.cell? ⟨w.heap.size, 1, none⟩ = some (.slice aP n cP) ∧ w'.cell? ⟨w.heap.size, 2, none⟩ = some (.slice aT k cT) ∧ w'.cell? ⟨w.heap.size, 3, none⟩ = some v3 ∧ w'.cell? ⟨w.heap.size, 4, none⟩ = some v4 ∧ w'.cell? ⟨w.heap.size, 5, none⟩ = some v5 ∧ w'.cell? ⟨w.heap.size, 6, none⟩ = some v6 ∧ w'.cell? ⟨w.heap.size, 7, none⟩ = some v7 ∧ w'.cell? ⟨w.heap.size, 8, none⟩ = some v8 ∧ w'.cell? ⟨w.heap.size, 9, none⟩ = some v9 ∧ w'.cell? ⟨w.heap.size, 10, none⟩ = some v10 ∧ w'.cell? ⟨w.heap.size, 11, none⟩ = some v11 ∧ w'.cell? ⟨w.heap.size, 12, none⟩ = some v12 ∧ w'.cell? ⟨w.heap.size, 13, none⟩ = some v13 ∧ w'.cell? ⟨w.heap.size, 14, none⟩ = some v14 ∧ w'.cell? ⟨w.heap.size, 15, none⟩ = some v15 ∧ w'.cell? ⟨w.heap.size, 16, none⟩ = some v16 ∧ w'.cell? ⟨w.heap.size, 17, none⟩ = some v17) := hide (fun W hW => (great_any aP aT n k cP cT v3 v4 v5 v6 v7 v8 v9 v10 v11 v12 v13 v14 v15 v16 v17 W (by omega) (by omega)).mono (fun e w' ⟨g1, g2⟩ => ⟨g1, hide ((unhide hW).next g2), kx w' ((unhide hW).next g2)⟩))
  have F1 : Hid (∀ W, Hid (Bx w A W) → Calls Try.prog 15 #[.slice aP n cP] W fun e w' => ∃ a' c', e = .returned (.slice a' n c') ∧ Hid (Bx w A w' ∧ Bytes w' a' P) ∧ w'.cell? ⟨w.heap.size, 0, none⟩ = some (.int .i64 1) ∧ w'.cell? ⟨w.heap.size, 1, none⟩ = some (.slice aP n cP) ∧ w'.cell? ⟨w.heap.size, 2, none⟩ = some (.slice aT k cT) ∧ w'.cell? ⟨w.heap.size, 3, none⟩ = some v3 ∧ w'.cell? ⟨w.heap.size, 4, none⟩ = some v4 ∧ w'.cell? ⟨w.heap.size, 5, none⟩ = some v5 ∧ w'.cell? ⟨w.heap.size, 6, none⟩ = some v6 ∧ w'.cell? ⟨w.heap.size, 7, none⟩ = some v7 ∧ w'.cell? ⟨w.heap.size, 8, none⟩ = some v8 ∧ w'.cell? ⟨w.heap.size, 9, none⟩ = some v9 ∧ w'.cell? ⟨w.heap.size, 10, none⟩ = some v10 ∧ w'.cell? ⟨w.heap.size, 11, none⟩ = some v11 ∧ w'.cell? ⟨w.heap.size, 12, none⟩ = some v12 ∧ w'.cell? ⟨w.heap.size, 13, none⟩ = some v13 ∧ w'.cell? ⟨w.heap.size, 14, none⟩ = some v14 ∧ w'.cell? ⟨w.heap.size, 15, none⟩ = some v15 ∧ w'.cell? ⟨w.heap.size, 16, none⟩ = some v16 ∧ w'.cell? ⟨w.heap.size, 17, none⟩ = some v17) := hide (fun W hW => by
    have h := twin_any aP cP P (by omega) (bP.below (unhide hW).2) q4
    rw [← hn] at h
    exact h.mono (fun e w' ⟨a', c', g1, g2, g3, g4, g5⟩ => by
      rw [← hn] at g1
      exact ⟨a', c', g1, hide ⟨(unhide hW).next g5, g2⟩, kx w' ((unhide hW).next g5)⟩))
  have F2 : Hid (∀ W a1, Hid (Bx w A W ∧ Bytes W a1 P) → Calls Try.prog 15 #[.slice aT k cT] W fun e w' => ∃ a' c', e = .returned (.slice a' k c') ∧ Hid (Bx w A w' ∧ Bytes w' a1 P ∧ Bytes w' a' T) ∧ w'.cell? ⟨w.heap.size, 0, none⟩ = some (.int .i64 1) ∧ w'.cell? ⟨w.heap.size, 1, none⟩ = some (.slice aP n cP) ∧ w'.cell? ⟨w.heap.size, 2, none⟩ = some (.slice aT k cT) ∧ w'.cell? ⟨w.heap.size, 3, none⟩ = some v3 ∧ w'.cell? ⟨w.heap.size, 4, none⟩ = some v4 ∧ w'.cell? ⟨w.heap.size, 5, none⟩ = some v5 ∧ w'.cell? ⟨w.heap.size, 6, none⟩ = some v6 ∧ w'.cell? ⟨w.heap.size, 7, none⟩ = some v7 ∧ w'.cell? ⟨w.heap.size, 8, none⟩ = some v8 ∧ w'.cell? ⟨w.heap.size, 9, none⟩ = some v9 ∧ w'.cell? ⟨w.heap.size, 10, none⟩ = some v10 ∧ w'.cell? ⟨w.heap.size, 11, none⟩ = some v11 ∧ w'.cell? ⟨w.heap.size, 12, none⟩ = some v12 ∧ w'.cell? ⟨w.heap.size, 13, none⟩ = some v13 ∧ w'.cell? ⟨w.heap.size, 14, none⟩ = some v14 ∧ w'.cell? ⟨w.heap.size, 15, none⟩ = some v15 ∧ w'.cell? ⟨w.heap.size, 16, none⟩ = some v16 ∧ w'.cell? ⟨w.heap.size, 17, none⟩ = some v17) := hide (fun W a1 hW => by
    have h := twin_any aT cT T (by omega) (bT.below (unhide hW).1.2) r4
    rw [← hk] at h
    exact h.mono (fun e w' ⟨a', c', g1, g2, g3, g4, g5⟩ => by
      rw [← hk] at g1
      exact ⟨a', c', g1, hide ⟨(unhide hW).1.next g5, (unhide hW).2.below g5, g2⟩, kx w' ((unhide hW).1.next g5)⟩))
  obtain ⟨R, hR⟩ : ∃ R : Bool, (R = true ↔ Larder.Meets (Larder.parse P) T) := by
    classical
    exact ⟨decide (Larder.Meets (Larder.parse P) T), decide_eq_true_iff⟩
  have be : ∀ r : Bool, (r = true ↔ Larder.Meets (Larder.parse P) T) → r = R := fun r hr => by
    cases r <;> cases R <;> simp_all
  have F3 : Hid (∀ W a1 c1 a2 c2, Hid (Bx w A W ∧ Bytes W a1 P ∧ Bytes W a2 T) → Calls Try.prog 13 #[.slice a1 n c1, .slice a2 k c2] W fun e w' => e = .returned (.bool R) ∧ Hid (Bx w A w') ∧ w'.cell? ⟨w.heap.size, 0, none⟩ = some (.int .i64 1) ∧ w'.cell? ⟨w.heap.size, 1, none⟩ = some (.slice aP n cP) ∧ w'.cell? ⟨w.heap.size, 2, none⟩ = some (.slice aT k cT) ∧ w'.cell? ⟨w.heap.size, 3, none⟩ = some v3 ∧ w'.cell? ⟨w.heap.size, 4, none⟩ = some v4 ∧ w'.cell? ⟨w.heap.size, 5, none⟩ = some v5 ∧ w'.cell? ⟨w.heap.size, 6, none⟩ = some v6 ∧ w'.cell? ⟨w.heap.size, 7, none⟩ = some v7 ∧ w'.cell? ⟨w.heap.size, 8, none⟩ = some v8 ∧ w'.cell? ⟨w.heap.size, 9, none⟩ = some v9 ∧ w'.cell? ⟨w.heap.size, 10, none⟩ = some v10 ∧ w'.cell? ⟨w.heap.size, 11, none⟩ = some v11 ∧ w'.cell? ⟨w.heap.size, 12, none⟩ = some v12 ∧ w'.cell? ⟨w.heap.size, 13, none⟩ = some v13 ∧ w'.cell? ⟨w.heap.size, 14, none⟩ = some v14 ∧ w'.cell? ⟨w.heap.size, 15, none⟩ = some v15 ∧ w'.cell? ⟨w.heap.size, 16, none⟩ = some v16 ∧ w'.cell? ⟨w.heap.size, 17, none⟩ = some v17) := hide (fun W a1 c1 a2 c2 hW => by
    have h := glob_any a1 a2 c1 c2 W P T (by omega) (by omega) sP sT (unhide hW).2.1 (unhide hW).2.2
    rw [← hn, ← hk] at h
    refine h.mono ?_
    rintro e w' ⟨r, rfl, g1, g2⟩
    exact ⟨by rw [be r g1], hide ((unhide hW).1.next g2), kx w' ((unhide hW).1.next g2)⟩)
  have F4 : Hid (∀ W, Hid (Bx w A W) → Calls Try.prog 16 #[.slice aP n cP, .slice aT k cT] W fun e w' => e = .returned (.bool R) ∧ Hid (Bx w A w') ∧ w'.cell? ⟨w.heap.size, 0, none⟩ = some (.int .i64 1) ∧ w'.cell? ⟨w.heap.size, 1, none⟩ = some (.slice aP n cP) ∧ w'.cell? ⟨w.heap.size, 2, none⟩ = some (.slice aT k cT) ∧ w'.cell? ⟨w.heap.size, 3, none⟩ = some v3 ∧ w'.cell? ⟨w.heap.size, 4, none⟩ = some v4 ∧ w'.cell? ⟨w.heap.size, 5, none⟩ = some v5 ∧ w'.cell? ⟨w.heap.size, 6, none⟩ = some v6 ∧ w'.cell? ⟨w.heap.size, 7, none⟩ = some v7 ∧ w'.cell? ⟨w.heap.size, 8, none⟩ = some v8 ∧ w'.cell? ⟨w.heap.size, 9, none⟩ = some v9 ∧ w'.cell? ⟨w.heap.size, 10, none⟩ = some v10 ∧ w'.cell? ⟨w.heap.size, 11, none⟩ = some v11 ∧ w'.cell? ⟨w.heap.size, 12, none⟩ = some v12 ∧ w'.cell? ⟨w.heap.size, 13, none⟩ = some v13 ∧ w'.cell? ⟨w.heap.size, 14, none⟩ = some v14 ∧ w'.cell? ⟨w.heap.size, 15, none⟩ = some v15 ∧ w'.cell? ⟨w.heap.size, 16, none⟩ = some v16 ∧ w'.cell? ⟨w.heap.size, 17, none⟩ = some v17) := hide (fun W hW => by
    have h := rglob_any aP aT cP cT W P T (by omega) (by omega) sP sT (bP.below (unhide hW).2) (bT.below (unhide hW).2)
    rw [← hn, ← hk] at h
    refine h.mono ?_
    rintro e w' ⟨r, rfl, g1, g2⟩
    exact ⟨by rw [be r g1], hide ((unhide hW).next g2), kx w' ((unhide hW).next g2)⟩)
  have HD := hide h0.drew
  have KX := hide (kx _ h0)
  clear h0 kx bP sP q1 q2 q3 q4 bT sT r1 r2 r3 r4 hn hk be hR
  subst hA
  generalize greatB n k = G at *
  cases G with
  | true =>
    have hu : undef = Value.tuple #[] := rfl
    go_enter Try.func9, Try.ntmps9
    go_wp2_with fail
    refine wp_region_noPanic ?_
    refine wp_region_held (S := fun _ => True) (by kernel_rfl) ?_
    refine one_op (i := 0) (by kernel_rfl) rfl rfl (fun K hK => ?_)
    refine wp_load_row 34 _ rfl w.heap.size rfl 34 _ (0, 0) _ (unhide HD).1 Try.underlying34 rfl (by kernel_rfl) ?_
    refine hK _ _ ?_
    clear hK K
    try simp only [Act.put, List.getElem_toArray, List.getElem_cons_zero, List.setIfInBounds_toArray, List.set_cons_zero, List.set_cons_succ]
    refine one_op (i := 1) (by kernel_rfl) rfl rfl (fun K hK => ?_)
    go_simp
    refine (unhide F0 _ HD).mono ?_
    rintro e w4 ⟨rfl, g4, x0⟩
    refine hK _ _ ?_
    clear hK K
    try simp only [Act.put, List.getElem_toArray, List.getElem_cons_succ, List.getElem_cons_zero, List.setIfInBounds_toArray, List.set_cons_zero, List.set_cons_succ]
    refine one_op (i := 2) (by kernel_rfl) rfl rfl (fun K hK => ?_)
    go_simp
    refine hK _ _ ?_
    clear hK K
    try simp only [Act.put, List.getElem_toArray, List.getElem_cons_succ, List.getElem_cons_zero, List.setIfInBounds_toArray, List.set_cons_zero, List.set_cons_succ]
    refine wpAnyH_take (i := 3) (v := undef) rfl (by kernel_rfl) (by kernel_rfl) (by kernel_rfl) (fun _ _ _ h => h) (.inr ⟨by rfl, rfl⟩) trivial ?_
    try simp only [Act.put, List.getElem_toArray, List.getElem_cons_succ, List.getElem_cons_zero, List.setIfInBounds_toArray, List.set_cons_zero, List.set_cons_succ]
    refine wpAnyH_take (i := 4) (v := undef) rfl (by kernel_rfl) (by kernel_rfl) (by kernel_rfl) (fun _ _ _ h => h) (.inr ⟨by rfl, rfl⟩) trivial ?_
    try simp only [Act.put, List.getElem_toArray, List.getElem_cons_succ, List.getElem_cons_zero, List.setIfInBounds_toArray, List.set_cons_zero, List.set_cons_succ]
    refine wpAnyH_take (i := 5) (v := undef) rfl (by kernel_rfl) (by kernel_rfl) (by kernel_rfl) (fun _ _ _ h => h) (.inr ⟨by rfl, rfl⟩) trivial ?_
    try simp only [Act.put, List.getElem_toArray, List.getElem_cons_succ, List.getElem_cons_zero, List.setIfInBounds_toArray, List.set_cons_zero, List.set_cons_succ]
    refine wpAnyH_take (i := 6) (v := undef) rfl (by kernel_rfl) (by kernel_rfl) (by kernel_rfl) (fun _ _ _ h => h) (.inr ⟨by rfl, rfl⟩) trivial ?_
    try simp only [Act.put, List.getElem_toArray, List.getElem_cons_succ, List.getElem_cons_zero, List.setIfInBounds_toArray, List.set_cons_zero, List.set_cons_succ]
    refine wpAnyH_take (i := 7) (v := undef) rfl (by kernel_rfl) (by kernel_rfl) (by kernel_rfl) (fun _ _ _ h => h) (.inr ⟨by rfl, rfl⟩) trivial ?_
    try simp only [Act.put, List.getElem_toArray, List.getElem_cons_succ, List.getElem_cons_zero, List.setIfInBounds_toArray, List.set_cons_zero, List.set_cons_succ]
    refine wpAnyH_take (i := 8) (v := undef) rfl (by kernel_rfl) (by kernel_rfl) (by kernel_rfl) (fun _ _ _ h => h) (.inr ⟨by rfl, rfl⟩) trivial ?_
    try simp only [Act.put, List.getElem_toArray, List.getElem_cons_succ, List.getElem_cons_zero, List.setIfInBounds_toArray, List.set_cons_zero, List.set_cons_succ]
    refine wpAnyH_take (i := 9) (v := undef) rfl (by kernel_rfl) (by kernel_rfl) (by kernel_rfl) (fun _ _ _ h => h) (.inr ⟨by rfl, rfl⟩) trivial ?_
    try simp only [Act.put, List.getElem_toArray, List.getElem_cons_succ, List.getElem_cons_zero, List.setIfInBounds_toArray, List.set_cons_zero, List.set_cons_succ]
    refine wpAnyH_take (i := 10) (v := undef) rfl (by kernel_rfl) (by kernel_rfl) (by kernel_rfl) (fun _ _ _ h => h) (.inr ⟨by rfl, rfl⟩) trivial ?_
    try simp only [Act.put, List.getElem_toArray, List.getElem_cons_succ, List.getElem_cons_zero, List.setIfInBounds_toArray, List.set_cons_zero, List.set_cons_succ]
    refine wpAnyH_take (i := 11) (v := undef) rfl (by kernel_rfl) (by kernel_rfl) (by kernel_rfl) (fun _ _ _ h => h) (.inr ⟨by rfl, rfl⟩) trivial ?_
    try simp only [Act.put, List.getElem_toArray, List.getElem_cons_succ, List.getElem_cons_zero, List.setIfInBounds_toArray, List.set_cons_zero, List.set_cons_succ]
    refine wpAnyH_take (i := 12) (v := undef) rfl (by kernel_rfl) (by kernel_rfl) (by kernel_rfl) (fun _ _ _ h => h) (.inr ⟨by rfl, rfl⟩) trivial ?_
    try simp only [Act.put, List.getElem_toArray, List.getElem_cons_succ, List.getElem_cons_zero, List.setIfInBounds_toArray, List.set_cons_zero, List.set_cons_succ]
    refine wpAnyH_take (i := 13) (v := undef) rfl (by kernel_rfl) (by kernel_rfl) (by kernel_rfl) (fun _ _ _ h => h) (.inr ⟨by rfl, rfl⟩) trivial ?_
    try simp only [Act.put, List.getElem_toArray, List.getElem_cons_succ, List.getElem_cons_zero, List.setIfInBounds_toArray, List.set_cons_zero, List.set_cons_succ]
    refine wpAnyH_take (i := 14) (v := undef) rfl (by kernel_rfl) (by kernel_rfl) (by kernel_rfl) (fun _ _ _ h => h) (.inr ⟨by rfl, rfl⟩) trivial ?_
    try simp only [Act.put, List.getElem_toArray, List.getElem_cons_succ, List.getElem_cons_zero, List.setIfInBounds_toArray, List.set_cons_zero, List.set_cons_succ]
    refine wpAnyH_take (i := 15) (v := undef) rfl (by kernel_rfl) (by kernel_rfl) (by kernel_rfl) (fun _ _ _ h => h) (.inr ⟨by rfl, rfl⟩) trivial ?_
    try simp only [Act.put, List.getElem_toArray, List.getElem_cons_succ, List.getElem_cons_zero, List.setIfInBounds_toArray, List.set_cons_zero, List.set_cons_succ]
    refine one_op (i := 16) (by kernel_rfl) rfl rfl (fun K hK => ?_)
    go_simp
    refine hK _ _ ?_
    clear hK K
    try simp only [Act.put, List.getElem_toArray, List.getElem_cons_succ, List.getElem_cons_zero, List.setIfInBounds_toArray, List.set_cons_zero, List.set_cons_succ]
    refine one_op (i := 17) (by kernel_rfl) rfl rfl (fun K hK => ?_)
    go_simp
    refine hK _ _ ?_
    clear hK K
    try simp only [Act.put, List.getElem_toArray, List.getElem_cons_succ, List.getElem_cons_zero, List.setIfInBounds_toArray, List.set_cons_zero, List.set_cons_succ]
    refine wpAnyH_done (by kernel_rfl) ?_ _
    refine NoPanic.normal ?_
    go_wp2
    go_ret
    exact ⟨rfl, (unhide g4).2⟩
  | false =>
    go_enter Try.func9, Try.ntmps9
    go_wp2_with fail
    go_region_held3 (fun w' => w'.cell? ⟨w.heap.size, 0, none⟩ = some (.int .i64 1) ∧ w'.cell? ⟨w.heap.size, 1, none⟩ = some (.slice aP n cP) ∧ w'.cell? ⟨w.heap.size, 2, none⟩ = some (.slice aT k cT) ∧ w'.cell? ⟨w.heap.size, 3, none⟩ = some v3 ∧ w'.cell? ⟨w.heap.size, 4, none⟩ = some v4 ∧ w'.cell? ⟨w.heap.size, 5, none⟩ = some v5 ∧ w'.cell? ⟨w.heap.size, 6, none⟩ = some v6 ∧ w'.cell? ⟨w.heap.size, 7, none⟩ = some v7 ∧ w'.cell? ⟨w.heap.size, 8, none⟩ = some v8 ∧ w'.cell? ⟨w.heap.size, 9, none⟩ = some v9 ∧ w'.cell? ⟨w.heap.size, 10, none⟩ = some v10 ∧ w'.cell? ⟨w.heap.size, 11, none⟩ = some v11 ∧ w'.cell? ⟨w.heap.size, 12, none⟩ = some v12 ∧ w'.cell? ⟨w.heap.size, 13, none⟩ = some v13 ∧ w'.cell? ⟨w.heap.size, 14, none⟩ = some v14 ∧ w'.cell? ⟨w.heap.size, 15, none⟩ = some v15 ∧ w'.cell? ⟨w.heap.size, 16, none⟩ = some v16 ∧ w'.cell? ⟨w.heap.size, 17, none⟩ = some v17) (go_keep) (first
    | (go_at_call 14; refine (unhide F0 _ HD).mono ?_; rintro e w4 ⟨rfl, g4, x0⟩)
    | (go_at_call 15; with_reducible refine (unhide F1 _ g4).mono ?_; rintro e w5 ⟨a1, c1, rfl, g5, x1⟩)
    | (go_at_call 15; with_reducible refine (unhide F2 _ a1 g5).mono ?_; rintro e w6 ⟨a2, c2, rfl, g6, x2⟩)
    | (go_at_call 13; with_reducible refine (unhide F3 _ a1 c1 a2 c2 g6).mono ?_; rintro e w7 ⟨rfl, g7, x3⟩)
    | (go_at_call 16; with_reducible refine (unhide F4 _ g7).mono ?_; rintro e w8 ⟨rfl, g8, x4⟩))
    all_goals go_wp2
    all_goals go_ret
    all_goals exact ⟨ret_bool (by simp), (unhide g8).2⟩
end Go.Proofs.Ytidfbelckdlbhab
