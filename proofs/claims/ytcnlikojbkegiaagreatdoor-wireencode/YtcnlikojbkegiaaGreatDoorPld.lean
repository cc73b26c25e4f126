/- The document's plain: the rest. -/
import Derived.Test.YtcnlikojbkegiaaGreatDoorPlc
namespace Go.Proofs.YtcnlikojbkegiaaGreatDoor
open Go.ChangeShapes Go.WideShapes Go.ChangeAt Go.RowKit
set_option linter.unusedVariables false
set_option linter.unusedSimpArgs false
set_option maxRecDepth 20000
set_option maxHeartbeats 4000000
theorem plain_good3 (w : World) (n : Int) (ta la : Option Addr) (tn tc lc : Nat) (ht : tn = 0) : Calls Tryz.prog 49 #[.agg #[.int .i64 3, .int .i64 n, .slice ta tn tc, .slice la 0 lc]] w fun e w' => e = .returned (.bool true) ∧ Below w.heap.size w w' := by
  subst ht
  by_cases hn : n = 0
  · subst hn
    try have f0 : decide (n = 0) = true := decide_eq_true (by omega)
    try have f0 : decide (n = 0) = false := decide_eq_false (by omega)
    try have f1 : decide ((0 : Int) < (tn : Int)) = true := decide_eq_true (by omega)
    try have f1 : decide ((0 : Int) < (tn : Int)) = false := decide_eq_false (by omega)
    try have f2 : decide (0 < tn) = true := decide_eq_true (by omega)
    try have f2 : decide (0 < tn) = false := decide_eq_false (by omega)
    try have f3 : decide ((4096 : Int) < (tn : Int)) = true := decide_eq_true (by omega)
    try have f3 : decide ((4096 : Int) < (tn : Int)) = false := decide_eq_false (by omega)
    try have f4 : decide (4096 < tn) = true := decide_eq_true (by omega)
    try have f4 : decide (4096 < tn) = false := decide_eq_false (by omega)
    go_enter Tryz.func49, Tryz.ntmps49
    go_wp2
    go_loopw [6] (fun iv wr => iv = .int .i64 0 ∧ Hid (wr = w.alloc (.cells #[.int .i64 3, .int .i64 0, .slice ta 0 tc, .slice la 0 lc] 31))) (fun _ _ => 0)
    case atStart => exact ⟨rfl, hide rfl⟩
    case round =>
      obtain ⟨rfl, hw⟩ := hrel
      obtain rfl := (unhide hw).symm
      clear hw
      go_wp2
      go_loopw [7] (fun iv wr => iv = .int .i64 0 ∧ Hid (wr = w.alloc (.cells #[.int .i64 3, .int .i64 0, .slice ta 0 tc, .slice la 0 lc] 31))) (fun _ _ => 0)
      case atStart => exact ⟨rfl, hide rfl⟩
      case round =>
        obtain ⟨rfl, hw⟩ := hrel
        obtain rfl := (unhide hw).symm
        clear hw
        go_wp2
        go_ret
        exact ⟨rfl, (Below.refl _ _).alloc (Nat.le_refl _) _⟩
  · skip
    try have f0 : decide (n = 0) = true := decide_eq_true (by omega)
    try have f0 : decide (n = 0) = false := decide_eq_false (by omega)
    try have f1 : decide ((0 : Int) < (tn : Int)) = true := decide_eq_true (by omega)
    try have f1 : decide ((0 : Int) < (tn : Int)) = false := decide_eq_false (by omega)
    try have f2 : decide (0 < tn) = true := decide_eq_true (by omega)
    try have f2 : decide (0 < tn) = false := decide_eq_false (by omega)
    try have f3 : decide ((4096 : Int) < (tn : Int)) = true := decide_eq_true (by omega)
    try have f3 : decide ((4096 : Int) < (tn : Int)) = false := decide_eq_false (by omega)
    try have f4 : decide (4096 < tn) = true := decide_eq_true (by omega)
    try have f4 : decide (4096 < tn) = false := decide_eq_false (by omega)
    go_enter Tryz.func49, Tryz.ntmps49
    go_wp2
    go_loopw [6] (fun iv wr => iv = .int .i64 0 ∧ Hid (wr = w.alloc (.cells #[.int .i64 3, .int .i64 n, .slice ta 0 tc, .slice la 0 lc] 31))) (fun _ _ => 0)
    case atStart => exact ⟨rfl, hide rfl⟩
    case round =>
      obtain ⟨rfl, hw⟩ := hrel
      obtain rfl := (unhide hw).symm
      clear hw
      go_wp2
      go_loopw [7] (fun iv wr => iv = .int .i64 0 ∧ Hid (wr = w.alloc (.cells #[.int .i64 3, .int .i64 n, .slice ta 0 tc, .slice la 0 lc] 31))) (fun _ _ => 0)
      case atStart => exact ⟨rfl, hide rfl⟩
      case round =>
        obtain ⟨rfl, hw⟩ := hrel
        obtain rfl := (unhide hw).symm
        clear hw
        go_wp2
        go_ret
        exact ⟨rfl, (Below.refl _ _).alloc (Nat.le_refl _) _⟩
theorem plain_good4 (w : World) (n : Int) (ta la : Option Addr) (tn tc lc : Nat) (hn : n = 0) (h4 : tn ≤ 4096) : Calls Tryz.prog 49 #[.agg #[.int .i64 4, .int .i64 n, .slice ta tn tc, .slice la 0 lc]] w fun e w' => e = .returned (.bool true) ∧ Below w.heap.size w w' := by
  subst hn
  by_cases ht : tn = 0
  · subst ht
    try have f0 : decide (n = 0) = true := decide_eq_true (by omega)
    try have f0 : decide (n = 0) = false := decide_eq_false (by omega)
    try have f1 : decide ((0 : Int) < (tn : Int)) = true := decide_eq_true (by omega)
    try have f1 : decide ((0 : Int) < (tn : Int)) = false := decide_eq_false (by omega)
    try have f2 : decide (0 < tn) = true := decide_eq_true (by omega)
    try have f2 : decide (0 < tn) = false := decide_eq_false (by omega)
    try have f3 : decide ((4096 : Int) < (tn : Int)) = true := decide_eq_true (by omega)
    try have f3 : decide ((4096 : Int) < (tn : Int)) = false := decide_eq_false (by omega)
    try have f4 : decide (4096 < tn) = true := decide_eq_true (by omega)
    try have f4 : decide (4096 < tn) = false := decide_eq_false (by omega)
    go_enter Tryz.func49, Tryz.ntmps49
    go_wp2
    go_loopw [6] (fun iv wr => iv = .int .i64 0 ∧ Hid (wr = w.alloc (.cells #[.int .i64 4, .int .i64 0, .slice ta 0 tc, .slice la 0 lc] 31))) (fun _ _ => 0)
    case atStart => exact ⟨rfl, hide rfl⟩
    case round =>
      obtain ⟨rfl, hw⟩ := hrel
      obtain rfl := (unhide hw).symm
      clear hw
      go_wp2
      go_loopw [7] (fun iv wr => iv = .int .i64 0 ∧ Hid (wr = w.alloc (.cells #[.int .i64 4, .int .i64 0, .slice ta 0 tc, .slice la 0 lc] 31))) (fun _ _ => 0)
      case atStart => exact ⟨rfl, hide rfl⟩
      case round =>
        obtain ⟨rfl, hw⟩ := hrel
        obtain rfl := (unhide hw).symm
        clear hw
        go_wp2
        go_ret
        exact ⟨rfl, (Below.refl _ _).alloc (Nat.le_refl _) _⟩
  · skip
    try have f0 : decide (n = 0) = true := decide_eq_true (by omega)
    try have f0 : decide (n = 0) = false := decide_eq_false (by omega)
    try have f1 : decide ((0 : Int) < (tn : Int)) = true := decide_eq_true (by omega)
    try have f1 : decide ((0 : Int) < (tn : Int)) = false := decide_eq_false (by omega)
    try have f2 : decide (0 < tn) = true := decide_eq_true (by omega)
    try have f2 : decide (0 < tn) = false := decide_eq_false (by omega)
    try have f3 : decide ((4096 : Int) < (tn : Int)) = true := decide_eq_true (by omega)
    try have f3 : decide ((4096 : Int) < (tn : Int)) = false := decide_eq_false (by omega)
    try have f4 : decide (4096 < tn) = true := decide_eq_true (by omega)
    try have f4 : decide (4096 < tn) = false := decide_eq_false (by omega)
    go_enter Tryz.func49, Tryz.ntmps49
    go_wp2
    go_loopw [6] (fun iv wr => iv = .int .i64 0 ∧ Hid (wr = w.alloc (.cells #[.int .i64 4, .int .i64 0, .slice ta tn tc, .slice la 0 lc] 31))) (fun _ _ => 0)
    case atStart => exact ⟨rfl, hide rfl⟩
    case round =>
      obtain ⟨rfl, hw⟩ := hrel
      obtain rfl := (unhide hw).symm
      clear hw
      go_wp2
      go_loopw [7] (fun iv wr => iv = .int .i64 0 ∧ Hid (wr = w.alloc (.cells #[.int .i64 4, .int .i64 0, .slice ta tn tc, .slice la 0 lc] 31))) (fun _ _ => 0)
      case atStart => exact ⟨rfl, hide rfl⟩
      case round =>
        obtain ⟨rfl, hw⟩ := hrel
        obtain rfl := (unhide hw).symm
        clear hw
        go_wp2
        go_ret
        exact ⟨rfl, (Below.refl _ _).alloc (Nat.le_refl _) _⟩
theorem plain_good5 (w : World) (n : Int) (ta la : Option Addr) (tn tc lc : Nat) (hn : n = 0) (ht : tn = 0) : Calls Tryz.prog 49 #[.agg #[.int .i64 5, .int .i64 n, .slice ta tn tc, .slice la 0 lc]] w fun e w' => e = .returned (.bool true) ∧ Below w.heap.size w w' := by
  subst hn
  subst ht
  try have f0 : decide (n = 0) = true := decide_eq_true (by omega)
  try have f0 : decide (n = 0) = false := decide_eq_false (by omega)
  try have f1 : decide ((0 : Int) < (tn : Int)) = true := decide_eq_true (by omega)
  try have f1 : decide ((0 : Int) < (tn : Int)) = false := decide_eq_false (by omega)
  try have f2 : decide (0 < tn) = true := decide_eq_true (by omega)
  try have f2 : decide (0 < tn) = false := decide_eq_false (by omega)
  try have f3 : decide ((4096 : Int) < (tn : Int)) = true := decide_eq_true (by omega)
  try have f3 : decide ((4096 : Int) < (tn : Int)) = false := decide_eq_false (by omega)
  try have f4 : decide (4096 < tn) = true := decide_eq_true (by omega)
  try have f4 : decide (4096 < tn) = false := decide_eq_false (by omega)
  go_enter Tryz.func49, Tryz.ntmps49
  go_wp2
  go_loopw [6] (fun iv wr => iv = .int .i64 0 ∧ Hid (wr = w.alloc (.cells #[.int .i64 5, .int .i64 0, .slice ta 0 tc, .slice la 0 lc] 31))) (fun _ _ => 0)
  case atStart => exact ⟨rfl, hide rfl⟩
  case round =>
    obtain ⟨rfl, hw⟩ := hrel
    obtain rfl := (unhide hw).symm
    clear hw
    go_wp2
    go_loopw [7] (fun iv wr => iv = .int .i64 0 ∧ Hid (wr = w.alloc (.cells #[.int .i64 5, .int .i64 0, .slice ta 0 tc, .slice la 0 lc] 31))) (fun _ _ => 0)
    case atStart => exact ⟨rfl, hide rfl⟩
    case round =>
      obtain ⟨rfl, hw⟩ := hrel
      obtain rfl := (unhide hw).symm
      clear hw
      go_wp2
      go_ret
      exact ⟨rfl, (Below.refl _ _).alloc (Nat.le_refl _) _⟩
theorem plain_good7 (w : World) (n : Int) (ta la : Option Addr) (tn tc lc : Nat) (hn : n = 0) (ht : tn = 0) : Calls Tryz.prog 49 #[.agg #[.int .i64 7, .int .i64 n, .slice ta tn tc, .slice la 0 lc]] w fun e w' => e = .returned (.bool true) ∧ Below w.heap.size w w' := by
  subst hn
  subst ht
  try have f0 : decide (n = 0) = true := decide_eq_true (by omega)
  try have f0 : decide (n = 0) = false := decide_eq_false (by omega)
  try have f1 : decide ((0 : Int) < (tn : Int)) = true := decide_eq_true (by omega)
  try have f1 : decide ((0 : Int) < (tn : Int)) = false := decide_eq_false (by omega)
  try have f2 : decide (0 < tn) = true := decide_eq_true (by omega)
  try have f2 : decide (0 < tn) = false := decide_eq_false (by omega)
  try have f3 : decide ((4096 : Int) < (tn : Int)) = true := decide_eq_true (by omega)
  try have f3 : decide ((4096 : Int) < (tn : Int)) = false := decide_eq_false (by omega)
  try have f4 : decide (4096 < tn) = true := decide_eq_true (by omega)
  try have f4 : decide (4096 < tn) = false := decide_eq_false (by omega)
  go_enter Tryz.func49, Tryz.ntmps49
  go_wp2
  go_loopw [6] (fun iv wr => iv = .int .i64 0 ∧ Hid (wr = w.alloc (.cells #[.int .i64 7, .int .i64 0, .slice ta 0 tc, .slice la 0 lc] 31))) (fun _ _ => 0)
  case atStart => exact ⟨rfl, hide rfl⟩
  case round =>
    obtain ⟨rfl, hw⟩ := hrel
    obtain rfl := (unhide hw).symm
    clear hw
    go_wp2
    go_loopw [7] (fun iv wr => iv = .int .i64 0 ∧ Hid (wr = w.alloc (.cells #[.int .i64 7, .int .i64 0, .slice ta 0 tc, .slice la 0 lc] 31))) (fun _ _ => 0)
    case atStart => exact ⟨rfl, hide rfl⟩
    case round =>
      obtain ⟨rfl, hw⟩ := hrel
      obtain rfl := (unhide hw).symm
      clear hw
      go_wp2
      go_ret
      exact ⟨rfl, (Below.refl _ _).alloc (Nat.le_refl _) _⟩
theorem plain_list (d : Nat) (IH : ∀ (w : World) (x : Tr d) (v0 v1 v2 v3 : Value), RpAt w d x v0 v1 v2 v3 → Calls Tryz.prog 49 #[.agg #[v0, v1, v2, v3]] w fun e w' => e = .returned (.bool (plainB d x)) ∧ Below w.heap.size w w')
    (w : World) (ta la : Option Addr) (tc ln lc : Nat) (l : List (Tr d)) (hn : ln = l.length) (h6 : ln ≤ 65536) (hA : RlAt w d la l) :
    Calls Tryz.prog 49 #[.agg #[.int .i64 6, .int .i64 0, .slice ta 0 tc, .slice la ln lc]] w fun e w' => e = .returned (.bool (l.all (plainB d))) ∧ Below w.heap.size w w' := by
  obtain ⟨R, hR⟩ : ∃ R, R = l.all (plainB d) := ⟨_, rfl⟩
  rw [← hR]
  have HR := hide hR
  have HI := hide IH
  have HA := hide hA
  have HN := hide hn
  clear hR IH hA hn
  have f2b : decide ((65536 : Int) < (ln : Int)) = false := decide_eq_false (by omega)
  have f2c : decide (65536 < ln) = false := decide_eq_false (by omega)
  have B0 : Hid (∀ o, Below (w.heap.size + 1) (w.alloc o) (w.alloc o)) := hide (fun o => Below.refl _ _)
  have key : ∀ b1 : Bool, decide (0 < ln) = b1 → decide ((0 : Int) < (ln : Int)) = b1 → Calls Tryz.prog 49 #[.agg #[.int .i64 6, .int .i64 0, .slice ta 0 tc, .slice la ln lc]] w fun e w' => e = .returned (.bool R) ∧ Below w.heap.size w w' := by
    intro b1 k1 k2
    cases b1
    all_goals go_enter Tryz.func49, Tryz.ntmps49
    all_goals go_wp2
    all_goals go_loopw [6] (fun iv wr => iv = .int .i64 0 ∧ Hid (wr = w.alloc (.cells #[.int .i64 6, .int .i64 0, .slice ta 0 tc, .slice la ln lc] 31))) (fun _ _ => 0)
    all_goals first
      | exact ⟨rfl, hide rfl⟩
      | skip
    all_goals
      obtain ⟨rfl, hw⟩ := hrel
      obtain rfl := (unhide hw).symm
      clear hw
      go_wp2
      go_loopw [7] (fun iv wr => ∃ j : Nat, iv = .int .i64 (j : Nat) ∧ j ≤ ln ∧ Hid ((l.take j).all (plainB d) = true) ∧ Hid (Below (w.heap.size + 1) (w.alloc (.cells #[.int .i64 6, .int .i64 0, .slice ta 0 tc, .slice la ln lc] 31)) wr)) (fun iv _ => ln - (intOf iv).toNat)
      case atStart => exact ⟨0, rfl, Nat.zero_le _, hide (by simp), hide (unhide B0 _)⟩
      case round =>
        obtain ⟨j, rfl, hj, hall, p⟩ := hrel
        have cl : wr.cell? ⟨w.heap.size, 3, none⟩ = some (.slice la ln lc) := by
          rw [(unhide p).cell (Nat.lt_succ_self _), cell_of_row _ _ _ _ _ _ (heap_alloc_new w _)]; rfl
        have bw : Hid (Below w.heap.size w wr) := hide (((Below.refl w.heap.size w).alloc (Nat.le_refl _) _).trans ((unhide p).mono (Nat.le_succ _)))
        rcases Nat.lt_or_ge j ln with hlt | hge
        · have g0 : decide ((j : Int) < (ln : Int)) = true := decide_eq_true (by omega)
          have g1 : (0 : Int) ≤ (j : Int) := by omega
          have g2 : (j : Int) < (ln : Int) := by omega
          obtain ⟨b, off, rfl, hb, hc⟩ : ∃ b off, la = some ⟨b, off, none⟩ ∧ b < w.heap.size ∧ ∀ i y, l[i]? = some y → ∃ u0 u1 u2 u3, w.cell? ⟨b, off + i * 4, none⟩ = some u0 ∧ w.cell? ⟨b, off + i * 4 + 1, none⟩ = some u1 ∧ w.cell? ⟨b, off + i * 4 + 2, none⟩ = some u2 ∧ w.cell? ⟨b, off + i * 4 + 3, none⟩ = some u3 ∧ RpAt w d y u0 u1 u2 u3 := by
            rcases unhide HA with h | h
            · have := unhide HN; rw [h] at this; simp at this; omega
            · exact h
          obtain ⟨y, hy⟩ : ∃ y, l[j]? = some y := ⟨_, List.getElem?_eq_getElem (by have := unhide HN; omega)⟩
          obtain ⟨u0, u1, u2, u3, c0, c1, c2, c3, r⟩ := hc j y hy
          have d0 : wr.cell? ⟨b, off + j * 4, none⟩ = some u0 := by rw [(unhide bw).cell hb]; exact c0
          have d1 : wr.cell? ⟨b, off + j * 4 + 1, none⟩ = some u1 := by rw [(unhide bw).cell hb]; exact c1
          have d2 : wr.cell? ⟨b, off + j * 4 + 2, none⟩ = some u2 := by rw [(unhide bw).cell hb]; exact c2
          have d3 : wr.cell? ⟨b, off + j * 4 + 3, none⟩ = some u3 := by rw [(unhide bw).cell hb]; exact c3
          have CF : Hid (Calls Tryz.prog 49 #[.agg #[u0, u1, u2, u3]] wr fun e w' => ∃ q, e = .returned (.bool q) ∧ Hid (Below (w.heap.size + 1) (w.alloc (.cells #[.int .i64 6, .int .i64 0, .slice ta 0 tc, .slice (some ⟨b, off, none⟩) ln lc] 31)) w') ∧ Hid (q = plainB d y)) := hide ((unhide HI wr y u0 u1 u2 u3 (r.below (unhide bw))).mono (fun e w' ⟨h1, h2⟩ => ⟨_, h1, hide ((unhide p).trans (h2.mono (by have := (unhide p).size; simp at this; omega))), hide rfl⟩))
          have N1 : Hid (plainB d y = true → (l.take (j + 1)).all (plainB d) = true) := hide (fun h => all_take (plainB d) hy h (unhide hall))
          have N0 : Hid (plainB d y = false → l.all (plainB d) = false) := hide (fun h => all_false (plainB d) hy h)
          clear c0 c1 c2 c3 hc hy r
          go_wp2_with (go_at_call 49; refine (unhide CF).mono ?_; rintro e w5 ⟨q, rfl, k5, hq⟩; cases q)
          · go_ret
            refine ⟨?_, ((Below.refl w.heap.size w).alloc (Nat.le_refl _) _).trans ((unhide k5).mono (Nat.le_succ _))⟩
            rw [unhide HR, unhide N0 (unhide hq).symm]
            rfl
          · go_roundw
            all_goals first | exact ⟨j + 1, by go_num, by omega, hide (unhide N1 (unhide hq).symm), k5⟩ | (simp [intOf]; omega)
        · obtain rfl : j = ln := by omega
          have g0 : decide ((j : Int) < (j : Int)) = false := decide_eq_false (by omega)
          go_wp2
          go_ret
          refine ⟨?_, unhide bw⟩
          have := unhide hall
          rw [unhide HN, List.take_length] at this
          rw [unhide HR, this]
          rfl
  exact key _ rfl (by
    rcases Nat.eq_zero_or_pos ln with q | q
    · rw [q]; rfl
    · rw [decide_eq_true q]; exact decide_eq_true (by omega))
theorem nand3 {p q r : Prop} [Decidable p] [Decidable q] [Decidable r] (h : ¬ (p ∧ q ∧ r)) : (decide p && decide q && decide r) = false := Bool.eq_false_iff.2 (by simp only [ne_eq, Bool.and_eq_true, decide_eq_true_eq]; rintro ⟨⟨a, b⟩, c⟩; exact h ⟨a, b, c⟩)
theorem plain_any : ∀ (d : Nat) (w : World) (x : Tr d) (v0 v1 v2 v3 : Value), RpAt w d x v0 v1 v2 v3 → Calls Tryz.prog 49 #[.agg #[v0, v1, v2, v3]] w fun e w' => e = .returned (.bool (plainB d x)) ∧ Below w.heap.size w w'
  | 0, w, x, v0, v1, v2, v3, h => absurd h id
  | d + 1, w, x, v0, v1, v2, v3, h => by
    have IH := plain_any d
    obtain ⟨⟨rfl, -⟩, ⟨rfl, -⟩, ⟨ta, tc, rfl, hB, hS, htn, -⟩, la, lc, rfl, hln, hat⟩ := h
    have hP : plainB (d + 1) x = fitK x.nd.k x.nd.n x.nd.t x.nd.l.length (decide (x.nd.l.length ≤ 65536) && x.nd.l.all (plainB d)) := rfl
    rw [hP]
    have PL := fun h6 => plain_list d IH w ta la tc x.nd.l.length lc x.nd.l rfl h6 hat
    have PT := fun hK h1 => plain_text w x.nd.k hK ta la x.nd.t.length tc lc x.nd.t rfl h1 hB
    clear IH hat hS hP hB
    generalize x.nd.l.all (plainB d) = sub at *
    generalize x.nd.k = K at *
    generalize x.nd.n = n at *
    generalize x.nd.l.length = ln at *
    obtain ⟨T, hT⟩ : ∃ T, T = x.nd.t := ⟨_, rfl⟩
    rw [← hT] at htn PT ⊢
    obtain ⟨tn, hT'⟩ : ∃ tn, tn = T.length := ⟨_, rfl⟩
    have tr : ∀ {b : Bool}, b = false → (Calls Tryz.prog 49 #[.agg #[.int .i64 K, .int .i64 n, .slice ta T.length tc, .slice la ln lc]] w fun e w' => e = .returned (.bool false) ∧ Below w.heap.size w w') → Calls Tryz.prog 49 #[.agg #[.int .i64 K, .int .i64 n, .slice ta T.length tc, .slice la ln lc]] w fun e w' => e = .returned (.bool b) ∧ Below w.heap.size w w' := fun h k => by rw [h]; exact k
    have tt : ∀ {b : Bool}, b = true → (Calls Tryz.prog 49 #[.agg #[.int .i64 K, .int .i64 n, .slice ta T.length tc, .slice la ln lc]] w fun e w' => e = .returned (.bool true) ∧ Below w.heap.size w w') → Calls Tryz.prog 49 #[.agg #[.int .i64 K, .int .i64 n, .slice ta T.length tc, .slice la ln lc]] w fun e w' => e = .returned (.bool b) ∧ Below w.heap.size w w' := fun h k => by rw [h]; exact k
    by_cases k1 : K = 1 ∨ K = 2
    · have e : ∀ s, fitK K n T ln s = (decide (n = 0) && decide (ln = 0) && decide (T.length ≤ 1024) && !(crlf T)) := fun s => by unfold fitK; rw [if_pos k1]
      rw [e]
      by_cases hg : n = 0 ∧ ln = 0 ∧ T.length ≤ 1024
      · obtain ⟨rfl, rfl, h1⟩ := hg
        rw [decide_eq_true h1]
        simpa using PT k1 h1
      · refine tr ?_ ?_
        · rw [nand3 hg]; rfl
        · rcases k1 with rfl | rfl
          · exact plain_bad1 w n ta la T.length tc ln lc htn hln (by omega)
          · exact plain_bad2 w n ta la T.length tc ln lc htn hln (by omega)
    by_cases k3 : K = 3
    · subst k3
      have e : ∀ s, fitK 3 n T ln s = (decide (T.length = 0) && decide (ln = 0)) := fun s => by unfold fitK; rw [if_neg k1, if_pos rfl]
      rw [e]
      by_cases hg : T.length = 0 ∧ ln = 0
      · obtain ⟨h1, rfl⟩ := hg
        exact tt (by rw [h1]; rfl) (plain_good3 w n ta la T.length tc lc h1)
      · refine tr ?_ (plain_bad3 w n ta la T.length tc ln lc htn hln (by omega))
        exact Bool.eq_false_iff.2 (by simp only [ne_eq, Bool.and_eq_true, decide_eq_true_eq]; exact hg)
    by_cases k4 : K = 4
    · subst k4
      have e : ∀ s, fitK 4 n T ln s = (decide (n = 0) && decide (ln = 0) && decide (T.length ≤ 4096)) := fun s => by unfold fitK; rw [if_neg k1, if_neg k3, if_pos rfl]
      rw [e]
      by_cases hg : n = 0 ∧ ln = 0 ∧ T.length ≤ 4096
      · obtain ⟨h0, rfl, h1⟩ := hg
        exact tt (by rw [decide_eq_true h0, decide_eq_true h1]; rfl) (plain_good4 w n ta la T.length tc lc h0 h1)
      · refine tr ?_ (plain_bad4 w n ta la T.length tc ln lc htn hln (by omega))
        exact nand3 hg
    by_cases k5 : K = 5 ∨ K = 7
    · have e : ∀ s, fitK K n T ln s = (decide (n = 0) && decide (T.length = 0) && decide (ln = 0)) := fun s => by unfold fitK; rw [if_neg k1, if_neg k3, if_neg k4, if_pos k5]
      rw [e]
      by_cases hg : n = 0 ∧ T.length = 0 ∧ ln = 0
      · obtain ⟨h0, h1, rfl⟩ := hg
        refine tt (by rw [decide_eq_true h0, decide_eq_true h1]; rfl) ?_
        rcases k5 with rfl | rfl
        · exact plain_good5 w n ta la T.length tc lc h0 h1
        · exact plain_good7 w n ta la T.length tc lc h0 h1
      · refine tr ?_ ?_
        · exact nand3 hg
        · rcases k5 with rfl | rfl
          · exact plain_bad5 w n ta la T.length tc ln lc htn hln (by omega)
          · exact plain_bad7 w n ta la T.length tc ln lc htn hln (by omega)
    by_cases k6 : K = 6
    · subst k6
      have e : ∀ s, fitK 6 n T ln s = (decide (n = 0) && decide (T.length = 0) && s) := fun s => by unfold fitK; rw [if_neg k1, if_neg k3, if_neg k4, if_neg k5, if_pos rfl]
      rw [e]
      by_cases hg : n = 0 ∧ T.length = 0 ∧ ln ≤ 65536
      · obtain ⟨rfl, h1, h2⟩ := hg
        rw [h1, decide_eq_true h2]
        simpa using PL h2
      · refine tr ?_ (plain_bad6 w n ta la T.length tc ln lc htn hln (by omega))
        exact Bool.eq_false_iff.2 (by simp only [ne_eq, Bool.and_eq_true, decide_eq_true_eq]; rintro ⟨⟨a, b⟩, c, -⟩; exact hg ⟨a, b, c⟩)
    · refine tr ?_ (plain_out w K n ta la T.length tc ln lc (by omega))
      unfold fitK
      rw [if_neg k1, if_neg k3, if_neg k4, if_neg k5, if_neg k6]
end Go.Proofs.YtcnlikojbkegiaaGreatDoor
