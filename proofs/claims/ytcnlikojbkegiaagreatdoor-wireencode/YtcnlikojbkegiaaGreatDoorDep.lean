/- The document's deep. -/
import Derived.Test.YtcnlikojbkegiaaGreatDoorFit
namespace Go.Proofs.YtcnlikojbkegiaaGreatDoor
open Go.ChangeShapes Go.WideShapes Go.ChangeAt Go.RowKit
set_option linter.unusedVariables false
set_option linter.unusedSimpArgs false
set_option maxRecDepth 20000
set_option maxHeartbeats 4000000

def deepN : (d : Nat) → Tr d → Nat
  | 0, _ => 0
  | d + 1, x => if x.nd.k = 6 then 1 + (x.nd.l.map (deepN d)).foldl max 0 else 0
def maxTo (d : Nat) (l : List (Tr d)) (i : Nat) : Nat := ((l.take i).map (deepN d)).foldl max 0
theorem maxTo_step {d : Nat} {l : List (Tr d)} {i : Nat} {y : Tr d} (h : l[i]? = some y) : maxTo d l (i + 1) = max (maxTo d l i) (deepN d y) := by
  unfold maxTo
  rw [List.take_add_one, h]
  simp
theorem maxTo_all {d : Nat} (l : List (Tr d)) (i : Nat) (h : i = l.length) : maxTo d l i = (l.map (deepN d)).foldl max 0 := by
  subst h
  unfold maxTo
  rw [List.take_length]
theorem foldl_max_le {α : Type} (f g : α → Nat) : ∀ (l : List α) (m B : Nat), m + (l.map g).sum ≤ B → (∀ y ∈ l, f y ≤ g y) → (l.map f).foldl max m ≤ B
  | [], m, B, h, _ => by simpa using h
  | x :: l, m, B, h, hy => by
    simp only [List.map_cons, List.foldl_cons, List.sum_cons] at h ⊢
    have := hy x (List.mem_cons_self ..)
    exact foldl_max_le f g l (max m (f x)) B (by omega) (fun y hm => hy y (List.mem_cons_of_mem _ hm))
theorem deepN_sz : ∀ (d : Nat) (x : Tr d), deepN d x ≤ sz d x
  | 0, _ => Nat.le_refl _
  | d + 1, x => by
    show (if x.nd.k = 6 then 1 + (x.nd.l.map (deepN d)).foldl max 0 else 0) ≤ 10 + x.nd.t.length + (x.nd.l.map (sz d)).sum
    split
    · have := foldl_max_le (deepN d) (sz d) x.nd.l 0 ((x.nd.l.map (sz d)).sum) (by omega) (fun y _ => deepN_sz d y)
      omega
    · exact Nat.zero_le _
theorem maxTo_le {d : Nat} (l : List (Tr d)) (i : Nat) : maxTo d l i ≤ (l.map (sz d)).sum := by
  refine Nat.le_trans (foldl_max_le (deepN d) (sz d) (l.take i) 0 _ (Nat.le_refl _) (fun y _ => deepN_sz d y)) ?_
  rw [Nat.zero_add]
  have h := List.take_append_drop i l
  have : (l.map (sz d)).sum = ((l.take i).map (sz d)).sum + ((l.drop i).map (sz d)).sum := by
    rw [← List.sum_append, ← List.map_append, h]
  omega
theorem deep_any : ∀ (d : Nat) (x : Tr d) (w : World) (v0 v1 v2 v3 : Value), RpAt w d x v0 v1 v2 v3 → sz d x ≤ 16777216 → Calls Tryz.prog 50 #[.agg #[v0, v1, v2, v3]] w fun e w' => e = .returned (.int .i64 (deepN d x : Nat)) ∧ Below w.heap.size w w'
  | 0, x, w, v0, v1, v2, v3, h, _ => absurd h id
  | d + 1, x, w, v0, v1, v2, v3, h, hs => by
    have IH := deep_any d
    obtain ⟨⟨rfl, -⟩, ⟨rfl, -⟩, ⟨ta, tc, rfl, -, -, htn, -⟩, la, lc, rfl, hln, hat⟩ := h
    have hD : deepN (d + 1) x = if x.nd.k = 6 then 1 + (x.nd.l.map (deepN d)).foldl max 0 else 0 := rfl
    obtain ⟨D, hDD⟩ : ∃ D, D = deepN (d + 1) x := ⟨_, rfl⟩
    rw [← hDD] at hD ⊢
    have HD := hide hD
    obtain ⟨tn', htn'⟩ : ∃ n, n = x.nd.t.length := ⟨_, rfl⟩
    obtain ⟨ln, hln'⟩ : ∃ n, n = x.nd.l.length := ⟨_, rfl⟩
    obtain ⟨k0, hk0⟩ : ∃ n, n = x.nd.k := ⟨_, rfl⟩
    obtain ⟨k1, hk1⟩ : ∃ n, n = x.nd.n := ⟨_, rfl⟩
    have ML : Hid (∀ i, maxTo d x.nd.l i ≤ 16777216) := hide (fun i => by
      have := maxTo_le x.nd.l i
      have e : sz (d + 1) x = 10 + x.nd.t.length + (x.nd.l.map (sz d)).sum := rfl
      omega)
    have SC : Hid (∀ y ∈ x.nd.l, sz d y ≤ 16777216) := hide (fun y hy => by have := sz_child x hy; omega)
    rw [← htn', ← hln', ← hk0, ← hk1]
    rw [← htn'] at htn
    rw [← hln'] at hln
    have HI := hide IH
    have HT := hide hat
    have HLn := hide hln'
    have HK := hide hk0
    clear IH hat htn' hln' hk0 hk1 hD hDD hs
    by_cases h6 : k0 = 6
    rotate_left
    · have f0 : decide (k0 = 6) = false := decide_eq_false h6
      obtain rfl : D = 0 := by
        have := unhide HD; have := unhide HK
        simp_all
      clear HD HK HI HT SC ML HLn
      go_enter Tryz.func50, Tryz.ntmps50
      go_wp2
      all_goals go_ret
      all_goals exact ⟨rfl, (Below.refl _ _).alloc (Nat.le_refl _) _⟩
    have hD2 : Hid (D = 1 + maxTo d x.nd.l ln) := hide (by
      have h1 := unhide HD
      have h2 := unhide HK
      rw [if_pos (by omega)] at h1
      rw [h1, maxTo_all _ _ (unhide HLn)])
    subst h6
    clear HD HK
    have B0 : Hid (∀ o, Below (w.heap.size + 1) (w.alloc o) (w.alloc o)) := hide (fun o => Below.refl _ _)
    go_enter Tryz.func50, Tryz.ntmps50
    go_wp2
    go_loopw [3, 4] (fun nv iv wr => ∃ (i M : Nat), nv = .int .i64 (M : Nat) ∧ iv = .int .i64 (i : Nat) ∧ i ≤ ln ∧ M ≤ 16777216 ∧ Hid (M = maxTo d x.nd.l i) ∧ Hid (Below (w.heap.size + 1) (w.alloc (.cells #[.int .i64 6, .int .i64 k1, .slice ta tn' tc, .slice la ln lc] 31)) wr)) (fun _ iv _ => ln - (intOf iv).toNat)
    case atStart => exact ⟨0, 0, rfl, rfl, Nat.zero_le _, by omega, hide (by simp [maxTo]), hide (unhide B0 _)⟩
    case round =>
      obtain ⟨i, M, rfl, rfl, hi, hM, hm, p⟩ := hrel
      have cl : wr.cell? ⟨w.heap.size, 3, none⟩ = some (.slice la ln lc) := by
        rw [(unhide p).cell (Nat.lt_succ_self _), cell_of_row _ _ _ _ _ _ (heap_alloc_new w _)]; rfl
      have bw : Hid (Below w.heap.size w wr) := hide (((Below.refl w.heap.size w).alloc (Nat.le_refl _) _).trans ((unhide p).mono (Nat.le_succ _)))
      rcases Nat.lt_or_ge i ln with hlt | hge
      · have f1 : decide ((i : Int) < (ln : Int)) = true := decide_eq_true (by omega)
        have g1 : (0 : Int) ≤ (i : Int) := by omega
        have g2 : (i : Int) < (ln : Int) := by omega
        obtain ⟨b, off, rfl, hb, hc⟩ : ∃ b off, la = some ⟨b, off, none⟩ ∧ b < w.heap.size ∧ ∀ i y, x.nd.l[i]? = some y → ∃ u0 u1 u2 u3, w.cell? ⟨b, off + i * 4, none⟩ = some u0 ∧ w.cell? ⟨b, off + i * 4 + 1, none⟩ = some u1 ∧ w.cell? ⟨b, off + i * 4 + 2, none⟩ = some u2 ∧ w.cell? ⟨b, off + i * 4 + 3, none⟩ = some u3 ∧ RpAt w d y u0 u1 u2 u3 := by
          rcases unhide HT with h | h
          · have := unhide HLn; rw [h] at this; simp at this; omega
          · exact h
        obtain ⟨y, hy⟩ : ∃ y, x.nd.l[i]? = some y := ⟨_, List.getElem?_eq_getElem (by have := unhide HLn; omega)⟩
        obtain ⟨u0, u1, u2, u3, c0, c1, c2, c3, r⟩ := hc i y hy
        have d0 : wr.cell? ⟨b, off + i * 4, none⟩ = some u0 := by rw [(unhide bw).cell hb]; exact c0
        have d1 : wr.cell? ⟨b, off + i * 4 + 1, none⟩ = some u1 := by rw [(unhide bw).cell hb]; exact c1
        have d2 : wr.cell? ⟨b, off + i * 4 + 2, none⟩ = some u2 := by rw [(unhide bw).cell hb]; exact c2
        have d3 : wr.cell? ⟨b, off + i * 4 + 3, none⟩ = some u3 := by rw [(unhide bw).cell hb]; exact c3
        have CM : Hid (Calls Tryz.prog 50 #[.agg #[u0, u1, u2, u3]] wr fun e w' => ∃ N : Nat, e = .returned (.int .i64 (N : Nat)) ∧ N ≤ 16777216 ∧ ((M < N ∧ decide ((N : Int) > (M : Int)) = true ∧ decide ((M : Int) < (N : Int)) = true) ∨ (N ≤ M ∧ decide ((N : Int) > (M : Int)) = false ∧ decide ((M : Int) < (N : Int)) = false)) ∧ Hid (max M N = maxTo d x.nd.l (i + 1)) ∧ Hid (Below (w.heap.size + 1) (w.alloc (.cells #[.int .i64 6, .int .i64 k1, .slice ta tn' tc, .slice (some ⟨b, off, none⟩) ln lc] 31)) w')) := hide ((unhide HI y wr u0 u1 u2 u3 (r.below (unhide bw)) (unhide SC y (List.mem_of_getElem? hy))).mono (fun e w' ⟨h1, h2⟩ => ⟨_, h1, Nat.le_trans (deepN_sz d y) (unhide SC y (List.mem_of_getElem? hy)), (by rcases Nat.lt_or_ge M (deepN d y) with q | q; exact .inl ⟨q, decide_eq_true (by omega), decide_eq_true (by omega)⟩; exact .inr ⟨q, decide_eq_false (by omega), decide_eq_false (by omega)⟩), hide (by rw [maxTo_step hy, unhide hm]), hide ((unhide p).trans (h2.mono (by have := (unhide p).size; simp at this; omega)))⟩))
        clear c0 c1 c2 c3 r hc hy
        go_wp2_with (go_at_call 50; refine (unhide CM).mono ?_; rintro e w5 ⟨N, rfl, hN, ⟨hNM, t1, t2⟩ | ⟨hNM, t1, t2⟩, hmx, k5⟩)
        all_goals go_roundw
        all_goals first | exact ⟨i + 1, N, rfl, by go_num, by omega, by omega, hide (by have := unhide hmx; omega), k5⟩ | exact ⟨i + 1, M, rfl, by go_num, by omega, by omega, hide (by have := unhide hmx; omega), k5⟩ | (simp [intOf]; omega)
      · obtain rfl : i = ln := by omega
        have f1 : decide ((i : Int) < (i : Int)) = false := decide_eq_false (by omega)
        go_wp2
        go_ret
        refine ⟨?_, unhide bw⟩
        have h1 := unhide hD2
        have h2 := unhide hm
        have : ((D : Nat) : Int) = (M : Int) + 1 := by omega
        rw [this]
        rfl
end Go.Proofs.YtcnlikojbkegiaaGreatDoor
