/- Replies as trees; much and heavy of them. -/
import Derived.Test.YtecfgbjnjgjkoaaGreatDoorHvy
namespace Go.Proofs.YtecfgbjnjgjkoaaGreatDoor
open Go.ChangeShapes Go.WideShapes Go.ChangeAt Go.RowKit
set_option linter.unusedVariables false
set_option linter.unusedSimpArgs false
set_option maxRecDepth 20000
set_option maxHeartbeats 4000000

structure Nd (α : Type) where
  k : Int
  n : Int
  t : List Nat
  l : List α
/-- replies of a depth below d -/
def Tr : Nat → Type
  | 0 => Empty
  | d + 1 => Nd (Tr d)
def Tr.nd {d : Nat} (x : Tr (d + 1)) : Nd (Tr d) := x
/-- a reply that lies in memory -/
def RpAt (w : World) : (d : Nat) → Tr d → Value → Value → Value → Value → Prop
  | 0, _, _, _, _, _ => False
  | d + 1, x, v0, v1, v2, v3 => (v0 = .int .i64 x.nd.k ∧ -9223372036854775808 ≤ x.nd.k ∧ x.nd.k ≤ 9223372036854775807) ∧ (v1 = .int .i64 x.nd.n ∧ -9223372036854775808 ≤ x.nd.n ∧ x.nd.n ≤ 9223372036854775807) ∧
      (∃ a c, v2 = .slice a x.nd.t.length c ∧ Bytes w a x.nd.t ∧ Small x.nd.t ∧ x.nd.t.length ≤ 140737488351232 ∧ x.nd.t.length ≤ c) ∧
      ∃ a c, v3 = .slice a x.nd.l.length c ∧ x.nd.l.length ≤ 140737488351232 ∧
      (x.nd.l = [] ∨ ∃ b off, a = some ⟨b, off, none⟩ ∧ b < w.heap.size ∧ ∀ i y, x.nd.l[i]? = some y → ∃ u0 u1 u2 u3, w.cell? ⟨b, off + i * 4, none⟩ = some u0 ∧ w.cell? ⟨b, off + i * 4 + 1, none⟩ = some u1 ∧ w.cell? ⟨b, off + i * 4 + 2, none⟩ = some u2 ∧ w.cell? ⟨b, off + i * 4 + 3, none⟩ = some u3 ∧ RpAt w d y u0 u1 u2 u3)
theorem RpAt.below {w w' : World} (hb : Below w.heap.size w w') : ∀ {d : Nat} {x : Tr d} {v0 v1 v2 v3 : Value}, RpAt w d x v0 v1 v2 v3 → RpAt w' d x v0 v1 v2 v3
  | 0, _, _, _, _, _, h => h
  | d + 1, x, v0, v1, v2, v3, ⟨h0, h1, ⟨a2, c2, h2, h2b, h2c⟩, a, c, h3, h4, h5⟩ => by
    refine ⟨h0, h1, ⟨a2, c2, h2, h2b.below hb, h2c⟩, a, c, h3, h4, ?_⟩
    rcases h5 with h | ⟨b, off, e, hlt, hc⟩
    · exact .inl h
    · refine .inr ⟨b, off, e, Nat.lt_of_lt_of_le hlt hb.size, fun i y hi => ?_⟩
      obtain ⟨u0, u1, u2, u3, c0, c1, c2, c3, r⟩ := hc i y hi
      exact ⟨u0, u1, u2, u3, by rw [hb.cell hlt]; exact c0, by rw [hb.cell hlt]; exact c1, by rw [hb.cell hlt]; exact c2, by rw [hb.cell hlt]; exact c3, RpAt.below hb r⟩
/-- what it has: its bytes, and ten for each reply -/
def sz : (d : Nat) → Tr d → Nat
  | 0, _ => 0
  | d + 1, x => 10 + x.nd.t.length + (x.nd.l.map (sz d)).sum
theorem sum_mem {α : Type} (f : α → Nat) : ∀ {l : List α} {y : α}, y ∈ l → f y ≤ (l.map f).sum
  | x :: l, y, h => by
    simp only [List.map_cons, List.sum_cons]
    rcases List.mem_cons.1 h with rfl | h
    · omega
    · have := sum_mem f h; omega
theorem sz_ten : ∀ (d : Nat) (x : Tr d), d ≠ 0 → 10 ≤ sz d x
  | 0, _, h => absurd rfl h
  | d + 1, x, _ => by show 10 ≤ 10 + x.nd.t.length + _; omega
theorem sum_ten {d : Nat} : ∀ (l : List (Tr d)), (∀ y ∈ l, d ≠ 0) → 10 * l.length ≤ (l.map (sz d)).sum
  | [], _ => by simp
  | x :: l, h => by
    have h1 := sz_ten d x (h x (List.mem_cons_self ..))
    have h2 := sum_ten l (fun y hy => h y (List.mem_cons_of_mem _ hy))
    simp only [List.map_cons, List.sum_cons, List.length_cons]
    omega
theorem tr_pos {d : Nat} (x : Tr d) : d ≠ 0 := by
  cases d with
  | zero => exact (nomatch (show Empty from x))
  | succ d => omega
theorem sz_list {d : Nat} (x : Tr (d + 1)) : x.nd.t.length + 10 + 10 * x.nd.l.length ≤ sz (d + 1) x := by
  have := sum_ten x.nd.l (fun y _ => tr_pos y)
  show _ ≤ 10 + x.nd.t.length + (x.nd.l.map (sz d)).sum
  omega
theorem sz_child {d : Nat} (x : Tr (d + 1)) {y : Tr d} (h : y ∈ x.nd.l) : sz d y + 10 + x.nd.t.length ≤ sz (d + 1) x := by
  have := sum_mem (sz d) h
  show _ ≤ 10 + x.nd.t.length + (x.nd.l.map (sz d)).sum
  omega
def sumTo (d : Nat) (l : List (Tr d)) (i : Nat) : Nat := ((l.take i).map (sz d)).sum
theorem sumTo_step {d : Nat} {l : List (Tr d)} {i : Nat} {y : Tr d} (h : l[i]? = some y) : sumTo d l (i + 1) = sumTo d l i + sz d y := by
  unfold sumTo
  rw [List.take_add_one, h]
  simp
theorem sumTo_all {d : Nat} (l : List (Tr d)) (i : Nat) (h : i = l.length) : sumTo d l i = (l.map (sz d)).sum := by
  subst h
  unfold sumTo
  rw [List.take_length]
theorem much_tree : ∀ (d : Nat) (w : World) (x : Tr d) (v0 v1 v2 v3 : Value) (m : Int), RpAt w d x v0 v1 v2 v3 → 0 ≤ m → m ≤ 16777216 → Calls Tryz.prog 39 #[.agg #[v0, v1, v2, v3], .int .i64 m] w fun e w' => ∃ k : Int, e = .returned (.int .i64 k) ∧ m ≤ k ∧ k ≤ 140737505132544 ∧ Hid (Below w.heap.size w w' ∧ (k ≤ 16777216 → k = m + sz d x))
  | 0, w, x, v0, v1, v2, v3, m, h, _, _ => absurd h id
  | d + 1, w, x, v0, v1, v2, v3, m, h, hm0, hm1 => by
    have IH := much_tree d
    obtain ⟨⟨rfl, -⟩, ⟨rfl, -⟩, ⟨ta, tc, rfl, -, -, htn, -⟩, la, lc, rfl, hln, hat⟩ := h
    have hsz : Hid (sz (d + 1) x = 10 + x.nd.t.length + (x.nd.l.map (sz d)).sum) := hide rfl
    obtain ⟨tn', htn'⟩ : ∃ n, n = x.nd.t.length := ⟨_, rfl⟩
    obtain ⟨ln, hln'⟩ : ∃ n, n = x.nd.l.length := ⟨_, rfl⟩
    obtain ⟨k0, hk0⟩ : ∃ n, n = x.nd.k := ⟨_, rfl⟩
    obtain ⟨k1, hk1⟩ : ∃ n, n = x.nd.n := ⟨_, rfl⟩
    rw [← htn', ← hln', ← hk0, ← hk1]
    rw [← htn'] at htn hsz
    rw [← hln'] at hln
    have HI := hide IH
    have HT := hide hat
    have HLn := hide hln'
    clear IH hat htn' hln' hk0 hk1
    have B0 : Hid (∀ o, Below (w.heap.size + 1) (w.alloc o) (w.alloc o)) := hide (fun o => Below.refl _ _)
    go_enter Tryz.func39, Tryz.ntmps39
    go_wp2
    go_loopw [1, 5] (fun nv iv wr => ∃ (i : Nat) (k : Int), nv = .int .i64 k ∧ iv = .int .i64 (i : Nat) ∧ i ≤ ln ∧ m ≤ k ∧ k ≤ 140737505132544 ∧ Hid (k ≤ 16777216 → k = m + 10 + tn' + sumTo d x.nd.l i) ∧ Hid (Below (w.heap.size + 1) (w.alloc (.cells #[.int .i64 k0, .int .i64 k1, .slice ta tn' tc, .slice la ln lc] 31)) wr)) (fun _ iv _ => ln - (intOf iv).toNat)
    case atStart => exact ⟨0, m + 10 + (tn' : Int), rfl, rfl, Nat.zero_le _, by omega, by omega, hide (fun _ => by simp [sumTo]), hide (unhide B0 _)⟩
    case round =>
      obtain ⟨i, k, rfl, rfl, hi, hk0, hk1, hks, p⟩ := hrel
      have cl : wr.cell? ⟨w.heap.size, 3, none⟩ = some (.slice la ln lc) := by
        rw [(unhide p).cell (Nat.lt_succ_self _), cell_of_row _ _ _ _ _ _ (heap_alloc_new w _)]; rfl
      have bw : Hid (Below w.heap.size w wr) := hide (((Below.refl w.heap.size w).alloc (Nat.le_refl _) _).trans ((unhide p).mono (Nat.le_succ _)))
      rcases Nat.lt_or_ge i ln with hlt | hge
      · have f1 : decide ((i : Int) < (ln : Int)) = true := decide_eq_true (by omega)
        have g1 : (0 : Int) ≤ (i : Int) := by omega
        have g2 : (i : Int) < (ln : Int) := by omega
        by_cases hk : k ≤ 16777216
        · have f2 : decide (k ≤ 16777216) = true := decide_eq_true hk
          obtain ⟨b, off, rfl, hb, hc⟩ : ∃ b off, la = some ⟨b, off, none⟩ ∧ b < w.heap.size ∧ ∀ i y, x.nd.l[i]? = some y → ∃ u0 u1 u2 u3, w.cell? ⟨b, off + i * 4, none⟩ = some u0 ∧ w.cell? ⟨b, off + i * 4 + 1, none⟩ = some u1 ∧ w.cell? ⟨b, off + i * 4 + 2, none⟩ = some u2 ∧ w.cell? ⟨b, off + i * 4 + 3, none⟩ = some u3 ∧ RpAt w d y u0 u1 u2 u3 := by
            rcases unhide HT with h | h
            · have := unhide HLn; rw [h] at this; simp at this; omega
            · exact h
          obtain ⟨y, hy⟩ : ∃ y, x.nd.l[i]? = some y := ⟨_, List.getElem?_eq_getElem (by have := unhide HLn; omega)⟩
          obtain ⟨u0, u1, u2, u3, c0, c1, c2, c3, r⟩ := hc i y hy
          have d0 : wr.cell? ⟨b, off + i * 4, none⟩ = some u0 := by rw [(unhide bw).cell hb]; exact c0
          have d1 : wr.cell? ⟨b, off + i * 4 + 1, none⟩ = some u1 := by rw [(unhide bw).cell hb]; exact c1
          have d2 : wr.cell? ⟨b, off + i * 4 + 2, none⟩ = some u2 := by rw [(unhide bw).cell hb]; exact c2
          have d3 : wr.cell? ⟨b, off + i * 4 + 3, none⟩ = some u3 := by rw [(unhide bw).cell hb]; exact c3
          have CM : Hid (Calls Tryz.prog 39 #[.agg #[u0, u1, u2, u3], .int .i64 k] wr fun e w' => ∃ k' : Int, e = .returned (.int .i64 k') ∧ k ≤ k' ∧ k' ≤ 140737505132544 ∧ Hid (k' ≤ 16777216 → k' = m + 10 + tn' + sumTo d x.nd.l (i + 1)) ∧ Hid (Below (w.heap.size + 1) (w.alloc (.cells #[.int .i64 k0, .int .i64 k1, .slice ta tn' tc, .slice (some ⟨b, off, none⟩) ln lc] 31)) w')) := hide ((unhide HI wr y u0 u1 u2 u3 k (r.below (unhide bw)) (by omega) hk).mono (fun e w' ⟨k', h1, h2, h3, h4⟩ => ⟨k', h1, h2, h3, hide (fun hk' => by rw [sumTo_step hy, (unhide h4).2 hk', unhide hks hk]; omega), hide ((unhide p).trans ((unhide h4).1.mono (by have := (unhide p).size; simp at this; omega)))⟩))
          clear c0 c1 c2 c3 r hc hy
          go_wp2_with (go_at_call 39; refine (unhide CM).mono ?_; rintro e w5 ⟨k', rfl, hk2, hk3, hk4, k5⟩)
          all_goals go_roundw
          all_goals first | exact ⟨i + 1, k', rfl, by go_num, by omega, by omega, by omega, hk4, k5⟩ | (simp [intOf]; omega)
        · have f2 : decide (k ≤ 16777216) = false := decide_eq_false hk
          go_wp2
          go_ret
          exact ⟨k, rfl, hk0, hk1, hide ⟨unhide bw, fun h => by omega⟩⟩
      · obtain rfl : i = ln := by omega
        have f1 : decide ((i : Int) < (i : Int)) = false := decide_eq_false (by omega)
        go_wp2
        go_ret
        exact ⟨k, rfl, hk0, hk1, hide ⟨unhide bw, fun h => by rw [unhide hks h, unhide hsz, sumTo_all _ _ (unhide HLn)]; omega⟩⟩
end Go.Proofs.YtecfgbjnjgjkoaaGreatDoor
