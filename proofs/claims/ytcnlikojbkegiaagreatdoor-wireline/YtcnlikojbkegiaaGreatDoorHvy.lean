/- much, heavy. -/
import Derived.Test.YtcnlikojbkegiaaGreatDoorSpb
namespace Go.Proofs.YtcnlikojbkegiaaGreatDoor
open Go.ChangeShapes Go.WideShapes Go.ChangeAt Go.RowKit
set_option linter.unusedVariables false
set_option linter.unusedSimpArgs false
set_option maxRecDepth 20000
set_option maxHeartbeats 4000000

/-- a reply that lies in memory, of a depth below d -/
def RepAt (w : World) : Nat → Value → Value → Value → Value → Prop
  | 0, _, _, _, _ => False
  | d + 1, v0, v1, v2, v3 => (∃ k : Int, v0 = .int .i64 k) ∧ (∃ k : Int, v1 = .int .i64 k) ∧ (∃ a n c, v2 = .slice a n c ∧ n ≤ 140737488351232) ∧ ∃ a n c, v3 = .slice a n c ∧ n ≤ 140737488351232 ∧
      (n = 0 ∨ ∃ b off, a = some ⟨b, off, none⟩ ∧ b < w.heap.size ∧ ∀ i, i < n → ∃ u0 u1 u2 u3, w.cell? ⟨b, off + i * 4, none⟩ = some u0 ∧ w.cell? ⟨b, off + i * 4 + 1, none⟩ = some u1 ∧ w.cell? ⟨b, off + i * 4 + 2, none⟩ = some u2 ∧ w.cell? ⟨b, off + i * 4 + 3, none⟩ = some u3 ∧ RepAt w d u0 u1 u2 u3)
theorem RepAt.below {w w' : World} (hb : Below w.heap.size w w') : ∀ {d : Nat} {v0 v1 v2 v3 : Value}, RepAt w d v0 v1 v2 v3 → RepAt w' d v0 v1 v2 v3
  | 0, _, _, _, _, h => h
  | d + 1, v0, v1, v2, v3, ⟨h0, h1, h2, a, n, c, h3, h4, h5⟩ => by
    refine ⟨h0, h1, h2, a, n, c, h3, h4, ?_⟩
    rcases h5 with h | ⟨b, off, e, hlt, hc⟩
    · exact .inl h
    · refine .inr ⟨b, off, e, Nat.lt_of_lt_of_le hlt hb.size, fun i hi => ?_⟩
      obtain ⟨u0, u1, u2, u3, c0, c1, c2, c3, r⟩ := hc i hi
      exact ⟨u0, u1, u2, u3, by rw [hb.cell hlt]; exact c0, by rw [hb.cell hlt]; exact c1, by rw [hb.cell hlt]; exact c2, by rw [hb.cell hlt]; exact c3, RepAt.below hb r⟩
theorem much_any : ∀ (d : Nat) (w : World) (v0 v1 v2 v3 : Value) (m : Int), RepAt w d v0 v1 v2 v3 → 0 ≤ m → m ≤ 16777216 → Calls Tryz.prog 39 #[.agg #[v0, v1, v2, v3], .int .i64 m] w fun e w' => ∃ k : Int, e = .returned (.int .i64 k) ∧ m ≤ k ∧ k ≤ 140737505132544 ∧ Hid (Below w.heap.size w w')
  | 0, w, v0, v1, v2, v3, m, h, _, _ => absurd h id
  | d + 1, w, v0, v1, v2, v3, m, h, hm0, hm1 => by
    have IH := much_any d
    obtain ⟨⟨k0, rfl⟩, ⟨k1, rfl⟩, ⟨ta, tn', tc, rfl, htn⟩, la, ln, lc, rfl, hln, hat⟩ := h
    have HI := hide IH
    have HT := hide hat
    clear IH hat
    have B0 : Hid (∀ o, Below (w.heap.size + 1) (w.alloc o) (w.alloc o)) := hide (fun o => Below.refl _ _)
    go_enter Tryz.func39, Tryz.ntmps39
    go_wp2
    go_loopw [1, 5] (fun nv iv wr => ∃ (i : Nat) (k : Int), nv = .int .i64 k ∧ iv = .int .i64 (i : Nat) ∧ i ≤ ln ∧ m ≤ k ∧ k ≤ 140737505132544 ∧ Hid (Below (w.heap.size + 1) (w.alloc (.cells #[.int .i64 k0, .int .i64 k1, .slice ta tn' tc, .slice la ln lc] 31)) wr)) (fun _ iv _ => ln - (intOf iv).toNat)
    case atStart => exact ⟨0, m + 10 + (tn' : Int), rfl, rfl, Nat.zero_le _, by omega, by omega, hide (unhide B0 _)⟩
    case round =>
      obtain ⟨i, k, rfl, rfl, hi, hk0, hk1, p⟩ := hrel
      have cl : wr.cell? ⟨w.heap.size, 3, none⟩ = some (.slice la ln lc) := by
        rw [(unhide p).cell (Nat.lt_succ_self _), cell_of_row _ _ _ _ _ _ (heap_alloc_new w _)]; rfl
      have bw : Hid (Below w.heap.size w wr) := hide (((Below.refl w.heap.size w).alloc (Nat.le_refl _) _).trans ((unhide p).mono (Nat.le_succ _)))
      rcases Nat.lt_or_ge i ln with hlt | hge
      · have f1 : decide ((i : Int) < (ln : Int)) = true := decide_eq_true (by omega)
        have g1 : (0 : Int) ≤ (i : Int) := by omega
        have g2 : (i : Int) < (ln : Int) := by omega
        by_cases hk : k ≤ 16777216
        · have f2 : decide (k ≤ 16777216) = true := decide_eq_true hk
          obtain ⟨b, off, rfl, hb, hc⟩ : ∃ b off, la = some ⟨b, off, none⟩ ∧ b < w.heap.size ∧ ∀ i, i < ln → ∃ u0 u1 u2 u3, w.cell? ⟨b, off + i * 4, none⟩ = some u0 ∧ w.cell? ⟨b, off + i * 4 + 1, none⟩ = some u1 ∧ w.cell? ⟨b, off + i * 4 + 2, none⟩ = some u2 ∧ w.cell? ⟨b, off + i * 4 + 3, none⟩ = some u3 ∧ RepAt w d u0 u1 u2 u3 := by
            rcases unhide HT with h | h
            · omega
            · exact h
          obtain ⟨u0, u1, u2, u3, c0, c1, c2, c3, r⟩ := hc i hlt
          have d0 : wr.cell? ⟨b, off + i * 4, none⟩ = some u0 := by rw [(unhide bw).cell hb]; exact c0
          have d1 : wr.cell? ⟨b, off + i * 4 + 1, none⟩ = some u1 := by rw [(unhide bw).cell hb]; exact c1
          have d2 : wr.cell? ⟨b, off + i * 4 + 2, none⟩ = some u2 := by rw [(unhide bw).cell hb]; exact c2
          have d3 : wr.cell? ⟨b, off + i * 4 + 3, none⟩ = some u3 := by rw [(unhide bw).cell hb]; exact c3
          have CM : Hid (Calls Tryz.prog 39 #[.agg #[u0, u1, u2, u3], .int .i64 k] wr fun e w' => ∃ k' : Int, e = .returned (.int .i64 k') ∧ k ≤ k' ∧ k' ≤ 140737505132544 ∧ Hid (Below (w.heap.size + 1) (w.alloc (.cells #[.int .i64 k0, .int .i64 k1, .slice ta tn' tc, .slice (some ⟨b, off, none⟩) ln lc] 31)) w')) := hide ((unhide HI wr u0 u1 u2 u3 k (r.below (unhide bw)) (by omega) hk).mono (fun e w' ⟨k', h1, h2, h3, h4⟩ => ⟨k', h1, h2, h3, hide ((unhide p).trans ((unhide h4).mono (by have := (unhide p).size; simp at this; omega)))⟩))
          clear c0 c1 c2 c3 r hc
          go_wp2_with (go_at_call 39; refine (unhide CM).mono ?_; rintro e w5 ⟨k', rfl, hk2, hk3, k5⟩)
          all_goals go_roundw
          all_goals first | exact ⟨i + 1, k', rfl, by go_num, by omega, by omega, by omega, k5⟩ | (simp [intOf]; omega)
        · have f2 : decide (k ≤ 16777216) = false := decide_eq_false hk
          go_wp2
          go_ret
          exact ⟨k, rfl, hk0, hk1, bw⟩
      · obtain rfl : i = ln := by omega
        have f1 : decide ((i : Int) < (i : Int)) = false := decide_eq_false (by omega)
        go_wp2
        go_ret
        exact ⟨k, rfl, hk0, hk1, bw⟩
/-- arguments that came in, of whatever length -/
def ArgsW (w : World) (a : Option Addr) (L : List (List Nat)) : Prop := L = [] ∨ ∃ b off, a = some ⟨b, off, none⟩ ∧ b < w.heap.size ∧ ∀ k T, L[k]? = some T → ∃ a c, w.cell? ⟨b, off + k, none⟩ = some (.slice a T.length c) ∧ Bytes w a T ∧ T.length ≤ 140737488351232
def hvS (L : List (List Nat)) : Nat := (L.map (fun T => T.length + 10)).sum
theorem hvS_step {L : List (List Nat)} {i : Nat} {T : List Nat} (h : L[i]? = some T) : hvS (L.take (i + 1)) = hvS (L.take i) + T.length + 10 := by
  unfold hvS
  rw [List.take_add_one, h]
  simp
  omega
theorem hvS_mem : ∀ {L : List (List Nat)} {T : List Nat}, T ∈ L → T.length + 10 ≤ hvS L
  | x :: L, T, h => by
    unfold hvS
    simp only [List.map_cons, List.sum_cons]
    rcases List.mem_cons.1 h with rfl | h
    · omega
    · have := hvS_mem h
      unfold hvS at this
      omega
theorem hvS_len : ∀ (L : List (List Nat)), 10 * L.length ≤ hvS L
  | [] => by simp [hvS]
  | x :: L => by
    have := hvS_len L
    unfold hvS at this ⊢
    simp only [List.map_cons, List.sum_cons, List.length_cons]
    omega
theorem heavy_any (w : World) (K : Int) (da la : Option Addr) (dn dc n lc d : Nat) (L : List (List Nat)) (r0 r1 r2 r3 : Value) (hn : n = L.length) (hA : ArgsW w la L) (hR : RepAt w d r0 r1 r2 r3) (hd : dn ≤ 140737488351232) (hl : n ≤ 140737488351232) :
    Calls Tryz.prog 13 #[.agg #[.int .i64 K, .slice da dn dc, .slice la n lc, r0, r1, r2, r3]] w fun e w' => ∃ h : Bool, e = .returned (.bool h) ∧ Hid (Below w.heap.size w w') ∧ (h = false → dn + hvS L ≤ 16777216) := by
  have HR := hide hR
  have HA := hide hA
  have HN := hide hn
  clear hA hn
  obtain ⟨d, rfl⟩ : ∃ d', d = d' + 1 := by
    cases d with
    | zero => exact absurd hR id
    | succ d => exact ⟨d, rfl⟩
  obtain ⟨⟨k0, rfl⟩, ⟨k1, rfl⟩, ⟨ta, tn', tc, rfl, htn⟩, qa, qn, qc, rfl, hln, -⟩ := hR
  have B0 : Hid (∀ o, Below (w.heap.size + 1) (w.alloc o) (w.alloc o)) := hide (fun o => Below.refl _ _)
  go_enter Tryz.func13, Tryz.ntmps13
  go_wp2
  go_loopw [3, 4] (fun nv iv wr => ∃ (i : Nat) (k : Nat), nv = .int .i64 (k : Nat) ∧ iv = .int .i64 (i : Nat) ∧ i ≤ n ∧ k ≤ 140737505132544 ∧ Hid (k = dn + hvS (L.take i)) ∧ Hid (Below (w.heap.size + 1) (w.alloc (.cells #[.int .i64 K, .slice da dn dc, .slice la n lc, .int .i64 k0, .int .i64 k1, .slice ta tn' tc, .slice qa qn qc] 52)) wr)) (fun _ iv _ => n - (intOf iv).toNat)
  case atStart => exact ⟨0, dn, rfl, rfl, Nat.zero_le _, by omega, hide (by simp [hvS]), hide (unhide B0 _)⟩
  case round =>
    obtain ⟨i, k, rfl, rfl, hi, hk1, hk, p⟩ := hrel
    have cw : ∀ j v, #[.int .i64 K, .slice da dn dc, .slice la n lc, .int .i64 k0, .int .i64 k1, .slice ta tn' tc, .slice qa qn qc][j]? = some v → wr.cell? ⟨w.heap.size, j, none⟩ = some v := fun j v h => by
      rw [(unhide p).cell (Nat.lt_succ_self _), cell_of_row _ _ _ _ _ _ (heap_alloc_new w _)]; exact h
    have cl : wr.cell? ⟨w.heap.size, 2, none⟩ = some (.slice la n lc) := cw 2 _ rfl
    have bw : Hid (Below w.heap.size w wr) := hide (((Below.refl w.heap.size w).alloc (Nat.le_refl _) _).trans ((unhide p).mono (Nat.le_succ _)))
    -- behind the loop
    have CM : Hid (k ≤ 16777216 → Calls Tryz.prog 39 #[.agg #[.int .i64 k0, .int .i64 k1, .slice ta tn' tc, .slice qa qn qc], .int .i64 (k : Nat)] wr fun e w' => ∃ k' : Int, e = .returned (.int .i64 k') ∧ (k : Int) ≤ k' ∧ k' ≤ 140737505132544 ∧ Hid (Below w.heap.size w w')) := hide (fun hk16 => (much_any (d + 1) wr _ _ _ _ k ((unhide HR).below (unhide bw)) (by omega) (by omega)).mono (fun e w' ⟨k', h1, h2, h3, h4⟩ => ⟨k', h1, h2, h3, hide ((unhide bw).trans ((unhide h4).mono (unhide bw).size))⟩))
    have s3 : wr.cell? ⟨w.heap.size, 3, none⟩ = some (.int .i64 k0) := cw 3 _ rfl
    have s4 : wr.cell? ⟨w.heap.size, 4, none⟩ = some (.int .i64 k1) := cw 4 _ rfl
    have s5 : wr.cell? ⟨w.heap.size, 5, none⟩ = some (.slice ta tn' tc) := cw 5 _ rfl
    have s6 : wr.cell? ⟨w.heap.size, 6, none⟩ = some (.slice qa qn qc) := cw 6 _ rfl
    clear cw
    by_cases hk16 : k ≤ 16777216
    · have f2 : decide ((k : Int) ≤ 16777216) = true := decide_eq_true (by omega)
      have f2n : decide (k ≤ 16777216) = true := decide_eq_true hk16
      rcases Nat.lt_or_ge i n with hlt | hge
      · have f1 : decide ((i : Int) < (n : Int)) = true := decide_eq_true (by omega)
        have g1 : (0 : Int) ≤ (i : Int) := by omega
        have g2 : (i : Int) < (n : Int) := by omega
        obtain ⟨b, off, rfl, hb, hc⟩ : ∃ b off, la = some ⟨b, off, none⟩ ∧ b < w.heap.size ∧ ∀ k T, L[k]? = some T → ∃ a c, w.cell? ⟨b, off + k, none⟩ = some (.slice a T.length c) ∧ Bytes w a T ∧ T.length ≤ 140737488351232 := by
          rcases unhide HA with h | h
          · rw [h] at HN; have := unhide HN; simp at this; omega
          · exact h
        obtain ⟨T, hT⟩ : ∃ T, L[i]? = some T := ⟨_, List.getElem?_eq_getElem (by have := unhide HN; omega)⟩
        obtain ⟨a', c', x1, -, x3⟩ := hc i T hT
        obtain ⟨t, ht⟩ : ∃ t, t = T.length := ⟨_, rfl⟩
        have c1 : wr.cell? ⟨b, off + i, none⟩ = some (.slice a' t c') := by rw [(unhide bw).cell hb, x1, ht]
        have hk' : Hid (k + 10 + t = dn + hvS (L.take (i + 1))) := hide (by rw [hvS_step hT, unhide hk, ht]; omega)
        have ht2 : t ≤ 140737488351232 := by omega
        clear hc x1 x3 hT ht CM
        go_wp2
        go_roundw
        all_goals first | exact ⟨i + 1, k + 10 + t, by go_num, by go_num, by omega, by omega, hk', p⟩ | (simp [intOf]; omega)
      · obtain rfl : i = n := by omega
        have f1 : decide ((i : Int) < (i : Int)) = false := decide_eq_false (by omega)
        have EN : Hid (k = dn + hvS L) := hide (by rw [unhide hk, unhide HN, List.take_length])
        go_wp2_with (go_at_call 39; refine (unhide CM hk16).mono ?_; rintro e w5 ⟨k', rfl, hk2, hk3, k5⟩)
        all_goals go_ret
        all_goals exact ⟨_, rfl, k5, fun h => by have := of_decide_eq_false h; have := unhide EN; omega⟩
    · have f2 : decide ((k : Int) ≤ 16777216) = false := decide_eq_false (by omega)
      have f2n : decide (k ≤ 16777216) = false := decide_eq_false hk16
      have f3 : decide ((k : Int) > 16777216) = true := decide_eq_true (by omega)
      have f4 : decide ((16777216 : Int) < (k : Int)) = true := decide_eq_true (by omega)
      have f5 : decide (16777216 < k) = true := decide_eq_true (by omega)
      rcases Nat.lt_or_ge i n with hlt | hge
      · have f1 : decide ((i : Int) < (n : Int)) = true := decide_eq_true (by omega)
        go_wp2
        all_goals go_ret
        all_goals exact ⟨_, rfl, bw, fun h => by simp at h⟩
      · obtain rfl : i = n := by omega
        have f1 : decide ((i : Int) < (i : Int)) = false := decide_eq_false (by omega)
        go_wp2
        all_goals go_ret
        all_goals exact ⟨_, rfl, bw, fun h => by simp at h⟩
end Go.Proofs.YtcnlikojbkegiaaGreatDoor
