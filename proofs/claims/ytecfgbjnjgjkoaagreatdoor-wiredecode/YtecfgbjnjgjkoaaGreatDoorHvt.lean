/- heavy, of a tree. -/
import Derived.Test.YtecfgbjnjgjkoaaGreatDoorTre
namespace Go.Proofs.YtecfgbjnjgjkoaaGreatDoor
open Go.ChangeShapes Go.WideShapes Go.ChangeAt Go.RowKit
set_option linter.unusedVariables false
set_option linter.unusedSimpArgs false
set_option maxRecDepth 20000
set_option maxHeartbeats 4000000
theorem heavy_tree (w : World) (K : Int) (da la : Option Addr) (dn dc n lc d : Nat) (x : Tr d) (L : List (List Nat)) (r0 r1 r2 r3 : Value) (hn : n = L.length) (hA : ArgsW w la L) (hR : RpAt w d x r0 r1 r2 r3) (hd : dn ≤ 140737488351232) (hl : n ≤ 140737488351232) :
    Calls Tryz.prog 13 #[.agg #[.int .i64 K, .slice da dn dc, .slice la n lc, r0, r1, r2, r3]] w fun e w' => ∃ h : Bool, e = .returned (.bool h) ∧ Hid (Below w.heap.size w w') ∧ (h = false → dn + hvS L + sz d x ≤ 16777216) := by
  have HR := hide hR
  have HA := hide hA
  have HN := hide hn
  clear hA hn
  obtain ⟨S, hS⟩ : ∃ S, S = sz d x := ⟨_, rfl⟩
  have HS := hide hS
  rw [← hS]
  clear hS
  obtain ⟨k0, k1, ta, tn', tc, qa, qn, qc, rfl, rfl, rfl, rfl, htn, hln⟩ : ∃ (k0 k1 : Int) (ta : Option Addr) (tn' tc : Nat) (qa : Option Addr) (qn qc : Nat), r0 = .int .i64 k0 ∧ r1 = .int .i64 k1 ∧ r2 = .slice ta tn' tc ∧ r3 = .slice qa qn qc ∧ tn' ≤ 140737488351232 ∧ qn ≤ 140737488351232 := by
    obtain ⟨d, rfl⟩ : ∃ d', d = d' + 1 := ⟨d - 1, by have := tr_pos x; omega⟩
    obtain ⟨⟨rfl, -⟩, ⟨rfl, -⟩, ⟨ta, tc, rfl, -, -, htn, -⟩, la, lc, rfl, hln, -⟩ := hR
    exact ⟨_, _, _, _, _, _, _, _, rfl, rfl, rfl, rfl, htn, hln⟩
  clear hR
  have B0 : Hid (∀ o, Below (w.heap.size + 1) (w.alloc o) (w.alloc o)) := hide (fun o => Below.refl _ _)
  go_enter Tryz.func13, Tryz.ntmps13
  go_wp2
  go_loopw [3, 4] (fun nv iv wr => ∃ (i : Nat) (k : Nat), nv = .int .i64 (k : Nat) ∧ iv = .int .i64 (i : Nat) ∧ i ≤ n ∧ k ≤ 140737505132544 ∧ Hid (k = dn + hvS (L.take i)) ∧ Hid (Below (w.heap.size + 1) (w.alloc (.cells #[.int .i64 K, .slice da dn dc, .slice la n lc, .int .i64 k0, .int .i64 k1, .slice ta tn' tc, .slice qa qn qc] 52)) wr)) (fun _ iv _ => n - (intOf iv).toNat)
  case atStart => exact ⟨0, dn, rfl, rfl, Nat.zero_le _, by omega, hide (by simp [hvS]), hide (unhide B0 _)⟩
  case round =>
    obtain ⟨i, k, rfl, rfl, hi, hk1, hk, p⟩ := hrel
    have cw : ∀ j v, #[.int .i64 K, .slice da dn dc, .slice la n lc, .int .i64 k0, .int .i64 k1, .slice ta tn' tc, .slice qa qn qc][j]? = some v → wr.cell? ⟨w.heap.size, j, none⟩ = some v := fun j v h => by
      rw [(unhide p).cell (Nat.lt_succ_self _), cell_of_row _ _ _ _ _ _ (heap_alloc_new w _)]; exact h
    have cl : wr.cell? ⟨w.heap.size, 2, none⟩ = some (.slice la n lc) := cw 2 _ rfl
    have bw : Hid (Below w.heap.size w wr) := hide (((Below.refl w.heap.size w).alloc (Nat.le_refl _) _).trans ((unhide p).mono (Nat.le_succ _)))
    -- behind the loop
    have CM : Hid (k ≤ 16777216 → Calls Tryz.prog 39 #[.agg #[.int .i64 k0, .int .i64 k1, .slice ta tn' tc, .slice qa qn qc], .int .i64 (k : Nat)] wr fun e w' => ∃ k' : Int, e = .returned (.int .i64 k') ∧ (k : Int) ≤ k' ∧ k' ≤ 140737505132544 ∧ Hid (Below w.heap.size w w' ∧ (k' ≤ 16777216 → k' = k + S))) := hide (fun hk16 => (much_tree d wr x _ _ _ _ k ((unhide HR).below (unhide bw)) (by omega) (by omega)).mono (fun e w' ⟨k', h1, h2, h3, h4⟩ => ⟨k', h1, h2, h3, hide ⟨(unhide bw).trans ((unhide h4).1.mono (unhide bw).size), by rw [unhide HS]; exact (unhide h4).2⟩⟩))
    have s3 : wr.cell? ⟨w.heap.size, 3, none⟩ = some (.int .i64 k0) := cw 3 _ rfl
    have s4 : wr.cell? ⟨w.heap.size, 4, none⟩ = some (.int .i64 k1) := cw 4 _ rfl
    have s5 : wr.cell? ⟨w.heap.size, 5, none⟩ = some (.slice ta tn' tc) := cw 5 _ rfl
    have s6 : wr.cell? ⟨w.heap.size, 6, none⟩ = some (.slice qa qn qc) := cw 6 _ rfl
    clear cw
    by_cases hk16 : k ≤ 16777216
    · have f2 : decide ((k : Int) ≤ 16777216) = true := decide_eq_true (by omega)
      have f2n : decide (k ≤ 16777216) = true := decide_eq_true hk16
      rcases Nat.lt_or_ge i n with hlt | hge
      · have f1 : decide ((i : Int) < (n : Int)) = true := decide_eq_true (by omega)
        have g1 : (0 : Int) ≤ (i : Int) := by omega
        have g2 : (i : Int) < (n : Int) := by omega
        obtain ⟨b, off, rfl, hb, hc⟩ : ∃ b off, la = some ⟨b, off, none⟩ ∧ b < w.heap.size ∧ ∀ k T, L[k]? = some T → ∃ a c, w.cell? ⟨b, off + k, none⟩ = some (.slice a T.length c) ∧ Bytes w a T ∧ T.length ≤ 140737488351232 := by
          rcases unhide HA with h | h
          · rw [h] at HN; have := unhide HN; simp at this; omega
          · exact h
        obtain ⟨T, hT⟩ : ∃ T, L[i]? = some T := ⟨_, List.getElem?_eq_getElem (by have := unhide HN; omega)⟩
        obtain ⟨a', c', x1, -, x3⟩ := hc i T hT
        obtain ⟨t, ht⟩ : ∃ t, t = T.length := ⟨_, rfl⟩
        have c1 : wr.cell? ⟨b, off + i, none⟩ = some (.slice a' t c') := by rw [(unhide bw).cell hb, x1, ht]
        have hk' : Hid (k + 10 + t = dn + hvS (L.take (i + 1))) := hide (by rw [hvS_step hT, unhide hk, ht]; omega)
        have ht2 : t ≤ 140737488351232 := by omega
        clear hc x1 x3 hT ht CM
        go_wp2
        go_roundw
        all_goals first | exact ⟨i + 1, k + 10 + t, by go_num, by go_num, by omega, by omega, hk', p⟩ | (simp [intOf]; omega)
      · obtain rfl : i = n := by omega
        have f1 : decide ((i : Int) < (i : Int)) = false := decide_eq_false (by omega)
        have EN : Hid (k = dn + hvS L) := hide (by rw [unhide hk, unhide HN, List.take_length])
        go_wp2_with (go_at_call 39; refine (unhide CM hk16).mono ?_; rintro e w5 ⟨k', rfl, hk2, hk3, k5⟩)
        all_goals go_ret
        all_goals exact ⟨_, rfl, hide (unhide k5).1, fun h => by have h1 := of_decide_eq_false h; have h2 := unhide EN; have h3 := (unhide k5).2 (by omega); omega⟩
    · have f2 : decide ((k : Int) ≤ 16777216) = false := decide_eq_false (by omega)
      have f2n : decide (k ≤ 16777216) = false := decide_eq_false hk16
      have f3 : decide ((k : Int) > 16777216) = true := decide_eq_true (by omega)
      have f4 : decide ((16777216 : Int) < (k : Int)) = true := decide_eq_true (by omega)
      have f5 : decide (16777216 < k) = true := decide_eq_true (by omega)
      rcases Nat.lt_or_ge i n with hlt | hge
      · have f1 : decide ((i : Int) < (n : Int)) = true := decide_eq_true (by omega)
        go_wp2
        all_goals go_ret
        all_goals exact ⟨_, rfl, bw, fun h => by simp at h⟩
      · obtain rfl : i = n := by omega
        have f1 : decide ((i : Int) < (i : Int)) = false := decide_eq_false (by omega)
        go_wp2
        all_goals go_ret
        all_goals exact ⟨_, rfl, bw, fun h => by simp at h⟩
end Go.Proofs.YtecfgbjnjgjkoaaGreatDoor
