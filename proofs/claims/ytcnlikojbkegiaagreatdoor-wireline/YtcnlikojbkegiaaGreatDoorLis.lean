/- Line: the program's quoted parts. -/
import Derived.Test.YtcnlikojbkegiaaGreatDoorLir
import Derived.Test.YtcnlikojbkegiaaGreatDoorWra
import Derived.Deep.RegionHeld3
import Derived.BigQuiet
namespace Go.Proofs.YtcnlikojbkegiaaGreatDoor
open Go.ChangeShapes Go.WideShapes Go.ChangeAt Go.RowKit
set_option linter.unusedVariables false
set_option linter.unusedSimpArgs false
set_option maxRecDepth 20000
set_option maxHeartbeats 4000000

theorem below_drewN (w : World) (n : Nat) : Below w.heap.size w (w.drewN n) := ⟨rfl, rfl, rfl, Nat.le_refl _, fun _ _ => rfl⟩
theorem drop_at' {T : List Nat} {i : Nat} (h : i < T.length) : T.drop i = T.getD i 0 :: T.drop (i + 1) := by
  rw [List.drop_eq_getElem_cons h]
  simp [List.getD, h]
theorem Bytes.drop {w : World} {b off i : Nat} {T : List Nat} (h : Bytes w (some ⟨b, off, none⟩) T) : Bytes w (some ⟨b, off + i, none⟩) (T.drop i) := by
  rcases h with e | ⟨b', off', e, h1, h2⟩
  · exact .inl (by rw [e]; simp)
  · cases e
    refine .inr ⟨b, off + i, rfl, h1, fun k hk => ?_⟩
    have := h2 (i + k) (by simp at hk; omega)
    rw [show off + i + k = off + (i + k) by omega, this]
    simp [List.getD]
/-- a step of the program's -/
theorem quotedP_here {q i : Nat} {T : List Nat} (h : i < T.length) (hc : T.getD i 0 = q) : Larder8.quotedP q (T.drop i) = some ([], T.drop (i + 1)) := by
  rw [drop_at' h, Larder8.quotedP, if_pos hc]
theorem quotedP_step {q i : Nat} {T : List Nat} (h : i < T.length) (hc : T.getD i 0 ≠ q) : Larder8.quotedP q (T.drop i) = (Larder8.quotedP q (T.drop (i + ((Larder8.qByte q (T.getD i 0) (T.drop (i + 1))).2 + 1)))).map (fun x => ((Larder8.qByte q (T.getD i 0) (T.drop (i + 1))).1 :: x.1, x.2)) := by
  rw [drop_at' h, Larder8.quotedP, if_neg hc, List.drop_drop]
  congr 3
  omega
theorem quotedP_end {q i : Nat} {T : List Nat} (h : T.length ≤ i) : Larder8.quotedP q (T.drop i) = none := by
  rw [List.drop_eq_nil_of_le h, Larder8.quotedP]
theorem qByte_len (q c : Nat) (r : List Nat) : (Larder8.qByte q c r).2 ≤ r.length := by
  unfold Larder8.qByte
  split
  · simp
  · split
    · simp
    · rename_i d r' 
      split
      · split
        · split
          · rename_i x hx
            obtain ⟨a, b, r'', rfl, -⟩ := Larder8.hex2_cases hx
            simp
          · simp
        · simp
      · split <;> simp
/-- what quoted answers: what is said, and by how many bytes -/
theorem quoted_any (w : World) (b off cp tn q : Nat) (r : List Nat) (hq : q = 34 ∨ q = 39) (hn : tn = r.length + 1) (hcp : tn ≤ cp) (hcl : cp ≤ 1073741824) (hB : Bytes w (some ⟨b, off, none⟩) (q :: r)) :
    Calls Tryz.prog 42 #[.slice (some ⟨b, off, none⟩) tn cp] w fun e w' => ∃ (va : Option Addr) (n vc k : Nat), e = .returned (.tuple #[.slice va n vc, .int .i64 (k : Nat)]) ∧ k ≤ tn ∧ (k = 0 → Hid (Larder8.quotedP q r = none ∧ Below w.heap.size w w')) ∧ (0 < k → Hid (∃ l, Larder8.quotedP q r = some (l, (q :: r).drop k) ∧ Gro w w' w.heap.size (.slice va n vc) n l)) := by
  obtain ⟨T, hT⟩ : ∃ T, T = q :: r := ⟨_, rfl⟩
  rw [← hT] at hB ⊢
  have hTl : tn = T.length := by rw [hT, hn]; simp
  have h1 : T.drop 1 = r := by rw [hT]; rfl
  have h0 : T.getD 0 0 = q := by rw [hT]; rfl
  rw [← h1]
  have HB := hide hB
  have HTl := hide hTl
  have hb : b < w.heap.size := by
    rcases hB with e | ⟨b', off', e, h1, h2⟩
    · rw [hT] at e; cases e
    · cases e; exact h1
  have g00 : (0 : Int) < (tn : Int) := by omega
  have HC : Hid (∀ W, Below w.heap.size w W → ∀ i, i < tn → W.cell? ⟨b, off + i, none⟩ = some (.int .u8 (T.getD i 0 : Nat))) := hide (fun W hW i hi => by
    rw [hW.cell hb]
    rcases hB with e | ⟨b', off', e, h1, h2⟩
    · rw [hT] at e; cases e
    · cases e; exact h2 i (by omega))
  have H0 := hide h0
  clear hB hTl h1 h0 hT hn
  obtain ⟨i5, hi5, hz5, hs5, hb5⟩ := info_partsS Tryz.info5s
  go_enter Tryz.func42, Tryz.ntmps42
  go_wp2_with fail
  go_loopw [4, 5] (fun v iv wr => ∃ (i n vc : Nat) (va : Option Addr) (l : List Nat), v = .slice va n vc ∧ iv = .int .i64 (i : Nat) ∧ 1 ≤ i ∧ i ≤ tn ∧ n ≤ i ∧ Hid (Larder8.quotedP q (T.drop 1) = (Larder8.quotedP q (T.drop i)).map (fun x => (l ++ x.1, x.2))) ∧ Hid (Gro w wr w.heap.size (.slice va n vc) n l)) (fun _ iv _ => tn - (intOf iv).toNat)
  case atStart => exact ⟨1, 0, 0, none, [], rfl, rfl, Nat.le_refl _, by omega, by omega, hide (by simp), hide (Gro.start w _ (Nat.le_refl _))⟩
  case round =>
    obtain ⟨i, n, vc, va, l, rfl, rfl, hi1, hi2, hni, hQ, hG⟩ := hrel
    rename World => wr
    rcases Nat.lt_or_ge i tn with hlt | hge
    · have f0 : decide ((i : Int) < (tn : Int)) = true := decide_eq_true (by omega)
      have g1 : (0 : Int) ≤ (i : Int) := by omega
      have g2 : (i : Int) < (tn : Int) := by omega
      have c0 : wr.cell? ⟨b, off, none⟩ = some (.int .u8 (q : Nat)) := by
        have := unhide HC wr (unhide hG).bel 0 (by omega)
        rw [unhide H0] at this
        exact this
      have ci := unhide HC wr (unhide hG).bel i hlt
      obtain ⟨c, hc⟩ : ∃ c, c = T.getD i 0 := ⟨_, rfl⟩
      have HCC := hide hc
      rw [← hc] at ci
      clear hc
      by_cases hcq : c = q
      · subst hcq
        have t1 : ((c : Int) == (c : Int)) = true := by simp
        have HEN : Hid (Larder8.quotedP c (T.drop 1) = some (l, T.drop (i + 1))) := hide (by
          rw [unhide hQ, quotedP_here (by have := unhide HTl; omega) (unhide HCC).symm]
          simp)
        go_wp2_with fail
        go_quiet (fail)
        have HG2 := hide ((unhide hG).below (below_drewN wr nq))
        generalize wr.drewN nq = w2 at *
        clear c0 ci hG HC HB
        go_wp2
        go_ret2
        refine ⟨va, n, vc, i + 1, rfl, by omega, fun h => by omega, fun _ => hide ⟨l, unhide HEN, unhide HG2⟩⟩
      · have t1 : ((c : Int) == (q : Int)) = false := by rw [beq_eq_false_iff_ne]; omega
        obtain ⟨u, hu⟩ : ∃ u, u = (Larder8.qByte q c (T.drop (i + 1))).1 := ⟨_, rfl⟩
        obtain ⟨p, hp⟩ : ∃ p, p = (Larder8.qByte q c (T.drop (i + 1))).2 + 1 := ⟨_, rfl⟩
        have hpl : i + p ≤ tn := by
          have h1 := qByte_len q c (T.drop (i + 1))
          have h2 := unhide HTl
          simp only [List.length_drop] at h1
          omega
        have hp1 : 1 ≤ p := by omega
        have HEN : Hid (Larder8.quotedP q (T.drop 1) = (Larder8.quotedP q (T.drop (i + p))).map (fun x => ((l ++ [u]) ++ x.1, x.2))) := hide (by
          rw [unhide hQ, quotedP_step (by have := unhide HTl; omega) (by rw [← unhide HCC]; exact hcq), Option.map_map, hp, hu, unhide HCC]
          congr 1
          funext x
          simp)
        have HAT : Hid (∀ W, Below wr.heap.size wr W → Calls Tryz.prog 59 #[.slice (some ⟨b, off + i, none⟩) (tn - i) (cp - i), .int .u8 (q : Nat)] W fun e w' => e = .returned (.tuple #[.int .u8 (u : Nat), .int .i64 (p : Nat)]) ∧ w' = W) := hide (fun W hW => by
          have hb2 : Bytes W (some ⟨b, off + i, none⟩) (c :: T.drop (i + 1)) := by
            have h1 := (((unhide HB).below ((unhide hG).bel)).below hW).drop (i := i)
            rw [drop_at' (by have := unhide HTl; omega), ← unhide HCC] at h1
            exact h1
          rw [hu, hp]
          exact quotedByte_any W b (off + i) (cp - i) (tn - i) q c (T.drop (i + 1)) hq (by have := unhide HTl; simp only [List.length_drop]; omega) (by omega) (by omega) hb2)
        have hne : (cp = i) = False := eq_false (by omega)
        have g0n : 0 < tn := by omega
        clear hu hp
        go_wp2_with fail
        go_quiet (fail)
        have HB3 := hide (below_drewN wr nq)
        have c02 : (wr.drewN nq).cell? ⟨b, off, none⟩ = some (.int .u8 (q : Nat)) := c0
        generalize wr.drewN nq = w2 at *
        have HBD : Hid (Below wr.heap.size wr w2.drew) := hide ((unhide HB3).trans ⟨rfl, rfl, rfl, Nat.le_refl _, fun _ _ => rfl⟩)
        have HG2 := hide ((unhide hG).below (unhide HBD))
        clear c0 ci
        go_wp2_with fail
        go_region_held3 (fun w' => w'.cell? ⟨b, off, none⟩ = some (.int .u8 (q : Nat))) (go_keep) (first | (go_at_call 59; refine (unhide HAT _ (unhide HBD)).mono ?_; rintro e w5 ⟨rfl, h5⟩; subst h5))
        have AL : Hid (∀ W : World, ∀ o, Below W.heap.size W (W.alloc o)) := hide (fun W o => (Below.refl _ _).alloc (Nat.le_refl _) _)
        have MB : Hid (∀ W : World, Bytes (W.alloc (.cells #[.int .u8 (u : Nat)] 5)) (some ⟨W.heap.size, 0, none⟩) [u]) := hide (fun W => made_bytes W [u])
        go_wp2_with (at_builtin; refine append_bytes rfl _ _ 25 rfl i5 Tryz.underlying25 hi5 hz5 hs5 hb5 (.slice va n vc) n (byV l) rfl ((unhide HG2).row.below (unhide AL _ _)) (some ⟨w2.heap.size, 0, none⟩) 1 [u] rfl (unhide MB _) (by simp; omega) ?_; intro v1 w1 h1 g1; have HG3 := hide (((unhide HG2).below (unhide AL _ _)).app h1 g1); obtain ⟨a1, c1, rfl⟩ := h1.shape; clear h1 g1)
        refine ⟨⟨i + p, n + 1, c1, a1, l ++ [u], rfl, by go_num, by omega, hpl, by omega, hide (unhide HEN), hide (unhide HG3)⟩, by simp [intOf]; omega⟩
    · obtain rfl : i = tn := by omega
      have f0 : decide ((i : Int) < (i : Int)) = false := decide_eq_false (by omega)
      have HEN : Hid (Larder8.quotedP q (T.drop 1) = none) := hide (by
        rw [unhide hQ, quotedP_end (by have := unhide HTl; omega)]
        rfl)
      clear HC HB
      go_wp2
      go_ret2
      exact ⟨none, 0, 0, 0, rfl, by omega, fun _ => hide ⟨unhide HEN, (unhide hG).bel⟩, fun h => by omega⟩
end Go.Proofs.YtcnlikojbkegiaaGreatDoor
