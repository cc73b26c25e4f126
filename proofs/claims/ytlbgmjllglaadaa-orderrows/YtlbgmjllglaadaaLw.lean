/- TextRows: the walk. -/
import Derived.Test.YtlbgmjllglaadaaLt
import Derived.Deep.MidRow
namespace Go.Proofs.Ytlbgmjllglaadaa
open Go.ChangeShapes Go.WideShapes Go.ChangeAt Go.RowKit
set_option linter.unusedVariables false
set_option maxRecDepth 20000
set_option maxHeartbeats 4000000

theorem law_any (w : World) : Calls Try.prog 3 #[] w fun e w' => e = .returned (.bool true) ∧ Below w.heap.size w w' := by
  obtain ⟨i3, hi3, hz3, hs3, hb3⟩ := info_parts Try.info23
  have CC : Hid (∀ W, Calls Try.prog 4 #[] W fun e w' => e = .returned (.slice (some ⟨W.heap.size, 0, none⟩) 31 31) ∧ Hid (w'.heap[W.heap.size]? = some (.cells tabA 28 (0, 0)) ∧ w'.heap.size = W.heap.size + 1 ∧ Below W.heap.size W w')) := hide (fun W => commands_any W)
  go_enter Try.func3, Try.ntmps3
  go_wp2_with fail
  go_loopw [1, 2] (fun lv iv wr => ∃ k bs, iv = .int .i64 (k : Nat) ∧ k ≤ 40 ∧ Hid (P1 w wr lv k bs)) (fun _ iv _ => 40 - (intOf iv).toNat)
  case atStart => exact ⟨0, _, rfl, Nat.zero_le _, hide (P1.start w)⟩
  case round =>
    obtain ⟨k, bs, rfl, hk, p1⟩ := hrel
    obtain ⟨la, lc, rfl⟩ := (unhide p1).line.shape
    rcases Nat.lt_or_ge k 40 with hlt | hge
    · have f1 : decide ((k : Int) < 40) = true := decide_eq_true (by omega)
      go_wp2_with (first
        | (go_at_call 4; refine (unhide CC _).mono ?_; rintro e w1 ⟨rfl, k1⟩)
        | (at_builtin; refine append_line rfl _ _ 22 rfl 23 i3 _ 24 Try.underlying22 hi3 hz3 hs3 hb3 rfl (.slice la k lc) k _ rfl ((unhide p1).mid (unhide k1)).1 w1.heap.size rfl _ ((unhide p1).mid (unhide k1)).2 rfl (by omega) (by omega) ?_; intro v' w3 hL hG; have p3 := hide ((unhide p1).step (unhide k1) hL hG); clear hL hG))
      all_goals go_roundw
      all_goals first | exact ⟨k + 1, _, by simp, by omega, p3⟩ | (simp only [intOf]; omega)
    · have hkk : k = 40 := by omega
      subst hkk
      rw [show ((40 : Nat) : Int) = 40 from rfl]
      have f1 : decide ((40 : Int) < 40) = false := decide_eq_false (by omega)
      rename World => w2
      obtain ⟨lg, lc2, hlv, -, hat⟩ := (unhide p1).line.at (by decide)
      cases hlv
      have LC : Hid (∀ j, j < 40 → w2.cell? ⟨lg, j, none⟩ = some (el (bs j))) := hide (fun j hj => (hat j hj).1)
      have llt : Hid (lg < w2.heap.size) := hide ((unhide p1).line.lt lg rfl)
      clear hat
      have RO : Hid (∀ i, i < 40 → ∀ W, Hid (Below w2.heap.size w2 W) → Calls Try.prog 5 #[.slice (some ⟨bs i, 0, none⟩) 31 31] W fun e w' => e = .returned (.bool true) ∧ Hid (Below w2.heap.size w2 w') ∧ w'.cell? ⟨lg, i, none⟩ = some (.slice (some ⟨bs i, 0, none⟩) 31 31)) := hide (fun i hi W hW => by
        have hb := (unhide p1).tab i hi
        have hlt := (Array.getElem?_eq_some_iff.1 hb.2).1
        refine (rows_any (bs i) 0 31 W (Nat.lt_of_lt_of_le hlt (unhide hW).size) (fun k hk => ?_)).mono ?_
        · rw [(unhide hW).cell hlt, cell_of_row _ _ _ _ _ _ hb.2, Nat.zero_add]
        · rintro e w' ⟨rfl, h2⟩
          have h3 := bel_chain (unhide hW) h2 (unhide hW).size
          exact ⟨rfl, hide h3, by rw [h3.cell (unhide llt)]; exact unhide LC i hi⟩)
      go_wp2_with fail
      go_loopw [3] (fun iv wr => ∃ i : Nat, iv = .int .i64 (i : Nat) ∧ i ≤ 40 ∧ Hid (Below w2.heap.size w2 wr)) (fun iv _ => 40 - (intOf iv).toNat)
      case atStart => exact ⟨0, rfl, Nat.zero_le _, hide (Below.refl _ _)⟩
      case round =>
        obtain ⟨i, rfl, hi, b3⟩ := hrel
        rcases Nat.lt_or_ge i 40 with hlt | hge
        · have f2 : decide ((i : Int) < 40) = true := decide_eq_true (by omega)
          have c1 : wr.cell? ⟨lg, i, none⟩ = some (.slice (some ⟨bs i, 0, none⟩) 31 31) := by rw [(unhide b3).cell (unhide llt)]; exact unhide LC i hlt
          go_wp2_with (go_at_call 5; refine (unhide RO i hlt _ b3).mono ?_; rintro e w4 ⟨rfl, k4, c4⟩)
          all_goals go_roundw
          all_goals first | exact ⟨i + 1, by simp, by omega, k4⟩ | (simp only [intOf]; omega)
        · have hkk : i = 40 := by omega
          subst hkk
          rw [show ((40 : Nat) : Int) = 40 from rfl]
          have f2 : decide ((40 : Int) < 40) = false := decide_eq_false (by omega)
          have p3 : Hid (P3 w wr (.slice (some ⟨lg, 0, none⟩) 40 lc) bs 0 0) := hide (P3.start (unhide p1) (unhide b3))
          have BS : Hid (∀ j, j < 40 → w.heap.size ≤ bs j) := hide (fun j hj => ((unhide p1).tab j hj).1)
          have ONE : Hid (∀ i j, i < 40 → j < 40 → bs i = bs j → i = j) := hide (unhide p1).one
          have OWN : Hid (w.heap.size ≤ lg) := hide ((unhide p1).own lg rfl)
          clear p1 LC llt RO b3
          rename World => w3
          go_wp2_with fail
          go_loopw [4, 5] (fun iv _ wr => ∃ i : Nat, iv = .int .i64 (i : Nat) ∧ i ≤ 40 ∧ Hid (P3 w wr (.slice (some ⟨lg, 0, none⟩) 40 lc) bs i 0)) (fun iv _ _ => 40 - (intOf iv).toNat)
          case atStart => exact ⟨0, rfl, Nat.zero_le _, p3⟩
          case round =>
            rename World => wo
            obtain ⟨i, rfl, hi, p4⟩ := hrel
            rcases Nat.lt_or_ge i 40 with hlt | hge
            · have f3 : decide ((i : Int) < 40) = true := decide_eq_true (by omega)
              go_wp2_with fail
              go_loopw [5] (fun kv wr => ∃ k : Nat, kv = .int .i64 (k : Nat) ∧ k ≤ 31 ∧ Hid (P3 w wr (.slice (some ⟨lg, 0, none⟩) 40 lc) bs i k)) (fun kv _ => 31 - (intOf kv).toNat)
              case atStart => exact ⟨0, rfl, Nat.zero_le _, p4⟩
              case round =>
                obtain ⟨k, rfl, hk, p5⟩ := hrel
                have hc5 := ((unhide p5).line.at (by decide))
                obtain ⟨lg', lc', hlv, -, hat⟩ := hc5
                cases hlv
                have c5 : wr.cell? ⟨lg, i, none⟩ = some (.slice (some ⟨bs i, 0, none⟩) 31 31) := (hat i hlt).1
                clear hat
                rcases Nat.lt_or_ge k 31 with hkl | hkg
                · have f4 : decide ((k : Int) < 31) = true := decide_eq_true (by omega)
                  obtain ⟨cu, hcu, hcz, -⟩ := (unhide p5).cmd i hlt
                  have hne : lg ≠ bs i := fun e => by
                    rcases (unhide p5).line with ⟨h, _⟩ | ⟨g, cap, cur, h, hg, _⟩
                    · cases h
                    · cases h
                      rw [e, hcu] at hg
                      cases hg
                  obtain ⟨V0, hV0⟩ : ∃ v, cu[k * 7 + 0]? = some v := ⟨_, Array.getElem?_eq_getElem (by omega)⟩
                  obtain ⟨V1, hV1⟩ : ∃ v, cu[k * 7 + 1]? = some v := ⟨_, Array.getElem?_eq_getElem (by omega)⟩
                  obtain ⟨V2, hV2⟩ : ∃ v, cu[k * 7 + 2]? = some v := ⟨_, Array.getElem?_eq_getElem (by omega)⟩
                  obtain ⟨V3, hV3⟩ : ∃ v, cu[k * 7 + 3]? = some v := ⟨_, Array.getElem?_eq_getElem (by omega)⟩
                  obtain ⟨V4, hV4⟩ : ∃ v, cu[k * 7 + 4]? = some v := ⟨_, Array.getElem?_eq_getElem (by omega)⟩
                  obtain ⟨V5, hV5⟩ : ∃ v, cu[k * 7 + 5]? = some v := ⟨_, Array.getElem?_eq_getElem (by omega)⟩
                  obtain ⟨V6, hV6⟩ : ∃ v, cu[k * 7 + 6]? = some v := ⟨_, Array.getElem?_eq_getElem (by omega)⟩
                  have MK : Hid (Calls Try.prog 6 #[.int .i64 (i : Nat)] wr.drew fun e w' => e = .returned (.string (mkB i)) ∧ Hid (P3 w w' (.slice (some ⟨lg, 0, none⟩) 40 lc) bs i k) ∧ w'.cell? ⟨lg, i, none⟩ = some (.slice (some ⟨bs i, 0, none⟩) 31 31) ∧ w'.cell? ⟨bs i, k * 7, none⟩ = some V0 ∧ w'.cell? ⟨bs i, k * 7 + 1, none⟩ = some V1 ∧ w'.cell? ⟨bs i, k * 7 + 2, none⟩ = some V2 ∧ w'.cell? ⟨bs i, k * 7 + 3, none⟩ = some V3 ∧ w'.cell? ⟨bs i, k * 7 + 4, none⟩ = some V4 ∧ w'.cell? ⟨bs i, k * 7 + 5, none⟩ = some V5 ∧ w'.cell? ⟨bs i, k * 7 + 6, none⟩ = some V6 ∧ w'.frozen? ⟨bs i, k * 7, none⟩ = false ∧ w'.frozen? ⟨bs i, k * 7 + 1, none⟩ = false ∧ w'.frozen? ⟨bs i, k * 7 + 2, none⟩ = false ∧ w'.frozen? ⟨bs i, k * 7 + 3, none⟩ = false ∧ w'.frozen? ⟨bs i, k * 7 + 4, none⟩ = false ∧ w'.frozen? ⟨bs i, k * 7 + 5, none⟩ = false ∧ w'.frozen? ⟨bs i, k * 7 + 6, none⟩ = false) := hide (by
                    refine (mark_any i hlt wr.drew).mono ?_
                    rintro e w' ⟨rfl, h2⟩
                    have h3 : Below wr.heap.size wr w' := ⟨h2.os, h2.tape, h2.output, h2.size, h2.block⟩
                    have hb1 : w'.heap[bs i]? = some (.cells cu 28 (0, 0)) := by rw [h3.block _ (Array.getElem?_eq_some_iff.1 hcu).1]; exact hcu
                    have fz : ∀ o, w'.frozen? ⟨bs i, o, none⟩ = false := fun o => by simp only [World.frozen?, hb1]; simp
                    have ce : ∀ o v, cu[o]? = some v → w'.cell? ⟨bs i, o, none⟩ = some v := fun o v h => by rw [cell_of_row _ _ _ _ _ _ hb1]; exact h
                    exact ⟨rfl, hide ((unhide p5).below h3), by rw [h3.cell ((unhide p5).line.lt lg rfl)]; exact c5, ce _ _ hV0, ce _ _ hV1, ce _ _ hV2, ce _ _ hV3, ce _ _ hV4, ce _ _ hV5, ce _ _ hV6, fz _, fz _, fz _, fz _, fz _, fz _, fz _⟩)
                  clear hcu hcz hV0 hV1 hV2 hV3 hV4 hV5 hV6
                  have g1 : (0 : Int) ≤ (i : Int) := by omega
                  have g2 : (i : Int) < 40 := by omega
                  have g3 : (0 : Int) ≤ (k : Int) := by omega
                  have g4 : (k : Int) < 31 := by omega
                  have n1 : (lg == bs i) = false := by simp [hne]
                  go_wp2_with fail
                  go_region_held3 (fun w' => w'.cell? ⟨lg, i, none⟩ = some (.slice (some ⟨bs i, 0, none⟩) 31 31)) (first | go_keep | exact (cell_put7 _ _ _ _ _ _ _ _ _ _ _ _ hne).trans c6) (first | (go_at_call 6; refine (unhide MK).mono ?_; rintro e w5 ⟨rfl, k5, c6, x⟩))
                  all_goals (have p7 := hide ((unhide k5).put hlt hkl (unhide BS i hlt) (fun j hj e => unhide ONE j i hj hlt e) (put7 (bs i) (k * 7) _ _ (.int .i64 0) (.bool false) (.int .i64 0) (.int .i64 0) (.int .i64 0) (.int .i64 0))))
                  all_goals go_wp2
                  all_goals go_roundw
                  all_goals first | exact ⟨k + 1, by simp, by omega, p7⟩ | (simp only [intOf]; omega)
                · have hkk : k = 31 := by omega
                  subst hkk
                  rw [show ((31 : Nat) : Int) = 31 from rfl]
                  have f4 : decide ((31 : Int) < 31) = false := decide_eq_false (by omega)
                  have p6 := hide (unhide p5).next
                  go_wp2
                  all_goals go_roundw
                  all_goals first | exact ⟨i + 1, by simp, by omega, p6⟩ | (simp only [intOf]; omega)
            · have hkk : i = 40 := by omega
              subst hkk
              rw [show ((40 : Nat) : Int) = 40 from rfl]
              have f3 : decide ((40 : Int) < 40) = false := decide_eq_false (by omega)
              have p8 := hide (P4.start (unhide p4) (fun g hg => by simp [Value.ownBlock] at hg; subst hg; exact unhide OWN))
              clear p3 p4 ONE BS OWN
              have MA : Hid (∀ i, i < 40 → ∀ W, Calls Try.prog 6 #[.int .i64 (i : Nat)] W fun e w' => e = .returned (.string (mkB i)) ∧ Hid (Below W.heap.size W w')) := hide (fun i hi W => mark_any i hi W)
              go_wp2_with fail
              go_loopw [6, 7, 8, 9, 10] (fun fv mv iv _ _ wr => ∃ (i : Nat) (Ff Fm : Nat → Value), iv = .int .i64 (i : Nat) ∧ i ≤ 40 ∧ Hid (P4 w wr (.slice (some ⟨lg, 0, none⟩) 40 lc) fv mv bs i Ff Fm)) (fun _ _ iv _ _ _ => 40 - (intOf iv).toNat)
              case atStart => exact ⟨0, _, _, rfl, Nat.zero_le _, p8⟩
              case round =>
                rename World => ws
                obtain ⟨i, Ff, Fm, rfl, hi, p9⟩ := hrel
                obtain ⟨fa, fc, rfl⟩ := (unhide p9).fl.shape
                obtain ⟨ma, mc, rfl⟩ := (unhide p9).ml.shape
                rcases Nat.lt_or_ge i 40 with hlt | hge
                · have f5 : decide ((i : Int) < 40) = true := decide_eq_true (by omega)
                  have c9 : ws.cell? ⟨lg, i, none⟩ = some (.slice (some ⟨bs i, 0, none⟩) 31 31) := by
                    obtain ⟨lg', lc', hlv, -, hat⟩ := (unhide p9).lin.at (by decide)
                    cases hlv
                    exact (hat i hlt).1
                  have q0 := hide (P5.start (unhide p9) hlt)
                  clear p8
                  go_wp2_with fail
                  go_loopw [6, 9, 10] (fun fv gv kv wr => ∃ (k : Nat) (u : Value), kv = .int .i64 (k : Nat) ∧ k ≤ 70 ∧ Hid (P5 ws wr (.slice fa i fc) fv gv u bs i k k Ff)) (fun _ _ kv _ => 70 - (intOf kv).toNat)
                  case atStart => exact ⟨0, _, rfl, Nat.zero_le _, q0⟩
                  case round =>
                    obtain ⟨k, u, rfl, hk, q1⟩ := hrel
                    obtain ⟨gb, gc, rfl, -⟩ := (unhide q1).gn.cells
                    clear q0 c9
                    rcases Nat.lt_or_ge k 70 with hkl | hkg
                    · have f6 : decide ((k : Int) < 70) = true := decide_eq_true (by omega)
                      rcases Nat.eq_zero_or_pos k with hk0 | hk0
                      · subst hk0
                        obtain ⟨fa2, fc2, rfl⟩ := (unhide q1).first.shape
                        rw [show ((0 : Nat) : Int) = 0 from rfl] at *
                        go_wp2_with (first
                          | (go_at_call 6; refine (unhide MA i hlt _).mono ?_; rintro e w5 ⟨rfl, k5⟩; have q2 := hide ((unhide q1).below (unhide k5)))
                          | (at_builtin; refine append_cmd rfl _ _ rfl (.slice (some ⟨gb, 0, none⟩) (31 + 0) gc) (31 + 0) (mkB i) rfl ((unhide q2).box _).gn w5.heap.size rfl (heap_alloc_last w5 _) (by omega) ?_; intro g' w7 hN hG; obtain ⟨gb2, gc2, rfl, -⟩ := hN.cells; have q3 := hide (((unhide q2).box _).more (Nat.le_refl _) hN hG); clear hN hG)
                          | (at_builtin; refine append_line rfl _ _ 22 rfl 23 i3 _ 24 Try.underlying22 hi3 hz3 hs3 hb3 rfl (.slice fa2 i fc2) i _ rfl ((unhide q3).box _).first w7.heap.size rfl _ (box_cell w7 _ 23) rfl (by omega) (by omega) ?_; intro f' w9 hL hG; obtain ⟨fa3, fc3, rfl⟩ := hL.shape; have q4 := hide (((unhide q3).box _).keep hL hG); clear hL hG))
                        all_goals go_roundw
                        all_goals first | exact ⟨1, _, rfl, by omega, q4⟩ | (simp only [intOf]; omega)
                      · have z0 : ((k : Int) == 0) = false := by simp; omega
                        go_wp2_with (first
                          | (go_at_call 6; refine (unhide MA i hlt _).mono ?_; rintro e w5 ⟨rfl, k5⟩; have q2 := hide ((unhide q1).below (unhide k5)))
                          | (at_builtin; refine append_cmd rfl _ _ rfl (.slice (some ⟨gb, 0, none⟩) (31 + k) gc) (31 + k) (mkB i) rfl ((unhide q2).box _).gn w5.heap.size rfl (heap_alloc_last w5 _) (by omega) ?_; intro g' w7 hN hG; obtain ⟨gb2, gc2, rfl, -⟩ := hN.cells; have q3 := hide ((((unhide q2).box _).more (Nat.le_refl _) hN hG).up hk0); clear hN hG))
                        all_goals go_roundw
                        all_goals first | exact ⟨k + 1, _, by simp, by omega, q3⟩ | (simp only [intOf]; omega)
                    · have hkk : k = 70 := by omega
                      subst hkk
                      rw [show ((70 : Nat) : Int) = 70 from rfl]
                      have f6 : decide ((70 : Int) < 70) = false := decide_eq_false (by omega)
                      go_wp2_with (at_builtin; refine append_line rfl _ _ 22 rfl 23 i3 _ 24 Try.underlying22 hi3 hz3 hs3 hb3 rfl (.slice ma i mc) i _ rfl (P5.beside (unhide p9) ((unhide q1).box _)).2.2.1 _ rfl _ (box_cell _ _ 23) rfl (by omega) (by omega) ?_; intro m' w9 hL hG; obtain ⟨ma3, mc3, rfl⟩ := hL.shape; have p10 := hide (P5.next (unhide p9) ((unhide q1).box _) hL hG); clear hL hG)
                      all_goals go_roundw
                      all_goals first | exact ⟨i + 1, _, _, by simp, by omega, p10⟩ | (simp only [intOf]; omega)
                · have hkk : i = 40 := by omega
                  subst hkk
                  rw [show ((40 : Nat) : Int) = 40 from rfl]
                  have f5 : decide ((40 : Int) < 40) = false := decide_eq_false (by omega)
                  have RW : Hid (∀ W W0, Hid (Below ws.heap.size ws W0) → Hid (W.heap[W0.heap.size]? = some (.cells tabA 28 (0, 0)) ∧ W.heap.size = W0.heap.size + 1 ∧ Below W0.heap.size W0 W) → Calls Try.prog 5 #[.slice (some ⟨W0.heap.size, 0, none⟩) 31 31] W fun e w' => e = .returned (.bool true) ∧ Hid (Below ws.heap.size ws w')) := hide (fun W W0 h0 h => by
                    refine (rows_any W0.heap.size 0 31 W (by have := (unhide h).2.1; omega) (fun k hk => by rw [cell_of_row _ _ _ _ _ _ (unhide h).1, Nat.zero_add])).mono ?_
                    rintro e w' ⟨rfl, h2⟩
                    have h3 := bel_chain (unhide h0) (unhide h).2.2 (unhide h0).size
                    exact ⟨rfl, hide (bel_chain h3 h2 h3.size)⟩)
                  have z0 := hide (Below.refl ws.heap.size ws)
                  obtain ⟨fg, fc', hfv, -, hfat⟩ := (unhide p9).fl.at (by decide)
                  cases hfv
                  obtain ⟨mg, mc', hmv, -, hmat⟩ := (unhide p9).ml.at (by decide)
                  cases hmv
                  obtain ⟨lg', lc', hlv, -, hlat⟩ := (unhide p9).lin.at (by decide)
                  cases hlv
                  have LL : Hid (lg < ws.heap.size ∧ fg < ws.heap.size ∧ mg < ws.heap.size) := hide ⟨(unhide p9).lin.lt lg rfl, (unhide p9).fl.lt fg rfl, (unhide p9).ml.lt mg rfl⟩
                  have LC : Hid (∀ j, j < 40 → ws.cell? ⟨lg, j, none⟩ = some (el (bs j)) ∧ ws.cell? ⟨fg, j, none⟩ = some (Ff j) ∧ ws.cell? ⟨mg, j, none⟩ = some (Fm j)) := hide (fun j hj => ⟨(hlat j hj).1, (hfat j hj).1, (hmat j hj).1⟩)
                  clear hlat hfat hmat p8
                  go_wp2_with (first | (go_at_call 4; refine (unhide CC _).mono ?_; rintro e w5 ⟨rfl, k5⟩) | (go_at_call 5; refine (unhide RW _ _ z0 k5).mono ?_; rintro e w6 ⟨rfl, k6⟩))
                  go_loopw [11] (fun iv wr => ∃ i : Nat, iv = .int .i64 (i : Nat) ∧ i ≤ 40 ∧ Hid (Below ws.heap.size ws wr)) (fun iv _ => 40 - (intOf iv).toNat)
                  case atStart => exact ⟨0, rfl, Nat.zero_le _, k6⟩
                  case round =>
                    obtain ⟨i, rfl, hi, b7⟩ := hrel
                    rcases Nat.lt_or_ge i 40 with hlt | hge
                    · have f7 : decide ((i : Int) < 40) = true := decide_eq_true (by omega)
                      obtain ⟨b2, x2, e2, l2, n2⟩ := ((unhide p9).fn i hlt).cells
                      obtain ⟨b3, x3, e3, l3, n3⟩ := ((unhide p9).mn i hlt).cells
                      obtain ⟨b1, x1, e1, l1, n1⟩ := ((unhide p9).lnm i hlt).cells
                      cases e1
                      have CE : ∀ W, Below ws.heap.size ws W → W.cell? ⟨lg, i, none⟩ = some (.slice (some ⟨bs i, 0, none⟩) 31 31) ∧ W.cell? ⟨fg, i, none⟩ = some (.slice (some ⟨b2, 0, none⟩) 32 x2) ∧ W.cell? ⟨mg, i, none⟩ = some (.slice (some ⟨b3, 0, none⟩) 101 x3) := fun W h => by
                        rw [h.cell (unhide LL).1, h.cell (unhide LL).2.1, h.cell (unhide LL).2.2, (unhide LC i hlt).1, (unhide LC i hlt).2.1, (unhide LC i hlt).2.2, e2, e3]
                        exact ⟨rfl, rfl, rfl⟩
                      have MK : Hid (∀ W, Hid (Below ws.heap.size ws W) → Calls Try.prog 6 #[.int .i64 (i : Nat)] W fun e w' => e = .returned (.string (mkB i)) ∧ Hid (Below ws.heap.size ws w') ∧ w'.cell? ⟨lg, i, none⟩ = some (.slice (some ⟨bs i, 0, none⟩) 31 31) ∧ w'.cell? ⟨fg, i, none⟩ = some (.slice (some ⟨b2, 0, none⟩) 32 x2) ∧ w'.cell? ⟨mg, i, none⟩ = some (.slice (some ⟨b3, 0, none⟩) 101 x3)) := hide (fun W h => by
                        refine (mark_any i hlt W).mono ?_
                        rintro e w' ⟨rfl, h2⟩
                        have h3 := bel_chain (unhide h) h2 (unhide h).size
                        exact ⟨rfl, hide h3, CE w' h3⟩)
                      have NA : ∀ b n x, n ≤ 1000 → b < ws.heap.size → (∀ j, j < n → ws.cell? ⟨b, 0 + j * 7, none⟩ = some (.string (mkB i))) → ∀ W, Hid (Below ws.heap.size ws W) → Calls Try.prog 7 #[.slice (some ⟨b, 0, none⟩) n x, .string (mkB i)] W fun e w' => e = .returned (.bool true) ∧ Hid (Below ws.heap.size ws w') ∧ w'.cell? ⟨lg, i, none⟩ = some (.slice (some ⟨bs i, 0, none⟩) 31 31) ∧ w'.cell? ⟨fg, i, none⟩ = some (.slice (some ⟨b2, 0, none⟩) 32 x2) ∧ w'.cell? ⟨mg, i, none⟩ = some (.slice (some ⟨b3, 0, none⟩) 101 x3) := fun b n x hn hb hc W h => by
                        refine (named_any b 0 n x (mkB i) W hn (fun j hj => by rw [(unhide h).cell hb]; exact hc j hj)).mono ?_
                        rintro e w' ⟨rfl, rfl⟩
                        exact ⟨rfl, h, CE w' (unhide h)⟩
                      have N1 := hide (NA (bs i) 31 31 (by decide) l1 n1)
                      have N2 := hide (NA b2 32 x2 (by decide) l2 n2)
                      have N3 := hide (NA b3 101 x3 (by decide) l3 n3)
                      have c7 := CE wr (unhide b7)
                      have b7d := hide (unhide b7).drew
                      clear n1 n2 n3 l1 l2 l3 NA CE e2 e3
                      have g1 : (0 : Int) ≤ (i : Int) := by omega
                      have g2 : (i : Int) < 40 := by omega
                      generalize mkB i = M at *
                      go_wp2_with fail
                      go_region_held3 (fun w' => w'.cell? ⟨lg, i, none⟩ = some (.slice (some ⟨bs i, 0, none⟩) 31 31) ∧ w'.cell? ⟨fg, i, none⟩ = some (.slice (some ⟨b2, 0, none⟩) 32 x2) ∧ w'.cell? ⟨mg, i, none⟩ = some (.slice (some ⟨b3, 0, none⟩) 101 x3)) (go_keep) (first
                        | (go_at_call 6; with_reducible refine (unhide MK _ b7d).mono ?_; rintro e w7 ⟨rfl, k7, y7⟩)
                        | (go_at_call 7; with_reducible refine (unhide N1 _ k7).mono ?_; rintro e w8 ⟨rfl, k8, y8⟩)
                        | (go_at_call 6; with_reducible refine (unhide MK _ k8).mono ?_; rintro e w9 ⟨rfl, k9, y9⟩)
                        | (go_at_call 7; with_reducible refine (unhide N2 _ k9).mono ?_; rintro e w10 ⟨rfl, k10, y10⟩)
                        | (go_at_call 6; with_reducible refine (unhide MK _ k10).mono ?_; rintro e w11 ⟨rfl, k11, y11⟩)
                        | (go_at_call 7; with_reducible refine (unhide N3 _ k11).mono ?_; rintro e w12 ⟨rfl, k12, y12⟩))
                      all_goals go_wp2
                      all_goals go_roundw
                      all_goals first | exact ⟨i + 1, by simp, by omega, k12⟩ | (simp only [intOf]; omega)
                    · have hkk : i = 40 := by omega
                      subst hkk
                      rw [show ((40 : Nat) : Int) = 40 from rfl]
                      have f7 : decide ((40 : Int) < 40) = false := decide_eq_false (by omega)
                      clear k6
                      go_wp2_with (first | (go_at_call 4; refine (unhide CC _).mono ?_; rintro e w5 ⟨rfl, k5⟩) | (go_at_call 5; refine (unhide RW _ _ b7 k5).mono ?_; rintro e w6 ⟨rfl, k6⟩))
                      all_goals go_ret
                      all_goals exact ⟨rfl, (unhide p9).bel.trans ((unhide k6).mono (unhide p9).bel.size)⟩
end Go.Proofs.Ytlbgmjllglaadaa
