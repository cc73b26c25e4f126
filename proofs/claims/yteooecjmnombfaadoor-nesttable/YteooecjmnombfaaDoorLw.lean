/- Table: the walk. -/
import Derived.Test.YteooecjmnombfaaDoorLs
import Derived.Deep.MidRow
namespace Go.Proofs.YteooecjmnombfaaDoor
open Go.ChangeShapes Go.WideShapes Go.ChangeAt Go.RowKit
set_option linter.unusedVariables false
set_option maxRecDepth 20000
set_option maxHeartbeats 4000000

theorem wrap_toInt' (x : BitVec 64) : IntKind.i64.wrap x.toNat = x.toInt := by
  have h := x.isLt
  rw [IntKind.wrap_i64, BitVec.toInt_eq_toNat_cond]
  split <;> omega
theorem and_1023 (n : Int) : ∃ m : Nat, 2 ≤ m ∧ m ≤ 1025 ∧ wrap64 (2 + bits .and .i64 n 1023) = (m : Int) := by
  have e : bits .and .i64 n 1023 = (BitVec.ofInt 64 n &&& BitVec.ofInt 64 1023).toInt := wrap_toInt' _
  have h1 : (BitVec.ofInt 64 n &&& BitVec.ofInt 64 1023).toNat ≤ 1023 := by
    rw [BitVec.toNat_and]
    exact Nat.and_le_right
  have h2 : (BitVec.ofInt 64 n &&& BitVec.ofInt 64 1023).toInt = ((BitVec.ofInt 64 n &&& BitVec.ofInt 64 1023).toNat : Int) := by
    rw [BitVec.toInt_eq_toNat_cond, if_pos (by omega)]
  generalize (BitVec.ofInt 64 n &&& BitVec.ofInt 64 1023).toNat = q at *
  refine ⟨2 + q, by omega, by omega, ?_⟩
  rw [e, h2]
  unfold wrap64
  omega

theorem table_any (w : World) (ht : Tab w) (wb wc : Nat) (hwb : wb < w.heap.size) (hw : ∀ k, k < 203 → w.cell? ⟨wb, k, none⟩ = tabA[k]?) (n : Int) : Calls Tryd.prog 4 #[.func (.func 5) #[] #[], .slice (some ⟨wb, 0, none⟩) 29 wc, .int .i64 n] w fun e w' => e = .returned (.bool true) ∧ Below w.heap.size w w' := by
  have HT := hide ht
  have hp := hide ht.pos
  have HWB := hide hwb
  have HWC := hide hw
  clear ht hwb hw
  obtain ⟨m, hm2, hm5, em⟩ := and_1023 n
  obtain ⟨i3, hi3, hz3, hs3, hb3⟩ := info_parts Tryd.info24
  obtain ⟨i6, hi6, hz6, hs6, hb6⟩ := info_parts Tryd.info29
  have CC : Hid (∀ W, Hid (Tab W) → Calls Tryd.prog 5 #[] W fun e w' => e = .returned (.slice (some ⟨W.heap.size, 0, none⟩) 29 29) ∧ Hid (w'.heap[W.heap.size]? = some (.cells tabA 30 (0, 0)) ∧ w'.heap.size = W.heap.size + 1 ∧ Below W.heap.size W w')) := hide (fun W h => commands_any W (unhide h))
  go_enter Tryd.func4, Tryd.ntmps4
  go_wp2_with fail
  rw [em]
  clear em
  go_loopw [7, 8] (fun lv iv wr => ∃ k bs, iv = .int .i64 (k : Nat) ∧ k ≤ m ∧ Hid (P1 w wr lv k bs)) (fun _ iv _ => m - (intOf iv).toNat)
  case atStart => exact ⟨0, _, rfl, Nat.zero_le _, hide (P1.start w)⟩
  case round =>
    obtain ⟨k, bs, rfl, hk, p1⟩ := hrel
    obtain ⟨la, lc, rfl⟩ := (unhide p1).line.shape
    rcases Nat.lt_or_ge k m with hlt | hge
    · have f1 : decide ((k : Int) < (m : Int)) = true := decide_eq_true (by omega)
      have ht1 : Hid (Tab wr) := hide ((unhide HT).below (unhide hp) (unhide p1).bel)
      go_wp2_with (first
        | (go_at_call 5; refine (unhide CC _ ht1).mono ?_; rintro e w1 ⟨rfl, k1⟩)
        | (at_builtin; refine append_rws rfl _ _ 26 rfl 24 i3 _ 1 24 Tryd.underlying26 hi3 hz3 hs3 hb3 rfl 24 (.slice la k lc) k _ rfl ((unhide p1).mid (unhide k1)) (.inl rfl) w1.heap.size 1 rfl [el wr.heap.size] (by decide) rfl (made_cells w1 [el wr.heap.size] 24) (fun x hx => by simp at hx; subst hx; rfl) (by omega) (by omega) ?_; intro v' w3 hL hG; have p3 := hide ((unhide p1).step (unhide k1) hL hG); obtain ⟨la3, lc3, rfl⟩ := hL.shape; clear hL hG))
      all_goals go_roundw
      all_goals first | exact ⟨k + 1, _, by simp, by omega, p3⟩ | (simp only [intOf]; omega)
    · obtain rfl : m = k := by omega
      have f1 : decide ((m : Int) < (m : Int)) = false := decide_eq_false (by omega)
      have f1' : (m < m) = False := eq_false (by omega)
      rename World => w2
      obtain ⟨lg, lc2, hlv, -, llt0, hat⟩ := (unhide p1).line.at (by omega)
      cases hlv
      have LC : Hid (∀ j, j < m → w2.cell? ⟨lg, j, none⟩ = some (el (bs j))) := hide (fun j hj => hat j (by omega))
      have llt : Hid (lg < w2.heap.size) := hide llt0
      clear hat llt0
      have RO : Hid (∀ i, i < m → ∀ W, Hid (Below w2.heap.size w2 W) → Calls Tryd.prog 7 #[.slice (some ⟨bs i, 0, none⟩) 29 29, .slice (some ⟨wb, 0, none⟩) 29 wc] W fun e w' => e = .returned (.bool true) ∧ Hid (Below w2.heap.size w2 w') ∧ w'.cell? ⟨lg, i, none⟩ = some (.slice (some ⟨bs i, 0, none⟩) 29 29)) := hide (fun i hi W hW => by
        have hb := (unhide p1).tab i hi
        have hlt := block_lt hb.2
        have hbw := (unhide p1).bel
        refine (commands_same (bs i) 29 wb wc W (fun k hk => ?_) (fun k hk => ?_)).mono ?_
        · rw [(unhide hW).cell hlt, cell_of_row _ _ _ _ _ _ hb.2]
        · rw [(unhide hW).cell (Nat.lt_of_lt_of_le (unhide HWB) hbw.size), hbw.cell (unhide HWB)]
          exact unhide HWC k hk
        · rintro e w' ⟨rfl, q, rfl⟩
          have h3 : Below w2.heap.size w2 (W.drewN q) := below_drewN (unhide hW) q
          exact ⟨rfl, hide h3, by rw [h3.cell (unhide llt)]; exact unhide LC i hi⟩)
      go_wp2_with fail
      go_loopw [9] (fun iv wr => ∃ i : Nat, iv = .int .i64 (i : Nat) ∧ i ≤ m ∧ Hid (Below w2.heap.size w2 wr)) (fun iv _ => m - (intOf iv).toNat)
      case atStart => exact ⟨0, rfl, Nat.zero_le _, hide (Below.refl _ _)⟩
      case round =>
        obtain ⟨i, rfl, hi, b3⟩ := hrel
        rcases Nat.lt_or_ge i m with hlt | hge
        · have f2 : decide ((i : Int) < (m : Int)) = true := decide_eq_true (by omega)
          have c1 : wr.cell? ⟨lg, i, none⟩ = some (.slice (some ⟨bs i, 0, none⟩) 29 29) := by rw [(unhide b3).cell (unhide llt)]; exact unhide LC i hlt
          go_wp2_with (go_at_call 7; refine (unhide RO i hlt _ b3).mono ?_; rintro e w4 ⟨rfl, k4, c4⟩)
          all_goals go_roundw
          all_goals first | exact ⟨i + 1, by simp, by omega, k4⟩ | (simp only [intOf]; omega)
        · obtain rfl : m = i := by omega
          have f2 : decide ((m : Int) < (m : Int)) = false := decide_eq_false (by omega)
          have f2' : (m < m) = False := eq_false (by omega)
          have p3 : Hid (P3 w wr (.slice (some ⟨lg, 0, none⟩) m lc) bs m 0 0) := hide (P3.start (unhide p1) (unhide b3))
          have BS : Hid (∀ j, j < m → w.heap.size ≤ bs j) := hide (fun j hj => ((unhide p1).tab j hj).1)
          have ONE : Hid (∀ i j, i < m → j < m → bs i = bs j → i = j) := hide (unhide p1).one
          have OWN : Hid (w.heap.size ≤ lg) := hide ((unhide p1).own lg rfl)
          clear p1 LC llt RO b3
          rename World => w3
          go_wp2_with fail
          go_loopw [10, 11] (fun iv _ wr => ∃ i : Nat, iv = .int .i64 (i : Nat) ∧ i ≤ m ∧ Hid (P3 w wr (.slice (some ⟨lg, 0, none⟩) m lc) bs m i 0)) (fun iv _ _ => m - (intOf iv).toNat)
          case atStart => exact ⟨0, rfl, Nat.zero_le _, p3⟩
          case round =>
            rename World => wo
            obtain ⟨i, rfl, hi, p4⟩ := hrel
            rcases Nat.lt_or_ge i m with hlt | hge
            · have f3 : decide ((i : Int) < (m : Int)) = true := decide_eq_true (by omega)
              go_wp2_with fail
              go_loopw [11] (fun kv wr => ∃ k : Nat, kv = .int .i64 (k : Nat) ∧ k ≤ 29 ∧ Hid (P3 w wr (.slice (some ⟨lg, 0, none⟩) m lc) bs m i k)) (fun kv _ => 29 - (intOf kv).toNat)
              case atStart => exact ⟨0, rfl, Nat.zero_le _, p4⟩
              case round =>
                obtain ⟨k, rfl, hk, p5⟩ := hrel
                have hc5 := ((unhide p5).line.at (by omega))
                obtain ⟨lg', lc', hlv, -, -, hat⟩ := hc5
                cases hlv
                have c5 : wr.cell? ⟨lg, i, none⟩ = some (.slice (some ⟨bs i, 0, none⟩) 29 29) := hat i (by omega)
                clear hat
                rcases Nat.lt_or_ge k 29 with hkl | hkg
                · have f4 : decide ((k : Int) < 29) = true := decide_eq_true (by omega)
                  obtain ⟨cu, hcu, hcz, -⟩ := (unhide p5).cmd i hlt
                  have hne : lg ≠ bs i := fun e => by
                    obtain ⟨c, hc⟩ := (unhide p5).line.type lg rfl
                    rw [e, hcu] at hc
                    cases hc
                  have fz : ∀ o, wr.frozen? ⟨bs i, o, none⟩ = false := fun o => by simp only [World.frozen?, hcu]; simp
                  have ce : ∀ o v, cu[o]? = some v → wr.cell? ⟨bs i, o, none⟩ = some v := fun o v h => by rw [cell_of_row _ _ _ _ _ _ hcu]; exact h
                  obtain ⟨V0, hV0⟩ : ∃ v, wr.cell? ⟨bs i, k * 7, none⟩ = some v := ⟨_, ce _ _ (Array.getElem?_eq_getElem (by omega))⟩
                  obtain ⟨V1, hV1⟩ : ∃ v, wr.cell? ⟨bs i, k * 7 + 1, none⟩ = some v := ⟨_, ce _ _ (Array.getElem?_eq_getElem (by omega))⟩
                  obtain ⟨V2, hV2⟩ : ∃ v, wr.cell? ⟨bs i, k * 7 + 2, none⟩ = some v := ⟨_, ce _ _ (Array.getElem?_eq_getElem (by omega))⟩
                  obtain ⟨V3, hV3⟩ : ∃ v, wr.cell? ⟨bs i, k * 7 + 3, none⟩ = some v := ⟨_, ce _ _ (Array.getElem?_eq_getElem (by omega))⟩
                  obtain ⟨V4, hV4⟩ : ∃ v, wr.cell? ⟨bs i, k * 7 + 4, none⟩ = some v := ⟨_, ce _ _ (Array.getElem?_eq_getElem (by omega))⟩
                  obtain ⟨V5, hV5⟩ : ∃ v, wr.cell? ⟨bs i, k * 7 + 5, none⟩ = some v := ⟨_, ce _ _ (Array.getElem?_eq_getElem (by omega))⟩
                  obtain ⟨V6, hV6⟩ : ∃ v, wr.cell? ⟨bs i, k * 7 + 6, none⟩ = some v := ⟨_, ce _ _ (Array.getElem?_eq_getElem (by omega))⟩
                  have z0 := fz (k * 7)
                  have z1 := fz (k * 7 + 1)
                  have z2 := fz (k * 7 + 2)
                  have z3 := fz (k * 7 + 3)
                  have z4 := fz (k * 7 + 4)
                  have z5 := fz (k * 7 + 5)
                  have z6 := fz (k * 7 + 6)
                  have cC : ∀ c, c < 7 → cmdC i (k * 7 + c) = (cmdR i).getD c undef := cmdC_at i k
                  have p7 := hide ((unhide p5).put hlt hkl (unhide BS i hlt) (fun j hj e => unhide ONE j i hj hlt e) (put7 (bs i) (k * 7) (cmdC i) wr (.string ⟨#[]⟩) (.int .i64 (1000 + (i : Int))) (.bool false) (.int .i64 0) (.int .i64 0) (.int .i64 0) (.int .i64 0) (cC 0 (by decide)) (cC 1 (by decide)) (cC 2 (by decide)) (cC 3 (by decide)) (cC 4 (by decide)) (cC 5 (by decide)) (cC 6 (by decide))))
                  clear hcu hcz fz ce cC p3 p4
                  have n1 : (lg == bs i) = false := by simp [hne]
                  go_wp2
                  all_goals go_roundw
                  all_goals first | exact ⟨k + 1, by simp, by omega, p7⟩ | (simp only [intOf]; omega)
                · have hkk : k = 29 := by omega
                  subst hkk
                  rw [show ((29 : Nat) : Int) = 29 from rfl]
                  have f4 : decide ((29 : Int) < 29) = false := decide_eq_false (by omega)
                  have p6 := hide (unhide p5).next
                  go_wp2
                  all_goals go_roundw
                  all_goals first | exact ⟨i + 1, by simp, by omega, p6⟩ | (simp only [intOf]; omega)
            · obtain rfl : m = i := by omega
              have f3 : decide ((m : Int) < (m : Int)) = false := decide_eq_false (by omega)
              have f3' : (m < m) = False := eq_false (by omega)
              have p8 := hide (P4.start (unhide p4) (fun g hg => by simp [Value.ownBlock] at hg; subst hg; exact unhide OWN))
              clear p3 p4 ONE BS OWN
              go_wp2_with fail
              go_loopw [12, 13, 14, 15] (fun kv iv _ _ wr => ∃ (i : Nat) (F : Nat → Value), iv = .int .i64 (i : Nat) ∧ i ≤ m ∧ Hid (P4 w wr (.slice (some ⟨lg, 0, none⟩) m lc) kv bs m i F)) (fun _ iv _ _ _ => m - (intOf iv).toNat)
              case atStart => exact ⟨0, _, rfl, Nat.zero_le _, p8⟩
              case round =>
                rename World => ws
                obtain ⟨i, F, rfl, hi, p9⟩ := hrel
                obtain ⟨ka, kc, rfl⟩ := (unhide p9).ke.shape
                clear p8
                rcases Nat.lt_or_ge i m with hlt | hge
                · have f5 : decide ((i : Int) < (m : Int)) = true := decide_eq_true (by omega)
                  have c9 : ws.cell? ⟨lg, i, none⟩ = some (.slice (some ⟨bs i, 0, none⟩) 29 29) := by
                    obtain ⟨lg', lc', hlv, -, -, hat⟩ := (unhide p9).lin.at (by omega)
                    cases hlv
                    exact hat i (by omega)
                  have q0 := hide (P5.start (unhide p9) hlt)
                  go_wp2_with fail
                  go_loopw [14, 15] (fun av kv wr => ∃ k : Nat, kv = .int .i64 (k : Nat) ∧ k ≤ 58 ∧ Hid (i < 8 ∨ k = 0) ∧ Hid (P5 ws wr av i k)) (fun _ kv _ => 58 - (intOf kv).toNat)
                  case atStart => exact ⟨0, rfl, Nat.zero_le _, hide (.inr rfl), q0⟩
                  case round =>
                    obtain ⟨k, rfl, hk, hor, q1⟩ := hrel
                    obtain ⟨ab, ac, rfl⟩ := (unhide q1).shape
                    clear q0 c9
                    rcases Nat.lt_or_ge i 8 with h8 | h8
                    · have f8 : decide ((i : Int) < 8) = true := decide_eq_true (by omega)
                      rcases Nat.lt_or_ge k 58 with hkl | hkg
                      · have f6 : decide ((k : Int) < 58) = true := decide_eq_true (by omega)
                        obtain ⟨t, hfull, hrow, hnext⟩ := (unhide q1).push
                        have HF := hide hfull
                        have HR := hide hrow
                        have HNX := hide hnext
                        clear hfull hrow hnext
                        go_wp2_with (at_builtin; refine append_rws rfl _ _ 24 rfl 29 i6 _ 7 64 Tryd.underlying24 hi6 hz6 hs6 hb6 rfl t (.slice ab (29 + k) ac) (29 + k) (cmdC i) rfl (unhide HR) (unhide HF) wr.heap.size 1 rfl (cmdR i) (by decide) rfl (made_cells wr (cmdR i) 29) (cmdR_one i) (by omega) (by omega) ?_; intro v' w3 hL hG; have q3 := hide (unhide HNX v' w3 hL hG); obtain ⟨a3, c3, rfl⟩ := hL.shape; clear hL hG)
                        all_goals go_roundw
                        all_goals first | exact ⟨k + 1, by simp, by omega, hide (.inl h8), q3⟩ | (simp only [intOf]; omega)
                      · obtain rfl : k = 58 := by omega
                        rw [show ((58 : Nat) : Int) = 58 from rfl]
                        have f6 : decide ((58 : Int) < 58) = false := decide_eq_false (by omega)
                        have p10 := hide ((unhide p9).below (unhide q1).bel)
                        have HC : Hid (∀ W, Below wr.heap.size wr W → W.cell? ⟨lg, i, none⟩ = some (.slice (some ⟨bs i, 0, none⟩) 29 29)) := hide (fun W hW => by
                          obtain ⟨lg', lc', hlv, -, -, hat⟩ := ((unhide p10).below hW).lin.at (by omega)
                          cases hlv
                          exact hat i (by omega))
                        have bX : Below wr.heap.size wr (wr.alloc (.cells (cmdR i).toArray 29)).drew := ((Below.refl _ _).alloc (Nat.le_refl _) _).drew
                        obtain ⟨X, hX⟩ : ∃ X, X = (wr.alloc (.cells (cmdR i).toArray 29)).drew := ⟨_, rfl⟩
                        rw [← hX] at bX
                        have HXO : Hid (Rws X 30 7 (el (bs i)) 29 (cmdC i)) := hide (((unhide p10).below bX).cmd i hlt)
                        have HXN : Hid (∀ j x, (cmdR i)[j]? = some x → X.cell? ⟨wr.heap.size, j, none⟩ = some x) := hide (fun j x hj => by rw [hX]; exact made_cells wr (cmdR i) 29 j x hj)
                        have hwr : IntKind.i64.wrap (1000 + (i : Int)) = 1000 + (i : Int) := by rw [IntKind.wrap_i64]; omega
                        have HXE : Hid (X = (wr.alloc (.cells #[.string ⟨#[]⟩, .int .i64 (IntKind.i64.wrap (1000 + (i : Int))), .bool false, .int .i64 0, .int .i64 0, .int .i64 0, .int .i64 0] 29)).drew) := hide (by rw [hwr]; exact hX)
                        have HN : Hid (∀ v2 w2, Rws w2 29 7 v2 (29 + 1) (fun q => if q < 29 * 7 then cmdC i q else (cmdR i).getD (q - 29 * 7) undef) → Gr 29 (29 * 7) (cmdR i).length X w2 (el (bs i)) v2 →
                            w2.cell? ⟨lg, i, none⟩ = some (.slice (some ⟨bs i, 0, none⟩) 29 29) ∧ (w2.alloc (.cells #[el (bs i), v2, .slice ab 87 ac] 24)).cell? ⟨lg, i, none⟩ = some (.slice (some ⟨bs i, 0, none⟩) 29 29) ∧ Hid (Rws (w2.alloc (.cells #[el (bs i), v2, .slice ab 87 ac] 24)) 24 1 (.slice ka (3 * i) kc) (3 * i) F ∧
                              ∀ kv' w4, Rws w4 24 1 kv' (3 * i + 3) (fun j => if j < 3 * i * 1 then F j else [el (bs i), v2, .slice ab 87 ac].getD (j - 3 * i * 1) undef) → Gr 24 (3 * i * 1) [el (bs i), v2, .slice ab 87 ac].length (w2.alloc (.cells #[el (bs i), v2, .slice ab 87 ac] 24)) w4 (.slice ka (3 * i) kc) kv' → w4.cell? ⟨lg, i, none⟩ = some (.slice (some ⟨bs i, 0, none⟩) 29 29) ∧ ∃ F', Hid (P4 w w4 (.slice (some ⟨lg, 0, none⟩) m lc) kv' bs m (i + 1) F'))) := hide (fun v2 w2 h2 g2 => by
                          rw [hX] at g2
                          have p11 := (unhide p10).below (Below.drew (Below.refl wr.heap.size wr))
                          have q11 := (unhide q1).below (Below.drew (Below.refl wr.heap.size wr))
                          have nx := fun kv' w4 h4 g4 => P4.next (w4 := w4) (kv' := kv') (k := 58) p11 q11 (by omega) hlt h2 g2 h4 g4
                          obtain ⟨c, hc⟩ := (((unhide p10).below bX).cmd i hlt).type _ rfl
                          have b2 : Below X.heap.size X w2 := by
                            rcases g2.how with ⟨g, cur, cur', e1, _, e3, _⟩ | ⟨_, hs, hk⟩
                            · simp [Value.ownBlock] at e1
                              subst e1
                              rw [hX] at hc
                              rw [hc] at e3
                              cases e3
                            · rw [hX]
                              exact ⟨g2.os, g2.tape, g2.output, Nat.le_of_lt (by rw [hs]; exact Nat.lt_succ_self _), hk⟩
                          have b3 := bel_chain bX b2 bX.size
                          have b4 : Below wr.heap.size wr (w2.alloc (.cells #[el (bs i), v2, .slice ab 87 ac] 24)) := bel_chain b3 ((Below.refl _ _).alloc (Nat.le_refl _) _) b3.size
                          refine ⟨unhide HC _ b3, unhide HC _ b4, hide ⟨((unhide p10).below b4).ke, fun kv' w4 h4 g4 => ⟨?_, _, hide (nx kv' w4 h4 g4)⟩⟩⟩
                          obtain ⟨lg', lc', hlv, -, -, hat⟩ := (nx kv' w4 h4 g4).lin.at (by omega)
                          cases hlv
                          exact hat i (by omega))
                        have y0 : wr.cell? ⟨lg, i, none⟩ = some (.slice (some ⟨bs i, 0, none⟩) 29 29) := unhide HC wr (Below.refl _ _)
                        have y1 : (wr.alloc (.cells #[.string ⟨#[]⟩, .int .i64 (IntKind.i64.wrap (1000 + (i : Int))), .bool false, .int .i64 0, .int .i64 0, .int .i64 0, .int .i64 0] 29)).drew.cell? ⟨lg, i, none⟩ = some (.slice (some ⟨bs i, 0, none⟩) 29 29) := by rw [← unhide HXE]; exact unhide HC X bX
                        clear hX bX p10 q1 p9 hwr
                        have g1 : (0 : Int) ≤ (i : Int) := by omega
                        have g2 : (i : Int) < (m : Int) := by omega
                        go_wp2_with fail
                        go_region_held3 (fun w' => w'.cell? ⟨lg, i, none⟩ = some (.slice (some ⟨bs i, 0, none⟩) 29 29)) (first | go_keep | assumption) (first
                          | (rw [← unhide HXE]; refine step_append_rws rfl _ _ 24 rfl 29 i6 _ 7 64 Tryd.underlying24 hi6 hz6 hs6 hb6 rfl 30 (el (bs i)) 29 (cmdC i) rfl (unhide HXO) (.inr (fun b cap e => by cases e; rfl)) wr.heap.size 1 rfl (cmdR i) (by decide) rfl (unhide HXN) (cmdR_one i) (by decide) (by decide) ?_; intro v2 w2 h2 gg2; obtain ⟨a2, c2, rfl⟩ := h2.shape; obtain ⟨y2, y3, hn2⟩ := unhide HN _ _ h2 gg2; clear h2 gg2)
                          | (refine step_append_rws rfl _ _ 26 rfl 24 i3 _ 1 24 Tryd.underlying26 hi3 hz3 hs3 hb3 rfl 24 (.slice ka (3 * i) kc) (3 * i) F rfl (unhide hn2).1 (.inl rfl) w2.heap.size 3 rfl [el (bs i), .slice a2 (29 + 1) c2, .slice ab 87 ac] (by decide) rfl (made_cells w2 _ 24) (fun x hx => by simp at hx; rcases hx with rfl | rfl | rfl <;> rfl) (by omega) (by omega) ?_; intro v4 w4 h4 gg4; obtain ⟨a4, c4, rfl⟩ := h4.shape; obtain ⟨y4, F', p12⟩ := (unhide hn2).2 _ _ h4 gg4; clear h4 gg4))
                        all_goals go_wp2
                        all_goals go_roundw
                        all_goals first | exact ⟨i + 1, _, by simp, by omega, p12⟩ | (simp only [intOf]; omega)
                    · have f8 : decide ((i : Int) < 8) = false := decide_eq_false (by omega)
                      have f8' : (i < 8) = False := eq_false (by omega)
                      obtain rfl : k = 0 := by rcases unhide hor with h | h <;> omega
                      rw [show ((0 : Nat) : Int) = 0 from rfl]
                      have f6 : decide ((0 : Int) < 58) = true := decide_eq_true (by omega)
                      have p10 := hide ((unhide p9).below (unhide q1).bel)
                      have HC : Hid (∀ W, Below wr.heap.size wr W → W.cell? ⟨lg, i, none⟩ = some (.slice (some ⟨bs i, 0, none⟩) 29 29)) := hide (fun W hW => by
                        obtain ⟨lg', lc', hlv, -, -, hat⟩ := ((unhide p10).below hW).lin.at (by omega)
                        cases hlv
                        exact hat i (by omega))
                      have bX : Below wr.heap.size wr (wr.alloc (.cells (cmdR i).toArray 29)).drew := ((Below.refl _ _).alloc (Nat.le_refl _) _).drew
                      obtain ⟨X, hX⟩ : ∃ X, X = (wr.alloc (.cells (cmdR i).toArray 29)).drew := ⟨_, rfl⟩
                      rw [← hX] at bX
                      have HXO : Hid (Rws X 30 7 (el (bs i)) 29 (cmdC i)) := hide (((unhide p10).below bX).cmd i hlt)
                      have HXN : Hid (∀ j x, (cmdR i)[j]? = some x → X.cell? ⟨wr.heap.size, j, none⟩ = some x) := hide (fun j x hj => by rw [hX]; exact made_cells wr (cmdR i) 29 j x hj)
                      have hwr : IntKind.i64.wrap (1000 + (i : Int)) = 1000 + (i : Int) := by rw [IntKind.wrap_i64]; omega
                      have HXE : Hid (X = (wr.alloc (.cells #[.string ⟨#[]⟩, .int .i64 (IntKind.i64.wrap (1000 + (i : Int))), .bool false, .int .i64 0, .int .i64 0, .int .i64 0, .int .i64 0] 29)).drew) := hide (by rw [hwr]; exact hX)
                      have HN : Hid (∀ v2 w2, Rws w2 29 7 v2 (29 + 1) (fun q => if q < 29 * 7 then cmdC i q else (cmdR i).getD (q - 29 * 7) undef) → Gr 29 (29 * 7) (cmdR i).length X w2 (el (bs i)) v2 →
                          w2.cell? ⟨lg, i, none⟩ = some (.slice (some ⟨bs i, 0, none⟩) 29 29) ∧ (w2.alloc (.cells #[el (bs i), v2, .slice ab 29 ac] 24)).cell? ⟨lg, i, none⟩ = some (.slice (some ⟨bs i, 0, none⟩) 29 29) ∧ Hid (Rws (w2.alloc (.cells #[el (bs i), v2, .slice ab 29 ac] 24)) 24 1 (.slice ka (3 * i) kc) (3 * i) F ∧
                            ∀ kv' w4, Rws w4 24 1 kv' (3 * i + 3) (fun j => if j < 3 * i * 1 then F j else [el (bs i), v2, .slice ab 29 ac].getD (j - 3 * i * 1) undef) → Gr 24 (3 * i * 1) [el (bs i), v2, .slice ab 29 ac].length (w2.alloc (.cells #[el (bs i), v2, .slice ab 29 ac] 24)) w4 (.slice ka (3 * i) kc) kv' → w4.cell? ⟨lg, i, none⟩ = some (.slice (some ⟨bs i, 0, none⟩) 29 29) ∧ ∃ F', Hid (P4 w w4 (.slice (some ⟨lg, 0, none⟩) m lc) kv' bs m (i + 1) F'))) := hide (fun v2 w2 h2 g2 => by
                        rw [hX] at g2
                        have p11 := (unhide p10).below (Below.drew (Below.refl wr.heap.size wr))
                        have q11 := (unhide q1).below (Below.drew (Below.refl wr.heap.size wr))
                        have nx := fun kv' w4 h4 g4 => P4.next (w4 := w4) (kv' := kv') (k := 0) p11 q11 (by omega) hlt h2 g2 h4 g4
                        obtain ⟨c, hc⟩ := (((unhide p10).below bX).cmd i hlt).type _ rfl
                        have b2 : Below X.heap.size X w2 := by
                          rcases g2.how with ⟨g, cur, cur', e1, _, e3, _⟩ | ⟨_, hs, hk⟩
                          · simp [Value.ownBlock] at e1
                            subst e1
                            rw [hX] at hc
                            rw [hc] at e3
                            cases e3
                          · rw [hX]
                            exact ⟨g2.os, g2.tape, g2.output, Nat.le_of_lt (by rw [hs]; exact Nat.lt_succ_self _), hk⟩
                        have b3 := bel_chain bX b2 bX.size
                        have b4 : Below wr.heap.size wr (w2.alloc (.cells #[el (bs i), v2, .slice ab 29 ac] 24)) := bel_chain b3 ((Below.refl _ _).alloc (Nat.le_refl _) _) b3.size
                        refine ⟨unhide HC _ b3, unhide HC _ b4, hide ⟨((unhide p10).below b4).ke, fun kv' w4 h4 g4 => ⟨?_, _, hide (nx kv' w4 h4 g4)⟩⟩⟩
                        obtain ⟨lg', lc', hlv, -, -, hat⟩ := (nx kv' w4 h4 g4).lin.at (by omega)
                        cases hlv
                        exact hat i (by omega))
                      have y0 : wr.cell? ⟨lg, i, none⟩ = some (.slice (some ⟨bs i, 0, none⟩) 29 29) := unhide HC wr (Below.refl _ _)
                      have y1 : (wr.alloc (.cells #[.string ⟨#[]⟩, .int .i64 (IntKind.i64.wrap (1000 + (i : Int))), .bool false, .int .i64 0, .int .i64 0, .int .i64 0, .int .i64 0] 29)).drew.cell? ⟨lg, i, none⟩ = some (.slice (some ⟨bs i, 0, none⟩) 29 29) := by rw [← unhide HXE]; exact unhide HC X bX
                      clear hX bX p10 q1 p9 hwr
                      have g1 : (0 : Int) ≤ (i : Int) := by omega
                      have g2 : (i : Int) < (m : Int) := by omega
                      go_wp2_with fail
                      go_region_held3 (fun w' => w'.cell? ⟨lg, i, none⟩ = some (.slice (some ⟨bs i, 0, none⟩) 29 29)) (first | go_keep | assumption) (first
                        | (rw [← unhide HXE]; refine step_append_rws rfl _ _ 24 rfl 29 i6 _ 7 64 Tryd.underlying24 hi6 hz6 hs6 hb6 rfl 30 (el (bs i)) 29 (cmdC i) rfl (unhide HXO) (.inr (fun b cap e => by cases e; rfl)) wr.heap.size 1 rfl (cmdR i) (by decide) rfl (unhide HXN) (cmdR_one i) (by decide) (by decide) ?_; intro v2 w2 h2 gg2; obtain ⟨a2, c2, rfl⟩ := h2.shape; obtain ⟨y2, y3, hn2⟩ := unhide HN _ _ h2 gg2; clear h2 gg2)
                        | (refine step_append_rws rfl _ _ 26 rfl 24 i3 _ 1 24 Tryd.underlying26 hi3 hz3 hs3 hb3 rfl 24 (.slice ka (3 * i) kc) (3 * i) F rfl (unhide hn2).1 (.inl rfl) w2.heap.size 3 rfl [el (bs i), .slice a2 (29 + 1) c2, .slice ab 29 ac] (by decide) rfl (made_cells w2 _ 24) (fun x hx => by simp at hx; rcases hx with rfl | rfl | rfl <;> rfl) (by omega) (by omega) ?_; intro v4 w4 h4 gg4; obtain ⟨a4, c4, rfl⟩ := h4.shape; obtain ⟨y4, F', p12⟩ := (unhide hn2).2 _ _ h4 gg4; clear h4 gg4))
                      all_goals go_wp2
                      all_goals go_roundw
                      all_goals first | exact ⟨i + 1, _, by simp, by omega, p12⟩ | (simp only [intOf]; omega)
                · obtain rfl : m = i := by omega
                  have f5 : decide ((m : Int) < (m : Int)) = false := decide_eq_false (by omega)
                  have f5' : (m < m) = False := eq_false (by omega)
                  obtain ⟨kg, kc', hkv, -, klt, hkat⟩ := (unhide p9).ke.at (by omega)
                  cases hkv
                  obtain ⟨q, hq⟩ : ∃ q, q = 3 * m := ⟨_, rfl⟩
                  have KC : Hid (∀ j, j < q → ws.cell? ⟨kg, j, none⟩ = some (F j)) := hide (fun j hj => hkat j (by omega))
                  have KN : Hid (∀ j, j < q → ∃ g n cap, F j = .slice (some ⟨g, 0, none⟩) n cap ∧ n ≤ 100 ∧ ∀ k, k < n * 7 → ws.cell? ⟨g, k, none⟩ = some (cmdC (j / 3) k)) := hide (fun j hj => by
                    obtain ⟨n, t, h1, h2, h3, h4⟩ := (unhide p9).kn j (by omega)
                    obtain ⟨g, cap, h5, -, -, h6⟩ := h4.at h1
                    exact ⟨g, n, cap, h5, h2, h6⟩)
                  have BW : Hid (Below w.heap.size w ws) := hide (unhide p9).bel
                  have hq5 : q ≤ 3075 := by omega
                  rw [← hq]
                  clear p9 hkat klt hq
                  go_wp2_with fail
                  go_loopw [16, 17] (fun iv _ wr => wr = ws ∧ ∃ i : Nat, iv = .int .i64 (i : Nat) ∧ i ≤ q) (fun iv _ _ => q - (intOf iv).toNat)
                  case atStart => exact ⟨rfl, 0, rfl, Nat.zero_le _⟩
                  case round =>
                    obtain ⟨hws, i, rfl, hi⟩ := hrel
                    subst hws
                    rcases Nat.lt_or_ge i q with hlt | hge
                    · have f6 : decide ((i : Int) < (q : Int)) = true := decide_eq_true (by omega)
                      obtain ⟨g, n', cap, hF, hn', hcs⟩ := unhide KN i hlt
                      have HCS := hide hcs
                      have ck := unhide KC i hlt
                      rw [hF] at ck
                      obtain ⟨d, hd⟩ : ∃ d, d = i / 3 := ⟨_, rfl⟩
                      have e3 : (i : Int).tdiv 3 = (d : Int) := by rw [hd, Int.ofNat_tdiv]; rfl
                      have hd3 : d ≤ 3075 := by omega
                      rw [← hd] at HCS
                      clear hcs hF hd
                      rename World => wz
                      go_wp2_with fail
                      go_loopw [17] (fun kv wr => wr = wz ∧ ∃ k : Nat, kv = .int .i64 (k : Nat) ∧ k ≤ n') (fun kv _ => n' - (intOf kv).toNat)
                      case atStart => exact ⟨rfl, 0, rfl, Nat.zero_le _⟩
                      case round =>
                        obtain ⟨hwz, k, rfl, hk⟩ := hrel
                        subst hwz
                        rcases Nat.lt_or_ge k n' with hkl | hkg
                        · have f7 : decide ((k : Int) < (n' : Int)) = true := decide_eq_true (by omega)
                          have cC : ∀ c v, c < 7 → (cmdR d).getD c undef = v → wr.cell? ⟨g, k * 7 + c, none⟩ = some v := fun c v hc hv => by
                            rw [unhide HCS _ (by omega), cmdC_at d k c hc, hv]
                          have x0 : wr.cell? ⟨g, k * 7, none⟩ = some (.string ⟨#[]⟩) := cC 0 _ (by decide) rfl
                          have x1 : wr.cell? ⟨g, k * 7 + 1, none⟩ = some (.int .i64 (1000 + (d : Int))) := cC 1 _ (by decide) rfl
                          have x2 : wr.cell? ⟨g, k * 7 + 2, none⟩ = some (.bool false) := cC 2 _ (by decide) rfl
                          have x3 : wr.cell? ⟨g, k * 7 + 3, none⟩ = some (.int .i64 0) := cC 3 _ (by decide) rfl
                          have x4 : wr.cell? ⟨g, k * 7 + 4, none⟩ = some (.int .i64 0) := cC 4 _ (by decide) rfl
                          have x5 : wr.cell? ⟨g, k * 7 + 5, none⟩ = some (.int .i64 0) := cC 5 _ (by decide) rfl
                          have x6 : wr.cell? ⟨g, k * 7 + 6, none⟩ = some (.int .i64 0) := cC 6 _ (by decide) rfl
                          have NE : ∀ W, (binOp .neq 29 (.agg #[.string ⟨#[]⟩, .int .i64 (1000 + (d : Int)), .bool false, .int .i64 0, .int .i64 0, .int .i64 0, .int .i64 0]) (.agg #[.string ⟨#[]⟩, .int .i64 (1000 + (d : Int)), .bool false, .int .i64 0, .int .i64 0, .int .i64 0, .int .i64 0])).run Tryd.prog W = .ok (.bool false) W := fun W => neq_cmd W _ _ _ _ _ _ _
                          clear cC
                          go_wp2
                          all_goals go_roundw
                          all_goals first | exact ⟨trivial, k + 1, by simp, by omega⟩ | (simp only [intOf]; omega)
                        · obtain rfl : n' = k := by omega
                          have f7 : decide ((n' : Int) < (n' : Int)) = false := decide_eq_false (by omega)
                          have f7' : (n' < n') = False := eq_false (by omega)
                          go_wp2
                          all_goals go_roundw
                          all_goals first | exact ⟨trivial, i + 1, by simp, by omega⟩ | (simp only [intOf]; omega)
                    · obtain rfl : q = i := by omega
                      have f6 : decide ((q : Int) < (q : Int)) = false := decide_eq_false (by omega)
                      have f6' : (q < q) = False := eq_false (by omega)
                      have ht9 : Hid (Tab wr) := hide ((unhide HT).below (unhide hp) (unhide BW))
                      have RW : Hid (∀ W, Hid (W.heap[wr.heap.size]? = some (.cells tabA 30 (0, 0)) ∧ W.heap.size = wr.heap.size + 1 ∧ Below wr.heap.size wr W) → Calls Tryd.prog 7 #[.slice (some ⟨wr.heap.size, 0, none⟩) 29 29, .slice (some ⟨wb, 0, none⟩) 29 wc] W fun e w' => e = .returned (.bool true) ∧ Hid (Below w.heap.size w w')) := hide (fun W h => by
                        have hb : Below w.heap.size w W := bel_chain (unhide BW) (unhide h).2.2 (unhide BW).size
                        refine (commands_same wr.heap.size 29 wb wc W (fun k hk => by rw [cell_of_row _ _ _ _ _ _ (unhide h).1]) (fun k hk => by rw [hb.cell (unhide HWB)]; exact unhide HWC k hk)).mono ?_
                        rintro e w' ⟨rfl, q, rfl⟩
                        exact ⟨rfl, hide (below_drewN hb q)⟩)
                      clear KC KN
                      go_wp2_with (first | (go_at_call 5; refine (unhide CC _ ht9).mono ?_; rintro e w5 ⟨rfl, k5⟩) | (go_at_call 7; refine (unhide RW _ k5).mono ?_; rintro e w6 ⟨rfl, k6⟩))
                      all_goals go_ret
                      all_goals exact ⟨rfl, unhide k6⟩
end Go.Proofs.YteooecjmnombfaaDoor
