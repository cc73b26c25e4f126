/- HeapSettles: the law. -/
import Derived.Test.YtidfllgaeiopjaaGreatSetP
import Derived.Deep.DeepCutAuto
namespace Go.Proofs.YtidfllgaeiopjaaGreat
open Go.ChangeShapes Go.WideShapes Go.ChangeAt Go.RowKit
set_option linter.unusedVariables false
set_option linter.unusedSimpArgs false
set_option maxRecDepth 100000
set_option maxHeartbeats 4000000

theorem Moves3.below {w w' : World} {a : Option Addr} {n : Nat} (h : Moves3 w a n) (k : Below w.heap.size w w') : Moves3 w' a n := by
  rcases h with h | ⟨b, off, e, hb, hq⟩
  · exact .inl h
  · refine .inr ⟨b, off, e, Nat.lt_of_lt_of_le hb k.size, fun i hi => ?_⟩
    obtain ⟨q, h1, h2⟩ := hq i hi
    exact ⟨q, h1.like (k.block b hb), ⟨h2.a1, h2.a2, h2.vl, h2.dl, h2.sm, h2.by'.below k, h2.nl⟩⟩

theorem Inv.be {ps ph lim n : Nat} {k : Kp} {M : Hp} {w : World} (h : Inv ps ph lim n k M w) : Below k.w.heap.size k.w w := by
  obtain ⟨tag, st, H, ns, C, last, b, bd⟩ := h
  exact b.o1.be
/-- the loop of HeapSettles, from where the heap stands -/
theorem settles_law (w : World) (lim : Int) (a : Option Addr) (n cap : Nat) (hS : Moves3 w a n) : Calls Tryz.prog 4 #[.agg #[.int .i64 lim, .slice a n cap]] w fun e w' => e = .returned (.bool true) ∧ Below w.heap.size w w' := by
  have hb0 : Below w.heap.size w (w.alloc (.cells #[.int .i64 lim, .slice a n cap] 24)) := (Below.refl _ _).alloc (Nat.le_refl _) _
  have hs0 : (w.alloc (.cells #[.int .i64 lim, .slice a n cap] 24)).heap.size = w.heap.size + 1 := by simp
  have z0 : (w.alloc (.cells #[.int .i64 lim, .slice a n cap] 24)).cell? ⟨w.heap.size, 0, none⟩ = some (.int .i64 lim) := World.cell?_alloc_at _ _ _ _ rfl
  have z1 : (w.alloc (.cells #[.int .i64 lim, .slice a n cap] 24)).cell? ⟨w.heap.size, 1, none⟩ = some (.slice a n cap) := World.cell?_alloc_at _ _ _ _ rfl
  have HP : Hid (∀ W, Below (w.heap.size + 1) (w.alloc (.cells #[.int .i64 lim, .slice a n cap] 24)) W → W.cell? ⟨w.heap.size, 0, none⟩ = some (.int .i64 lim) ∧ W.cell? ⟨w.heap.size, 1, none⟩ = some (.slice a n cap) ∧ Below w.heap.size w W ∧ w.heap.size < W.heap.size) := hide (fun W k => ⟨(k.cell (p := ⟨w.heap.size, 0, none⟩) (Nat.lt_succ_self _)).trans z0, (k.cell (p := ⟨w.heap.size, 1, none⟩) (Nat.lt_succ_self _)).trans z1, hb0.trans (k.mono (by omega)), by have := k.size; omega⟩)
  have H9 : Hid (∀ W, Below (w.heap.size + 1) (w.alloc (.cells #[.int .i64 lim, .slice a n cap] 24)) W → Calls Tryz.prog 9 #[] W fun e w' => e = .returned (.bool true) ∧ Below (w.heap.size + 1) (w.alloc (.cells #[.int .i64 lim, .slice a n cap] 24)) w') := hide (fun W k => (wakes_any W).mono fun e w' ⟨q1, q2⟩ => ⟨q1, k.trans (q2.mono (by have := k.size; omega))⟩)
  have H10 : Hid (∀ W, Below (w.heap.size + 1) (w.alloc (.cells #[.int .i64 lim, .slice a n cap] 24)) W → Calls Tryz.prog 10 #[.agg #[.int .i64 lim, .slice a n cap]] W fun e w' => ∃ v, e = .returned (.bool v) ∧ (v = true → n ≤ 200) ∧ Below (w.heap.size + 1) (w.alloc (.cells #[.int .i64 lim, .slice a n cap] 24)) w') := hide (fun W k => (small_any W lim a n cap (hS.below (hb0.trans (k.mono (by omega))))).mono fun e w' ⟨v, q1, q2, q3⟩ => ⟨v, q1, q2, k.trans (q3.mono (by have := k.size; omega))⟩)
  have hI0 : Below (w.heap.size + 1) (w.alloc (.cells #[.int .i64 lim, .slice a n cap] 24)) (w.alloc (.cells #[.int .i64 lim, .slice a n cap] 24)) := Below.refl _ _
  have HS := hide hS
  clear hb0 hs0 z0 z1 hS
  generalize hW : World.alloc w _ = W0 at *
  go_enter Tryz.func4, Tryz.ntmps4
  go_wp2_with fail
  (try rw [hW])
  clear hW
  refine (unhide H9 _ hI0).mono ?_
  clear hI0
  rintro e w1 ⟨rfl, hI1⟩
  obtain ⟨y0, y1, _, _⟩ := unhide HP _ hI1
  have HI1 := hide hI1
  clear hI1
  go_wp2_with fail
  refine (unhide H10 _ (unhide HI1)).mono ?_
  rintro e w2 ⟨v, rfl, hv, hI2⟩
  obtain ⟨y0, y1, hbw, _⟩ := unhide HP _ hI2
  have HI2 := hide hI2
  have HBW := hide hbw
  have HV := hide hv
  clear hI2 HI1 hbw hv H9 H10
  cases v
  · go_wp2_with fail
    go_ret
    exact ⟨rfl, unhide HBW⟩
  · have hn200 := unhide HV rfl
    by_cases hbad : lim < 128 ∨ 1048576 < lim
    · have H11 := hide (begins_bad (w := w2) hbad)
      clear hbad
      go_wp2_with fail
      refine (unhide H11).mono ?_
      rintro e w3 ⟨rfl, rfl⟩
      go_wp2_with fail
      go_ret
      exact ⟨rfl, unhide HBW⟩
    · obtain ⟨L, rfl⟩ : ∃ L : Nat, lim = (L : Nat) := ⟨lim.toNat, by omega⟩
      have H11 : Hid (Calls Tryz.prog 11 #[.int .i64 (L : Nat)] w2 fun e w' => ∃ ps ph, e = .returned (.tuple #[.pointer (some ⟨ps, 0, none⟩), .bool true]) ∧ Inv ps ph L 0 ⟨w2, w2, fun _ => False⟩ (newM L) w') := hide ((begins_any L (by omega) (by omega)).mono fun e w' ⟨ps, ph, tag, st, H, C, q1, q2⟩ => ⟨ps, ph, q1, tag, st, H, _, C, 0, q2, ⟨by show 1 ≤ 1; decide, by show 1 ≤ 1; decide, Nat.zero_le _, Nat.zero_le _, Nat.zero_le _, Nat.zero_le _⟩⟩)
      clear hbad
      go_wp2_with fail
      refine (unhide H11).mono ?_
      rintro e w3 ⟨ps, ph, rfl, hinv⟩
      have HV3 : Hid (∃ M, Inv ps ph L (4 * 0) ⟨w2, w2, fun _ => False⟩ M w3) := hide ⟨_, hinv⟩
      clear hinv
      have HC : Hid (∀ W, Below w2.heap.size w2 W → W.cell? ⟨w.heap.size, 1, none⟩ = some (.slice a n cap) ∧ Below w.heap.size w W) := hide (fun W k => by
        have k0 := unhide HI2
        have hz := (unhide HP _ k0).2.2.2
        have k1 : Below (w.heap.size + 1) W0 W := k0.trans (k.mono (by omega))
        exact ⟨(unhide HP _ k1).2.1, (unhide HP _ k1).2.2.1⟩)
      have HM : Hid (Moves3 w2 a n) := hide ((unhide HS).below (unhide HBW))
      clear H11 HI2 HBW HV HP HS y0 y1
      go_wp2_with fail
      go_loopw [5] (fun iv wr => ∃ i : Nat, iv = .int .i64 (i : Nat) ∧ i ≤ n ∧ Hid (∃ M, Inv ps ph L (4 * i) ⟨w2, w2, fun _ => False⟩ M wr)) (fun iv _ => n - (intOf iv).toNat)
      case atStart => exact ⟨0, rfl, Nat.zero_le _, HV3⟩
      case round =>
        obtain ⟨i, rfl, hi, hI⟩ := hrel
        obtain ⟨M, hinv⟩ := unhide hI
        obtain ⟨y1, hbw⟩ := unhide HC _ hinv.be
        have w1' : IntKind.i64.wrap ((i : Int) + 1) = (i : Int) + 1 := wrap_small _ (by omega) (by omega)
        by_cases hin : i < n
        · obtain ⟨bb, off, rfl, hbl, hq⟩ : ∃ b off, a = some ⟨b, off, none⟩ ∧ b < w2.heap.size ∧ ∀ i, i < n → ∃ q, MvAt w2 b (off + i * 8) q ∧ DataOk w2 q.A q.V q.a q.c q.l := by
            rcases unhide HM with h | h
            · omega
            · exact h
          obtain ⟨q, hm, hok⟩ := hq i hin
          have hmr := hm.like (hinv.be.block bb hbl)
          obtain ⟨r0, r1, r2, r3, r4, r5, r6, r7⟩ := hmr
          have hbx : Boxed (wr.alloc (mvB q.K q.A q.B q.C q.H q.G q.V (.slice q.a q.l.length q.c))) wr.heap.size q.K q.A q.B q.C q.H q.G q.V (.slice q.a q.l.length q.c) := Boxed.new wr _ _ _ _ _ _ _ _
          have hal : Below wr.heap.size wr (wr.alloc (mvB q.K q.A q.B q.C q.H q.G q.V (.slice q.a q.l.length q.c))) := (Below.refl _ _).alloc (Nat.le_refl _) _
          have hinv1 := hinv.add hal
          have hk1 : (Kp.add ⟨w2, w2, fun _ => False⟩ wr (wr.alloc (mvB q.K q.A q.B q.C q.H q.G q.V (.slice q.a q.l.length q.c)))).K wr.heap.size := .inr ⟨Nat.le_refl _, by simp⟩
          generalize hk0 : Kp.add ⟨w2, w2, fun _ => False⟩ wr (wr.alloc (mvB q.K q.A q.B q.C q.H q.G q.V (.slice q.a q.l.length q.c))) = k1 at *
          have hkw : k1.w = w2 := by rw [← hk0]; rfl
          have hst := hinv1.step (by omega) q (by rw [hkw]; exact hok)
          have H12 := hide hst
          have HBX := hide hbx
          have HK1 := hide hk1
          have HKW := hide hkw
          clear hst hbx hk1 hkw hinv1 hal hm hok hq hk0 hinv
          obtain ⟨K, A, B, C, HH, GG, V, da, dl, dc⟩ := q
          dsimp only at r0 r1 r2 r3 r4 r5 r6 r7 H12 HBX
          unfold mvV at H12
          unfold mvB at H12 HBX
          obtain ⟨dn, hdn⟩ : ∃ dn, dl.length = dn := ⟨_, rfl⟩
          rw [hdn] at r7 H12 HBX
          clear hdn
          have dl' : decide ((i : Int) < (n : Nat)) = true := decide_eq_true (by omega)
          have i1 : (0 : Int) ≤ (i : Nat) := by omega
          have i2 : (i : Int) < (n : Nat) := by omega
          go_wp2_with fail
          refine (unhide H12).mono ?_
          rintro e w3 ⟨rfl, M3, hinv3, hs3⟩
          have bx3 := (unhide HBX).same (hs3 _ (.inr (unhide HK1)))
          generalize hbm : wr.heap.size = bm at *
          clear hbm
          obtain ⟨b0, b1, _, _, _, _, _, _⟩ := bx3
          have x0 := hinv3.c0
          have HQ3 := hide hinv3
          clear hinv3 hs3 H12 HBX r0 r1 r2 r3 r4 r5 r6 r7 hbw hI
          have HNX : Hid (∃ M, Inv ps ph L (4 * (i + 1)) ⟨w2, w2, fun _ => False⟩ M w3) := hide ⟨M3, by have := (unhide HQ3).drop.mono (show 4 * i + 1 ≤ 4 * (i + 1) by omega); rw [unhide HKW] at this; exact this⟩
          go_upto_region 14 with fail
          go_cut [51] (fun c wx => c = .bool (decide (¬ (K = 8 ∨ K = 9))) ∧ wx = w3)
          case first =>
            by_cases h8 : K = 8
            · subst h8
              go_wp2_with fail
              go_meet
              case rel => exact ⟨by simp, rfl⟩
            · have n8 : (K != 8) = true := bne_iff_ne.2 h8
              by_cases h9 : K = 9
              · subst h9
                go_wp2_with fail
                go_meet
                case rel => exact ⟨by simp, rfl⟩
              · have n9 : (K != 9) = true := bne_iff_ne.2 h9
                go_wp2_with fail
                go_meet
                case rel => exact ⟨by simp [h8, h9], rfl⟩
          case rest =>
            obtain ⟨hc1, hc2⟩ := hcut
            subst hc2
            by_cases hK : K = 8 ∨ K = 9
            · have dK : decide (¬ (K = 8 ∨ K = 9)) = false := decide_eq_false (fun q => q hK)
              rw [dK] at hc1
              subst hc1
              clear hK HNX b0 dK
              go_wp2_with fail
              refine ((unhide HQ3).collect (by omega)).mono ?_
              rintro e w4 ⟨rfl, N4, hc4, hinv4, hs4⟩
              have b1 : w4.cell? ⟨bm, 1, none⟩ = some (.int .i64 A) := by rw [← b1]; simp only [World.cell?, hs4 bm (.inr (unhide HK1))]
              have x0 := hinv4.c0
              have HW3 := hide (unhide HQ3).wf.1
              obtain ⟨M4, hM4⟩ : ∃ M4, M4 = fitM N4 0 := ⟨_, rfl⟩
              rw [← hM4] at hinv4
              have HM4 := hide hM4
              have HC4 := hide hc4
              have HQ4 := hide hinv4
              have HU4 : Hid (M4.used = M4.used) := hide rfl
              clear hM4 hc4 hinv4 hs4 HQ3
              have H15 : Hid (∀ W, Hid (Below w4.heap.size w4 W) → Calls Tryz.prog 15 #[.pointer (some ⟨ph, 0, none⟩)] W fun e w' => e = .returned (.slice (some ⟨W.heap.size, 0, none⟩) M4.used M4.used) ∧ w'.cell? ⟨ps, 0, none⟩ = some (.pointer (some ⟨ph, 0, none⟩)) ∧ Hid (Below w4.heap.size w4 w') ∧ Hid (A15 M4 W w')) := hide (fun W k => by
                have k := unhide k
                have iv := (unhide HQ4).still k
                exact iv.image.mono fun e w' ⟨q1, q2, q3, q4⟩ => ⟨by rw [q1, unhide HU4], (iv.still q4).c0, hide (k.trans (q4.mono k.size)), hide ⟨q4, q2, q3⟩⟩)
              have H16 : Hid (∀ W, Hid (Below w4.heap.size w4 W) → Calls Tryz.prog 16 #[.pointer (some ⟨ph, 0, none⟩)] W fun e w' => e = .returned (statV M4) ∧ w'.cell? ⟨ps, 0, none⟩ = some (.pointer (some ⟨ph, 0, none⟩)) ∧ Hid (Below w4.heap.size w4 w') ∧ Hid (Below W.heap.size W w')) := hide (fun W k => by
                have k := unhide k
                have iv := (unhide HQ4).still k
                exact iv.stats.mono fun e w' ⟨q1, q4⟩ => ⟨q1, (iv.still q4).c0, hide (k.trans (q4.mono k.size)), hide q4⟩)
              unfold statV stV at H16
              have XC : Hid (∀ (W : World) Z, W.cell? ⟨ps, 0, none⟩ = some (.pointer (some ⟨ph, 0, none⟩)) → (W.alloc Z).cell? ⟨ps, 0, none⟩ = some (.pointer (some ⟨ph, 0, none⟩))) := hide (fun W Z h => by rw [← h]; simp only [World.cell?, heap_alloc_old W Z (block_lt_of_cell h)])
              have XD : Hid (∀ Z, ((w4.alloc Z).drew).cell? ⟨ps, 0, none⟩ = some (.pointer (some ⟨ph, 0, none⟩))) := hide (fun Z => unhide XC w4 Z x0)
              go_wp2_with fail
              go_cut [7, 8] (fun av tv wx => ∃ ga gt : Nat, av = .slice (some ⟨ga, 0, none⟩) M4.used M4.used ∧ tv = .pointer (some ⟨gt, 0, none⟩) ∧ Hid (AT M4 ga gt w4 wx))
              case first =>
                have xd : w4.drew.cell? ⟨ps, 0, none⟩ = some (.pointer (some ⟨ph, 0, none⟩)) := x0
                refine till_begin (fun w' => w'.cell? ⟨ps, 0, none⟩ = some (.pointer (some ⟨ph, 0, none⟩))) 12 (by kernel_rfl) ?_
                refine AnyTill.take 0 (v := ?_) rfl (by kernel_rfl) (by kernel_rfl) (by kernel_rfl) (by kernel_rfl) (fun _ _ _ h => h) ?_ rfl xd ?_
                rotate_left
                · intro w hSw
                  try dsimp only at hSw
                  go_simp
                  all_goals with_reducible rfl
                try simp only [Act.put, List.getElem_toArray, List.getElem_cons_succ, List.getElem_cons_zero, List.setIfInBounds_toArray, List.set_cons_zero, List.set_cons_succ]
                refine AnyTill.take 1 (v := ?_) rfl (by kernel_rfl) (by kernel_rfl) (by kernel_rfl) (by kernel_rfl) (fun _ _ _ h => h) ?_ rfl xd ?_
                rotate_left
                · intro w hSw
                  try dsimp only at hSw
                  go_simp
                  all_goals with_reducible rfl
                try simp only [Act.put, List.getElem_toArray, List.getElem_cons_succ, List.getElem_cons_zero, List.setIfInBounds_toArray, List.set_cons_zero, List.set_cons_succ]
                refine AnyTill.take 2 (v := ?_) rfl (by kernel_rfl) (by kernel_rfl) (by kernel_rfl) (by kernel_rfl) (fun _ _ _ h => h) ?_ rfl xd ?_
                rotate_left
                · intro w hSw
                  try dsimp only at hSw
                  go_simp
                  all_goals with_reducible rfl
                try simp only [Act.put, List.getElem_toArray, List.getElem_cons_succ, List.getElem_cons_zero, List.setIfInBounds_toArray, List.set_cons_zero, List.set_cons_succ]
                refine AnyTill.take 3 (v := ?_) rfl (by kernel_rfl) (by kernel_rfl) (by kernel_rfl) (by kernel_rfl) (fun _ _ _ h => h) ?_ rfl xd ?_
                rotate_left
                · intro w hSw
                  try dsimp only at hSw
                  go_simp
                  all_goals with_reducible rfl
                try simp only [Act.put, List.getElem_toArray, List.getElem_cons_succ, List.getElem_cons_zero, List.setIfInBounds_toArray, List.set_cons_zero, List.set_cons_succ]
                refine AnyTill.take 5 (v := ?_) rfl (by kernel_rfl) (by kernel_rfl) (by kernel_rfl) (by kernel_rfl) (fun _ _ _ h => h) ?_ rfl xd ?_
                rotate_left
                · intro w hSw
                  try dsimp only at hSw
                  go_simp
                  all_goals with_reducible rfl
                try simp only [Act.put, List.getElem_toArray, List.getElem_cons_succ, List.getElem_cons_zero, List.setIfInBounds_toArray, List.set_cons_zero, List.set_cons_succ]
                refine AnyTill.take 6 (v := ?_) rfl (by kernel_rfl) (by kernel_rfl) (by kernel_rfl) (by kernel_rfl) (fun _ _ _ h => h) ?_ rfl xd ?_
                rotate_left
                · intro w hSw
                  try dsimp only at hSw
                  go_simp
                  all_goals with_reducible rfl
                try simp only [Act.put, List.getElem_toArray, List.getElem_cons_succ, List.getElem_cons_zero, List.setIfInBounds_toArray, List.set_cons_zero, List.set_cons_succ]
                refine AnyTill.take 7 (v := ?_) rfl (by kernel_rfl) (by kernel_rfl) (by kernel_rfl) (by kernel_rfl) (fun _ _ _ h => h) ?_ rfl xd ?_
                rotate_left
                · intro w hSw
                  try dsimp only at hSw
                  go_simp
                  all_goals with_reducible rfl
                try simp only [Act.put, List.getElem_toArray, List.getElem_cons_succ, List.getElem_cons_zero, List.setIfInBounds_toArray, List.set_cons_zero, List.set_cons_succ]
                refine AnyTill.take 8 (v := ?_) rfl (by kernel_rfl) (by kernel_rfl) (by kernel_rfl) (by kernel_rfl) (fun _ _ _ h => h) ?_ rfl xd ?_
                rotate_left
                · intro w hSw
                  try dsimp only at hSw
                  go_simp
                  all_goals with_reducible rfl
                try simp only [Act.put, List.getElem_toArray, List.getElem_cons_succ, List.getElem_cons_zero, List.setIfInBounds_toArray, List.set_cons_zero, List.set_cons_succ]
                refine AnyTill.two (i := 4) (j := 10) (by kernel_rfl) ?_ ?_
                · refine AnyTill.op rfl rfl fun K hK => ?_
                  go_simp
                  refine (unhide H15 _ (hide (Below.refl _ _).drew)).mono ?_
                  rintro e w5 ⟨rfl, x5, hB5, hA5⟩
                  try go_wp2_with fail
                  refine hK _ _ (fun _ => x5) ?_
                  clear hK K
                  try simp only [Act.put, List.getElem_toArray, List.getElem_cons_succ, List.getElem_cons_zero, List.setIfInBounds_toArray, List.set_cons_zero, List.set_cons_succ]
                  refine AnyTill.two (i := 9) (j := 10) (by kernel_rfl) ?_ ?_
                  · refine AnyTill.op rfl rfl fun K hK => ?_
                    go_simp
                    refine (unhide H16 _ (hB5)).mono ?_
                    rintro e w6 ⟨rfl, x6, hB6, hC6⟩
                    try go_wp2_with fail
                    refine hK _ _ (fun _ => x6) ?_
                    clear hK K
                    try simp only [Act.put, List.getElem_toArray, List.getElem_cons_succ, List.getElem_cons_zero, List.setIfInBounds_toArray, List.set_cons_zero, List.set_cons_succ]
                    refine AnyTill.one (i := 10) (by kernel_rfl) ?_
                    refine AnyTill.op rfl rfl fun K hK => ?_
                    go_simp
                    refine hK _ _ (fun _ => unhide XC _ _ x6) ?_
                    clear hK K
                    try simp only [Act.put, List.getElem_toArray, List.getElem_cons_succ, List.getElem_cons_zero, List.setIfInBounds_toArray, List.set_cons_zero, List.set_cons_succ]
                    refine AnyTill.one (i := 11) (by kernel_rfl) ?_
                    refine AnyTill.op rfl rfl fun K hK => ?_
                    go_simp
                    refine hK _ _ (fun _ => unhide XC _ _ x6) ?_
                    clear hK K
                    try simp only [Act.put, List.getElem_toArray, List.getElem_cons_succ, List.getElem_cons_zero, List.setIfInBounds_toArray, List.set_cons_zero, List.set_cons_succ]
                    refine AnyTill.one (i := 12) (by kernel_rfl) ?_
                    refine AnyTill.op rfl rfl fun K hK => ?_
                    go_simp
                    refine hK _ _ (fun h => absurd rfl h) ?_
                    clear hK K
                    try simp only [Act.put, List.getElem_toArray, List.getElem_cons_succ, List.getElem_cons_zero, List.setIfInBounds_toArray, List.set_cons_zero, List.set_cons_succ]
                    refine AnyTill.done (by kernel_rfl) ?_
                    go_wp2_with fail
                    go_meet
                    case rel =>
                      exact ⟨_, _, rfl, rfl, hide (AT.one (unhide hA5) (unhide hC6))⟩
                  · refine AnyTill.op rfl rfl fun K hK => ?_
                    go_simp
                    refine hK _ _ (fun _ => unhide XC _ _ x5) ?_
                    clear hK K
                    try simp only [Act.put, List.getElem_toArray, List.getElem_cons_succ, List.getElem_cons_zero, List.setIfInBounds_toArray, List.set_cons_zero, List.set_cons_succ]
                    refine AnyTill.one (i := 9) (by kernel_rfl) ?_
                    refine AnyTill.op rfl rfl fun K hK => ?_
                    go_simp
                    refine (unhide H16 _ (hide ((unhide hB5).alloc (unhide hB5).size _))).mono ?_
                    rintro e w6 ⟨rfl, x6, hB6, hC6⟩
                    try go_wp2_with fail
                    refine hK _ _ (fun _ => x6) ?_
                    clear hK K
                    try simp only [Act.put, List.getElem_toArray, List.getElem_cons_succ, List.getElem_cons_zero, List.setIfInBounds_toArray, List.set_cons_zero, List.set_cons_succ]
                    refine AnyTill.one (i := 11) (by kernel_rfl) ?_
                    refine AnyTill.op rfl rfl fun K hK => ?_
                    go_simp
                    refine hK _ _ (fun _ => x6) ?_
                    clear hK K
                    try simp only [Act.put, List.getElem_toArray, List.getElem_cons_succ, List.getElem_cons_zero, List.setIfInBounds_toArray, List.set_cons_zero, List.set_cons_succ]
                    refine AnyTill.one (i := 12) (by kernel_rfl) ?_
                    obtain ⟨e6, hAT⟩ := AT.two (unhide hA5) (unhide hC6)
                    obtain ⟨g0, g1, g2, g3, g4, g5, g6, g7, g8⟩ := z9_cells e6
                    obtain ⟨f0, f1, f2, f3, f4, f5, f6, f7, f8⟩ := z9_free e6
                    have HAT := hide hAT
                    clear hAT e6
                    refine AnyTill.op rfl rfl fun K hK => ?_
                    go_simp
                    refine hK _ _ (fun h => absurd rfl h) ?_
                    clear hK K
                    try simp only [Act.put, List.getElem_toArray, List.getElem_cons_succ, List.getElem_cons_zero, List.setIfInBounds_toArray, List.set_cons_zero, List.set_cons_succ]
                    refine AnyTill.done (by kernel_rfl) ?_
                    go_wp2_with fail
                    go_meet
                    case rel =>
                      exact ⟨_, _, rfl, rfl, HAT⟩
                · refine AnyTill.op rfl rfl fun K hK => ?_
                  go_simp
                  refine hK _ _ (fun _ => unhide XD _) ?_
                  clear hK K
                  try simp only [Act.put, List.getElem_toArray, List.getElem_cons_succ, List.getElem_cons_zero, List.setIfInBounds_toArray, List.set_cons_zero, List.set_cons_succ]
                  refine AnyTill.one (i := 4) (by kernel_rfl) ?_
                  refine AnyTill.op rfl rfl fun K hK => ?_
                  go_simp
                  refine (unhide H15 _ (hide ((Below.refl _ _).alloc (Nat.le_refl _) _).drew)).mono ?_
                  rintro e w5 ⟨rfl, x5, hB5, hA5⟩
                  try go_wp2_with fail
                  refine hK _ _ (fun _ => x5) ?_
                  clear hK K
                  try simp only [Act.put, List.getElem_toArray, List.getElem_cons_succ, List.getElem_cons_zero, List.setIfInBounds_toArray, List.set_cons_zero, List.set_cons_succ]
                  refine AnyTill.one (i := 9) (by kernel_rfl) ?_
                  refine AnyTill.op rfl rfl fun K hK => ?_
                  go_simp
                  refine (unhide H16 _ (hB5)).mono ?_
                  rintro e w6 ⟨rfl, x6, hB6, hC6⟩
                  try go_wp2_with fail
                  refine hK _ _ (fun _ => x6) ?_
                  clear hK K
                  try simp only [Act.put, List.getElem_toArray, List.getElem_cons_succ, List.getElem_cons_zero, List.setIfInBounds_toArray, List.set_cons_zero, List.set_cons_succ]
                  refine AnyTill.one (i := 11) (by kernel_rfl) ?_
                  refine AnyTill.op rfl rfl fun K hK => ?_
                  go_simp
                  refine hK _ _ (fun _ => x6) ?_
                  clear hK K
                  try simp only [Act.put, List.getElem_toArray, List.getElem_cons_succ, List.getElem_cons_zero, List.setIfInBounds_toArray, List.set_cons_zero, List.set_cons_succ]
                  refine AnyTill.one (i := 12) (by kernel_rfl) ?_
                  obtain ⟨e6, hAT⟩ := AT.three (unhide hA5) (unhide hC6)
                  obtain ⟨g0, g1, g2, g3, g4, g5, g6, g7, g8⟩ := z9_cells e6
                  obtain ⟨f0, f1, f2, f3, f4, f5, f6, f7, f8⟩ := z9_free e6
                  have HAT := hide hAT
                  clear hAT e6
                  refine AnyTill.op rfl rfl fun K hK => ?_
                  go_simp
                  refine hK _ _ (fun h => absurd rfl h) ?_
                  clear hK K
                  try simp only [Act.put, List.getElem_toArray, List.getElem_cons_succ, List.getElem_cons_zero, List.setIfInBounds_toArray, List.set_cons_zero, List.set_cons_succ]
                  refine AnyTill.done (by kernel_rfl) ?_
                  go_wp2_with fail
                  go_meet
                  case rel =>
                    exact ⟨_, _, rfl, rfl, HAT⟩
              case rest =>
                obtain ⟨ga, gt, e1, e2, HT⟩ := hcut
                subst e1 e2
                obtain ⟨w7, hw7⟩ : ∃ w7, w7 = wc := ⟨_, rfl⟩
                subst hw7
                have T := unhide HT
                have inv7 := (unhide HQ4).add T.be
                have HK7 : Hid ((k1.add w4 w7).K ga ∧ (k1.add w4 w7).K gt ∧ (k1.add w4 w7).K bm ∧ (k1.add w4 w7).w = w2) := hide ⟨.inr T.a1, .inr T.t1, .inl (unhide HK1), unhide HKW⟩
                generalize k1.add w4 w7 = k7 at *
                have b1 : w7.cell? ⟨bm, 1, none⟩ = some (.int .i64 A) := (T.be.cell (p := ⟨bm, 1, none⟩) (block_lt_of_cell b1)).trans b1
                have x0 := inv7.c0
                have HA7 := hide T.img
                have HS7 := hide T.st
                have HQ7 := hide inv7
                have HW4 := hide inv7.wf
                clear T HT inv7 HQ4 H15 H16 XC XD
                go_wp2_with fail
                refine ((unhide HQ7).collect (by omega)).mono ?_
                rintro e w8 ⟨rfl, N8, hc8, hinv8, hs8⟩
                have b1 : w8.cell? ⟨bm, 1, none⟩ = some (.int .i64 A) := by rw [← b1]; simp only [World.cell?, hs8 bm (.inr (unhide HK7).2.2.1)]
                have x0 := hinv8.c0
                obtain ⟨M8, hM8⟩ : ∃ M8, M8 = fitM N8 0 := ⟨_, rfl⟩
                rw [← hM8] at hinv8
                have HE8 : Hid (M8 = { M4 with coll := M4.coll + 1 }) := hide (by
                  have h8 := hc8
                  rw [unhide HM4] at h8
                  have := (collect_twice (unhide HW3) (unhide HC4) h8).1
                  rw [hM8, this, unhide HM4, (fitM_resz N4 0).2])
                have HU8 : Hid (M8.used = M4.used) := hide (by rw [unhide HE8])
                have HA8 : Hid (∀ j, j < M4.used → w8.cell? ⟨ga, j, none⟩ = some (.int .u64 ((imgM M4).getD j 0 : Nat))) := hide (fun j hj => by rw [← unhide HA7 j hj]; simp only [World.cell?, hs8 ga (.inr (unhide HK7).1)])
                have HS8 : Hid (w8.heap[gt]? = some (sO M4)) := hide ((hs8 gt (.inr (unhide HK7).2.1)).trans (unhide HS7))
                have HM8 := hide hM8
                have HC8 := hide hc8
                have HQ8 := hide hinv8
                clear hM8 hc8 hinv8 hs8 HQ7 HA7 HS7
                have H15 : Hid (∀ W, Hid (Below w8.heap.size w8 W) → Calls Tryz.prog 15 #[.pointer (some ⟨ph, 0, none⟩)] W fun e w' => e = .returned (.slice (some ⟨W.heap.size, 0, none⟩) M4.used M4.used) ∧ w'.cell? ⟨ps, 0, none⟩ = some (.pointer (some ⟨ph, 0, none⟩)) ∧ Hid (Below w8.heap.size w8 w') ∧ Hid (A15 M8 W w')) := hide (fun W k => by
                  have k := unhide k
                  have iv := (unhide HQ8).still k
                  exact iv.image.mono fun e w' ⟨q1, q2, q3, q4⟩ => ⟨by rw [q1, unhide HU8], (iv.still q4).c0, hide (k.trans (q4.mono k.size)), hide ⟨q4, q2, q3⟩⟩)
                have H16 : Hid (∀ W, Hid (Below w8.heap.size w8 W) → Calls Tryz.prog 16 #[.pointer (some ⟨ph, 0, none⟩)] W fun e w' => e = .returned (statV M8) ∧ w'.cell? ⟨ps, 0, none⟩ = some (.pointer (some ⟨ph, 0, none⟩)) ∧ Hid (Below w8.heap.size w8 w') ∧ Hid (Below W.heap.size W w')) := hide (fun W k => by
                  have k := unhide k
                  have iv := (unhide HQ8).still k
                  exact iv.stats.mono fun e w' ⟨q1, q4⟩ => ⟨q1, (iv.still q4).c0, hide (k.trans (q4.mono k.size)), hide q4⟩)
                unfold statV stV at H16
                have XC : Hid (∀ (W : World) Z, W.cell? ⟨ps, 0, none⟩ = some (.pointer (some ⟨ph, 0, none⟩)) → (W.alloc Z).cell? ⟨ps, 0, none⟩ = some (.pointer (some ⟨ph, 0, none⟩))) := hide (fun W Z h => by rw [← h]; simp only [World.cell?, heap_alloc_old W Z (block_lt_of_cell h)])
                have XD : Hid (∀ Z, ((w8.alloc Z).drew).cell? ⟨ps, 0, none⟩ = some (.pointer (some ⟨ph, 0, none⟩))) := hide (fun Z => unhide XC w8 Z x0)
                go_wp2_with fail
                go_cut [9, 10] (fun av tv wx => ∃ ga gt : Nat, av = .slice (some ⟨ga, 0, none⟩) M4.used M4.used ∧ tv = .pointer (some ⟨gt, 0, none⟩) ∧ Hid (AT M8 ga gt w8 wx))
                case first =>
                  have xd : w8.drew.cell? ⟨ps, 0, none⟩ = some (.pointer (some ⟨ph, 0, none⟩)) := x0
                  refine till_begin (fun w' => w'.cell? ⟨ps, 0, none⟩ = some (.pointer (some ⟨ph, 0, none⟩))) 12 (by kernel_rfl) ?_
                  refine AnyTill.take 0 (v := ?_) rfl (by kernel_rfl) (by kernel_rfl) (by kernel_rfl) (by kernel_rfl) (fun _ _ _ h => h) ?_ rfl xd ?_
                  rotate_left
                  · intro w hSw
                    try dsimp only at hSw
                    go_simp
                    all_goals with_reducible rfl
                  try simp only [Act.put, List.getElem_toArray, List.getElem_cons_succ, List.getElem_cons_zero, List.setIfInBounds_toArray, List.set_cons_zero, List.set_cons_succ]
                  refine AnyTill.take 1 (v := ?_) rfl (by kernel_rfl) (by kernel_rfl) (by kernel_rfl) (by kernel_rfl) (fun _ _ _ h => h) ?_ rfl xd ?_
                  rotate_left
                  · intro w hSw
                    try dsimp only at hSw
                    go_simp
                    all_goals with_reducible rfl
                  try simp only [Act.put, List.getElem_toArray, List.getElem_cons_succ, List.getElem_cons_zero, List.setIfInBounds_toArray, List.set_cons_zero, List.set_cons_succ]
                  refine AnyTill.take 2 (v := ?_) rfl (by kernel_rfl) (by kernel_rfl) (by kernel_rfl) (by kernel_rfl) (fun _ _ _ h => h) ?_ rfl xd ?_
                  rotate_left
                  · intro w hSw
                    try dsimp only at hSw
                    go_simp
                    all_goals with_reducible rfl
                  try simp only [Act.put, List.getElem_toArray, List.getElem_cons_succ, List.getElem_cons_zero, List.setIfInBounds_toArray, List.set_cons_zero, List.set_cons_succ]
                  refine AnyTill.take 3 (v := ?_) rfl (by kernel_rfl) (by kernel_rfl) (by kernel_rfl) (by kernel_rfl) (fun _ _ _ h => h) ?_ rfl xd ?_
                  rotate_left
                  · intro w hSw
                    try dsimp only at hSw
                    go_simp
                    all_goals with_reducible rfl
                  try simp only [Act.put, List.getElem_toArray, List.getElem_cons_succ, List.getElem_cons_zero, List.setIfInBounds_toArray, List.set_cons_zero, List.set_cons_succ]
                  refine AnyTill.take 5 (v := ?_) rfl (by kernel_rfl) (by kernel_rfl) (by kernel_rfl) (by kernel_rfl) (fun _ _ _ h => h) ?_ rfl xd ?_
                  rotate_left
                  · intro w hSw
                    try dsimp only at hSw
                    go_simp
                    all_goals with_reducible rfl
                  try simp only [Act.put, List.getElem_toArray, List.getElem_cons_succ, List.getElem_cons_zero, List.setIfInBounds_toArray, List.set_cons_zero, List.set_cons_succ]
                  refine AnyTill.take 6 (v := ?_) rfl (by kernel_rfl) (by kernel_rfl) (by kernel_rfl) (by kernel_rfl) (fun _ _ _ h => h) ?_ rfl xd ?_
                  rotate_left
                  · intro w hSw
                    try dsimp only at hSw
                    go_simp
                    all_goals with_reducible rfl
                  try simp only [Act.put, List.getElem_toArray, List.getElem_cons_succ, List.getElem_cons_zero, List.setIfInBounds_toArray, List.set_cons_zero, List.set_cons_succ]
                  refine AnyTill.take 7 (v := ?_) rfl (by kernel_rfl) (by kernel_rfl) (by kernel_rfl) (by kernel_rfl) (fun _ _ _ h => h) ?_ rfl xd ?_
                  rotate_left
                  · intro w hSw
                    try dsimp only at hSw
                    go_simp
                    all_goals with_reducible rfl
                  try simp only [Act.put, List.getElem_toArray, List.getElem_cons_succ, List.getElem_cons_zero, List.setIfInBounds_toArray, List.set_cons_zero, List.set_cons_succ]
                  refine AnyTill.take 8 (v := ?_) rfl (by kernel_rfl) (by kernel_rfl) (by kernel_rfl) (by kernel_rfl) (fun _ _ _ h => h) ?_ rfl xd ?_
                  rotate_left
                  · intro w hSw
                    try dsimp only at hSw
                    go_simp
                    all_goals with_reducible rfl
                  try simp only [Act.put, List.getElem_toArray, List.getElem_cons_succ, List.getElem_cons_zero, List.setIfInBounds_toArray, List.set_cons_zero, List.set_cons_succ]
                  refine AnyTill.two (i := 4) (j := 10) (by kernel_rfl) ?_ ?_
                  · refine AnyTill.op rfl rfl fun K hK => ?_
                    go_simp
                    refine (unhide H15 _ (hide (Below.refl _ _).drew)).mono ?_
                    rintro e w5 ⟨rfl, x5, hB5, hA5⟩
                    try go_wp2_with fail
                    refine hK _ _ (fun _ => x5) ?_
                    clear hK K
                    try simp only [Act.put, List.getElem_toArray, List.getElem_cons_succ, List.getElem_cons_zero, List.setIfInBounds_toArray, List.set_cons_zero, List.set_cons_succ]
                    refine AnyTill.two (i := 9) (j := 10) (by kernel_rfl) ?_ ?_
                    · refine AnyTill.op rfl rfl fun K hK => ?_
                      go_simp
                      refine (unhide H16 _ (hB5)).mono ?_
                      rintro e w6 ⟨rfl, x6, hB6, hC6⟩
                      try go_wp2_with fail
                      refine hK _ _ (fun _ => x6) ?_
                      clear hK K
                      try simp only [Act.put, List.getElem_toArray, List.getElem_cons_succ, List.getElem_cons_zero, List.setIfInBounds_toArray, List.set_cons_zero, List.set_cons_succ]
                      refine AnyTill.one (i := 10) (by kernel_rfl) ?_
                      refine AnyTill.op rfl rfl fun K hK => ?_
                      go_simp
                      refine hK _ _ (fun _ => unhide XC _ _ x6) ?_
                      clear hK K
                      try simp only [Act.put, List.getElem_toArray, List.getElem_cons_succ, List.getElem_cons_zero, List.setIfInBounds_toArray, List.set_cons_zero, List.set_cons_succ]
                      refine AnyTill.one (i := 11) (by kernel_rfl) ?_
                      refine AnyTill.op rfl rfl fun K hK => ?_
                      go_simp
                      refine hK _ _ (fun _ => unhide XC _ _ x6) ?_
                      clear hK K
                      try simp only [Act.put, List.getElem_toArray, List.getElem_cons_succ, List.getElem_cons_zero, List.setIfInBounds_toArray, List.set_cons_zero, List.set_cons_succ]
                      refine AnyTill.one (i := 12) (by kernel_rfl) ?_
                      refine AnyTill.op rfl rfl fun K hK => ?_
                      go_simp
                      refine hK _ _ (fun h => absurd rfl h) ?_
                      clear hK K
                      try simp only [Act.put, List.getElem_toArray, List.getElem_cons_succ, List.getElem_cons_zero, List.setIfInBounds_toArray, List.set_cons_zero, List.set_cons_succ]
                      refine AnyTill.done (by kernel_rfl) ?_
                      go_wp2_with fail
                      go_meet
                      case rel =>
                        exact ⟨_, _, rfl, rfl, hide (AT.one (unhide hA5) (unhide hC6))⟩
                    · refine AnyTill.op rfl rfl fun K hK => ?_
                      go_simp
                      refine hK _ _ (fun _ => unhide XC _ _ x5) ?_
                      clear hK K
                      try simp only [Act.put, List.getElem_toArray, List.getElem_cons_succ, List.getElem_cons_zero, List.setIfInBounds_toArray, List.set_cons_zero, List.set_cons_succ]
                      refine AnyTill.one (i := 9) (by kernel_rfl) ?_
                      refine AnyTill.op rfl rfl fun K hK => ?_
                      go_simp
                      refine (unhide H16 _ (hide ((unhide hB5).alloc (unhide hB5).size _))).mono ?_
                      rintro e w6 ⟨rfl, x6, hB6, hC6⟩
                      try go_wp2_with fail
                      refine hK _ _ (fun _ => x6) ?_
                      clear hK K
                      try simp only [Act.put, List.getElem_toArray, List.getElem_cons_succ, List.getElem_cons_zero, List.setIfInBounds_toArray, List.set_cons_zero, List.set_cons_succ]
                      refine AnyTill.one (i := 11) (by kernel_rfl) ?_
                      refine AnyTill.op rfl rfl fun K hK => ?_
                      go_simp
                      refine hK _ _ (fun _ => x6) ?_
                      clear hK K
                      try simp only [Act.put, List.getElem_toArray, List.getElem_cons_succ, List.getElem_cons_zero, List.setIfInBounds_toArray, List.set_cons_zero, List.set_cons_succ]
                      refine AnyTill.one (i := 12) (by kernel_rfl) ?_
                      obtain ⟨e6, hAT⟩ := AT.two (unhide hA5) (unhide hC6)
                      obtain ⟨g0, g1, g2, g3, g4, g5, g6, g7, g8⟩ := z9_cells e6
                      obtain ⟨f0, f1, f2, f3, f4, f5, f6, f7, f8⟩ := z9_free e6
                      have HAT := hide hAT
                      clear hAT e6
                      refine AnyTill.op rfl rfl fun K hK => ?_
                      go_simp
                      refine hK _ _ (fun h => absurd rfl h) ?_
                      clear hK K
                      try simp only [Act.put, List.getElem_toArray, List.getElem_cons_succ, List.getElem_cons_zero, List.setIfInBounds_toArray, List.set_cons_zero, List.set_cons_succ]
                      refine AnyTill.done (by kernel_rfl) ?_
                      go_wp2_with fail
                      go_meet
                      case rel =>
                        exact ⟨_, _, rfl, rfl, HAT⟩
                  · refine AnyTill.op rfl rfl fun K hK => ?_
                    go_simp
                    refine hK _ _ (fun _ => unhide XD _) ?_
                    clear hK K
                    try simp only [Act.put, List.getElem_toArray, List.getElem_cons_succ, List.getElem_cons_zero, List.setIfInBounds_toArray, List.set_cons_zero, List.set_cons_succ]
                    refine AnyTill.one (i := 4) (by kernel_rfl) ?_
                    refine AnyTill.op rfl rfl fun K hK => ?_
                    go_simp
                    refine (unhide H15 _ (hide ((Below.refl _ _).alloc (Nat.le_refl _) _).drew)).mono ?_
                    rintro e w5 ⟨rfl, x5, hB5, hA5⟩
                    try go_wp2_with fail
                    refine hK _ _ (fun _ => x5) ?_
                    clear hK K
                    try simp only [Act.put, List.getElem_toArray, List.getElem_cons_succ, List.getElem_cons_zero, List.setIfInBounds_toArray, List.set_cons_zero, List.set_cons_succ]
                    refine AnyTill.one (i := 9) (by kernel_rfl) ?_
                    refine AnyTill.op rfl rfl fun K hK => ?_
                    go_simp
                    refine (unhide H16 _ (hB5)).mono ?_
                    rintro e w6 ⟨rfl, x6, hB6, hC6⟩
                    try go_wp2_with fail
                    refine hK _ _ (fun _ => x6) ?_
                    clear hK K
                    try simp only [Act.put, List.getElem_toArray, List.getElem_cons_succ, List.getElem_cons_zero, List.setIfInBounds_toArray, List.set_cons_zero, List.set_cons_succ]
                    refine AnyTill.one (i := 11) (by kernel_rfl) ?_
                    refine AnyTill.op rfl rfl fun K hK => ?_
                    go_simp
                    refine hK _ _ (fun _ => x6) ?_
                    clear hK K
                    try simp only [Act.put, List.getElem_toArray, List.getElem_cons_succ, List.getElem_cons_zero, List.setIfInBounds_toArray, List.set_cons_zero, List.set_cons_succ]
                    refine AnyTill.one (i := 12) (by kernel_rfl) ?_
                    obtain ⟨e6, hAT⟩ := AT.three (unhide hA5) (unhide hC6)
                    obtain ⟨g0, g1, g2, g3, g4, g5, g6, g7, g8⟩ := z9_cells e6
                    obtain ⟨f0, f1, f2, f3, f4, f5, f6, f7, f8⟩ := z9_free e6
                    have HAT := hide hAT
                    clear hAT e6
                    refine AnyTill.op rfl rfl fun K hK => ?_
                    go_simp
                    refine hK _ _ (fun h => absurd rfl h) ?_
                    clear hK K
                    try simp only [Act.put, List.getElem_toArray, List.getElem_cons_succ, List.getElem_cons_zero, List.setIfInBounds_toArray, List.set_cons_zero, List.set_cons_succ]
                    refine AnyTill.done (by kernel_rfl) ?_
                    go_wp2_with fail
                    go_meet
                    case rel =>
                      exact ⟨_, _, rfl, rfl, HAT⟩
                case rest =>
                  obtain ⟨gb, gu, e1, e2, HT⟩ := hcut
                  subst e1 e2
                  obtain ⟨w9, hw9⟩ : ∃ w9, w9 = wc := ⟨_, rfl⟩
                  subst hw9
                  have T := unhide HT
                  have inv9 := (unhide HQ8).add T.be
                  have HK9 : Hid ((k7.add w8 w9).K ga ∧ (k7.add w8 w9).K gu ∧ (k7.add w8 w9).K bm ∧ (k7.add w8 w9).w = w2) := hide ⟨.inl (unhide HK7).1, .inr T.t1, .inl (unhide HK7).2.2.1, (unhide HK7).2.2.2⟩
                  generalize k7.add w8 w9 = k9 at *
                  have b1 : w9.cell? ⟨bm, 1, none⟩ = some (.int .i64 A) := (T.be.cell (p := ⟨bm, 1, none⟩) (block_lt_of_cell b1)).trans b1
                  have x0 := inv9.c0
                  have hgal : 0 < M4.used → ga < w8.heap.size := fun h => block_lt_of_cell (unhide HA8 0 h)
                  have HA9 : Hid (∀ j, j < M4.used → w9.cell? ⟨ga, j, none⟩ = some (.int .u64 ((imgM M4).getD j 0 : Nat))) := hide (fun j hj => (T.be.cell (p := ⟨ga, j, none⟩) (hgal (by omega))).trans (unhide HA8 j hj))
                  have HB9 : Hid (∀ j, j < M4.used → w9.cell? ⟨gb, j, none⟩ = some (.int .u64 ((imgM M4).getD j 0 : Nat))) := hide (fun j hj => by
                    have := T.img j (by rw [unhide HU8]; exact hj)
                    rw [this, unhide HE8]
                    rfl)
                  have hgtl : gt < w8.heap.size := (Array.getElem?_eq_some_iff.1 (unhide HS8)).1
                  obtain ⟨t0, t1, t2, t3, t4, t5, t6, t7, t8⟩ := sO_cells ((T.be.block gt hgtl).trans (unhide HS8))
                  have HS9 : Hid (w9.heap[gu]? = some (sO M8)) := hide T.st
                  have hs9 := T.st
                  rw [unhide HE8] at hs9
                  obtain ⟨u0, u1, u2', u3, u4, u5, u6, u7', u8'⟩ := sO_cells hs9
                  dsimp only at u1 u3 u4 u6
                  rw [(cnt_coll M4 _).1] at u4
                  clear u0 u2' u5 u7' u8' t0 t2 t5 t7 t8 hs9 hgtl hgal
                  have hu4 : M4.used ≤ 100000000 := by have h1 := (unhide HW4).1.ok.u2; have h2 := (unhide HW4).1.ok.h2; omega
                  have hcol : M4.coll ≤ 100000 := by have := (unhide HW4).2.2.2; omega
                  have wco : IntKind.i64.wrap ((M4.coll : Int) + 1) = (M4.coll : Int) + 1 := wrap_small _ (by omega) (by omega)
                  have H17 := hide (eqw_yes (c1 := M4.used) (c2 := M4.used) (fun j => (imgM M4).getD j 0) hu4 (unhide HA9) (unhide HB9))
                  have HQ9 := hide inv9
                  clear T HT inv9 HQ8 H15 H16 XC XD HA8 HS8 HB9 hu4
                  go_wp2_with fail
                  refine (unhide H17).mono ?_
                  rintro e w10 ⟨rfl, hk10⟩
                  have b1 := (hk10.cell _).trans b1
                  have x0 := (hk10.cell _).trans x0
                  have t1 := (hk10.cell _).trans t1
                  have t3 := (hk10.cell _).trans t3
                  have t4 := (hk10.cell _).trans t4
                  have t6 := (hk10.cell _).trans t6
                  have u1 := (hk10.cell _).trans u1
                  have u3 := (hk10.cell _).trans u3
                  have u4 := (hk10.cell _).trans u4
                  have u6 := (hk10.cell _).trans u6
                  have H18 : Hid (∀ W, Hid (Below w10.heap.size w10 W) → Calls Tryz.prog 18 #[.pointer (some ⟨ph, 0, none⟩), .int .i64 A] W fun e w' => ∃ c : Nat, e = .returned (.int .i64 (c : Nat)) ∧ w'.cell? ⟨ps, 0, none⟩ = some (.pointer (some ⟨ph, 0, none⟩)) ∧ w'.cell? ⟨bm, 1, none⟩ = some (.int .i64 A) ∧ Hid (∃ M12, Inv ps ph L (4 * i + 4) k9 M12 w' ∧ SameK k9 w10 w' ∧ ResR M8 A M12 c)) := hide (fun W kk => by
                    have iv := ((unhide HQ9).still hk10.below).still (unhide kk)
                    refine (iv.resize (by omega) A).mono ?_
                    rintro e w' ⟨c, rfl, M12, iv', hs', r⟩
                    have hs2 : SameK k9 w10 w' := fun g hg => (hs' g hg).trans ((unhide kk).block g (by
                      obtain ⟨tag, st, H, ns, C, last, b, bd⟩ := (unhide HQ9).still hk10.below
                      rcases hg with hg | hg
                      · exact Nat.lt_of_lt_of_le hg b.o1.be.size
                      · exact (b.o1.kp g hg).1))
                    exact ⟨c, rfl, iv'.c0, by rw [← b1]; simp only [World.cell?, hs2 bm (.inr (unhide HK9).2.2.1)], hide ⟨M12, iv', hs2, r⟩⟩)
                  have HK10 := hide hk10
                  clear hk10 H17
                  go_wp2_with fail
                  go_region_held3 (fun w' => w'.cell? ⟨ps, 0, none⟩ = some (.pointer (some ⟨ph, 0, none⟩)) ∧ w'.cell? ⟨bm, 1, none⟩ = some (.int .i64 A)) (go_keep) (first | (go_at_call 18; refine (unhide H18 _ (hide (Below.refl _ _).drew)).mono ?_; rintro e w12 ⟨c, rfl, x12, b12, hR⟩))
                  have x0 := x12
                  have b1 := b12
                  obtain ⟨M12, inv12, hs12, r12⟩ := unhide hR
                  have HP : Hid (imgM M12 = imgM M4 ∧ M12.used = M4.used ∧ ∀ w, Calls Tryz.prog 19 #[.int .i64 A, .int .i64 (c : Nat), statV M8, statV M12] w fun e w' => e = .returned (.bool true) ∧ Below w.heap.size w w') := hide (by
                    have h4 := unhide HM4
                    have h8 := unhide HM8
                    have wf4 := (unhide HW4).1
                    have hz4 := (unhide HW4).2.2.1
                    have q := settle_pure (N4 := N4) (N8 := N8) (M12 := M12) (A := A) (c := c) (unhide HW3) (by rw [← h4]; exact wf4) (by rw [← h4]; omega) (unhide HC4) (by rw [← h4]; exact unhide HC8) (by rw [← h8]; exact r12)
                    rw [← h4, ← h8] at q
                    exact q.2)
                  have HU12 : Hid (M12.used = M4.used) := hide (unhide HP).2.1
                  have HA12 : Hid (∀ j, j < M4.used → w12.cell? ⟨ga, j, none⟩ = some (.int .u64 ((imgM M4).getD j 0 : Nat))) := hide (fun j hj => by
                    rw [← unhide HA9 j hj, ← (unhide HK10).cell]; simp only [World.cell?, hs12 ga (.inr (unhide HK9).1)])
                  have HS12 : Hid (w12.heap[gu]? = some (sO M8)) := hide ((hs12 gu (.inr (unhide HK9).2.1)).trans (by rw [(unhide HK10).heap]; exact unhide HS9))
                  have HQ12 := hide inv12
                  clear inv12 hs12 r12 hR x12 b12 H18 HK10 HA9 HS9 t1 t3 t4 t6 u1 u3 u4 u6 HQ9 wco hcol
                  have H15 : Hid (∀ W, Hid (Below w12.heap.size w12 W) → Calls Tryz.prog 15 #[.pointer (some ⟨ph, 0, none⟩)] W fun e w' => e = .returned (.slice (some ⟨W.heap.size, 0, none⟩) M4.used M4.used) ∧ w'.cell? ⟨ps, 0, none⟩ = some (.pointer (some ⟨ph, 0, none⟩)) ∧ Hid (Below w12.heap.size w12 w') ∧ Hid (A15 M12 W w')) := hide (fun W k => by
                    have k := unhide k
                    have iv := (unhide HQ12).still k
                    exact iv.image.mono fun e w' ⟨q1, q2, q3, q4⟩ => ⟨by rw [q1, unhide HU12], (iv.still q4).c0, hide (k.trans (q4.mono k.size)), hide ⟨q4, q2, q3⟩⟩)
                  have H16 : Hid (∀ W, Hid (Below w12.heap.size w12 W) → Calls Tryz.prog 16 #[.pointer (some ⟨ph, 0, none⟩)] W fun e w' => e = .returned (statV M12) ∧ w'.cell? ⟨ps, 0, none⟩ = some (.pointer (some ⟨ph, 0, none⟩)) ∧ Hid (Below w12.heap.size w12 w') ∧ Hid (Below W.heap.size W w')) := hide (fun W k => by
                    have k := unhide k
                    have iv := (unhide HQ12).still k
                    exact iv.stats.mono fun e w' ⟨q1, q4⟩ => ⟨q1, (iv.still q4).c0, hide (k.trans (q4.mono k.size)), hide q4⟩)
                  unfold statV stV at H16
                  have XC : Hid (∀ (W : World) Z, W.cell? ⟨ps, 0, none⟩ = some (.pointer (some ⟨ph, 0, none⟩)) → (W.alloc Z).cell? ⟨ps, 0, none⟩ = some (.pointer (some ⟨ph, 0, none⟩))) := hide (fun W Z h => by rw [← h]; simp only [World.cell?, heap_alloc_old W Z (block_lt_of_cell h)])
                  have XD : Hid (∀ Z, ((w12.alloc Z).drew).cell? ⟨ps, 0, none⟩ = some (.pointer (some ⟨ph, 0, none⟩))) := hide (fun Z => unhide XC w12 Z x0)
                  go_wp2_with fail
                  go_cut [12, 13] (fun av tv wx => ∃ ga gt : Nat, av = .slice (some ⟨ga, 0, none⟩) M4.used M4.used ∧ tv = .pointer (some ⟨gt, 0, none⟩) ∧ Hid (AT M12 ga gt w12 wx))
                  case first =>
                    have xd : w12.drew.cell? ⟨ps, 0, none⟩ = some (.pointer (some ⟨ph, 0, none⟩)) := x0
                    refine till_begin (fun w' => w'.cell? ⟨ps, 0, none⟩ = some (.pointer (some ⟨ph, 0, none⟩))) 12 (by kernel_rfl) ?_
                    refine AnyTill.take 0 (v := ?_) rfl (by kernel_rfl) (by kernel_rfl) (by kernel_rfl) (by kernel_rfl) (fun _ _ _ h => h) ?_ rfl xd ?_
                    rotate_left
                    · intro w hSw
                      try dsimp only at hSw
                      go_simp
                      all_goals with_reducible rfl
                    try simp only [Act.put, List.getElem_toArray, List.getElem_cons_succ, List.getElem_cons_zero, List.setIfInBounds_toArray, List.set_cons_zero, List.set_cons_succ]
                    refine AnyTill.take 1 (v := ?_) rfl (by kernel_rfl) (by kernel_rfl) (by kernel_rfl) (by kernel_rfl) (fun _ _ _ h => h) ?_ rfl xd ?_
                    rotate_left
                    · intro w hSw
                      try dsimp only at hSw
                      go_simp
                      all_goals with_reducible rfl
                    try simp only [Act.put, List.getElem_toArray, List.getElem_cons_succ, List.getElem_cons_zero, List.setIfInBounds_toArray, List.set_cons_zero, List.set_cons_succ]
                    refine AnyTill.take 2 (v := ?_) rfl (by kernel_rfl) (by kernel_rfl) (by kernel_rfl) (by kernel_rfl) (fun _ _ _ h => h) ?_ rfl xd ?_
                    rotate_left
                    · intro w hSw
                      try dsimp only at hSw
                      go_simp
                      all_goals with_reducible rfl
                    try simp only [Act.put, List.getElem_toArray, List.getElem_cons_succ, List.getElem_cons_zero, List.setIfInBounds_toArray, List.set_cons_zero, List.set_cons_succ]
                    refine AnyTill.take 3 (v := ?_) rfl (by kernel_rfl) (by kernel_rfl) (by kernel_rfl) (by kernel_rfl) (fun _ _ _ h => h) ?_ rfl xd ?_
                    rotate_left
                    · intro w hSw
                      try dsimp only at hSw
                      go_simp
                      all_goals with_reducible rfl
                    try simp only [Act.put, List.getElem_toArray, List.getElem_cons_succ, List.getElem_cons_zero, List.setIfInBounds_toArray, List.set_cons_zero, List.set_cons_succ]
                    refine AnyTill.take 5 (v := ?_) rfl (by kernel_rfl) (by kernel_rfl) (by kernel_rfl) (by kernel_rfl) (fun _ _ _ h => h) ?_ rfl xd ?_
                    rotate_left
                    · intro w hSw
                      try dsimp only at hSw
                      go_simp
                      all_goals with_reducible rfl
                    try simp only [Act.put, List.getElem_toArray, List.getElem_cons_succ, List.getElem_cons_zero, List.setIfInBounds_toArray, List.set_cons_zero, List.set_cons_succ]
                    refine AnyTill.take 6 (v := ?_) rfl (by kernel_rfl) (by kernel_rfl) (by kernel_rfl) (by kernel_rfl) (fun _ _ _ h => h) ?_ rfl xd ?_
                    rotate_left
                    · intro w hSw
                      try dsimp only at hSw
                      go_simp
                      all_goals with_reducible rfl
                    try simp only [Act.put, List.getElem_toArray, List.getElem_cons_succ, List.getElem_cons_zero, List.setIfInBounds_toArray, List.set_cons_zero, List.set_cons_succ]
                    refine AnyTill.take 7 (v := ?_) rfl (by kernel_rfl) (by kernel_rfl) (by kernel_rfl) (by kernel_rfl) (fun _ _ _ h => h) ?_ rfl xd ?_
                    rotate_left
                    · intro w hSw
                      try dsimp only at hSw
                      go_simp
                      all_goals with_reducible rfl
                    try simp only [Act.put, List.getElem_toArray, List.getElem_cons_succ, List.getElem_cons_zero, List.setIfInBounds_toArray, List.set_cons_zero, List.set_cons_succ]
                    refine AnyTill.take 8 (v := ?_) rfl (by kernel_rfl) (by kernel_rfl) (by kernel_rfl) (by kernel_rfl) (fun _ _ _ h => h) ?_ rfl xd ?_
                    rotate_left
                    · intro w hSw
                      try dsimp only at hSw
                      go_simp
                      all_goals with_reducible rfl
                    try simp only [Act.put, List.getElem_toArray, List.getElem_cons_succ, List.getElem_cons_zero, List.setIfInBounds_toArray, List.set_cons_zero, List.set_cons_succ]
                    refine AnyTill.two (i := 4) (j := 10) (by kernel_rfl) ?_ ?_
                    · refine AnyTill.op rfl rfl fun K hK => ?_
                      go_simp
                      refine (unhide H15 _ (hide (Below.refl _ _).drew)).mono ?_
                      rintro e w5 ⟨rfl, x5, hB5, hA5⟩
                      try go_wp2_with fail
                      refine hK _ _ (fun _ => x5) ?_
                      clear hK K
                      try simp only [Act.put, List.getElem_toArray, List.getElem_cons_succ, List.getElem_cons_zero, List.setIfInBounds_toArray, List.set_cons_zero, List.set_cons_succ]
                      refine AnyTill.two (i := 9) (j := 10) (by kernel_rfl) ?_ ?_
                      · refine AnyTill.op rfl rfl fun K hK => ?_
                        go_simp
                        refine (unhide H16 _ (hB5)).mono ?_
                        rintro e w6 ⟨rfl, x6, hB6, hC6⟩
                        try go_wp2_with fail
                        refine hK _ _ (fun _ => x6) ?_
                        clear hK K
                        try simp only [Act.put, List.getElem_toArray, List.getElem_cons_succ, List.getElem_cons_zero, List.setIfInBounds_toArray, List.set_cons_zero, List.set_cons_succ]
                        refine AnyTill.one (i := 10) (by kernel_rfl) ?_
                        refine AnyTill.op rfl rfl fun K hK => ?_
                        go_simp
                        refine hK _ _ (fun _ => unhide XC _ _ x6) ?_
                        clear hK K
                        try simp only [Act.put, List.getElem_toArray, List.getElem_cons_succ, List.getElem_cons_zero, List.setIfInBounds_toArray, List.set_cons_zero, List.set_cons_succ]
                        refine AnyTill.one (i := 11) (by kernel_rfl) ?_
                        refine AnyTill.op rfl rfl fun K hK => ?_
                        go_simp
                        refine hK _ _ (fun _ => unhide XC _ _ x6) ?_
                        clear hK K
                        try simp only [Act.put, List.getElem_toArray, List.getElem_cons_succ, List.getElem_cons_zero, List.setIfInBounds_toArray, List.set_cons_zero, List.set_cons_succ]
                        refine AnyTill.one (i := 12) (by kernel_rfl) ?_
                        refine AnyTill.op rfl rfl fun K hK => ?_
                        go_simp
                        refine hK _ _ (fun h => absurd rfl h) ?_
                        clear hK K
                        try simp only [Act.put, List.getElem_toArray, List.getElem_cons_succ, List.getElem_cons_zero, List.setIfInBounds_toArray, List.set_cons_zero, List.set_cons_succ]
                        refine AnyTill.done (by kernel_rfl) ?_
                        go_wp2_with fail
                        go_meet
                        case rel =>
                          exact ⟨_, _, rfl, rfl, hide (AT.one (unhide hA5) (unhide hC6))⟩
                      · refine AnyTill.op rfl rfl fun K hK => ?_
                        go_simp
                        refine hK _ _ (fun _ => unhide XC _ _ x5) ?_
                        clear hK K
                        try simp only [Act.put, List.getElem_toArray, List.getElem_cons_succ, List.getElem_cons_zero, List.setIfInBounds_toArray, List.set_cons_zero, List.set_cons_succ]
                        refine AnyTill.one (i := 9) (by kernel_rfl) ?_
                        refine AnyTill.op rfl rfl fun K hK => ?_
                        go_simp
                        refine (unhide H16 _ (hide ((unhide hB5).alloc (unhide hB5).size _))).mono ?_
                        rintro e w6 ⟨rfl, x6, hB6, hC6⟩
                        try go_wp2_with fail
                        refine hK _ _ (fun _ => x6) ?_
                        clear hK K
                        try simp only [Act.put, List.getElem_toArray, List.getElem_cons_succ, List.getElem_cons_zero, List.setIfInBounds_toArray, List.set_cons_zero, List.set_cons_succ]
                        refine AnyTill.one (i := 11) (by kernel_rfl) ?_
                        refine AnyTill.op rfl rfl fun K hK => ?_
                        go_simp
                        refine hK _ _ (fun _ => x6) ?_
                        clear hK K
                        try simp only [Act.put, List.getElem_toArray, List.getElem_cons_succ, List.getElem_cons_zero, List.setIfInBounds_toArray, List.set_cons_zero, List.set_cons_succ]
                        refine AnyTill.one (i := 12) (by kernel_rfl) ?_
                        obtain ⟨e6, hAT⟩ := AT.two (unhide hA5) (unhide hC6)
                        obtain ⟨g0, g1, g2, g3, g4, g5, g6, g7, g8⟩ := z9_cells e6
                        obtain ⟨f0, f1, f2, f3, f4, f5, f6, f7, f8⟩ := z9_free e6
                        have HAT := hide hAT
                        clear hAT e6
                        refine AnyTill.op rfl rfl fun K hK => ?_
                        go_simp
                        refine hK _ _ (fun h => absurd rfl h) ?_
                        clear hK K
                        try simp only [Act.put, List.getElem_toArray, List.getElem_cons_succ, List.getElem_cons_zero, List.setIfInBounds_toArray, List.set_cons_zero, List.set_cons_succ]
                        refine AnyTill.done (by kernel_rfl) ?_
                        go_wp2_with fail
                        go_meet
                        case rel =>
                          exact ⟨_, _, rfl, rfl, HAT⟩
                    · refine AnyTill.op rfl rfl fun K hK => ?_
                      go_simp
                      refine hK _ _ (fun _ => unhide XD _) ?_
                      clear hK K
                      try simp only [Act.put, List.getElem_toArray, List.getElem_cons_succ, List.getElem_cons_zero, List.setIfInBounds_toArray, List.set_cons_zero, List.set_cons_succ]
                      refine AnyTill.one (i := 4) (by kernel_rfl) ?_
                      refine AnyTill.op rfl rfl fun K hK => ?_
                      go_simp
                      refine (unhide H15 _ (hide ((Below.refl _ _).alloc (Nat.le_refl _) _).drew)).mono ?_
                      rintro e w5 ⟨rfl, x5, hB5, hA5⟩
                      try go_wp2_with fail
                      refine hK _ _ (fun _ => x5) ?_
                      clear hK K
                      try simp only [Act.put, List.getElem_toArray, List.getElem_cons_succ, List.getElem_cons_zero, List.setIfInBounds_toArray, List.set_cons_zero, List.set_cons_succ]
                      refine AnyTill.one (i := 9) (by kernel_rfl) ?_
                      refine AnyTill.op rfl rfl fun K hK => ?_
                      go_simp
                      refine (unhide H16 _ (hB5)).mono ?_
                      rintro e w6 ⟨rfl, x6, hB6, hC6⟩
                      try go_wp2_with fail
                      refine hK _ _ (fun _ => x6) ?_
                      clear hK K
                      try simp only [Act.put, List.getElem_toArray, List.getElem_cons_succ, List.getElem_cons_zero, List.setIfInBounds_toArray, List.set_cons_zero, List.set_cons_succ]
                      refine AnyTill.one (i := 11) (by kernel_rfl) ?_
                      refine AnyTill.op rfl rfl fun K hK => ?_
                      go_simp
                      refine hK _ _ (fun _ => x6) ?_
                      clear hK K
                      try simp only [Act.put, List.getElem_toArray, List.getElem_cons_succ, List.getElem_cons_zero, List.setIfInBounds_toArray, List.set_cons_zero, List.set_cons_succ]
                      refine AnyTill.one (i := 12) (by kernel_rfl) ?_
                      obtain ⟨e6, hAT⟩ := AT.three (unhide hA5) (unhide hC6)
                      obtain ⟨g0, g1, g2, g3, g4, g5, g6, g7, g8⟩ := z9_cells e6
                      obtain ⟨f0, f1, f2, f3, f4, f5, f6, f7, f8⟩ := z9_free e6
                      have HAT := hide hAT
                      clear hAT e6
                      refine AnyTill.op rfl rfl fun K hK => ?_
                      go_simp
                      refine hK _ _ (fun h => absurd rfl h) ?_
                      clear hK K
                      try simp only [Act.put, List.getElem_toArray, List.getElem_cons_succ, List.getElem_cons_zero, List.setIfInBounds_toArray, List.set_cons_zero, List.set_cons_succ]
                      refine AnyTill.done (by kernel_rfl) ?_
                      go_wp2_with fail
                      go_meet
                      case rel =>
                        exact ⟨_, _, rfl, rfl, HAT⟩
                  case rest =>
                    obtain ⟨gc, gv, e1, e2, HT⟩ := hcut
                    subst e1 e2
                    obtain ⟨w13, hw13⟩ : ∃ w13, w13 = wc := ⟨_, rfl⟩
                    subst hw13
                    have T := unhide HT
                    have inv13 := (unhide HQ12).still T.be
                    have b1 : w13.cell? ⟨bm, 1, none⟩ = some (.int .i64 A) := (T.be.cell (p := ⟨bm, 1, none⟩) (block_lt_of_cell b1)).trans b1
                    have hgal : 0 < M4.used → ga < w12.heap.size := fun h => block_lt_of_cell (unhide HA12 0 h)
                    have hA13 : ∀ j, j < M4.used → w13.cell? ⟨ga, j, none⟩ = some (.int .u64 ((imgM M4).getD j 0 : Nat)) := fun j hj => (T.be.cell (p := ⟨ga, j, none⟩) (hgal (by omega))).trans (unhide HA12 j hj)
                    have hC13 : ∀ j, j < M4.used → w13.cell? ⟨gc, j, none⟩ = some (.int .u64 ((imgM M4).getD j 0 : Nat)) := fun j hj => by
                      have := T.img j (by rw [unhide HU12]; exact hj)
                      rw [this, (unhide HP).1]
                    have hgul : gu < w12.heap.size := (Array.getElem?_eq_some_iff.1 (unhide HS12)).1
                    obtain ⟨p0, p1, p2, p3, p4, p5, p6, p7, p8⟩ := sO_cells ((T.be.block gu hgul).trans (unhide HS12))
                    obtain ⟨v0, v1, v2, v3, v4, v5, v6, v7, v8⟩ := sO_cells T.st
                    have hu4 : M4.used ≤ 100000000 := by have h1 := (unhide HW4).1.ok.u2; have h2 := (unhide HW4).1.ok.h2; omega
                    have H17 := hide (eqw_yes (c1 := M4.used) (c2 := M4.used) (fun j => (imgM M4).getD j 0) hu4 hA13 hC13)
                    have H19 := hide (unhide HP).2.2
                    unfold statV stV at H19
                    have HEND : Hid (∀ W, Below w13.heap.size w13 W → ∃ M, Inv ps ph L (4 * (i + 1)) ⟨w2, w2, fun _ => False⟩ M W) := hide (fun W kk => ⟨M12, by
                      have := (inv13.still kk).drop.mono (show 4 * i + 4 ≤ 4 * (i + 1) by omega)
                      rw [(unhide HK9).2.2.2] at this
                      exact this⟩)
                    clear T HT inv13 HQ12 H15 H16 XC XD HA12 HS12 hA13 hC13 hgal hgul hu4 HP
                    go_wp2_with fail
                    refine (unhide H17).mono ?_
                    rintro e w14 ⟨rfl, hk14⟩
                    have b1 := (hk14.cell _).trans b1
                    have p0 := (hk14.cell _).trans p0
                    have p1 := (hk14.cell _).trans p1
                    have p2 := (hk14.cell _).trans p2
                    have p3 := (hk14.cell _).trans p3
                    have p4 := (hk14.cell _).trans p4
                    have p5 := (hk14.cell _).trans p5
                    have p6 := (hk14.cell _).trans p6
                    have p7 := (hk14.cell _).trans p7
                    have p8 := (hk14.cell _).trans p8
                    have v0 := (hk14.cell _).trans v0
                    have v1 := (hk14.cell _).trans v1
                    have v2 := (hk14.cell _).trans v2
                    have v3 := (hk14.cell _).trans v3
                    have v4 := (hk14.cell _).trans v4
                    have v5 := (hk14.cell _).trans v5
                    have v6 := (hk14.cell _).trans v6
                    have v7 := (hk14.cell _).trans v7
                    have v8 := (hk14.cell _).trans v8
                    have HK14 := hide hk14
                    clear hk14 H17
                    go_wp2_with fail
                    refine (unhide H19 _).mono ?_
                    rintro e w15 ⟨rfl, hb15⟩
                    have HEND2 : Hid (∃ M, Inv ps ph L (4 * (i + 1)) ⟨w2, w2, fun _ => False⟩ M w15) := hide (unhide HEND _ ((unhide HK14).below.trans (hb15.mono (unhide HK14).below.size)))
                    clear p0 p1 p2 p3 p4 p5 p6 p7 p8 v0 v1 v2 v3 v4 v5 v6 v7 v8 b1 hb15 H19
                    go_wp2_with fail
                    all_goals go_roundw
                    all_goals first | exact ⟨i + 1, by simp, by omega, HEND2⟩ | (simp [intOf]; omega)
            · have dK : decide (¬ (K = 8 ∨ K = 9)) = true := decide_eq_true hK
              rw [dK] at hc1
              subst hc1
              clear hK dK
              go_wp2_with fail
              all_goals go_roundw
              all_goals first | exact ⟨i + 1, by simp, by omega, HNX⟩ | (simp [intOf]; omega)
        · have hiN : i = n := by omega
          subst hiN
          have dl' : decide ((i : Int) < (i : Nat)) = false := decide_eq_false (by omega)
          have HBW := hide hbw
          clear hinv hbw
          go_wp2
          go_ret
          exact ⟨rfl, unhide HBW⟩
end Go.Proofs.YtidfllgaeiopjaaGreat
