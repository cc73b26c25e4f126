/- HeapCompact: the law. -/
import Derived.Test.YtidfllgaeiopjaaGreatLkI
import Derived.Test.YtidfllgaeiopjaaGreatHSet
import Derived.Test.YtidfllgaeiopjaaGreatCpP
import Derived.Test.YtidfllgaeiopjaaGreatUntil
import Derived.Deep.DeepCutAuto
import Derived.Deep.RegionHeld3
namespace Go.Proofs.YtidfllgaeiopjaaGreat
open Go.ChangeShapes Go.WideShapes Go.ChangeAt Go.RowKit
set_option linter.unusedVariables false
set_option maxRecDepth 100000
set_option maxHeartbeats 1000000

theorem Inv.nodeG {ps ph lim n : Nat} {k : Kp} {M : Hp} {w : World} (h : Inv ps ph lim n k M w) : ∃ gN cN, w.cell? ⟨ps, 1, none⟩ = some (.slice (some ⟨gN, 0, none⟩) M.objs.length cN) := by
  obtain ⟨tag, st, H, ns, C, last, b, bd⟩ := h
  have h1 := bd.o1
  obtain ⟨g, cap, ev, _, _⟩ := b.sh.nd.at (by rw [b.gr.ln]; omega)
  exact ⟨g, cap, by rw [b.sh.c1, ev, b.gr.ln]⟩
theorem packed_any {ps ph lim n : Nat} {kk : Kp} {M : Hp} {w : World} (iv : Inv ps ph lim n kk M w) (hn : n ≤ 10000) (fr : Fresh0 M) :
    Calls Tryz.prog 22 #[.pointer (some ⟨ps, 0, none⟩)] w fun e w' => e = .returned (.bool true) ∧ Below w.heap.size w w' := by
  have wf := iv.wf.1
  have ok := wf.ok
  have hob := iv.nobj
  have hsml := small_len wf
  obtain ⟨t, a1, a2, fi, _⟩ := walk_done ok M.roots.length (fun x hx => by rw [List.getD_eq_getElem?_getD, List.getElem?_eq_none hx]; rfl)
  obtain ⟨e1, e2, e3, e4⟩ := fr.seen wf a1 a2
  obtain ⟨gN, cN, x1⟩ := iv.nodeG
  have hmem : ∀ j, j < M.small.length → M.small.getD j 0 ∈ M.small := fun j hj => getD_mem0 hj
  have hu := ok.u2; have hh := ok.h2
  have hplace : ∀ j, j ≤ M.small.length → place (shapes M M.small) j ≤ 10000000 := fun j hj => by
    have h1 : place (shapes M M.small) j ≤ place (shapes M M.small) M.small.length := by
      rw [place_sum _ _ (by rw [shapes_length]; exact hj), place_sum _ _ (by rw [shapes_length]; exact Nat.le_refl _)]
      have : (((shapes M M.small).take j).map wd).sum ≤ (((shapes M M.small).take M.small.length).map wd).sum := by
        have e : (shapes M M.small).take M.small.length = (shapes M M.small).take j ++ ((shapes M M.small).take M.small.length).drop j := by
          conv => lhs; rw [← List.take_append_drop j ((shapes M M.small).take M.small.length), List.take_take, Nat.min_eq_left hj]
        rw [e, List.map_append, List.sum_append]
        omega
      omega
    rw [← ok.us] at h1
    omega
  refine (packed_walk (gN := gN) (N := M.objs.length) (cN := cN) (n := M.small.length) (m := cntS M) (used := M.used) (large := M.large) (limit := M.limit) (half := M.half) (roots := cntR M) (coll := M.coll) (resz := M.resz) (moved := M.moved) (ph := ph)
    (pl := fun j => place (shapes M M.small) j) (id := fun j => M.small.getD j 0) (kd := fun j => (ob M (M.small.getD j 0)).kind) (rl := fun j => (ob M (M.small.getD j 0)).refs.length) (wl := fun j => (ob M (M.small.getD j 0)).raws.length) (P := fun px W => LkS w px M t.k W)
    rfl (fun j hj => small_step hj) ok.us.symm hplace (fun j hj => wf.ln _ (.inl (hmem j hj))) (fun j hj => by have := wf.ss _ (hmem j hj); unfold osz at this; omega) (by omega) (fun px W W' h k => h.below k) ?_ ?_ ?_ ?_ ?_ ?_).mono ?_
  · refine (seen_any iv hn).mono fun e w' ⟨px, u, q1, q2, q3, q4⟩ => ⟨px, q1, ?_⟩
    rw [star_end a1 a2 q3 q4]
    exact q2
  · rintro px W ⟨V, h1, h2, h3⟩
    obtain ⟨aS, cS, eS⟩ := h2.s.shape
    obtain ⟨aB, cB, eB⟩ := h2.b.shape
    refine ⟨(iv.still h1).c0, (h1.cell (p := ⟨ps, 1, none⟩) (block_lt_of_cell x1)).trans x1, ⟨aS, cS, by rw [h2.c0, eS, e1], fun j hj => ?_⟩, ⟨aB, cB, by rw [h2.c1, eB, e4]⟩, by rw [h2.c3, e2], by rw [h2.c4, e3]⟩
    have hj' : j < t.k.cop.length := by rw [e1]; exact hj
    obtain ⟨g, cap, ev, _, hc⟩ := h2.s.at (by omega)
    rw [eS] at ev
    cases ev
    refine ⟨g, rfl, (hc j hj').1.trans ?_⟩
    rw [e1, small_ref ok hj]
  · rintro px W j ⟨V, h1, h2, h3⟩ hj
    obtain ⟨g, c, ar, aw, cr, cw, nm⟩ := (iv.still h1).nodeM (.inl (hmem j hj))
    have y1 := (h1.cell (p := ⟨ps, 1, none⟩) (block_lt_of_cell x1)).trans x1
    have := nm.x1
    rw [y1] at this
    cases this
    exact ⟨ar, cr, aw, cw, nm.y0, nm.y1, nm.y2⟩
  · rintro px W j ⟨V, h1, h2, h3⟩ hj
    have hc : M.small.getD j 0 ∈ t.k.cop := by rw [e1]; exact hmem j hj
    have := node_any h2 ok h3.all (by omega) (.inl hc) (wf.ln _ (.inl (hmem j hj)))
    rw [small_ref ok hj] at this
    exact this
  · rintro px W ⟨V, h1, h2, h3⟩
    exact (iv.still h1).stats
  · rintro px W ⟨V, h1, h2, h3⟩
    exact (iv.still h1).image.mono fun e w' ⟨q1, q2, q3, q4⟩ => ⟨_, q1, q4⟩
  · rintro e w' ⟨q1, px, V, h1, _⟩
    exact ⟨q1, h1⟩
end Go.Proofs.YtidfllgaeiopjaaGreat
namespace Go.Proofs.YtidfllgaeiopjaaGreat
open Go.ChangeShapes Go.WideShapes Go.ChangeAt Go.RowKit
set_option linter.unusedVariables false
set_option linter.unusedSimpArgs false
set_option maxRecDepth 100000
set_option maxHeartbeats 1000000

def sO (M : Hp) : Obj := .cells #[.int .i64 (M.limit : Nat), .int .i64 (M.half : Nat), .int .i64 (M.used : Nat), .int .i64 (M.large : Nat), .int .i64 (cntS M : Nat), .int .i64 (cntR M : Nat), .int .i64 (M.coll : Nat), .int .i64 (M.resz : Nat), .int .i64 (M.moved : Nat)] 47
def s9 (w : World) (g : Nat) (M : Hp) : World := ((((((((w.setCell ⟨g, 0, none⟩ (.int .i64 (M.limit : Nat))).setCell ⟨g, 1, none⟩ (.int .i64 (M.half : Nat))).setCell ⟨g, 2, none⟩ (.int .i64 (M.used : Nat))).setCell ⟨g, 3, none⟩ (.int .i64 (M.large : Nat))).setCell ⟨g, 4, none⟩ (.int .i64 (cntS M : Nat))).setCell ⟨g, 5, none⟩ (.int .i64 (cntR M : Nat))).setCell ⟨g, 6, none⟩ (.int .i64 (M.coll : Nat))).setCell ⟨g, 7, none⟩ (.int .i64 (M.resz : Nat))).setCell ⟨g, 8, none⟩ (.int .i64 (M.moved : Nat))
/-- where Image's answer lies, and Stats' -/
structure AT (M : Hp) (ga gt : Nat) (w X : World) : Prop where
  be : Below w.heap.size w X
  a1 : w.heap.size ≤ ga ∧ ga < X.heap.size
  t1 : w.heap.size ≤ gt ∧ gt < X.heap.size
  img : ∀ j, j < M.used → X.cell? ⟨ga, j, none⟩ = some (.int .u64 ((imgM M).getD j 0 : Nat))
  st : X.heap[gt]? = some (sO M)
end Go.Proofs.YtidfllgaeiopjaaGreat
namespace Go.Proofs.YtidfllgaeiopjaaGreat
open Go.ChangeShapes Go.WideShapes Go.ChangeAt Go.RowKit
set_option linter.unusedVariables false
set_option linter.unusedSimpArgs false
set_option maxRecDepth 100000
set_option maxHeartbeats 2000000
end Go.Proofs.YtidfllgaeiopjaaGreat
namespace Go.Proofs.YtidfllgaeiopjaaGreat
open Go.ChangeShapes Go.WideShapes Go.ChangeAt Go.RowKit
set_option linter.unusedVariables false
set_option linter.unusedSimpArgs false
set_option maxRecDepth 100000
set_option maxHeartbeats 4000000

theorem Moves3.under {w w' : World} {a : Option Addr} {n : Nat} (h : Moves3 w a n) (k : Below w.heap.size w w') : Moves3 w' a n := by
  rcases h with h | ⟨b, off, e, hb, hq⟩
  · exact .inl h
  · refine .inr ⟨b, off, e, Nat.lt_of_lt_of_le hb k.size, fun i hi => ?_⟩
    obtain ⟨q, h1, h2⟩ := hq i hi
    exact ⟨q, h1.like (k.block b hb), ⟨h2.a1, h2.a2, h2.vl, h2.dl, h2.sm, h2.by'.below k, h2.nl⟩⟩
theorem Inv.bel {ps ph lim n : Nat} {k : Kp} {M : Hp} {w : World} (h : Inv ps ph lim n k M w) : Below k.w.heap.size k.w w := by
  obtain ⟨tag, st, H, ns, C, last, b, bd⟩ := h
  exact b.o1.be
end Go.Proofs.YtidfllgaeiopjaaGreat
namespace Go.Proofs.YtidfllgaeiopjaaGreat
open Go.ChangeShapes Go.WideShapes Go.ChangeAt Go.RowKit
set_option linter.unusedVariables false
set_option linter.unusedSimpArgs false
set_option maxRecDepth 100000
set_option maxHeartbeats 4000000

theorem step_fresh {K A B C : Int} {M M' : Hp} {last : Nat} (wf : HpWf M) (r : StepR K A B C M M' last) (h : K = 8 ∨ (K = 9 ∧ last = 0)) : Fresh0 M' := by
  rcases h with h | ⟨h, hl⟩
  · obtain ⟨M1, hc, rfl⟩ := r.2.1 h
    exact .fit wf hc 0
  · rcases r.2.2.1 h with ⟨_, _, e⟩ | ⟨_, M1, hc, ⟨_, e, _⟩ | ⟨_, _, rfl⟩⟩
    · omega
    · omega
    · exact .bec wf hc _
theorem compact_law (w : World) (lim : Int) (a : Option Addr) (n cap : Nat) (hS : Moves3 w a n) : Calls Tryz.prog 7 #[.agg #[.int .i64 lim, .slice a n cap]] w fun e w' => e = .returned (.bool true) ∧ Below w.heap.size w w' := by
  have hb0 : Below w.heap.size w (w.alloc (.cells #[.int .i64 lim, .slice a n cap] 24)) := (Below.refl _ _).alloc (Nat.le_refl _) _
  have hs0 : (w.alloc (.cells #[.int .i64 lim, .slice a n cap] 24)).heap.size = w.heap.size + 1 := by simp
  have z0 : (w.alloc (.cells #[.int .i64 lim, .slice a n cap] 24)).cell? ⟨w.heap.size, 0, none⟩ = some (.int .i64 lim) := World.cell?_alloc_at _ _ _ _ rfl
  have z1 : (w.alloc (.cells #[.int .i64 lim, .slice a n cap] 24)).cell? ⟨w.heap.size, 1, none⟩ = some (.slice a n cap) := World.cell?_alloc_at _ _ _ _ rfl
  have HP : Hid (∀ W, Below (w.heap.size + 1) (w.alloc (.cells #[.int .i64 lim, .slice a n cap] 24)) W → W.cell? ⟨w.heap.size, 0, none⟩ = some (.int .i64 lim) ∧ W.cell? ⟨w.heap.size, 1, none⟩ = some (.slice a n cap) ∧ Below w.heap.size w W ∧ w.heap.size < W.heap.size) := hide (fun W k => ⟨(k.cell (p := ⟨w.heap.size, 0, none⟩) (Nat.lt_succ_self _)).trans z0, (k.cell (p := ⟨w.heap.size, 1, none⟩) (Nat.lt_succ_self _)).trans z1, hb0.trans (k.mono (by omega)), by have := k.size; omega⟩)
  have H9 : Hid (∀ W, Below (w.heap.size + 1) (w.alloc (.cells #[.int .i64 lim, .slice a n cap] 24)) W → Calls Tryz.prog 9 #[] W fun e w' => e = .returned (.bool true) ∧ Below (w.heap.size + 1) (w.alloc (.cells #[.int .i64 lim, .slice a n cap] 24)) w') := hide (fun W k => (wakes_any W).mono fun e w' ⟨q1, q2⟩ => ⟨q1, k.trans (q2.mono (by have := k.size; omega))⟩)
  have H10 : Hid (∀ W, Below (w.heap.size + 1) (w.alloc (.cells #[.int .i64 lim, .slice a n cap] 24)) W → Calls Tryz.prog 10 #[.agg #[.int .i64 lim, .slice a n cap]] W fun e w' => ∃ v, e = .returned (.bool v) ∧ (v = true → n ≤ 200) ∧ Below (w.heap.size + 1) (w.alloc (.cells #[.int .i64 lim, .slice a n cap] 24)) w') := hide (fun W k => (small_any W lim a n cap (hS.under (hb0.trans (k.mono (by omega))))).mono fun e w' ⟨v, q1, q2, q3⟩ => ⟨v, q1, q2, k.trans (q3.mono (by have := k.size; omega))⟩)
  have hI0 : Below (w.heap.size + 1) (w.alloc (.cells #[.int .i64 lim, .slice a n cap] 24)) (w.alloc (.cells #[.int .i64 lim, .slice a n cap] 24)) := Below.refl _ _
  have HS := hide hS
  clear hb0 hs0 z0 z1 hS
  generalize hW : World.alloc w _ = W0 at *
  go_enter Tryz.func7, Tryz.ntmps7
  go_wp2_with fail
  (try rw [hW])
  clear hW
  refine (unhide H9 _ hI0).mono ?_
  clear hI0
  rintro e w1 ⟨rfl, hI1⟩
  obtain ⟨y0, y1, _, _⟩ := unhide HP _ hI1
  have HI1 := hide hI1
  clear hI1
  go_wp2_with fail
  refine (unhide H10 _ (unhide HI1)).mono ?_
  rintro e w2 ⟨v, rfl, hv, hI2⟩
  obtain ⟨y0, y1, hbw, _⟩ := unhide HP _ hI2
  have HI2 := hide hI2
  have HBW := hide hbw
  have HV := hide hv
  clear hI2 HI1 hbw hv H9 H10
  cases v
  · go_wp2_with fail
    go_ret
    exact ⟨rfl, unhide HBW⟩
  · have hn200 := unhide HV rfl
    by_cases hbad : lim < 128 ∨ 1048576 < lim
    · have H11 := hide (begins_bad (w := w2) hbad)
      clear hbad
      go_wp2_with fail
      refine (unhide H11).mono ?_
      rintro e w3 ⟨rfl, rfl⟩
      go_wp2_with fail
      go_ret
      exact ⟨rfl, unhide HBW⟩
    · obtain ⟨L, rfl⟩ : ∃ L : Nat, lim = (L : Nat) := ⟨lim.toNat, by omega⟩
      have H11 : Hid (Calls Tryz.prog 11 #[.int .i64 (L : Nat)] w2 fun e w' => ∃ ps ph, e = .returned (.tuple #[.pointer (some ⟨ps, 0, none⟩), .bool true]) ∧ Inv ps ph L 0 ⟨w2, w2, fun _ => False⟩ (newM L) w') := hide ((begins_any L (by omega) (by omega)).mono fun e w' ⟨ps, ph, tag, st, H, C, q1, q2⟩ => ⟨ps, ph, q1, tag, st, H, _, C, 0, q2, ⟨by show 1 ≤ 1; decide, by show 1 ≤ 1; decide, Nat.zero_le _, Nat.zero_le _, Nat.zero_le _, Nat.zero_le _, Nat.zero_le _⟩⟩)
      clear hbad
      go_wp2_with fail
      refine (unhide H11).mono ?_
      rintro e w3 ⟨ps, ph, rfl, hinv⟩
      have HV3 : Hid (∃ M, Inv ps ph L 0 ⟨w2, w2, fun _ => False⟩ M w3) := hide ⟨_, hinv⟩
      clear hinv
      have HC : Hid (∀ W, Below w2.heap.size w2 W → W.cell? ⟨w.heap.size, 1, none⟩ = some (.slice a n cap) ∧ Below w.heap.size w W) := hide (fun W k => by
        have k0 := unhide HI2
        have hz := (unhide HP _ k0).2.2.2
        have k1 : Below (w.heap.size + 1) W0 W := k0.trans (k.mono (by omega))
        exact ⟨(unhide HP _ k1).2.1, (unhide HP _ k1).2.2.1⟩)
      have HM : Hid (Moves3 w2 a n) := hide ((unhide HS).under (unhide HBW))
      clear H11 HI2 HBW HV HP HS y0 y1
      go_wp2_with fail
      go_loopw [5] (fun iv wr => ∃ i : Nat, iv = .int .i64 (i : Nat) ∧ i ≤ n ∧ Hid (∃ M, Inv ps ph L i ⟨w2, w2, fun _ => False⟩ M wr)) (fun iv _ => n - (intOf iv).toNat)
      case atStart => exact ⟨0, rfl, Nat.zero_le _, HV3⟩
      case round =>
        obtain ⟨i, rfl, hi, hI⟩ := hrel
        obtain ⟨M, hinv⟩ := unhide hI
        obtain ⟨y1, hbw⟩ := unhide HC _ hinv.bel
        have w1' : IntKind.i64.wrap ((i : Int) + 1) = (i : Int) + 1 := wrap_small _ (by omega) (by omega)
        by_cases hin : i < n
        · obtain ⟨bb, off, rfl, hbl, hq⟩ : ∃ b off, a = some ⟨b, off, none⟩ ∧ b < w2.heap.size ∧ ∀ i, i < n → ∃ q, MvAt w2 b (off + i * 8) q ∧ DataOk w2 q.A q.V q.a q.c q.l := by
            rcases unhide HM with h | h
            · omega
            · exact h
          obtain ⟨q, hm, hok⟩ := hq i hin
          have hmr := hm.like (hinv.bel.block bb hbl)
          obtain ⟨r0, r1, r2, r3, r4, r5, r6, r7⟩ := hmr
          have HF : Hid (∀ W, Hid (∃ M, Inv ps ph L (i + 1) ⟨w2, w2, fun _ => False⟩ M W) → W.cell? ⟨bb, off + i * 8, none⟩ = some (.int .i64 q.K)) := hide (fun W h => by
            obtain ⟨M', h⟩ := unhide h
            exact (hm.like (h.bel.block bb hbl)).m0)
          have HC' : Hid (∀ W, Hid (∃ M, Inv ps ph L (i + 1) ⟨w2, w2, fun _ => False⟩ M W) → W.cell? ⟨w.heap.size, 1, none⟩ = some (.slice (some ⟨bb, off, none⟩) n cap)) := hide (fun W h => by
            obtain ⟨M', h⟩ := unhide h
            exact (unhide HC _ h.bel).1)
          have H12 : Hid (Calls Tryz.prog 12 #[.pointer (some ⟨ps, 0, none⟩), mvV q.K q.A q.B q.C q.H q.G q.V (.slice q.a q.l.length q.c)] wr fun e w' => e = .returned (.bool true) ∧ ∃ last : Nat, w'.cell? ⟨ps, 4, none⟩ = some (.int .i64 (last : Nat)) ∧ Hid (∃ M, Inv ps ph L (i + 1) ⟨w2, w2, fun _ => False⟩ M w') ∧ Hid (q.K = 8 ∨ (q.K = 9 ∧ last = 0) → Calls Tryz.prog 22 #[.pointer (some ⟨ps, 0, none⟩)] w' fun e w'' => e = .returned (.bool true) ∧ Hid (∃ M, Inv ps ph L (i + 1) ⟨w2, w2, fun _ => False⟩ M w''))) := hide ((hinv.step2 (by omega) q hok).mono fun e w' ⟨z1, M', last, z2, z3, z4, z5, z6⟩ => ⟨z1, last, z5, hide ⟨M', z2⟩, hide (fun hK => (packed_any z2 (by omega) (step_fresh hinv.wf.1 z6 hK)).mono fun e w'' ⟨y1, y2⟩ => ⟨y1, hide ⟨M', z2.still y2⟩⟩)⟩)
          clear hm hok hq hinv
          obtain ⟨K, A, B, C, HH, GG, V, da, dl, dc⟩ := q
          dsimp only at r0 r1 r2 r3 r4 r5 r6 r7 H12 HF
          unfold mvV at H12
          obtain ⟨dn, hdn⟩ : ∃ dn, dl.length = dn := ⟨_, rfl⟩
          rw [hdn] at r7 H12
          clear hdn
          have dl' : decide ((i : Int) < (n : Nat)) = true := decide_eq_true (by omega)
          have i1 : (0 : Int) ≤ (i : Nat) := by omega
          have i2 : (i : Int) < (n : Nat) := by omega
          go_wp2_with fail
          refine (unhide H12).mono ?_
          rintro e w3 ⟨rfl, last, c4, HN, HPK⟩
          have f0 := unhide HF w3 HN
          have y1 := unhide HC' w3 HN
          clear H12 r0 r1 r2 r3 r4 r5 r6 r7 hbw hI HF HC'
          by_cases h8 : K = 8
          · subst h8
            have h22 := hide (unhide HPK (.inl rfl))
            clear HPK
            go_wp2_with fail
            refine (unhide h22).mono ?_
            rintro e w4 ⟨rfl, HN4⟩
            go_wp2_with fail
            all_goals go_roundw
            all_goals first | exact ⟨i + 1, by simp, by omega, HN4⟩ | (simp [intOf]; omega)
          · have n8 : (K == 8) = false := by simp [h8]
            by_cases h9 : K = 9
            · subst h9
              by_cases hl : last = 0
              · subst hl
                have h22 := hide (unhide HPK (.inr ⟨rfl, rfl⟩))
                clear HPK
                go_wp2_with fail
                refine (unhide h22).mono ?_
                rintro e w4 ⟨rfl, HN4⟩
                go_wp2_with fail
                all_goals go_roundw
                all_goals first | exact ⟨i + 1, by simp, by omega, HN4⟩ | (simp [intOf]; omega)
              · have nl : ((last : Int) == 0) = false := by simp; omega
                clear HPK
                go_wp2_with fail
                all_goals go_roundw
                all_goals first | exact ⟨i + 1, by simp, by omega, HN⟩ | (simp [intOf]; omega)
            · have n9 : (K == 9) = false := by simp [h9]
              clear HPK
              go_wp2_with fail
              all_goals go_roundw
              all_goals first | exact ⟨i + 1, by simp, by omega, HN⟩ | (simp [intOf]; omega)
        · have hiN : i = n := by omega
          subst hiN
          have dl' : decide ((i : Int) < (i : Nat)) = false := decide_eq_false (by omega)
          have x0 := hinv.c0
          have H14 : Hid (Calls Tryz.prog 14 #[.pointer (some ⟨ph, 0, none⟩)] wr fun e w' => e = .returned (.tuple #[]) ∧ Hid (Calls Tryz.prog 22 #[.pointer (some ⟨ps, 0, none⟩)] w' fun e w'' => e = .returned (.bool true) ∧ Below w.heap.size w w'')) := hide ((hinv.collect (by omega)).mono fun e w' ⟨z1, M1, z2, z3, z4⟩ => ⟨z1, hide ((packed_any z3 (by omega) (.fit hinv.wf.1 z2 0)).mono fun e w'' ⟨y1, y2⟩ => ⟨y1, (unhide HC _ (z3.still y2).bel).2⟩)⟩)
          clear hinv hbw hI HC
          go_wp2_with fail
          refine (unhide H14).mono ?_
          rintro e w5 ⟨rfl, h22⟩
          clear H14
          go_wp2_with fail
          refine (unhide h22).mono ?_
          rintro e w6 ⟨rfl, hb6⟩
          have HB6 := hide hb6
          clear hb6
          go_wp2_with fail
          all_goals go_ret
          all_goals exact ⟨by simp, by first | exact unhide HB6 | exact (unhide HB6).drew⟩
end Go.Proofs.YtidfllgaeiopjaaGreat
