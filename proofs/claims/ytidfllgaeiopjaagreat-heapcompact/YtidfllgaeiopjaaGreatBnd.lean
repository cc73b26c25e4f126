/- bounded: the image, object by object. -/
import Derived.Test.YtidfllgaeiopjaaGreatLkB
import Derived.Test.YtidfllgaeiopjaaGreatShE
import Derived.Deep.RegionHeld3
import Derived.Test.YtidfllgaeiopjaaGreatTwice
import Derived.Test.YtidfllgaeiopjaaGreatRootM
namespace Go.Proofs.YtidfllgaeiopjaaGreat
open Go.ChangeShapes Go.WideShapes Go.ChangeAt Go.RowKit
set_option linter.unusedVariables false
set_option linter.unusedSimpArgs false
set_option maxRecDepth 100000
set_option maxHeartbeats 1000000


theorem Still.setC {w wr : World} (h : Still w wr) (a : Addr) (v : Value) : Still (w.setCell a v) (wr.setCell a v) := by
  obtain ⟨h1, h2, h3, h4⟩ := h
  refine ⟨h1, h2, h3, ?_⟩
  unfold World.setCell
  rw [h4]
/-- reach, at a small one that is new -/
theorem reach_small {w : World} {px ps gN nN cN rf rr cr cw : Nat} {ar aw : Option Addr} {vS vB : Value} {nS nB gW N cW i R WD : Nat} (fS fB : Nat → Nat)
    (c0 : w.cell? ⟨px, 0, none⟩ = some vS) (c1 : w.cell? ⟨px, 1, none⟩ = some vB) (c2 : w.cell? ⟨px, 2, none⟩ = some (.slice (some ⟨gW, 0, none⟩) N cW)) (c3 : w.cell? ⟨px, 3, none⟩ = some (.int .i64 (WD : Nat)))
    (fz : ∀ o, o < 5 → w.frozen? ⟨px, o, none⟩ = false) (hS : Line w 30 vS nS (fun j => .int .u64 (fS j : Nat))) (hB : Line w 30 vB nB (fun j => .int .u64 (fB j : Nat)))
    (e0 : w.cell? ⟨gW, i, none⟩ = some (.int .u64 (0 : Nat))) (f0 : w.frozen? ⟨gW, i, none⟩ = false)
    (x1 : w.cell? ⟨ps, 1, none⟩ = some (.slice (some ⟨gN, 0, none⟩) nN cN)) (y1 : w.cell? ⟨gN, i * 3 + 1, none⟩ = some (.slice ar rf cr)) (y2 : w.cell? ⟨gN, i * 3 + 2, none⟩ = some (.slice aw rr cw))
    (hi0 : i ≠ 0) (hiN : i < N) (hin : i < nN) (hR : R ≠ 0) (nS' : ∀ j, j < nS → fS j ≠ R) (nB' : ∀ j, j < nB → fB j ≠ R) (hsm : 1 + rf + rr ≤ 64) (lS : nS ≤ 1000000) (lB : nB ≤ 1000000) (lN : N ≤ 1000000) (lW : WD ≤ 100000000)
    (a1 : gW ≠ px) (a2 : vS.ownBlock ≠ some px) (a3 : vS.ownBlock ≠ some gW) (a4 : ps ≠ px) (a5 : ps ≠ gW) (a6 : gN ≠ px) (a7 : gN ≠ gW) :
    Calls Tryz.prog 36 #[.pointer (some ⟨px, 0, none⟩), .pointer (some ⟨ps, 0, none⟩), .int .u64 (R : Nat), .int .i64 (i : Nat)] w fun e w' => e = .returned (.bool true) ∧ ∃ w1 w2 v', Still (w.setCell ⟨gW, i, none⟩ (.int .u64 (R : Nat))) w1 ∧ Line w2 30 v' (nS + 1) (fun j => if j < nS then .int .u64 (fS j : Nat) else .int .u64 (R : Nat)) ∧ Grew 30 nS (.int .u64 (R : Nat)) (w1.alloc (.cells #[.int .u64 (R : Nat)] 30)) w2 vS v' ∧ Still ((w2.setCell ⟨px, 0, none⟩ v').setCell ⟨px, 3, none⟩ (.int .i64 ((WD + (1 + rf + rr) : Nat) : Int))) w' := by
  obtain ⟨i0, hi, hy0, hy1, hy2⟩ := info_parts Tryz.info30
  obtain ⟨aS, cS, rfl⟩ := hS.shape
  obtain ⟨aB, cB, rfl⟩ := hB.shape
  have HS : Hid (∀ j, j < nS → ∃ g, aS = some ⟨g, 0, none⟩ ∧ w.cell? ⟨g, j, none⟩ = some (.int .u64 (fS j : Nat))) := hide (fun j hj => by
    obtain ⟨g, cap', e1, _, hc⟩ := hS.at (by omega)
    cases e1
    exact ⟨g, rfl, (hc j hj).1⟩)
  have HB : Hid (∀ j, j < nB → ∃ g, aB = some ⟨g, 0, none⟩ ∧ w.cell? ⟨g, j, none⟩ = some (.int .u64 (fB j : Nat))) := hide (fun j hj => by
    obtain ⟨g, cap', e1, _, hc⟩ := hB.at (by omega)
    cases e1
    exact ⟨g, rfl, (hc j hj).1⟩)
  have HX : Hid (∀ W, Hid (Still (w.setCell ⟨gW, i, none⟩ (.int .u64 (R : Nat))) W) → W.cell? ⟨ps, 1, none⟩ = some (.slice (some ⟨gN, 0, none⟩) nN cN) ∧ W.cell? ⟨gN, i * 3 + 1, none⟩ = some (.slice ar rf cr) ∧ W.cell? ⟨gN, i * 3 + 2, none⟩ = some (.slice aw rr cw)) := hide (fun W q => by
    have hh : ∀ b o, b ≠ gW → W.cell? ⟨b, o, none⟩ = w.cell? ⟨b, o, none⟩ := fun b o hb => ((unhide q).cell _).trans (World.cell?_setCell_other _ _ _ _ (by intro e; cases e; exact hb rfl))
    exact ⟨(hh _ _ a5).trans x1, (hh _ _ a7).trans y1, (hh _ _ a7).trans y2⟩)
  have HA : Hid (∀ W, Hid (Still (w.setCell ⟨gW, i, none⟩ (.int .u64 (R : Nat))) W) → W.cell? ⟨px, 0, none⟩ = some (.slice aS nS cS) ∧ Hid (Line (W.alloc (.cells #[.int .u64 (R : Nat)] 30)) 30 (.slice aS nS cS) nS (fun j => .int .u64 (fS j : Nat))) ∧ (W.alloc (.cells #[.int .u64 (R : Nat)] 30)).cell? ⟨px, 0, none⟩ = some (.slice aS nS cS) ∧ Hid ((W.alloc (.cells #[.int .u64 (R : Nat)] 30)).cell? ⟨W.heap.size, 0, none⟩ = some (.int .u64 (R : Nat))) ∧
      Hid (∀ v' w', Grew 30 nS (.int .u64 (R : Nat)) (W.alloc (.cells #[.int .u64 (R : Nat)] 30)) w' (.slice aS nS cS) v' → w'.cell? ⟨px, 0, none⟩ = some (.slice aS nS cS) ∧ w'.frozen? ⟨px, 0, none⟩ = false ∧ (w'.setCell ⟨px, 0, none⟩ v').cell? ⟨px, 0, none⟩ = some v' ∧ (w'.setCell ⟨px, 0, none⟩ v').cell? ⟨px, 3, none⟩ = some (.int .i64 (WD : Nat)) ∧ (w'.setCell ⟨px, 0, none⟩ v').frozen? ⟨px, 3, none⟩ = false)) := hide (fun W q => by
    have hq := unhide q
    have hpx : px < W.heap.size := by
      have h1 := block_lt_of_cell c0
      rw [hq.heap, World.size_setCell]; exact h1
    have hx : ∀ o, W.cell? ⟨px, o, none⟩ = w.cell? ⟨px, o, none⟩ := fun o => (hq.cell _).trans (World.cell?_setCell_other _ _ _ _ (by intro e; cases e; exact a1 rfl))
    have hf : ∀ o, W.frozen? ⟨px, o, none⟩ = w.frozen? ⟨px, o, none⟩ := fun o => by
      have : W.frozen? ⟨px, o, none⟩ = (w.setCell ⟨gW, i, none⟩ (.int .u64 (R : Nat))).frozen? ⟨px, o, none⟩ := by simp only [World.frozen?, hq.heap]
      rw [this, World.frozen?_setCell]
    have hbA : Below W.heap.size W (W.alloc (.cells #[.int .u64 (R : Nat)] 30)) := (Below.refl _ _).alloc (Nat.le_refl _) _
    have hL : Line W 30 (.slice aS nS cS) nS (fun j => .int .u64 (fS j : Nat)) := hS.same fun g hg => by
      rw [hq.heap, setCell_else _ _ _ _ _ (by rintro rfl; exact a3 hg)]
    refine ⟨(hx 0).trans c0, hide (hL.same fun g hg => hbA.block g (hL.lt g hg)), (hbA.cell (p := ⟨px, 0, none⟩) hpx).trans ((hx 0).trans c0), hide (cell_made rfl _ _), hide (fun v' w' h2 => ?_)⟩
    have hb : w'.heap[px]? = W.heap[px]? := (h2.other px (Nat.lt_of_lt_of_le hpx hbA.size) a2).trans (hbA.block px hpx)
    have hc : ∀ o, w'.cell? ⟨px, o, none⟩ = w.cell? ⟨px, o, none⟩ := fun o => by rw [← hx o]; simp only [World.cell?, hb]
    have hg : ∀ o, w'.frozen? ⟨px, o, none⟩ = w.frozen? ⟨px, o, none⟩ := fun o => by rw [← hf o]; simp only [World.frozen?, hb]
    refine ⟨(hc 0).trans c0, (hg 0).trans (fz 0 (by decide)), World.cell?_setCell_same' w' ⟨px, 0, none⟩ _ (by rw [hc 0, c0]; rfl), (World.cell?_setCell_other _ _ _ _ (by intro e; cases e)).trans ((hc 3).trans c3), ?_⟩
    rw [World.frozen?_setCell]; exact (hg 3).trans (fz 3 (by decide)))
  have i1 : (0 : Int) ≤ (i : Nat) := by omega
  have i2 : (i : Int) < (N : Nat) := by omega
  have i3 : (i : Int) < (nN : Nat) := by omega
  have d1 : ((i : Int) == 0) = false := by simp; omega
  have d2 : ((R : Int) == 0) = false := by simp; omega
  have NS := hide nS'
  have NB := hide nB'
  have HFz := hide fz
  have HLS := hide hS
  clear nS' nB' fz hS hB
  go_enter Tryz.func36, Tryz.ntmps36
  go_wp2_with fail
  go_loopw [9] (fun iv wr => ∃ j : Nat, iv = .int .i64 (j : Nat) ∧ j ≤ nS ∧ Still w wr) (fun iv _ => nS - (intOf iv).toNat)
  case atStart => exact ⟨0, rfl, Nat.zero_le _, Still.refl _⟩
  case round =>
    obtain ⟨j, rfl, hj, hk⟩ := hrel
    have w1 : IntKind.i64.wrap ((j : Int) + 1) = (j : Int) + 1 := wrap_small _ (by omega) (by omega)
    have HK := hide hk
    have c0' := (hk.cell _).trans c0
    by_cases hjn : j < nS
    · obtain ⟨g, rfl, q0⟩ := unhide HS j hjn
      have q0' := (hk.cell _).trans q0
      have dl : decide ((j : Int) < (nS : Nat)) = true := decide_eq_true (by omega)
      have j1 : (0 : Int) ≤ (j : Nat) := by omega
      have j2 : (j : Int) < (nS : Nat) := by omega
      have hne := unhide NS j hjn
      have dn : ((fS j : Int) == (R : Nat)) = false := by simp; omega
      have dn' : ((fS j : Int) = (R : Nat)) = False := by simpa using dn
      clear hk c0 q0 c1 c2 c3 e0 x1 y1 y2
      go_wp2_with fail
      all_goals go_roundw
      all_goals first | exact ⟨j + 1, by simp, by omega, unhide HK⟩ | (simp [intOf]; omega)
    · have dl : decide ((j : Int) < (nS : Nat)) = false := decide_eq_false (by omega)
      go_wp2_with fail
      clear c0' dl w1 hj hjn
      go_loopw [10] (fun iv ws => ∃ q : Nat, iv = .int .i64 (q : Nat) ∧ q ≤ nB ∧ Hid (Still w ws)) (fun iv _ => nB - (intOf iv).toNat)
      case atStart => exact ⟨0, rfl, Nat.zero_le _, HK⟩
      case round =>
        obtain ⟨q, rfl, hq, HQ⟩ := hrel
        clear hk HK
        have hk := unhide HQ
        have w1 : IntKind.i64.wrap ((q : Int) + 1) = (q : Int) + 1 := wrap_small _ (by omega) (by omega)
        have c1' := (hk.cell _).trans c1
        by_cases hjn : q < nB
        · obtain ⟨g, rfl, q0⟩ := unhide HB q hjn
          have q0' := (hk.cell _).trans q0
          have dl : decide ((q : Int) < (nB : Nat)) = true := decide_eq_true (by omega)
          have j1 : (0 : Int) ≤ (q : Nat) := by omega
          have j2 : (q : Int) < (nB : Nat) := by omega
          have hne := unhide NB q hjn
          have dn : ((fB q : Int) == (R : Nat)) = false := by simp; omega
          have dn' : ((fB q : Int) = (R : Nat)) = False := by simpa using dn
          clear hk c0 q0 c1 c2 c3 e0 x1 y1 y2
          go_wp2_with fail
          all_goals go_roundw
          all_goals first | exact ⟨q + 1, by simp, by omega, HQ⟩ | (simp [intOf]; omega)
        · have dl : decide ((q : Int) < (nB : Nat)) = false := decide_eq_false (by omega)
          have c2' := (hk.cell _).trans c2
          have e0' := (hk.cell _).trans e0
          have f0' : wr.frozen? ⟨gW, i, none⟩ = false := by rw [← f0]; simp only [World.frozen?, hk.heap]
          clear hk c0 c1 c2 c3 e0 x1 y1 y2 f0
          have HW1 : Hid (Still (w.setCell ⟨gW, i, none⟩ (.int .u64 (R : Nat))) (wr.setCell ⟨gW, i, none⟩ (.int .u64 (R : Nat)))) := hide ((unhide HQ).setC _ _)
          go_wp2_with fail
          generalize hW1 : World.setCell wr _ _ = W1 at *
          clear hW1 e0' f0' c1' c2'
          obtain ⟨x1, y1, y2⟩ := unhide HX _ HW1
          have a1 : IntKind.i64.wrap (1 + (rf : Int)) = 1 + (rf : Int) := wrap_small _ (by omega) (by omega)
          have a2 : IntKind.i64.wrap (1 + (rf : Int) + (rr : Int)) = 1 + (rf : Int) + (rr : Int) := wrap_small _ (by omega) (by omega)
          have d3 : decide (1 + (rf : Int) + (rr : Int) ≤ 64) = true := decide_eq_true (by omega)
          go_region_held3 (fun w' => w'.cell? ⟨ps, 1, none⟩ = some (.slice (some ⟨gN, 0, none⟩) nN cN) ∧ w'.cell? ⟨gN, i * 3 + 1, none⟩ = some (.slice ar rf cr) ∧ w'.cell? ⟨gN, i * 3 + 2, none⟩ = some (.slice aw rr cw)) (go_keep) (fail)
          clear x1 y1 y2
          have HW2 : Hid (Still (w.setCell ⟨gW, i, none⟩ (.int .u64 (R : Nat))) W1.drew) := hide ((unhide HW1).trans ((Still.refl W1).drew 1))
          obtain ⟨z0, z1, z2, z3, z4⟩ := unhide HA _ HW2
          generalize W1.drew = W2 at *
          clear HA HX HLS HFz HS HB NS NB HQ
          have b1 : IntKind.i64.wrap ((WD : Int) + (1 + (rf : Int) + (rr : Int))) = (WD : Int) + (1 + (rf : Int) + (rr : Int)) := wrap_small _ (by omega) (by omega)
          go_wp2_with (refine append_line rfl (.tmp 110) (.tmp 112) 44 rfl 30 i0 (.int .u64 0) 8 Tryz.underlying44 hi hy0 hy1 hy2 rfl (.slice aS nS cS) nS _ (by simp [Act.eval]) (unhide z1) W2.heap.size (by simp [Act.eval]) (.int .u64 (R : Nat)) (unhide z3) rfl (by omega) (by omega) ?_)
          intro v9 w9 hl9 hg9
          obtain ⟨k1, k2, k3, k4, k5⟩ := unhide z4 _ _ hg9
          obtain ⟨a9, c9, rfl⟩ := hl9.shape
          have HL9 := hide hl9
          have HG9 := hide hg9
          clear hl9 hg9 z1 z3 z4 z0 z2
          go_wp2_with fail
          all_goals go_ret
          all_goals exact ⟨by simp, _, _, _, unhide HW2, unhide HL9, unhide HG9, by first | exact Still.refl _ | exact (Still.refl _).drew _⟩
/-- reach, at a large one that is new -/
theorem reach_big {w : World} {px ps gN nN cN rf rr cr cw : Nat} {ar aw : Option Addr} {vS vB : Value} {nS nB gW N cW i R WD : Nat} (fS fB : Nat → Nat)
    (c0 : w.cell? ⟨px, 0, none⟩ = some vS) (c1 : w.cell? ⟨px, 1, none⟩ = some vB) (c2 : w.cell? ⟨px, 2, none⟩ = some (.slice (some ⟨gW, 0, none⟩) N cW)) (c3 : w.cell? ⟨px, 4, none⟩ = some (.int .i64 (WD : Nat)))
    (fz : ∀ o, o < 5 → w.frozen? ⟨px, o, none⟩ = false) (hS : Line w 30 vS nS (fun j => .int .u64 (fS j : Nat))) (hB : Line w 30 vB nB (fun j => .int .u64 (fB j : Nat)))
    (e0 : w.cell? ⟨gW, i, none⟩ = some (.int .u64 (0 : Nat))) (f0 : w.frozen? ⟨gW, i, none⟩ = false)
    (x1 : w.cell? ⟨ps, 1, none⟩ = some (.slice (some ⟨gN, 0, none⟩) nN cN)) (y1 : w.cell? ⟨gN, i * 3 + 1, none⟩ = some (.slice ar rf cr)) (y2 : w.cell? ⟨gN, i * 3 + 2, none⟩ = some (.slice aw rr cw))
    (hi0 : i ≠ 0) (hiN : i < N) (hin : i < nN) (hR : R ≠ 0) (nS' : ∀ j, j < nS → fS j ≠ R) (nB' : ∀ j, j < nB → fB j ≠ R) (hsm : 64 < 1 + rf + rr) (hsm2 : 1 + rf + rr ≤ 100000000) (lS : nS ≤ 1000000) (lB : nB ≤ 1000000) (lN : N ≤ 1000000) (lW : WD ≤ 100000000)
    (a1 : gW ≠ px) (a2 : vB.ownBlock ≠ some px) (a3 : vB.ownBlock ≠ some gW) (a4 : ps ≠ px) (a5 : ps ≠ gW) (a6 : gN ≠ px) (a7 : gN ≠ gW) :
    Calls Tryz.prog 36 #[.pointer (some ⟨px, 0, none⟩), .pointer (some ⟨ps, 0, none⟩), .int .u64 (R : Nat), .int .i64 (i : Nat)] w fun e w' => e = .returned (.bool true) ∧ ∃ w1 w2 v', Still (w.setCell ⟨gW, i, none⟩ (.int .u64 (R : Nat))) w1 ∧ Line w2 30 v' (nB + 1) (fun j => if j < nB then .int .u64 (fB j : Nat) else .int .u64 (R : Nat)) ∧ Grew 30 nB (.int .u64 (R : Nat)) (w1.alloc (.cells #[.int .u64 (R : Nat)] 30)) w2 vB v' ∧ Still ((w2.setCell ⟨px, 1, none⟩ v').setCell ⟨px, 4, none⟩ (.int .i64 ((WD + (1 + rf + rr) + 1 : Nat) : Int))) w' := by
  obtain ⟨i0, hi, hy0, hy1, hy2⟩ := info_parts Tryz.info30
  obtain ⟨aS, cS, rfl⟩ := hS.shape
  obtain ⟨aB, cB, rfl⟩ := hB.shape
  have HS : Hid (∀ j, j < nS → ∃ g, aS = some ⟨g, 0, none⟩ ∧ w.cell? ⟨g, j, none⟩ = some (.int .u64 (fS j : Nat))) := hide (fun j hj => by
    obtain ⟨g, cap', e1, _, hc⟩ := hS.at (by omega)
    cases e1
    exact ⟨g, rfl, (hc j hj).1⟩)
  have HB : Hid (∀ j, j < nB → ∃ g, aB = some ⟨g, 0, none⟩ ∧ w.cell? ⟨g, j, none⟩ = some (.int .u64 (fB j : Nat))) := hide (fun j hj => by
    obtain ⟨g, cap', e1, _, hc⟩ := hB.at (by omega)
    cases e1
    exact ⟨g, rfl, (hc j hj).1⟩)
  have HX : Hid (∀ W, Hid (Still (w.setCell ⟨gW, i, none⟩ (.int .u64 (R : Nat))) W) → W.cell? ⟨ps, 1, none⟩ = some (.slice (some ⟨gN, 0, none⟩) nN cN) ∧ W.cell? ⟨gN, i * 3 + 1, none⟩ = some (.slice ar rf cr) ∧ W.cell? ⟨gN, i * 3 + 2, none⟩ = some (.slice aw rr cw)) := hide (fun W q => by
    have hh : ∀ b o, b ≠ gW → W.cell? ⟨b, o, none⟩ = w.cell? ⟨b, o, none⟩ := fun b o hb => ((unhide q).cell _).trans (World.cell?_setCell_other _ _ _ _ (by intro e; cases e; exact hb rfl))
    exact ⟨(hh _ _ a5).trans x1, (hh _ _ a7).trans y1, (hh _ _ a7).trans y2⟩)
  have HA : Hid (∀ W, Hid (Still (w.setCell ⟨gW, i, none⟩ (.int .u64 (R : Nat))) W) → W.cell? ⟨px, 1, none⟩ = some (.slice aB nB cB) ∧ Hid (Line (W.alloc (.cells #[.int .u64 (R : Nat)] 30)) 30 (.slice aB nB cB) nB (fun j => .int .u64 (fB j : Nat))) ∧ (W.alloc (.cells #[.int .u64 (R : Nat)] 30)).cell? ⟨px, 1, none⟩ = some (.slice aB nB cB) ∧ Hid ((W.alloc (.cells #[.int .u64 (R : Nat)] 30)).cell? ⟨W.heap.size, 0, none⟩ = some (.int .u64 (R : Nat))) ∧
      Hid (∀ v' w', Grew 30 nB (.int .u64 (R : Nat)) (W.alloc (.cells #[.int .u64 (R : Nat)] 30)) w' (.slice aB nB cB) v' → w'.cell? ⟨px, 1, none⟩ = some (.slice aB nB cB) ∧ w'.frozen? ⟨px, 1, none⟩ = false ∧ (w'.setCell ⟨px, 1, none⟩ v').cell? ⟨px, 1, none⟩ = some v' ∧ (w'.setCell ⟨px, 1, none⟩ v').cell? ⟨px, 4, none⟩ = some (.int .i64 (WD : Nat)) ∧ (w'.setCell ⟨px, 1, none⟩ v').frozen? ⟨px, 4, none⟩ = false)) := hide (fun W q => by
    have hq := unhide q
    have hpx : px < W.heap.size := by
      have h1 := block_lt_of_cell c1
      rw [hq.heap, World.size_setCell]; exact h1
    have hx : ∀ o, W.cell? ⟨px, o, none⟩ = w.cell? ⟨px, o, none⟩ := fun o => (hq.cell _).trans (World.cell?_setCell_other _ _ _ _ (by intro e; cases e; exact a1 rfl))
    have hf : ∀ o, W.frozen? ⟨px, o, none⟩ = w.frozen? ⟨px, o, none⟩ := fun o => by
      have : W.frozen? ⟨px, o, none⟩ = (w.setCell ⟨gW, i, none⟩ (.int .u64 (R : Nat))).frozen? ⟨px, o, none⟩ := by simp only [World.frozen?, hq.heap]
      rw [this, World.frozen?_setCell]
    have hbA : Below W.heap.size W (W.alloc (.cells #[.int .u64 (R : Nat)] 30)) := (Below.refl _ _).alloc (Nat.le_refl _) _
    have hL : Line W 30 (.slice aB nB cB) nB (fun j => .int .u64 (fB j : Nat)) := hB.same fun g hg => by
      rw [hq.heap, setCell_else _ _ _ _ _ (by rintro rfl; exact a3 hg)]
    refine ⟨(hx 1).trans c1, hide (hL.same fun g hg => hbA.block g (hL.lt g hg)), (hbA.cell (p := ⟨px, 1, none⟩) hpx).trans ((hx 1).trans c1), hide (cell_made rfl _ _), hide (fun v' w' h2 => ?_)⟩
    have hb : w'.heap[px]? = W.heap[px]? := (h2.other px (Nat.lt_of_lt_of_le hpx hbA.size) a2).trans (hbA.block px hpx)
    have hc : ∀ o, w'.cell? ⟨px, o, none⟩ = w.cell? ⟨px, o, none⟩ := fun o => by rw [← hx o]; simp only [World.cell?, hb]
    have hg : ∀ o, w'.frozen? ⟨px, o, none⟩ = w.frozen? ⟨px, o, none⟩ := fun o => by rw [← hf o]; simp only [World.frozen?, hb]
    refine ⟨(hc 1).trans c1, (hg 1).trans (fz 1 (by decide)), World.cell?_setCell_same' w' ⟨px, 1, none⟩ _ (by rw [hc 1, c1]; rfl), (World.cell?_setCell_other _ _ _ _ (by intro e; cases e)).trans ((hc 4).trans c3), ?_⟩
    rw [World.frozen?_setCell]; exact (hg 4).trans (fz 4 (by decide)))
  have i1 : (0 : Int) ≤ (i : Nat) := by omega
  have i2 : (i : Int) < (N : Nat) := by omega
  have i3 : (i : Int) < (nN : Nat) := by omega
  have d1 : ((i : Int) == 0) = false := by simp; omega
  have d2 : ((R : Int) == 0) = false := by simp; omega
  have NS := hide nS'
  have NB := hide nB'
  have HFz := hide fz
  have HLS := hide hS
  clear nS' nB' fz hS hB
  go_enter Tryz.func36, Tryz.ntmps36
  go_wp2_with fail
  go_loopw [9] (fun iv wr => ∃ j : Nat, iv = .int .i64 (j : Nat) ∧ j ≤ nS ∧ Still w wr) (fun iv _ => nS - (intOf iv).toNat)
  case atStart => exact ⟨0, rfl, Nat.zero_le _, Still.refl _⟩
  case round =>
    obtain ⟨j, rfl, hj, hk⟩ := hrel
    have w1 : IntKind.i64.wrap ((j : Int) + 1) = (j : Int) + 1 := wrap_small _ (by omega) (by omega)
    have HK := hide hk
    have c0' := (hk.cell _).trans c0
    by_cases hjn : j < nS
    · obtain ⟨g, rfl, q0⟩ := unhide HS j hjn
      have q0' := (hk.cell _).trans q0
      have dl : decide ((j : Int) < (nS : Nat)) = true := decide_eq_true (by omega)
      have j1 : (0 : Int) ≤ (j : Nat) := by omega
      have j2 : (j : Int) < (nS : Nat) := by omega
      have hne := unhide NS j hjn
      have dn : ((fS j : Int) == (R : Nat)) = false := by simp; omega
      have dn' : ((fS j : Int) = (R : Nat)) = False := by simpa using dn
      clear hk c0 q0 c1 c2 c3 e0 x1 y1 y2
      go_wp2_with fail
      all_goals go_roundw
      all_goals first | exact ⟨j + 1, by simp, by omega, unhide HK⟩ | (simp [intOf]; omega)
    · have dl : decide ((j : Int) < (nS : Nat)) = false := decide_eq_false (by omega)
      go_wp2_with fail
      clear c0' dl w1 hj hjn
      go_loopw [10] (fun iv ws => ∃ q : Nat, iv = .int .i64 (q : Nat) ∧ q ≤ nB ∧ Hid (Still w ws)) (fun iv _ => nB - (intOf iv).toNat)
      case atStart => exact ⟨0, rfl, Nat.zero_le _, HK⟩
      case round =>
        obtain ⟨q, rfl, hq, HQ⟩ := hrel
        clear hk HK
        have hk := unhide HQ
        have w1 : IntKind.i64.wrap ((q : Int) + 1) = (q : Int) + 1 := wrap_small _ (by omega) (by omega)
        have c1' := (hk.cell _).trans c1
        by_cases hjn : q < nB
        · obtain ⟨g, rfl, q0⟩ := unhide HB q hjn
          have q0' := (hk.cell _).trans q0
          have dl : decide ((q : Int) < (nB : Nat)) = true := decide_eq_true (by omega)
          have j1 : (0 : Int) ≤ (q : Nat) := by omega
          have j2 : (q : Int) < (nB : Nat) := by omega
          have hne := unhide NB q hjn
          have dn : ((fB q : Int) == (R : Nat)) = false := by simp; omega
          have dn' : ((fB q : Int) = (R : Nat)) = False := by simpa using dn
          clear hk c0 q0 c1 c2 c3 e0 x1 y1 y2
          go_wp2_with fail
          all_goals go_roundw
          all_goals first | exact ⟨q + 1, by simp, by omega, HQ⟩ | (simp [intOf]; omega)
        · have dl : decide ((q : Int) < (nB : Nat)) = false := decide_eq_false (by omega)
          have c2' := (hk.cell _).trans c2
          have e0' := (hk.cell _).trans e0
          have f0' : wr.frozen? ⟨gW, i, none⟩ = false := by rw [← f0]; simp only [World.frozen?, hk.heap]
          clear hk c0 c1 c2 c3 e0 x1 y1 y2 f0
          have HW1 : Hid (Still (w.setCell ⟨gW, i, none⟩ (.int .u64 (R : Nat))) (wr.setCell ⟨gW, i, none⟩ (.int .u64 (R : Nat)))) := hide ((unhide HQ).setC _ _)
          go_wp2_with fail
          generalize hW1 : World.setCell wr _ _ = W1 at *
          clear hW1 e0' f0' c1' c2'
          obtain ⟨x1, y1, y2⟩ := unhide HX _ HW1
          have a1 : IntKind.i64.wrap (1 + (rf : Int)) = 1 + (rf : Int) := wrap_small _ (by omega) (by omega)
          have a2 : IntKind.i64.wrap (1 + (rf : Int) + (rr : Int)) = 1 + (rf : Int) + (rr : Int) := wrap_small _ (by omega) (by omega)
          have d3 : decide (1 + (rf : Int) + (rr : Int) ≤ 64) = false := decide_eq_false (by omega)
          go_region_held3 (fun w' => w'.cell? ⟨ps, 1, none⟩ = some (.slice (some ⟨gN, 0, none⟩) nN cN) ∧ w'.cell? ⟨gN, i * 3 + 1, none⟩ = some (.slice ar rf cr) ∧ w'.cell? ⟨gN, i * 3 + 2, none⟩ = some (.slice aw rr cw)) (go_keep) (fail)
          clear x1 y1 y2
          have HW2 : Hid (Still (w.setCell ⟨gW, i, none⟩ (.int .u64 (R : Nat))) W1.drew) := hide ((unhide HW1).trans ((Still.refl W1).drew 1))
          obtain ⟨z0, z1, z2, z3, z4⟩ := unhide HA _ HW2
          generalize W1.drew = W2 at *
          clear HA HX HLS HFz HS HB NS NB HQ
          have b1 : IntKind.i64.wrap ((WD : Int) + (1 + (rf : Int) + (rr : Int))) = (WD : Int) + (1 + (rf : Int) + (rr : Int)) := wrap_small _ (by omega) (by omega)
          have b2 : IntKind.i64.wrap ((WD : Int) + (1 + (rf : Int) + (rr : Int)) + 1) = (WD : Int) + (1 + (rf : Int) + (rr : Int)) + 1 := wrap_small _ (by omega) (by omega)
          go_wp2_with (refine append_line rfl (.tmp 129) (.tmp 131) 44 rfl 30 i0 (.int .u64 0) 8 Tryz.underlying44 hi hy0 hy1 hy2 rfl (.slice aB nB cB) nB _ (by simp [Act.eval]) (unhide z1) W2.heap.size (by simp [Act.eval]) (.int .u64 (R : Nat)) (unhide z3) rfl (by omega) (by omega) ?_)
          intro v9 w9 hl9 hg9
          obtain ⟨k1, k2, k3, k4, k5⟩ := unhide z4 _ _ hg9
          obtain ⟨a9, c9, rfl⟩ := hl9.shape
          have HL9 := hide hl9
          have HG9 := hide hg9
          clear hl9 hg9 z1 z3 z4 z0 z2
          go_wp2_with fail
          all_goals go_ret
          all_goals exact ⟨by simp, _, _, _, unhide HW2, unhide HL9, unhide HG9, by first | exact Still.refl _ | exact (Still.refl _).drew _⟩
end Go.Proofs.YtidfllgaeiopjaaGreat
namespace Go.Proofs.YtidfllgaeiopjaaGreat
open Go.ChangeShapes Go.WideShapes Go.ChangeAt Go.RowKit
set_option linter.unusedVariables false
set_option linter.unusedSimpArgs false
set_option maxRecDepth 100000
set_option maxHeartbeats 1000000

theorem Pu.all {M : Hp} {k : Wk} (p : Pu M k) : AllIs M k := fun i hi => hi.elim (fun h => .inl (p.cs i h)) (fun h => .inr (p.ls i h))
theorem words_le {M : Hp} {k : Wk} (ok : HpOk M) (p : Pu M k) : wordsK M k ≤ M.used := by
  have h := sum_sub (fun i => osz (ob M i)) k.cop M.small p.nd.1 p.cs
  rw [ok.us, place_all]
  unfold wordsK
  omega
theorem large_le {M : Hp} {k : Wk} (wf : HpWf M) (p : Pu M k) : largeK M k ≤ M.large := by
  have h := sum_sub (fun i => if i = 0 then 0 else 1 + osz (ob M i)) k.lin M.slots p.nd.2 (fun x hx => (p.ls x hx).2)
  have e : (k.lin.map fun i => 1 + osz (ob M i)) = k.lin.map (fun i => if i = 0 then 0 else 1 + osz (ob M i)) := List.map_congr_left fun i hi => by rw [if_neg (p.ls i hi).1]
  rw [wf.lg]
  unfold largeK lgOf
  rw [e]
  exact h
theorem words_app (M : Hp) (k : Wk) (i : Nat) : wordsK M ⟨k.cop ++ [i], k.lin⟩ = wordsK M k + osz (ob M i) := by unfold wordsK; simp; omega
theorem large_app (M : Hp) (k : Wk) (i : Nat) : largeK M ⟨k.cop, k.lin ++ [i]⟩ = largeK M k + osz (ob M i) + 1 := by unfold largeK; simp; omega
theorem app_get (M : Hp) (l : List Nat) (i j : Nat) (hj : j < l.length + 1) : (if j < l.length then Value.int .u64 (refW M (l.getD j 0) : Nat) else .int .u64 (refW M i : Nat)) = .int .u64 (refW M ((l ++ [i]).getD j 0) : Nat) := by
  by_cases h : j < l.length
  · rw [if_pos h, List.getD_eq_getElem?_getD, List.getD_eq_getElem?_getD, List.getElem?_append_left h]
  · have : j = l.length := by omega
    subst this
    rw [if_neg h]
    simp
theorem Grew.own {e : TypeId} {n : Nat} {u : Value} {w w' : World} {v v' : Value} (h : Grew e n u w w' v v') (g : Nat) (hg : v'.ownBlock = some g) : v.ownBlock = some g ∨ w.heap.size ≤ g := by
  rcases h.how with ⟨x, cur, e1, e2, _⟩ | ⟨e, _⟩
  · left; rw [e1, ← e2]; exact hg
  · right; rw [e] at hg; cases hg; exact Nat.le_refl _
/-- the blocks behind reach -/
theorem grow_blocks {w w1 w2 w' : World} {gW i px o1 o2 n : Nat} {R : Value} {vS v' x2 : Value} (s1 : Still (w.setCell ⟨gW, i, none⟩ R) w1) (hg : Grew 30 n R (w1.alloc (.cells #[R] 30)) w2 vS v') (s2 : Still ((w2.setCell ⟨px, o1, none⟩ v').setCell ⟨px, o2, none⟩ x2) w') :
    w.heap.size ≤ w'.heap.size ∧ (∀ g, g < w.heap.size → g ≠ px → vS.ownBlock ≠ some g → w'.heap[g]? = (w.setCell ⟨gW, i, none⟩ R).heap[g]?) ∧ (∀ g, g ≠ px → w'.heap[g]? = w2.heap[g]?) ∧ (px < w.heap.size → px ≠ gW → vS.ownBlock ≠ some px → w2.heap[px]? = w.heap[px]?) ∧ (∀ g, v'.ownBlock = some g → vS.ownBlock = some g ∨ w.heap.size ≤ g) ∧ w'.os = w.os ∧ w'.tape = w.tape ∧ w'.output = w.output := by
  have z1 : w1.heap.size = w.heap.size := by rw [s1.heap, World.size_setCell]
  have hbA : Below w1.heap.size w1 (w1.alloc (.cells #[R] 30)) := (Below.refl _ _).alloc (Nat.le_refl _) _
  have z2 := hbA.size
  have z3 := hg.size
  have z4 : w'.heap.size = w2.heap.size := by rw [s2.heap, World.size_setCell, World.size_setCell]
  have e1 : ∀ g, g ≠ px → w'.heap[g]? = w2.heap[g]? := fun g hp => by rw [s2.heap, setCell_else _ _ _ _ _ hp, setCell_else _ _ _ _ _ hp]
  have e2 : ∀ g, g < w.heap.size → vS.ownBlock ≠ some g → w2.heap[g]? = (w.setCell ⟨gW, i, none⟩ R).heap[g]? := fun g hl hv => by
    rw [hg.other g (by omega) hv, hbA.block g (by omega), s1.heap]
  refine ⟨by omega, fun g hl hp hv => (e1 g hp).trans (e2 g hl hv), e1, fun hl hp hv => ?_, fun g h => ?_, ?_, ?_, ?_⟩
  · rw [e2 px hl hv, setCell_else _ _ _ _ _ hp]
  · rcases hg.own g h with q | q
    · exact .inl q
    · exact .inr (by omega)
  · exact s2.os.trans (hg.os.trans (hbA.os.trans s1.os))
  · exact s2.tape.trans (hg.tape.trans (hbA.tape.trans s1.tape))
  · exact s2.output.trans (hg.output.trans (hbA.output.trans s1.output))
end Go.Proofs.YtidfllgaeiopjaaGreat
namespace Go.Proofs.YtidfllgaeiopjaaGreat
open Go.ChangeShapes Go.WideShapes Go.ChangeAt Go.RowKit
set_option linter.unusedVariables false
set_option linter.unusedSimpArgs false

theorem fin_of {M : Hp} (ok : HpOk M) {t : St} (a1 : Star M (stR M M.roots.length) t) (a2 : stepW M t = none) : Fin' M t.k := by
  obtain ⟨u, b1, b2, f, _⟩ := walk_done ok M.roots.length (fun x hx => by rw [List.getD_eq_getElem?_getD, List.getElem?_eq_none hx]; rfl)
  rw [star_end a1 a2 b1 b2]
  exact f
theorem slots_nodup {M : Hp} (ok : HpOk M) : (M.slots.filter fun i => i != 0).Nodup := by
  rw [List.Nodup, List.pairwise_filter, List.pairwise_iff_getElem]
  intro i j hi hj hij h1 h2 e
  have e1 : M.slots.getD i 0 = M.slots[i] := by rw [List.getD_eq_getElem?_getD, List.getElem?_eq_getElem hi]; rfl
  have e2 : M.slots.getD j 0 = M.slots[j] := by rw [List.getD_eq_getElem?_getD, List.getElem?_eq_getElem hj]; rfl
  have a := (ok.b1 i (by rw [e1]; simpa using h1)).2
  have b := (ok.b1 j (by rw [e2]; simpa using h2)).2
  rw [e1] at a
  rw [e2, ← e] at b
  omega
theorem lg_filter (M : Hp) : ∀ l : List Nat, lgOf M l = ((l.filter fun i => i != 0).map fun i => 1 + osz (ob M i)).sum
  | [] => rfl
  | x :: l => by
    have ih := lg_filter M l
    unfold lgOf at ih ⊢
    rw [List.map_cons, List.sum_cons, ih]
    by_cases h : x = 0
    · subst h; simp
    · rw [if_neg h, List.filter_cons_of_pos (by simpa using h), List.map_cons, List.sum_cons]
theorem mem_fil {M : Hp} {k : Wk} (f : Fin' M k) (x : Nat) : x ∈ (slC M k).filter (fun i => i != 0) ↔ x ∈ k.lin := by
  rw [List.mem_filter]
  unfold slC
  rw [List.mem_map]
  constructor
  · rintro ⟨⟨y, _, e⟩, h0⟩
    have h0' : x ≠ 0 := by simpa using h0
    split at e
    · rename_i h; rw [← e]; exact h
    · exact absurd e.symm h0'
  · intro h
    obtain ⟨q0, q1⟩ := f.ls x h
    exact ⟨⟨x, q1, if_pos h⟩, by simpa using q0⟩
theorem large_fin {M : Hp} {k : Wk} (wf : HpWf M) (f : Fin' M k) : lgOf M (slC M k) = largeK M k := by
  have hn : ((slC M k).filter fun i => i != 0).Nodup := slots_nodup (f.wf wf).ok
  rw [lg_filter]
  unfold largeK
  have h1 := sum_sub (fun i => 1 + osz (ob M i)) _ k.lin hn (fun x hx => (mem_fil f x).1 hx)
  have h2 := sum_sub (fun i => 1 + osz (ob M i)) k.lin _ f.nd.2 (fun x hx => (mem_fil f x).2 hx)
  omega
theorem cnt_fin {M : Hp} {k : Wk} (wf : HpWf M) (f : Fin' M k) : ((slC M k).filter fun i => i != 0).length = k.lin.length := by
  have hn : ((slC M k).filter fun i => i != 0).Nodup := slots_nodup (f.wf wf).ok
  have e : ∀ l : List Nat, (l.map (fun _ => 1)).sum = l.length := fun l => by induction l with | nil => rfl | cons a l ih => simp [ih]; omega
  have h1 := sum_sub (fun _ => 1) _ k.lin hn (fun x hx => (mem_fil f x).1 hx)
  have h2 := sum_sub (fun _ => 1) k.lin _ f.nd.2 (fun x hx => (mem_fil f x).2 hx)
  rw [e, e] at h1 h2
  omega
theorem coll_used (M : Hp) (k : Wk) : (collM M k).used = wordsK M k := place_all M k.cop
end Go.Proofs.YtidfllgaeiopjaaGreat
namespace Go.Proofs.YtidfllgaeiopjaaGreat
open Go.ChangeShapes Go.WideShapes Go.ChangeAt Go.RowKit
set_option linter.unusedVariables false
set_option linter.unusedSimpArgs false

/-- a heap that was just collected -/
def Fresh0 (N : Hp) : Prop := ∃ M M1 hf rs, HpWf M ∧ IsColl M M1 ∧ N = { M1 with half := hf, resz := rs }
theorem becM_eq (M : Hp) (n : Nat) : ∃ rs, becM M n = { M with half := n, resz := rs } := by
  unfold becM
  split
  · rename_i h; subst h; exact ⟨M.resz, rfl⟩
  · exact ⟨_, rfl⟩
theorem Fresh0.bec {M M1 : Hp} (wf : HpWf M) (h : IsColl M M1) (n : Nat) : Fresh0 (becM M1 n) := by
  obtain ⟨rs, e⟩ := becM_eq M1 n
  exact ⟨M, M1, n, rs, wf, h, e⟩
theorem Fresh0.fit {M M1 : Hp} (wf : HpWf M) (h : IsColl M M1) (s : Nat) : Fresh0 (fitM M1 s) := by
  have hself : Fresh0 M1 := ⟨M, M1, M1.half, M1.resz, wf, h, rfl⟩
  unfold fitM
  split
  · split
    · exact .bec wf h _
    · exact hself
  · split
    · exact .bec wf h _
    · exact hself
theorem Fresh0.seen {N : Hp} (f : Fresh0 N) (wf : HpWf N) {t : St} (a1 : Star N (stR N N.roots.length) t) (a2 : stepW N t = none) : t.k.cop = N.small ∧ wordsK N t.k = N.used ∧ largeK N t.k = N.large ∧ t.k.lin.length = cntS N := by
  obtain ⟨M, M1, hf, rs, wfM, hc, eN⟩ := f
  have fi := fin_of wf.ok a1 a2
  have hI : IsColl N (collM N t.k) := ⟨t, a1, a2, fi, rfl⟩
  have e := coll_twice wfM hc hf rs (by rw [← eN]; exact hI)
  have h1 : (collM N t.k).small = N.small := by rw [e, eN]
  have h2 : (collM N t.k).used = N.used := by rw [e, eN]
  have h3 : (collM N t.k).large = N.large := by rw [e, eN]
  have h4 : (collM N t.k).slots = N.slots := by rw [e, eN]
  refine ⟨h1, (coll_used N t.k).symm.trans h2, (large_fin wf fi).symm.trans h3, ?_⟩
  rw [← cnt_fin wf fi]
  have h5 : slC N t.k = N.slots := h4
  unfold cntS
  rw [h5]
theorem small_ref {N : Hp} (ok : HpOk N) {j : Nat} (hj : j < N.small.length) : refW N (N.small.getD j 0) = place (shapes N N.small) j := by
  have hm : N.small.getD j 0 ∈ N.small := by rw [List.getD_eq_getElem?_getD, List.getElem?_eq_getElem hj]; exact List.getElem_mem hj
  obtain ⟨h0, hb, ha⟩ := ok.s1 _ hm
  unfold refW
  rw [if_neg h0, if_neg (by rw [hb]; decide), ha, addr_at N N.small ok.sm j hj]
theorem small_step {N : Hp} {j : Nat} (hj : j < N.small.length) : place (shapes N N.small) (j + 1) = place (shapes N N.small) j + (1 + (ob N (N.small.getD j 0)).refs.length + (ob N (N.small.getD j 0)).raws.length) := by
  rw [place, shapes_at N N.small j hj]
  rfl
end Go.Proofs.YtidfllgaeiopjaaGreat
namespace Go.Proofs.YtidfllgaeiopjaaGreat
open Go.ChangeShapes Go.WideShapes Go.ChangeAt Go.RowKit
set_option linter.unusedVariables false
set_option linter.unusedSimpArgs false
set_option maxRecDepth 100000
set_option maxHeartbeats 1000000

/-- a block beside what is seen -/
def OffV (V : SeenC) (px g : Nat) : Prop := g ≠ px ∧ V.vS.ownBlock ≠ some g ∧ V.vB.ownBlock ≠ some g ∧ V.vW.ownBlock ≠ some g
/-- a small one more -/
theorem SeenAt.small {w w1 w2 w' : World} {b0 px N gW i : Nat} {M : Hp} {k : Wk} {V : SeenC} {v' : Value} (h : SeenAt w b0 px M N k V) (hiN : i < N) (ho : V.vW.ownBlock = some gW) (hb0 : b0 ≤ w.heap.size)
    (s1 : Still (w.setCell ⟨gW, i, none⟩ (.int .u64 (refW M i : Nat))) w1) (hL : Line w2 30 v' (k.cop.length + 1) (fun j => if j < k.cop.length then .int .u64 (refW M (k.cop.getD j 0) : Nat) else .int .u64 (refW M i : Nat)))
    (hg : Grew 30 k.cop.length (.int .u64 (refW M i : Nat)) (w1.alloc (.cells #[.int .u64 (refW M i : Nat)] 30)) w2 V.vS v') (s2 : Still ((w2.setCell ⟨px, 0, none⟩ v').setCell ⟨px, 3, none⟩ (.int .i64 ((wordsK M k + osz (ob M i) : Nat) : Int))) w') :
    SeenAt w' b0 px M N ⟨k.cop ++ [i], k.lin⟩ ⟨v', V.vB, V.vW⟩ ∧ Below b0 w w' ∧ ∀ g, g < w.heap.size → OffV V px g → w'.heap[g]? = w.heap[g]? ∧ OffV ⟨v', V.vB, V.vW⟩ px g := by
  obtain ⟨g1, g2, g3, g4, g5, g6, g7, g8⟩ := grow_blocks s1 hg s2
  have hlo := h.lo
  have hgx : gW ≠ px := (hlo.2 gW (.inr (.inr ho))).2
  have hSx : V.vS.ownBlock ≠ some px := fun e => (hlo.2 px (.inl e)).2 rfl
  have hSW : V.vS.ownBlock ≠ some gW := fun e => h.d2 gW e ho
  have hpx := h.lt
  have hp2 := g4 hpx (Ne.symm hgx) hSx
  have hv'x : v'.ownBlock ≠ some px := fun e => by
    rcases g5 px e with q | q
    · exact hSx q
    · omega
  have hc : ∀ o, o ≠ 0 → o ≠ 3 → w'.cell? ⟨px, o, none⟩ = w.cell? ⟨px, o, none⟩ := fun o n0 n3 => by
    have e1 : w'.cell? ⟨px, o, none⟩ = ((w2.setCell ⟨px, 0, none⟩ v').setCell ⟨px, 3, none⟩ (.int .i64 ((wordsK M k + osz (ob M i) : Nat) : Int))).cell? ⟨px, o, none⟩ := s2.cell _
    rw [e1, World.cell?_setCell_other _ _ _ _ (by intro e; cases e; exact n3 rfl), World.cell?_setCell_other _ _ _ _ (by intro e; cases e; exact n0 rfl)]
    simp only [World.cell?, hp2]
  have hc2 : ∀ o, w2.cell? ⟨px, o, none⟩ = w.cell? ⟨px, o, none⟩ := fun o => by simp only [World.cell?, hp2]
  have hc0 : w'.cell? ⟨px, 0, none⟩ = some v' := by
    have e1 : w'.cell? ⟨px, 0, none⟩ = ((w2.setCell ⟨px, 0, none⟩ v').setCell ⟨px, 3, none⟩ (.int .i64 ((wordsK M k + osz (ob M i) : Nat) : Int))).cell? ⟨px, 0, none⟩ := s2.cell _
    rw [e1, World.cell?_setCell_other _ _ _ _ (by intro e; cases e)]
    exact World.cell?_setCell_same' w2 ⟨px, 0, none⟩ _ (by rw [hc2 0, h.c0]; rfl)
  have hc3 : w'.cell? ⟨px, 3, none⟩ = some (.int .i64 ((wordsK M k + osz (ob M i) : Nat) : Int)) := by
    have e1 : w'.cell? ⟨px, 3, none⟩ = ((w2.setCell ⟨px, 0, none⟩ v').setCell ⟨px, 3, none⟩ (.int .i64 ((wordsK M k + osz (ob M i) : Nat) : Int))).cell? ⟨px, 3, none⟩ := s2.cell _
    rw [e1]
    exact World.cell?_setCell_same' _ ⟨px, 3, none⟩ _ (by rw [World.cell?_setCell_other _ _ _ _ (by intro e; cases e), hc2 3, h.c3]; rfl)
  have hbl : ∀ g, g < w.heap.size → g ≠ px → V.vS.ownBlock ≠ some g → g ≠ gW → w'.heap[g]? = w.heap[g]? := fun g a b c d => by rw [g2 g a b c, setCell_else _ _ _ _ _ d]
  refine ⟨⟨hc0, (hc 1 (by decide) (by decide)).trans h.c1, (hc 2 (by decide) (by decide)).trans h.c2, by rw [hc3, words_app], (hc 4 (by decide) (by decide)).trans h.c4, fun o ho => ?_, ?_, ?_, ?_, ⟨hlo.1, fun g e => ?_⟩, fun g e e2 => ?_, fun g e e2 => ?_, h.d3⟩, ⟨g6, g7, g8, g1, fun g hg' => ?_⟩, fun g hl hO => ⟨hbl g hl hO.1 hO.2.1 (fun e => hO.2.2.2 (by rw [e]; exact ho)), hO.1, (fun e => by rcases g5 g e with z | z; exact hO.2.1 z; omega), hO.2.2.1, hO.2.2.2⟩⟩
  · have e1 : w'.frozen? ⟨px, o, none⟩ = ((w2.setCell ⟨px, 0, none⟩ v').setCell ⟨px, 3, none⟩ (.int .i64 ((wordsK M k + osz (ob M i) : Nat) : Int))).frozen? ⟨px, o, none⟩ := by simp only [World.frozen?, s2.heap]
    rw [e1, World.frozen?_setCell, World.frozen?_setCell, ← h.fz o ho]
    simp only [World.frozen?, hp2]
  · have := (hL.same (w' := w') fun g e => g3 g (fun q => hv'x (by rw [← q]; exact e))).congr (fun j hj => app_get M k.cop i j hj)
    simpa using this
  · exact h.b.same fun g e => hbl g (h.b.lt g e) (hlo.2 g (.inr (.inl e))).2 (fun q => h.d1 g q e) (fun q => h.d3 g e (by rw [q]; exact ho))
  · have h1 := h.h.put ho i (.int .u64 (refW M i : Nat)) hiN
    have h2 := h1.same (w' := w') fun g e => by
      have : g = gW := by rw [ho] at e; cases e; rfl
      subst this
      exact g2 g (h.h.lt g ho) hgx hSW
    refine h2.congr fun j hj => ?_
    by_cases e : j = i
    · subst e
      rw [if_pos rfl]
      unfold whr
      rw [if_pos (by simp)]
    · rw [if_neg e]
      unfold whr
      simp [e]
  · rcases e with e | e | e
    · rcases g5 g e with q | q
      · exact hlo.2 g (.inl q)
      · exact ⟨by omega, by omega⟩
    · exact hlo.2 g (.inr (.inl e))
    · exact hlo.2 g (.inr (.inr e))
  · rcases g5 g e with q | q
    · exact h.d1 g q e2
    · have := h.b.lt g e2; omega
  · rcases g5 g e with q | q
    · exact h.d2 g q e2
    · have := h.h.lt g e2; omega
  · refine hbl g (by omega) (by omega) (fun e => ?_) (by have := (hlo.2 gW (.inr (.inr ho))).1; omega)
    have := (hlo.2 g (.inl e)).1
    omega
/-- a large one more -/
theorem SeenAt.big {w w1 w2 w' : World} {b0 px N gW i : Nat} {M : Hp} {k : Wk} {V : SeenC} {v' : Value} (h : SeenAt w b0 px M N k V) (hiN : i < N) (ho : V.vW.ownBlock = some gW) (hb0 : b0 ≤ w.heap.size)
    (s1 : Still (w.setCell ⟨gW, i, none⟩ (.int .u64 (refW M i : Nat))) w1) (hL : Line w2 30 v' (k.lin.length + 1) (fun j => if j < k.lin.length then .int .u64 (refW M (k.lin.getD j 0) : Nat) else .int .u64 (refW M i : Nat)))
    (hg : Grew 30 k.lin.length (.int .u64 (refW M i : Nat)) (w1.alloc (.cells #[.int .u64 (refW M i : Nat)] 30)) w2 V.vB v') (s2 : Still ((w2.setCell ⟨px, 1, none⟩ v').setCell ⟨px, 4, none⟩ (.int .i64 ((largeK M k + osz (ob M i) + 1 : Nat) : Int))) w') :
    SeenAt w' b0 px M N ⟨k.cop, k.lin ++ [i]⟩ ⟨V.vS, v', V.vW⟩ ∧ Below b0 w w' ∧ ∀ g, g < w.heap.size → OffV V px g → w'.heap[g]? = w.heap[g]? ∧ OffV ⟨V.vS, v', V.vW⟩ px g := by
  obtain ⟨g1, g2, g3, g4, g5, g6, g7, g8⟩ := grow_blocks s1 hg s2
  have hlo := h.lo
  have hgx : gW ≠ px := (hlo.2 gW (.inr (.inr ho))).2
  have hSx : V.vB.ownBlock ≠ some px := fun e => (hlo.2 px (.inr (.inl e))).2 rfl
  have hSW : V.vB.ownBlock ≠ some gW := fun e => h.d3 gW e ho
  have hpx := h.lt
  have hp2 := g4 hpx (Ne.symm hgx) hSx
  have hv'x : v'.ownBlock ≠ some px := fun e => by
    rcases g5 px e with q | q
    · exact hSx q
    · omega
  have hc : ∀ o, o ≠ 1 → o ≠ 4 → w'.cell? ⟨px, o, none⟩ = w.cell? ⟨px, o, none⟩ := fun o n0 n3 => by
    have e1 : w'.cell? ⟨px, o, none⟩ = ((w2.setCell ⟨px, 1, none⟩ v').setCell ⟨px, 4, none⟩ (.int .i64 ((largeK M k + osz (ob M i) + 1 : Nat) : Int))).cell? ⟨px, o, none⟩ := s2.cell _
    rw [e1, World.cell?_setCell_other _ _ _ _ (by intro e; cases e; exact n3 rfl), World.cell?_setCell_other _ _ _ _ (by intro e; cases e; exact n0 rfl)]
    simp only [World.cell?, hp2]
  have hc2 : ∀ o, w2.cell? ⟨px, o, none⟩ = w.cell? ⟨px, o, none⟩ := fun o => by simp only [World.cell?, hp2]
  have hc0 : w'.cell? ⟨px, 1, none⟩ = some v' := by
    have e1 : w'.cell? ⟨px, 1, none⟩ = ((w2.setCell ⟨px, 1, none⟩ v').setCell ⟨px, 4, none⟩ (.int .i64 ((largeK M k + osz (ob M i) + 1 : Nat) : Int))).cell? ⟨px, 1, none⟩ := s2.cell _
    rw [e1, World.cell?_setCell_other _ _ _ _ (by intro e; cases e)]
    exact World.cell?_setCell_same' w2 ⟨px, 1, none⟩ _ (by rw [hc2 1, h.c1]; rfl)
  have hc3 : w'.cell? ⟨px, 4, none⟩ = some (.int .i64 ((largeK M k + osz (ob M i) + 1 : Nat) : Int)) := by
    have e1 : w'.cell? ⟨px, 4, none⟩ = ((w2.setCell ⟨px, 1, none⟩ v').setCell ⟨px, 4, none⟩ (.int .i64 ((largeK M k + osz (ob M i) + 1 : Nat) : Int))).cell? ⟨px, 4, none⟩ := s2.cell _
    rw [e1]
    exact World.cell?_setCell_same' _ ⟨px, 4, none⟩ _ (by rw [World.cell?_setCell_other _ _ _ _ (by intro e; cases e), hc2 4, h.c4]; rfl)
  have hbl : ∀ g, g < w.heap.size → g ≠ px → V.vB.ownBlock ≠ some g → g ≠ gW → w'.heap[g]? = w.heap[g]? := fun g a b c d => by rw [g2 g a b c, setCell_else _ _ _ _ _ d]
  refine ⟨⟨(hc 0 (by decide) (by decide)).trans h.c0, hc0, (hc 2 (by decide) (by decide)).trans h.c2, (hc 3 (by decide) (by decide)).trans h.c3, by rw [hc3, large_app], fun o ho => ?_, ?_, ?_, ?_, ⟨hlo.1, fun g e => ?_⟩, fun g e e2 => ?_, h.d2, fun g e e2 => ?_⟩, ⟨g6, g7, g8, g1, fun g hg' => ?_⟩, fun g hl hO => ⟨hbl g hl hO.1 hO.2.2.1 (fun e => hO.2.2.2 (by rw [e]; exact ho)), hO.1, hO.2.1, (fun e => by rcases g5 g e with z | z; exact hO.2.2.1 z; omega), hO.2.2.2⟩⟩
  · have e1 : w'.frozen? ⟨px, o, none⟩ = ((w2.setCell ⟨px, 1, none⟩ v').setCell ⟨px, 4, none⟩ (.int .i64 ((largeK M k + osz (ob M i) + 1 : Nat) : Int))).frozen? ⟨px, o, none⟩ := by simp only [World.frozen?, s2.heap]
    rw [e1, World.frozen?_setCell, World.frozen?_setCell, ← h.fz o ho]
    simp only [World.frozen?, hp2]
  · exact h.s.same fun g e => hbl g (h.s.lt g e) (hlo.2 g (.inl e)).2 (fun q => h.d1 g e q) (fun q => h.d2 g e (by rw [q]; exact ho))
  · have := (hL.same (w' := w') fun g e => g3 g (fun q => hv'x (by rw [← q]; exact e))).congr (fun j hj => app_get M k.lin i j hj)
    simpa using this
  · have h1 := h.h.put ho i (.int .u64 (refW M i : Nat)) hiN
    have h2 := h1.same (w' := w') fun g e => by
      have : g = gW := by rw [ho] at e; cases e; rfl
      subst this
      exact g2 g (h.h.lt g ho) hgx hSW
    refine h2.congr fun j hj => ?_
    by_cases e : j = i
    · subst e
      rw [if_pos rfl]
      unfold whr
      rw [if_pos (by simp)]
    · rw [if_neg e]
      unfold whr
      simp [e]
  · rcases e with e | e | e
    · exact hlo.2 g (.inl e)
    · rcases g5 g e with q | q
      · exact hlo.2 g (.inr (.inl q))
      · exact ⟨by omega, by omega⟩
    · exact hlo.2 g (.inr (.inr e))
  · rcases g5 g e2 with q | q
    · exact h.d1 g e q
    · have := h.s.lt g e; omega
  · rcases g5 g e with q | q
    · exact h.d3 g q e2
    · have := h.h.lt g e2; omega
  · refine hbl g (by omega) (by omega) (fun e => ?_) (by have := (hlo.2 gW (.inr (.inr ho))).1; omega)
    have := (hlo.2 g (.inr (.inl e))).1
    omega
theorem Inv.nobj {ps ph lim n : Nat} {k : Kp} {M : Hp} {w : World} (h : Inv ps ph lim n k M w) : M.objs.length ≤ n + 1 := by
  obtain ⟨tag, st, H, ns, C, last, b, bd⟩ := h
  exact bd.ob

theorem Inv.nodeL {ps ph lim n : Nat} {k : Kp} {M : Hp} {w : World} (h : Inv ps ph lim n k M w) {i : Nat} (hi : Is M i) : ∃ gN cN ar cr aw cw, w.cell? ⟨ps, 1, none⟩ = some (.slice (some ⟨gN, 0, none⟩) M.objs.length cN) ∧ w.cell? ⟨gN, i * 3 + 1, none⟩ = some (.slice ar (ob M i).refs.length cr) ∧ w.cell? ⟨gN, i * 3 + 2, none⟩ = some (.slice aw (ob M i).raws.length cw) ∧ i < M.objs.length := by
  obtain ⟨tag, st, H, ns, C, last, b, bd⟩ := h
  have hl := b.he.wf.ln i hi
  have hd := b.gr.dt i hi
  obtain ⟨gN, cN, ar, cr, aw, cw, _, e1, _, _, e2, e3⟩ := b.sh.nodeAt (i := i) (by rw [b.gr.ln]; exact hl)
  rw [hd] at e2 e3
  rw [b.gr.ln] at e1
  exact ⟨gN, cN, ar, cr, aw, cw, e1, e2, e3, hl⟩
/-- reach, over what is seen -/
theorem reach_any {ps ph lim n px : Nat} {kk : Kp} {M : Hp} {w0 w : World} (iv : Inv ps ph lim n kk M w0) (q : Below w0.heap.size w0 w) {k : Wk} {V : SeenC} (h : SeenAt w w0.heap.size px M M.objs.length k V) (p : Pu M k) (hn : n ≤ 10000) {i : Nat} (hi : i = 0 ∨ Is M i) :
    Calls Tryz.prog 36 #[.pointer (some ⟨px, 0, none⟩), .pointer (some ⟨ps, 0, none⟩), .int .u64 (refW M i : Nat), .int .i64 (i : Nat)] w fun e w' => e = .returned (.bool true) ∧ Below w0.heap.size w0 w' ∧ ∃ V', SeenAt w' w0.heap.size px M M.objs.length (reachW M k i) V' ∧ ∀ g, g < w.heap.size → OffV V px g → w'.heap[g]? = w.heap[g]? ∧ OffV V' px g := by
  obtain ⟨wf, hlim, _, _⟩ := iv.wf
  have hob := iv.nobj
  have ok := wf.ok
  by_cases h0 : i = 0
  · subst h0
    refine (reach_none w).mono fun e w' ⟨e1, s⟩ => ⟨e1, q.trans (s.below.mono q.size), V, ?_, fun g _ o => ⟨by rw [s.heap], o⟩⟩
    unfold reachW
    rw [if_pos (.inl rfl)]
    exact h.below s.below
  · have hI := hi.resolve_left h0
    obtain ⟨gN, cN, ar, cr, aw, cw, x1, y1, y2, hl⟩ := iv.nodeL hI
    by_cases hs : i ∈ k.cop ∨ i ∈ k.lin
    · refine (reach_seen h ok p.all (by omega) hs hl).mono fun e w' ⟨e1, s⟩ => ⟨e1, q.trans (s.below.mono q.size), V, ?_, fun g _ o => ⟨by rw [s.heap], o⟩⟩
      unfold reachW
      rw [if_pos (.inr hs)]
      exact h.below s.below
    · obtain ⟨gW, cW, ev, ho, hc⟩ := h.h.at (by omega)
      have e0 := hc i hl
      rw [show whr M k i = 0 by unfold whr; rw [if_neg hs]] at e0
      have c2 := h.c2
      rw [ev] at c2
      have hlo := h.lo
      have hgW := hlo.2 gW (.inr (.inr ho))
      have hps := block_lt_of_cell x1
      have hgN := block_lt_of_cell y1
      dsimp only at hps hgN
      have l := p.lens
      have hsml : M.small.length ≤ 1000000 := by
        have h1 := ok.us
        have h2 := place_all M M.small
        have h3 := ok.u2; have h4 := wf.lm; have h5 := wf.l2
        have h6 : M.small.length ≤ (M.small.map fun i => osz (ob M i)).sum := by
          have : ∀ l : List Nat, l.length ≤ (l.map fun i => osz (ob M i)).sum := fun l => by
            induction l with
            | nil => simp
            | cons a l ih => simp only [List.map_cons, List.sum_cons, List.length_cons]; have := (show 1 ≤ osz (ob M a) by unfold osz; omega); omega
          exact this _
        omega
      have hwd := words_le ok p
      have hlg := large_le wf p
      have hu := ok.u2; have h2 := ok.h2; have hlm := wf.lm; have hl2 := wf.l2; have hsl := ok.sl
      have hnb : ¬ (i = 0 ∨ i ∈ k.cop ∨ i ∈ k.lin) := fun e => e.elim h0 hs
      have cx1 := (q.cell (p := ⟨ps, 1, none⟩) hps).trans x1
      have cy1 := (q.cell (p := ⟨gN, i * 3 + 1, none⟩) hgN).trans y1
      have cy2 := (q.cell (p := ⟨gN, i * 3 + 2, none⟩) hgN).trans y2
      have hneS : ∀ j, j < k.cop.length → refW M (k.cop.getD j 0) ≠ refW M i := fun j hj e => by
        have hm : k.cop.getD j 0 ∈ k.cop := by rw [List.getD_eq_getElem?_getD, List.getElem?_eq_getElem hj]; exact List.getElem_mem hj
        exact hs (.inl (ref_inj ok (p.all _ (.inl hm)) hI e ▸ hm))
      have hneB : ∀ j, j < k.lin.length → refW M (k.lin.getD j 0) ≠ refW M i := fun j hj e => by
        have hm : k.lin.getD j 0 ∈ k.lin := by rw [List.getD_eq_getElem?_getD, List.getElem?_eq_getElem hj]; exact List.getElem_mem hj
        exact hs (.inr (ref_inj ok (p.all _ (.inr hm)) hI e ▸ hm))
      by_cases hbg : (ob M i).big = true
      · have hsl2 : i ∈ M.slots := by
          rcases hI with z | z
          · exact absurd hbg (by rw [(ok.s1 i z).2.1]; decide)
          · exact z.2
        have hsz := wf.sb i h0 hsl2
        have hz2 : osz (ob M i) ≤ 100000000 := by
          have := sum_sub (fun i => if i = 0 then 0 else 1 + osz (ob M i)) [i] M.slots (by simp) (fun x hx => by rw [List.mem_singleton.1 hx]; exact hsl2)
          have hg := wf.lg
          unfold lgOf at hg
          simp [h0] at this
          omega
        unfold osz at hsz hz2
        refine (reach_big (fun j => refW M (k.cop.getD j 0)) (fun j => refW M (k.lin.getD j 0)) h.c0 h.c1 c2 h.c4 h.fz h.s h.b e0.1 e0.2 cx1 cy1 cy2 h0 hl hl (num_back ok hI).2.2 hneS hneB hsz hz2 (by omega) (by omega) (by omega) (by omega) hgW.2 (fun e => (hlo.2 px (.inr (.inl e))).2 rfl) (fun e => h.d3 gW e ho) (by omega) (by omega) (by omega) (by omega)).mono ?_
        rintro e w' ⟨rfl, w1, w2, v', s1, hL, hg, s2⟩
        obtain ⟨a1, a2, a3⟩ := h.big hl ho q.size s1 hL hg s2
        refine ⟨rfl, q.trans a2, ⟨V.vS, v', V.vW⟩, ?_, a3⟩
        unfold reachW
        rw [if_neg hnb, if_pos hbg]
        exact a1
      · have hsm : i ∈ M.small := by
          rcases hI with z | ⟨_, z⟩
          · exact z
          · obtain ⟨s, _, e⟩ := mem_slot z
            exact absurd (by have := (ok.b1 s (by rw [e]; exact h0)).1; rw [e] at this; exact this) hbg
        have hsz := wf.ss i hsm
        unfold osz at hsz
        refine (reach_small (fun j => refW M (k.cop.getD j 0)) (fun j => refW M (k.lin.getD j 0)) h.c0 h.c1 c2 h.c3 h.fz h.s h.b e0.1 e0.2 cx1 cy1 cy2 h0 hl hl (num_back ok hI).2.2 hneS hneB hsz (by omega) (by omega) (by omega) (by omega) hgW.2 (fun e => (hlo.2 px (.inl e)).2 rfl) (fun e => h.d2 gW e ho) (by omega) (by omega) (by omega) (by omega)).mono ?_
        rintro e w' ⟨rfl, w1, w2, v', s1, hL, hg, s2⟩
        obtain ⟨a1, a2, a3⟩ := h.small hl ho q.size s1 hL hg s2
        refine ⟨rfl, q.trans a2, ⟨v', V.vB, V.vW⟩, ?_, a3⟩
        unfold reachW
        rw [if_neg hnb, if_neg hbg]
        exact a1
end Go.Proofs.YtidfllgaeiopjaaGreat
namespace Go.Proofs.YtidfllgaeiopjaaGreat
open Go.ChangeShapes Go.WideShapes Go.ChangeAt Go.RowKit
set_option linter.unusedVariables false
set_option linter.unusedSimpArgs false
set_option maxRecDepth 100000
set_option maxHeartbeats 1000000

/-- a node of the shadow's that is there: its three cells and its rows -/
structure NodeM (w : World) (ps : Nat) (M : Hp) (i gN cN : Nat) (ar aw : Option Addr) (cr cw : Nat) : Prop where
  x1 : w.cell? ⟨ps, 1, none⟩ = some (.slice (some ⟨gN, 0, none⟩) M.objs.length cN)
  y0 : w.cell? ⟨gN, i * 3, none⟩ = some (.int .i64 ((ob M i).kind : Nat))
  y1 : w.cell? ⟨gN, i * 3 + 1, none⟩ = some (.slice ar (ob M i).refs.length cr)
  y2 : w.cell? ⟨gN, i * 3 + 2, none⟩ = some (.slice aw (ob M i).raws.length cw)
  rf : ∀ j, j < (ob M i).refs.length → ∃ g, ar = some ⟨g, 0, none⟩ ∧ w.cell? ⟨g, j, none⟩ = some (.int .i64 ((ob M i).refs.getD j 0 : Nat))
  rw : ∀ j, j < (ob M i).raws.length → ∃ g, aw = some ⟨g, 0, none⟩ ∧ w.cell? ⟨g, j, none⟩ = some (.int .u64 ((ob M i).raws.getD j 0 : Nat))
  lt : i < M.objs.length
theorem Inv.nodeM {ps ph lim n : Nat} {k : Kp} {M : Hp} {w : World} (h : Inv ps ph lim n k M w) {i : Nat} (hi : Is M i) : ∃ gN cN ar aw cr cw, NodeM w ps M i gN cN ar aw cr cw := by
  obtain ⟨tag, st, H, ns, C, last, b, bd⟩ := h
  have hl := b.he.wf.ln i hi
  have hd := b.gr.dt i hi
  have hl' : i < ns.length := by rw [b.gr.ln]; exact hl
  obtain ⟨gN, cN, ar, cr, aw, cw, _, e1, er, ew, e2, e3⟩ := b.sh.nodeAt (i := i) hl'
  obtain ⟨g', c', hv, _, hc⟩ := b.sh.nd.at (by omega)
  have h1 := b.sh.rf i hl'
  have h2 := b.sh.rw i hl'
  have c1 := b.sh.c1
  rw [e1] at c1
  have hcv := Option.some.inj c1
  rw [hv] at hcv
  have eg : g' = gN := by cases hcv; rfl
  subst eg
  have e0 := (hc (i * 3) (by omega)).1
  unfold ndCell ndField at e0
  rw [show i * 3 / 3 = i by omega, show i * 3 % 3 = 0 by omega, if_pos rfl] at e0
  rw [er] at h1
  rw [ew] at h2
  rw [hd] at e0 e2 e3 h1 h2
  rw [b.gr.ln] at e1
  refine ⟨_, _, _, _, _, _, e1, e0, e2, e3, fun j hj => ?_, fun j hj => ?_, hl⟩
  · obtain ⟨g, cap, z1, _, z3⟩ := h1.at (Nat.lt_of_le_of_lt (Nat.zero_le _) hj)
    cases z1
    exact ⟨g, rfl, (z3 j hj).1⟩
  · obtain ⟨g, cap, z1, _, z3⟩ := h2.at (Nat.lt_of_le_of_lt (Nat.zero_le _) hj)
    cases z1
    exact ⟨g, rfl, (z3 j hj).1⟩
theorem NodeM.below {w w' : World} {ps i gN cN : Nat} {M : Hp} {ar aw : Option Addr} {cr cw : Nat} (h : NodeM w ps M i gN cN ar aw cr cw) (q : Below w.heap.size w w') : NodeM w' ps M i gN cN ar aw cr cw := by
  have t : ∀ {a : Addr} {v : Value}, w.cell? a = some v → w'.cell? a = some v := fun {a v} e => (q.cell (p := a) (block_lt_of_cell e)).trans e
  exact ⟨t h.x1, t h.y0, t h.y1, t h.y2, fun j hj => by obtain ⟨g, e, z⟩ := h.rf j hj; exact ⟨g, e, t z⟩, fun j hj => by obtain ⟨g, e, z⟩ := h.rw j hj; exact ⟨g, e, t z⟩, h.lt⟩
theorem obj_ref {M : Hp} (ok : HpOk M) {i : Nat} (hI : Is M i) : objM M (refW M i) = ((ob M i).kind, (ob M i).refs.length, (ob M i).raws.length, 0) := by
  unfold objM
  rw [(num_back ok hI).1, if_neg (is_pos ok hI)]
theorem get_ref {M : Hp} (ok : HpOk M) {i : Nat} (hI : Is M i) {j : Nat} (hj : j < (ob M i).refs.length) : getM M (refW M i) (j : Int) = (refW M ((ob M i).refs.getD j 0), 0) := by
  unfold getM
  rw [(num_back ok hI).1, if_neg (is_pos ok hI), if_pos ⟨by omega, by unfold fldM; simp; omega⟩]
  unfold fldM
  simp only [Int.toNat_natCast, List.getD_eq_getElem?_getD]
  rw [List.getElem?_append_left (by simpa using hj), List.getElem?_map, List.getElem?_eq_getElem hj]
  rfl
theorem get_raw {M : Hp} (ok : HpOk M) {i : Nat} (hI : Is M i) {j : Nat} (hj : j < (ob M i).raws.length) : getM M (refW M i) (((ob M i).refs.length : Int) + (j : Int)) = ((ob M i).raws.getD j 0, 0) := by
  unfold getM
  rw [(num_back ok hI).1, if_neg (is_pos ok hI), if_pos ⟨by omega, by unfold fldM; simp; omega⟩]
  unfold fldM
  have e : (((ob M i).refs.length : Int) + (j : Int)).toNat = (ob M i).refs.length + j := by omega
  rw [e]
  simp only [List.getD_eq_getElem?_getD]
  rw [List.getElem?_append_right (by simp)]
  simp
end Go.Proofs.YtidfllgaeiopjaaGreat
namespace Go.Proofs.YtidfllgaeiopjaaGreat
open Go.ChangeShapes Go.WideShapes Go.ChangeAt Go.RowKit
set_option linter.unusedVariables false
set_option linter.unusedSimpArgs false
set_option maxRecDepth 100000
set_option maxHeartbeats 1000000

theorem take_more {l : List Nat} (i : Nat) (h : i < l.length) : l.take (i + 1) = l.take i ++ [l.getD i 0] := by
  rw [List.take_succ_eq_append_getElem h, List.getD_eq_getElem?_getD, List.getElem?_eq_getElem h]; rfl
theorem Inv.object {ps ph lim n : Nat} {k : Kp} {M : Hp} {w : World} (h : Inv ps ph lim n k M w) (x : Nat) (hx : x < 18446744073709551616) :
    Calls Tryz.prog 45 #[.pointer (some ⟨ph, 0, none⟩), .int .u64 (x : Nat)] w fun e w' => e = .returned (.tuple #[.int .i64 ((objM M x).1 : Nat), .int .i64 ((objM M x).2.1 : Nat), .int .i64 ((objM M x).2.2.1 : Nat), .int .i64 ((objM M x).2.2.2 : Nat)]) ∧ Below w.heap.size w w' := by
  obtain ⟨tag, st, H, ns, C, last, b, bd⟩ := h
  exact hobject_any b.he x hx
end Go.Proofs.YtidfllgaeiopjaaGreat
namespace Go.Proofs.YtidfllgaeiopjaaGreat
open Go.ChangeShapes Go.WideShapes Go.ChangeAt Go.RowKit
set_option linter.unusedVariables false
set_option linter.unusedSimpArgs false
set_option maxRecDepth 100000
set_option maxHeartbeats 2000000

/-- the image's words: 0, then of each object its header and its fields -/
structure ImgP (M : Hp) : Prop where
  z : 0 < M.used ∧ (imgM M).getD 0 0 = 0
  h : ∀ j, j < M.small.length → (imgM M).getD (place (shapes M M.small) j) 0 = (ob M (M.small.getD j 0)).kind + 256 * (ob M (M.small.getD j 0)).refs.length + 4294967296 * (ob M (M.small.getD j 0)).raws.length
  f : ∀ j k, j < M.small.length → k < (fldM M (M.small.getD j 0)).length → (imgM M).getD (place (shapes M M.small) j + 1 + k) 0 = (fldM M (M.small.getD j 0)).getD k 0
theorem Inv.get {ps ph lim n : Nat} {k : Kp} {M : Hp} {w : World} (h : Inv ps ph lim n k M w) (x : Nat) (hx : x < 18446744073709551616) (i : Int) :
    Calls Tryz.prog 29 #[.pointer (some ⟨ph, 0, none⟩), .int .u64 (x : Nat), .int .i64 i] w fun e w' => e = .returned (.tuple #[.int .u64 ((getM M x i).1 : Nat), .int .i64 ((getM M x i).2 : Nat)]) ∧ Below w.heap.size w w' := by
  obtain ⟨tag, st, H, ns, C, last, b, bd⟩ := h
  exact hget_any b.he x hx i
end Go.Proofs.YtidfllgaeiopjaaGreat
