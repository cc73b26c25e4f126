/- HeapRoomy: the law. -/
import Derived.Test.YtidfllgaeiopjaaGreatRmB
import Derived.Test.YtidfllgaeiopjaaGreatLkC
import Derived.Test.YtidfllgaeiopjaaGreatUntil
import Derived.Deep.DeepCutAuto
import Derived.Deep.RegionHeld3
namespace Go.Proofs.YtidfllgaeiopjaaGreat
open Go.ChangeShapes Go.WideShapes Go.ChangeAt Go.RowKit
set_option linter.unusedVariables false
set_option linter.unusedSimpArgs false
set_option maxRecDepth 100000
set_option maxHeartbeats 2000000

theorem small_len {M : Hp} (wf : HpWf M) : M.small.length ≤ 1000000 := by
  have ok := wf.ok
  have h1 := ok.us
  have h2 := place_all M M.small
  have h3 := ok.u2; have h4 := wf.lm; have h5 := wf.l2; have h7 := ok.h2
  have h6 : M.small.length ≤ (M.small.map fun i => osz (ob M i)).sum := by
    have : ∀ l : List Nat, l.length ≤ (l.map fun i => osz (ob M i)).sum := fun l => by
      induction l with
      | nil => simp
      | cons a l ih => simp only [List.map_cons, List.sum_cons, List.length_cons]; have := (show 1 ≤ osz (ob M a) by unfold osz; omega); omega
    exact this _
  omega
theorem Inv.hands {ps ph lim n : Nat} {k : Kp} {M : Hp} {w : World} (h : Inv ps ph lim n k M w) (hn : n ≤ 10000) : 1 ≤ M.objs.length ∧ M.roots.length ≤ 100000 ∧ ∃ aN cN aH cH, w.cell? ⟨ps, 1, none⟩ = some (.slice aN M.objs.length cN) ∧ w.cell? ⟨ps, 2, none⟩ = some (.slice aH M.roots.length cH) ∧ ∀ j, j < M.roots.length → ∃ g, aH = some ⟨g, 0, none⟩ ∧ w.cell? ⟨g, j, none⟩ = some (.int .i64 (hval (M.roots.getD j none))) := by
  obtain ⟨tag, st, H, ns, C, last, b, bd⟩ := h
  have hrt := bd.rt
  obtain ⟨aN, cN, eN⟩ := b.sh.nd.shape
  obtain ⟨aH, cH, eH⟩ := b.sh.hn.shape
  refine ⟨bd.o1, by omega, aN, cN, aH, cH, ?_, ?_, fun j hj => ?_⟩
  · rw [b.sh.c1, eN, b.gr.ln]
  · rw [b.sh.c2, eH]
  · obtain ⟨g, cap, ev, _, hc⟩ := b.sh.hn.at (by omega)
    rw [eH] at ev
    cases ev
    exact ⟨g, rfl, (hc j hj).1⟩
theorem Inv.at {ps ph lim n : Nat} {k : Kp} {M : Hp} {w : World} (h : Inv ps ph lim n k M w) (hn : n ≤ 10000) {m i : Nat} (hm : m < M.roots.length) (hi : M.roots.getD m none = some i) :
    Calls Tryz.prog 28 #[.pointer (some ⟨ph, 0, none⟩), .int .i64 ((m : Int) + 1)] w fun e w' => e = .returned (.tuple #[.int .u64 (refW M i : Nat), .int .i64 0]) ∧ Below w.heap.size w w' := by
  obtain ⟨tag, st, H, ns, C, last, b, bd⟩ := h
  have hrt := bd.rt
  exact at_held b.he (by omega) hm hi
theorem getD_mem0 {l : List Nat} {j : Nat} (h : j < l.length) : l.getD j 0 ∈ l := by
  rw [List.getD_eq_getElem?_getD, List.getElem?_eq_getElem h]
  exact List.getElem_mem h
theorem seen_any {ps ph lim n : Nat} {kk : Kp} {M : Hp} {w0 : World} (iv : Inv ps ph lim n kk M w0) (hn : n ≤ 10000) :
    Calls Tryz.prog 13 #[.pointer (some ⟨ps, 0, none⟩)] w0 fun e w' => ∃ px t, e = .returned (.tuple #[.pointer (some ⟨px, 0, none⟩), .bool true]) ∧ LkS w0 px M t.k w' ∧ Star M (stR M M.roots.length) t ∧ stepW M t = none := by
  have wf := iv.wf.1
  have ok := wf.ok
  have hob := iv.nobj
  have hsml := small_len wf
  have hsl := ok.sl
  obtain ⟨ho1, hrt, aN, cN, aH, cH, x1, x2, xh⟩ := iv.hands hn
  have x0 := iv.c0
  have mk1 := fun w' => run_make_row' (P := Tryz.prog) 44 30 (.int .u64 0) 8 Tryz.underlying44 Tryz.info30 rfl .i64 .i64 M.objs.length (by omega) (by omega) w'
  have HB : Hid (LkS w0 (w0.heap.size + 1) M (rootsW M 0) ((w0.alloc (.cells (madeCells #[.int .u64 0] M.objs.length) 30 (0, 0))).alloc (.cells #[.slice none 0 0, .slice none 0 0, .slice (some ⟨w0.heap.size, 0, none⟩) M.objs.length M.objs.length, .int .i64 1, .int .i64 0] 73))) := hide (seen_new w0 M (by omega) (by omega))
  have HI : ∀ px k W, Hid (LkS w0 px M k W) → Inv ps ph lim n kk M W := fun px k W h => by
    obtain ⟨V, h1, _⟩ := unhide h
    exact iv.still h1
  have HC : Hid (∀ px k W, Hid (LkS w0 px M k W) → W.cell? ⟨ps, 0, none⟩ = some (.pointer (some ⟨ph, 0, none⟩)) ∧ W.cell? ⟨ps, 2, none⟩ = some (.slice aH M.roots.length cH)) := hide (fun px k W h => by
    obtain ⟨V, h1, _⟩ := unhide h
    exact ⟨(iv.still h1).c0, (h1.cell (p := ⟨ps, 2, none⟩) (block_lt_of_cell x2)).trans x2⟩)
  have HH : Hid (∀ px k W j, j < M.roots.length → Hid (LkS w0 px M k W) → ∃ g, aH = some ⟨g, 0, none⟩ ∧ W.cell? ⟨g, j, none⟩ = some (.int .i64 (hval (M.roots.getD j none)))) := hide (fun px k W j hj h => by
    obtain ⟨V, h1, _⟩ := unhide h
    obtain ⟨g, e, c⟩ := xh j hj
    exact ⟨g, e, (h1.cell (p := ⟨g, j, none⟩) (block_lt_of_cell c)).trans c⟩)
  have H28 : Hid (∀ px k W j i, j < M.roots.length → M.roots.getD j none = some i → Hid (LkS w0 px M k W) → Calls Tryz.prog 28 #[.pointer (some ⟨ph, 0, none⟩), .int .i64 ((j : Int) + 1)] W fun e w' => e = .returned (.tuple #[.int .u64 (refW M i : Nat), .int .i64 0]) ∧ Hid (LkS w0 px M k w')) := hide (fun px k W j i hj hi h => (Inv.at (HI px k W h) hn hj hi).mono fun e w' ⟨e1, e2⟩ => ⟨e1, hide ((unhide h).below e2)⟩)
  have H36 : Hid (∀ px k W j i, j < M.roots.length → M.roots.getD j none = some i → Hid (LkS w0 px M k W) → Calls Tryz.prog 36 #[.pointer (some ⟨px, 0, none⟩), .pointer (some ⟨ps, 0, none⟩), .int .u64 (refW M i : Nat), .int .i64 (i : Nat)] W fun e w' => e = .returned (.bool true) ∧ Hid (LkS w0 px M (reachW M k i) w')) := hide (fun px k W j i hj hi h => (LkS.reach iv hn (unhide h) (root_is ok hj hi)).mono fun e w' ⟨e1, e2⟩ => ⟨e1, hide e2⟩)
  have H37 : Hid (∀ px k W i, (i ∈ k.cop ∨ i ∈ k.lin) → Hid (LkS w0 px M k W) → Calls Tryz.prog 37 #[.pointer (some ⟨px, 0, none⟩), .int .u64 (refW M i : Nat)] W fun e w' => e = .returned (.int .i64 (i : Nat)) ∧ Hid (LkS w0 px M k w')) := hide (fun px k W i hi h => (LkS.node iv hn (unhide h) hi).mono fun e w' ⟨e1, e2⟩ => ⟨e1, hide e2⟩)
  have H38 : Hid (∀ px k W i, (i ∈ k.cop ∨ i ∈ k.lin) → Hid (LkS w0 px M k W) → Calls Tryz.prog 38 #[.pointer (some ⟨px, 0, none⟩), .pointer (some ⟨ps, 0, none⟩), .int .i64 (i : Nat)] W fun e w' => e = .returned (.bool true) ∧ Hid (LkS w0 px M (lookW M k i) w')) := hide (fun px k W i hi h => (LkS.same iv hn (unhide h) hi).mono fun e w' ⟨e1, e2⟩ => ⟨e1, hide e2⟩)
  have HX : Hid (∀ px k W, Hid (LkS w0 px M k W) → (k.cop.length ≤ M.small.length ∧ k.lin.length ≤ M.slots.length) ∧ ∃ aS cS aB cB, W.cell? ⟨px, 0, none⟩ = some (.slice aS k.cop.length cS) ∧ W.cell? ⟨px, 1, none⟩ = some (.slice aB k.lin.length cB) ∧ (∀ j, j < k.cop.length → ∃ g, aS = some ⟨g, 0, none⟩ ∧ W.cell? ⟨g, j, none⟩ = some (.int .u64 (refW M (k.cop.getD j 0) : Nat))) ∧ ∀ j, j < k.lin.length → ∃ g, aB = some ⟨g, 0, none⟩ ∧ W.cell? ⟨g, j, none⟩ = some (.int .u64 (refW M (k.lin.getD j 0) : Nat))) := hide (fun px k W h => by
    obtain ⟨V, h1, h2, h3⟩ := unhide h
    obtain ⟨aS, cS, eS⟩ := h2.s.shape
    obtain ⟨aB, cB, eB⟩ := h2.b.shape
    refine ⟨h3.lens, aS, cS, aB, cB, by rw [h2.c0, eS], by rw [h2.c1, eB], fun j hj => ?_, fun j hj => ?_⟩
    · obtain ⟨g, cap, ev, _, hc⟩ := h2.s.at (by omega)
      rw [eS] at ev
      cases ev
      exact ⟨g, rfl, (hc j hj).1⟩
    · obtain ⟨g, cap, ev, _, hc⟩ := h2.b.at (by omega)
      rw [eB] at ev
      cases ev
      exact ⟨g, rfl, (hc j hj).1⟩)
  have HP : Hid (∀ px k W i, (i ∈ k.cop ∨ i ∈ k.lin) → Hid (LkS w0 px M k W) → i ≠ 0) := hide (fun px k W i hi h => by
    obtain ⟨V, h1, h2, h3⟩ := unhide h
    exact is_pos ok (h3.all i hi))
  have HR : Hid (∀ j, rootsW M (j + 1) = match M.roots.getD j none with | none => rootsW M j | some i => reachW M (rootsW M j) i) := hide (fun j => rootsW_succ M j)
  generalize hnr : M.roots.length = nR at *
  generalize hno : M.objs.length = nO at *
  clear iv wf ok hob xh HI hnr hno
  go_enter Tryz.func13, Tryz.ntmps13
  go_wp2_with fail
  clear x0 x1 x2 mk1
  generalize hpx : w0.heap.size + 1 = px at *
  generalize hW1 : World.alloc (World.alloc w0 _) _ = W1 at *
  clear hpx hW1
  go_loopw [5] (fun iv wr => ∃ i : Nat, iv = .int .i64 (i : Nat) ∧ i ≤ nR ∧ Hid (LkS w0 px M (rootsW M i) wr)) (fun iv _ => nR - (intOf iv).toNat)
  case atStart => exact ⟨0, rfl, Nat.zero_le _, HB⟩
  case round =>
    clear HB
    obtain ⟨j, rfl, hj, hL⟩ := hrel
    obtain ⟨c0, c2⟩ := unhide HC _ _ _ hL
    have w1 : IntKind.i64.wrap ((j : Int) + 1) = (j : Int) + 1 := wrap_small _ (by omega) (by omega)
    by_cases hjn : j < nR
    · have dl : decide ((j : Int) < (nR : Nat)) = true := decide_eq_true (by omega)
      have i1 : (0 : Int) ≤ (j : Nat) := by omega
      have i2 : (j : Int) < (nR : Nat) := by omega
      obtain ⟨g, rfl, e0⟩ := unhide HH _ _ _ j hjn hL
      have hrj := unhide HR j
      cases ho : M.roots.getD j none with
      | none =>
        rw [ho] at e0 hrj
        have e0' : wr.cell? ⟨g, j, none⟩ = some (.int .i64 (-1)) := e0
        have hL' : Hid (LkS w0 px M (rootsW M (j + 1)) wr) := by rw [hrj]; exact hL
        clear e0 hrj ho hL
        go_wp2_with fail
        all_goals go_roundw
        all_goals first | exact ⟨j + 1, by simp, by omega, hL'⟩ | (simp [intOf]; omega)
      | some r =>
        rw [ho] at e0 hrj
        have e0' : wr.cell? ⟨g, j, none⟩ = some (.int .i64 (r : Nat)) := e0
        have d0 : decide ((r : Int) < 0) = false := decide_eq_false (by omega)
        have h28 := hide (unhide H28 px _ wr j r hjn ho hL)
        have h36 := hide (fun W hW => unhide H36 px (rootsW M j) W j r hjn ho hW)
        have hH := hide (fun W hW => unhide HH px (rootsW M j) W j hjn hW)
        have HJ := hide hrj
        rw [ho] at hH
        clear e0 hrj hL ho
        go_wp2_with fail
        refine (unhide h28).mono ?_
        rintro e w3 ⟨rfl, hL3⟩
        obtain ⟨c0, c2⟩ := unhide HC _ _ _ hL3
        obtain ⟨g', eg, e0⟩ := unhide hH _ hL3
        cases eg
        have e0' : w3.cell? ⟨g, j, none⟩ = some (.int .i64 (r : Nat)) := e0
        clear e0 h28
        go_wp2_with fail
        refine (unhide h36 _ hL3).mono ?_
        rintro e w4 ⟨rfl, hL4⟩
        clear h36 c0 c2 e0' hL3
        rw [← unhide HJ] at hL4
        go_wp2_with fail
        all_goals go_roundw
        all_goals first | exact ⟨j + 1, by simp, by omega, hL4⟩ | (simp [intOf]; omega)
    · have hje : j = nR := by omega
      subst hje
      have dl : decide ((j : Int) < (j : Nat)) = false := decide_eq_false (by omega)
      go_wp2_with fail
      clear dl c0 c2 HH H28 H36 HR w1
      rename World => wo
      go_loopw [8, 9] (fun av bv wr => ∃ t : St, av = .int .i64 (t.a : Nat) ∧ bv = .int .i64 (t.b : Nat) ∧ Hid (Star M (stR M j) t ∧ Cl M t) ∧ Hid (LkS w0 px M t.k wr)) (fun av bv _ => M.small.length + M.slots.length - ((intOf av).toNat + (intOf bv).toNat))
      case atStart => exact ⟨stR M j, rfl, rfl, hide ⟨Star.refl _, cl_start M j⟩, hL⟩
      case round =>
        clear hL
        obtain ⟨⟨k, a, b⟩, rfl, rfl, hS, hL⟩ := hrel
        dsimp only at hL
        obtain ⟨⟨l1, l2⟩, aS, cS, aB, cB, c0, c1, hs, hb⟩ := unhide HX _ _ _ hL
        obtain ⟨hst, hcl⟩ := unhide hS
        have hca := hcl.1
        have hcb := hcl.2.1
        dsimp only at hca hcb
        by_cases hA : a < k.cop.length
        · obtain ⟨g, rfl, e0⟩ := hs a hA
          have hmem := getD_mem0 hA
          have dA : decide ((a : Int) < (k.cop.length : Nat)) = true := decide_eq_true (by omega)
          have i1 : (0 : Int) ≤ (a : Nat) := by omega
          have i2 : (a : Int) < (k.cop.length : Nat) := by omega
          have w1 : IntKind.i64.wrap ((a : Int) + 1) = (a : Int) + 1 := wrap_small _ (by omega) (by omega)
          obtain ⟨r, hr⟩ : ∃ r, k.cop.getD a 0 = r := ⟨_, rfl⟩
          rw [hr] at e0 hmem
          have h37 := hide (unhide H37 px k wr r (.inl hmem) hL)
          have h38 := hide (fun W hW => unhide H38 px k W r (.inl hmem) hW)
          have hr0 := unhide HP px k wr r (.inl hmem) hL
          have d0 : ((r : Int) == 0) = false := by simp; omega
          have d0' : ((r : Int) = 0) = False := by simp; omega
          have hstep : stepW M ⟨k, a, b⟩ = some ⟨lookW M k r, a + 1, b⟩ := by unfold stepW; rw [if_pos hA, hr]
          have HN : Hid (Star M (stR M j) ⟨lookW M k r, a + 1, b⟩ ∧ Cl M ⟨lookW M k r, a + 1, b⟩) := hide ⟨hst.more hstep, (hcl.step hstep).1⟩
          have HM : Hid (a < k.cop.length ∧ k.cop.length ≤ M.small.length ∧ k.lin.length ≤ M.slots.length ∧ a ≤ k.cop.length ∧ b ≤ k.lin.length) := hide ⟨hA, l1, l2, hca, hcb⟩
          clear hr hmem hr0 hstep hst hcl hs hb hS hL l1 l2
          go_wp2_with fail
          refine (unhide h37).mono ?_
          rintro e w3 ⟨rfl, hL3⟩
          clear h37 c0 c1 e0
          go_wp2_with fail
          refine (unhide h38 _ hL3).mono ?_
          rintro e w4 ⟨rfl, hL4⟩
          clear h38 hL3
          go_wp2_with fail
          all_goals go_roundw
          all_goals first | exact ⟨⟨lookW M k r, a + 1, b⟩, by simp, by simp, HN, hL4⟩ | (have := unhide HM; simp [intOf]; omega)
        · by_cases hB : b < k.lin.length
          · obtain ⟨g, rfl, e0⟩ := hb b hB
            have hmem := getD_mem0 hB
            have dA : decide ((a : Int) < (k.cop.length : Nat)) = false := decide_eq_false (by omega)
            have dB : decide ((b : Int) < (k.lin.length : Nat)) = true := decide_eq_true (by omega)
            have i1 : (0 : Int) ≤ (b : Nat) := by omega
            have i2 : (b : Int) < (k.lin.length : Nat) := by omega
            have w1 : IntKind.i64.wrap ((b : Int) + 1) = (b : Int) + 1 := wrap_small _ (by omega) (by omega)
            obtain ⟨r, hr⟩ : ∃ r, k.lin.getD b 0 = r := ⟨_, rfl⟩
            rw [hr] at e0 hmem
            have h37 := hide (unhide H37 px k wr r (.inr hmem) hL)
            have h38 := hide (fun W hW => unhide H38 px k W r (.inr hmem) hW)
            have hr0 := unhide HP px k wr r (.inr hmem) hL
            have d0 : ((r : Int) == 0) = false := by simp; omega
            have d0' : ((r : Int) = 0) = False := by simp; omega
            have hstep : stepW M ⟨k, a, b⟩ = some ⟨lookW M k r, a, b + 1⟩ := by unfold stepW; rw [if_neg hA, if_pos hB, hr]
            have HN : Hid (Star M (stR M j) ⟨lookW M k r, a, b + 1⟩ ∧ Cl M ⟨lookW M k r, a, b + 1⟩) := hide ⟨hst.more hstep, (hcl.step hstep).1⟩
            have HM : Hid (b < k.lin.length ∧ k.cop.length ≤ M.small.length ∧ k.lin.length ≤ M.slots.length ∧ a ≤ k.cop.length ∧ b ≤ k.lin.length) := hide ⟨hB, l1, l2, hca, hcb⟩
            clear hr hmem hr0 hstep hst hcl hs hb hS hL l1 l2
            go_wp2_with fail
            refine (unhide h37).mono ?_
            rintro e w3 ⟨rfl, hL3⟩
            clear h37 c0 c1 e0
            go_wp2_with fail
            refine (unhide h38 _ hL3).mono ?_
            rintro e w4 ⟨rfl, hL4⟩
            clear h38 hL3
            go_wp2_with fail
            all_goals go_roundw
            all_goals first | exact ⟨⟨lookW M k r, a, b + 1⟩, by simp, by simp, HN, hL4⟩ | (have := unhide HM; simp [intOf]; omega)
          · have dA : decide ((a : Int) < (k.cop.length : Nat)) = false := decide_eq_false (by omega)
            have dB : decide ((b : Int) < (k.lin.length : Nat)) = false := decide_eq_false (by omega)
            have hno : stepW M ⟨k, a, b⟩ = none := by unfold stepW; rw [if_neg hA, if_neg hB]
            have HF := hide (⟨unhide hL, hst, hno⟩ : _ ∧ _ ∧ _)
            clear hs hb hst hcl hS hno hL
            go_wp2_with fail
            all_goals go_ret2
            all_goals exact ⟨px, ⟨k, a, b⟩, rfl, (unhide HF).1, (unhide HF).2.1, (unhide HF).2.2⟩
end Go.Proofs.YtidfllgaeiopjaaGreat
namespace Go.Proofs.YtidfllgaeiopjaaGreat
open Go.ChangeShapes Go.WideShapes Go.ChangeAt Go.RowKit
set_option linter.unusedVariables false
set_option linter.unusedSimpArgs false
set_option maxRecDepth 100000
set_option maxHeartbeats 1000000

def sO (M : Hp) : Obj := .cells #[.int .i64 (M.limit : Nat), .int .i64 (M.half : Nat), .int .i64 (M.used : Nat), .int .i64 (M.large : Nat), .int .i64 (cntS M : Nat), .int .i64 (cntR M : Nat), .int .i64 (M.coll : Nat), .int .i64 (M.resz : Nat), .int .i64 (M.moved : Nat)] 47
def s9 (w : World) (g : Nat) (M : Hp) : World := ((((((((w.setCell ⟨g, 0, none⟩ (.int .i64 (M.limit : Nat))).setCell ⟨g, 1, none⟩ (.int .i64 (M.half : Nat))).setCell ⟨g, 2, none⟩ (.int .i64 (M.used : Nat))).setCell ⟨g, 3, none⟩ (.int .i64 (M.large : Nat))).setCell ⟨g, 4, none⟩ (.int .i64 (cntS M : Nat))).setCell ⟨g, 5, none⟩ (.int .i64 (cntR M : Nat))).setCell ⟨g, 6, none⟩ (.int .i64 (M.coll : Nat))).setCell ⟨g, 7, none⟩ (.int .i64 (M.resz : Nat))).setCell ⟨g, 8, none⟩ (.int .i64 (M.moved : Nat))
/-- where Image's answer lies, and Stats' -/
structure AT (M : Hp) (ga gt : Nat) (w X : World) : Prop where
  be : Below w.heap.size w X
  a1 : w.heap.size ≤ ga ∧ ga < X.heap.size
  t1 : w.heap.size ≤ gt ∧ gt < X.heap.size
  img : ∀ j, j < M.used → X.cell? ⟨ga, j, none⟩ = some (.int .u64 ((imgM M).getD j 0 : Nat))
  st : X.heap[gt]? = some (sO M)
end Go.Proofs.YtidfllgaeiopjaaGreat
namespace Go.Proofs.YtidfllgaeiopjaaGreat
open Go.ChangeShapes Go.WideShapes Go.ChangeAt Go.RowKit
set_option linter.unusedVariables false
set_option linter.unusedSimpArgs false
set_option maxRecDepth 100000
set_option maxHeartbeats 2000000
end Go.Proofs.YtidfllgaeiopjaaGreat
namespace Go.Proofs.YtidfllgaeiopjaaGreat
open Go.ChangeShapes Go.WideShapes Go.ChangeAt Go.RowKit
set_option linter.unusedVariables false
set_option linter.unusedSimpArgs false
set_option maxRecDepth 100000
set_option maxHeartbeats 4000000

theorem Moves3.under {w w' : World} {a : Option Addr} {n : Nat} (h : Moves3 w a n) (k : Below w.heap.size w w') : Moves3 w' a n := by
  rcases h with h | ⟨b, off, e, hb, hq⟩
  · exact .inl h
  · refine .inr ⟨b, off, e, Nat.lt_of_lt_of_le hb k.size, fun i hi => ?_⟩
    obtain ⟨q, h1, h2⟩ := hq i hi
    exact ⟨q, h1.like (k.block b hb), ⟨h2.a1, h2.a2, h2.vl, h2.dl, h2.sm, h2.by'.below k, h2.nl⟩⟩
theorem Inv.bel {ps ph lim n : Nat} {k : Kp} {M : Hp} {w : World} (h : Inv ps ph lim n k M w) : Below k.w.heap.size k.w w := by
  obtain ⟨tag, st, H, ns, C, last, b, bd⟩ := h
  exact b.o1.be
end Go.Proofs.YtidfllgaeiopjaaGreat
namespace Go.Proofs.YtidfllgaeiopjaaGreat
open Go.ChangeShapes Go.WideShapes Go.ChangeAt Go.RowKit
set_option linter.unusedVariables false
set_option linter.unusedSimpArgs false
set_option maxRecDepth 100000
set_option maxHeartbeats 4000000

def fitsB (A B C : Int) : Bool := decide (1 ≤ A ∧ A ≤ 255 ∧ 0 ≤ B ∧ B ≤ 1048576 ∧ 0 ≤ C ∧ C ≤ 1048576)
theorem roomy_law (w : World) (lim : Int) (a : Option Addr) (n cap : Nat) (hS : Moves3 w a n) : Calls Tryz.prog 5 #[.agg #[.int .i64 lim, .slice a n cap]] w fun e w' => e = .returned (.bool true) ∧ Below w.heap.size w w' := by
  have hb0 : Below w.heap.size w (w.alloc (.cells #[.int .i64 lim, .slice a n cap] 24)) := (Below.refl _ _).alloc (Nat.le_refl _) _
  have hs0 : (w.alloc (.cells #[.int .i64 lim, .slice a n cap] 24)).heap.size = w.heap.size + 1 := by simp
  have z0 : (w.alloc (.cells #[.int .i64 lim, .slice a n cap] 24)).cell? ⟨w.heap.size, 0, none⟩ = some (.int .i64 lim) := World.cell?_alloc_at _ _ _ _ rfl
  have z1 : (w.alloc (.cells #[.int .i64 lim, .slice a n cap] 24)).cell? ⟨w.heap.size, 1, none⟩ = some (.slice a n cap) := World.cell?_alloc_at _ _ _ _ rfl
  have HP : Hid (∀ W, Below (w.heap.size + 1) (w.alloc (.cells #[.int .i64 lim, .slice a n cap] 24)) W → W.cell? ⟨w.heap.size, 0, none⟩ = some (.int .i64 lim) ∧ W.cell? ⟨w.heap.size, 1, none⟩ = some (.slice a n cap) ∧ Below w.heap.size w W ∧ w.heap.size < W.heap.size) := hide (fun W k => ⟨(k.cell (p := ⟨w.heap.size, 0, none⟩) (Nat.lt_succ_self _)).trans z0, (k.cell (p := ⟨w.heap.size, 1, none⟩) (Nat.lt_succ_self _)).trans z1, hb0.trans (k.mono (by omega)), by have := k.size; omega⟩)
  have H9 : Hid (∀ W, Below (w.heap.size + 1) (w.alloc (.cells #[.int .i64 lim, .slice a n cap] 24)) W → Calls Tryz.prog 9 #[] W fun e w' => e = .returned (.bool true) ∧ Below (w.heap.size + 1) (w.alloc (.cells #[.int .i64 lim, .slice a n cap] 24)) w') := hide (fun W k => (wakes_any W).mono fun e w' ⟨q1, q2⟩ => ⟨q1, k.trans (q2.mono (by have := k.size; omega))⟩)
  have H10 : Hid (∀ W, Below (w.heap.size + 1) (w.alloc (.cells #[.int .i64 lim, .slice a n cap] 24)) W → Calls Tryz.prog 10 #[.agg #[.int .i64 lim, .slice a n cap]] W fun e w' => ∃ v, e = .returned (.bool v) ∧ (v = true → n ≤ 200) ∧ Below (w.heap.size + 1) (w.alloc (.cells #[.int .i64 lim, .slice a n cap] 24)) w') := hide (fun W k => (small_any W lim a n cap (hS.under (hb0.trans (k.mono (by omega))))).mono fun e w' ⟨v, q1, q2, q3⟩ => ⟨v, q1, q2, k.trans (q3.mono (by have := k.size; omega))⟩)
  have hI0 : Below (w.heap.size + 1) (w.alloc (.cells #[.int .i64 lim, .slice a n cap] 24)) (w.alloc (.cells #[.int .i64 lim, .slice a n cap] 24)) := Below.refl _ _
  have HS := hide hS
  clear hb0 hs0 z0 z1 hS
  generalize hW : World.alloc w _ = W0 at *
  go_enter Tryz.func5, Tryz.ntmps5
  go_wp2_with fail
  (try rw [hW])
  clear hW
  refine (unhide H9 _ hI0).mono ?_
  clear hI0
  rintro e w1 ⟨rfl, hI1⟩
  obtain ⟨y0, y1, _, _⟩ := unhide HP _ hI1
  have HI1 := hide hI1
  clear hI1
  go_wp2_with fail
  refine (unhide H10 _ (unhide HI1)).mono ?_
  rintro e w2 ⟨v, rfl, hv, hI2⟩
  obtain ⟨y0, y1, hbw, _⟩ := unhide HP _ hI2
  have HI2 := hide hI2
  have HBW := hide hbw
  have HV := hide hv
  clear hI2 HI1 hbw hv H9 H10
  cases v
  · go_wp2_with fail
    go_ret
    exact ⟨rfl, unhide HBW⟩
  · have hn200 := unhide HV rfl
    by_cases hbad : lim < 128 ∨ 1048576 < lim
    · have H11 := hide (begins_bad (w := w2) hbad)
      clear hbad
      go_wp2_with fail
      refine (unhide H11).mono ?_
      rintro e w3 ⟨rfl, rfl⟩
      go_wp2_with fail
      go_ret
      exact ⟨rfl, unhide HBW⟩
    · obtain ⟨L, rfl⟩ : ∃ L : Nat, lim = (L : Nat) := ⟨lim.toNat, by omega⟩
      have H11 : Hid (Calls Tryz.prog 11 #[.int .i64 (L : Nat)] w2 fun e w' => ∃ ps ph, e = .returned (.tuple #[.pointer (some ⟨ps, 0, none⟩), .bool true]) ∧ Inv ps ph L 0 ⟨w2, w2, fun _ => False⟩ (newM L) w') := hide ((begins_any L (by omega) (by omega)).mono fun e w' ⟨ps, ph, tag, st, H, C, q1, q2⟩ => ⟨ps, ph, q1, tag, st, H, _, C, 0, q2, ⟨by show 1 ≤ 1; decide, by show 1 ≤ 1; decide, Nat.zero_le _, Nat.zero_le _, Nat.zero_le _, Nat.zero_le _, Nat.zero_le _⟩⟩)
      clear hbad
      go_wp2_with fail
      refine (unhide H11).mono ?_
      rintro e w3 ⟨ps, ph, rfl, hinv⟩
      have HV3 : Hid (∃ M, Inv ps ph L 0 ⟨w2, w2, fun _ => False⟩ M w3) := hide ⟨_, hinv⟩
      clear hinv
      have HC : Hid (∀ W, Below w2.heap.size w2 W → W.cell? ⟨w.heap.size, 1, none⟩ = some (.slice a n cap) ∧ Below w.heap.size w W) := hide (fun W k => by
        have k0 := unhide HI2
        have hz := (unhide HP _ k0).2.2.2
        have k1 : Below (w.heap.size + 1) W0 W := k0.trans (k.mono (by omega))
        exact ⟨(unhide HP _ k1).2.1, (unhide HP _ k1).2.2.1⟩)
      have HM : Hid (Moves3 w2 a n) := hide ((unhide HS).under (unhide HBW))
      clear H11 HI2 HBW HV HP HS y0 y1
      go_wp2_with fail
      go_loopw [5] (fun iv wr => ∃ i : Nat, iv = .int .i64 (i : Nat) ∧ i ≤ n ∧ Hid (∃ M, Inv ps ph L i ⟨w2, w2, fun _ => False⟩ M wr)) (fun iv _ => n - (intOf iv).toNat)
      case atStart => exact ⟨0, rfl, Nat.zero_le _, HV3⟩
      case round =>
        obtain ⟨i, rfl, hi, hI⟩ := hrel
        obtain ⟨M, hinv⟩ := unhide hI
        obtain ⟨y1, hbw⟩ := unhide HC _ hinv.bel
        have w1' : IntKind.i64.wrap ((i : Int) + 1) = (i : Int) + 1 := wrap_small _ (by omega) (by omega)
        by_cases hin : i < n
        · obtain ⟨bb, off, rfl, hbl, hq⟩ : ∃ b off, a = some ⟨b, off, none⟩ ∧ b < w2.heap.size ∧ ∀ i, i < n → ∃ q, MvAt w2 b (off + i * 8) q ∧ DataOk w2 q.A q.V q.a q.c q.l := by
            rcases unhide HM with h | h
            · omega
            · exact h
          obtain ⟨q, hm, hok⟩ := hq i hin
          have hmr := hm.like (hinv.bel.block bb hbl)
          obtain ⟨r0, r1, r2, r3, r4, r5, r6, r7⟩ := hmr
          have hbx : Boxed (wr.alloc (mvB q.K q.A q.B q.C q.H q.G q.V (.slice q.a q.l.length q.c))) wr.heap.size q.K q.A q.B q.C q.H q.G q.V (.slice q.a q.l.length q.c) := Boxed.new wr _ _ _ _ _ _ _ _
          have hal : Below wr.heap.size wr (wr.alloc (mvB q.K q.A q.B q.C q.H q.G q.V (.slice q.a q.l.length q.c))) := (Below.refl _ _).alloc (Nat.le_refl _) _
          obtain ⟨P, R, H13, H12, HST, H20⟩ : ∃ (P : Nat → World → Prop) (R : Nat → Nat → World → Prop),
              Hid (Calls Tryz.prog 13 #[.pointer (some ⟨ps, 0, none⟩)] (wr.alloc (mvB q.K q.A q.B q.C q.H q.G q.V (.slice q.a q.l.length q.c))) fun e w' => ∃ px : Nat, e = .returned (.tuple #[.pointer (some ⟨px, 0, none⟩), .bool true]) ∧ Hid (P px w')) ∧
              Hid (∀ px W, Hid (P px W) → Boxed W wr.heap.size q.K q.A q.B q.C q.H q.G q.V (.slice q.a q.l.length q.c) ∧ Calls Tryz.prog 12 #[.pointer (some ⟨ps, 0, none⟩), mvV q.K q.A q.B q.C q.H q.G q.V (.slice q.a q.l.length q.c)] W fun e w' => e = .returned (.bool true) ∧ ∃ last, Hid (R px last w')) ∧
              Hid (∀ px last W, Hid (R px last W) → Boxed W wr.heap.size q.K q.A q.B q.C q.H q.G q.V (.slice q.a q.l.length q.c) ∧ W.cell? ⟨ps, 4, none⟩ = some (.int .i64 (last : Nat)) ∧ Hid (∃ M, Inv ps ph L (i + 1) ⟨w2, w2, fun _ => False⟩ M W) ∧ (q.K = 1 → Fits q.A q.B q.C → (last = 0 ∨ last = 31))) ∧
              Hid (∀ px last W W', q.K = 1 → Fits q.A q.B q.C → Hid (R px last W) → Still W W' → Calls Tryz.prog 20 #[.pointer (some ⟨ps, 0, none⟩), .pointer (some ⟨px, 0, none⟩), mvV q.K q.A q.B q.C q.H q.G q.V (.slice q.a q.l.length q.c)] W' fun e w' => e = .returned (.bool (decide (last = 0))) ∧ Hid (R px last w')) := by
            refine ⟨fun px W => Lkd ps ph L i wr.heap.size px w2 q W, fun px last W => Stp ps ph L i wr.heap.size px w2 q last W, hide ?_, hide ?_, hide ?_, hide ?_⟩
            · exact (seen_any (hinv.still hal) (by omega)).mono fun e w' ⟨px, t, q1, hl, a1, a2⟩ => ⟨px, q1, hide (lkd_of hinv hbx hl a1 a2)⟩
            · exact fun px W h => ⟨by obtain ⟨_, _, _, _, _, _, _, bx, _⟩ := unhide h; exact bx, (unhide h).step (by omega) hok⟩
            · intro px last W h
              obtain ⟨z1, z2, z3, _, _, _, _, _, _, _, _, z4⟩ := unhide h
              exact ⟨z2, z3, hide z1, fun a b => (z4 a b).1⟩
            · exact fun px last W W' hK hF h s => ((unhide h).still s.below).room hK hF
          clear hm hok hq hinv hal hbw hI
          obtain ⟨K, A, B, C, HH, GG, V, da, dl, dc⟩ := q
          dsimp only at r0 r1 r2 r3 r4 r5 r6 r7 hbx H13 H12 HST H20
          unfold mvV at H12 H20
          unfold mvB at H13 hbx
          obtain ⟨dn, hdn⟩ : ∃ dn, dl.length = dn := ⟨_, rfl⟩
          rw [hdn] at r7 hbx H13
          simp only [hdn] at H12 HST H20
          clear hdn
          have dl' : decide ((i : Int) < (n : Nat)) = true := decide_eq_true (by omega)
          have i1 : (0 : Int) ≤ (i : Nat) := by omega
          have i2 : (i : Int) < (n : Nat) := by omega
          obtain ⟨b0, b1, b2, b3, _, _, _, _⟩ := hbx
          go_upto_region 12 with fail
          generalize hW0 : World.alloc wr _ = W1 at *
          clear hW0 r0 r1 r2 r3 r4 r5 r6 r7
          generalize hbm : wr.heap.size = bm at *
          clear hbm
          go_cut [7] (fun c wx => c = .bool (fitsB A B C) ∧ wx = W1)
          case first =>
            by_cases h0 : 1 ≤ A
            rotate_left
            · have e0 : decide (1 ≤ A) = false := decide_eq_false h0
              go_wp2_with fail
              go_meet
              case rel => exact ⟨by simp [fitsB]; omega, rfl⟩
            have e0 : decide (1 ≤ A) = true := decide_eq_true h0
            by_cases h1 : A ≤ 255
            rotate_left
            · have e1 : decide (A ≤ 255) = false := decide_eq_false h1
              go_wp2_with fail
              go_meet
              case rel => exact ⟨by simp [fitsB]; omega, rfl⟩
            have e1 : decide (A ≤ 255) = true := decide_eq_true h1
            by_cases h2 : 0 ≤ B
            rotate_left
            · have e2 : decide (0 ≤ B) = false := decide_eq_false h2
              go_wp2_with fail
              go_meet
              case rel => exact ⟨by simp [fitsB]; omega, rfl⟩
            have e2 : decide (0 ≤ B) = true := decide_eq_true h2
            by_cases h3 : B ≤ 1048576
            rotate_left
            · have e3 : decide (B ≤ 1048576) = false := decide_eq_false h3
              go_wp2_with fail
              go_meet
              case rel => exact ⟨by simp [fitsB]; omega, rfl⟩
            have e3 : decide (B ≤ 1048576) = true := decide_eq_true h3
            by_cases h4 : 0 ≤ C
            rotate_left
            · have e4 : decide (0 ≤ C) = false := decide_eq_false h4
              go_wp2_with fail
              go_meet
              case rel => exact ⟨by simp [fitsB]; omega, rfl⟩
            have e4 : decide (0 ≤ C) = true := decide_eq_true h4
            by_cases h5 : C ≤ 1048576
            rotate_left
            · have e5 : decide (C ≤ 1048576) = false := decide_eq_false h5
              go_wp2_with fail
              go_meet
              case rel => exact ⟨by simp [fitsB]; omega, rfl⟩
            have e5 : decide (C ≤ 1048576) = true := decide_eq_true h5
            go_wp2_with fail
            go_meet
            case rel => exact ⟨by simp [fitsB]; omega, rfl⟩
          case rest =>
            obtain ⟨hc1, hc2⟩ := hcut
            subst hc2
            subst hc1
            clear b0 b1 b2 b3
            go_wp2_with fail
            refine (unhide H13).mono ?_
            rintro e w3 ⟨px, rfl, hP⟩
            obtain ⟨hb3, h12⟩ := unhide H12 _ _ hP
            obtain ⟨b0, b1, b2, b3, b4, b5, b6, b7⟩ := hb3
            have H12' := hide h12
            clear h12 H13 H12 hP
            go_wp2_with fail
            refine (unhide H12').mono ?_
            rintro e w4 ⟨rfl, last, hR⟩
            clear H12' b0 b1 b2 b3 b4 b5 b6 b7
            obtain ⟨hb4, c4, HN, hl⟩ := unhide HST _ _ _ hR
            obtain ⟨b0, b1, b2, b3, b4, b5, b6, b7⟩ := hb4
            have HSL : Hid (∀ W, Still w4 W → Hid (∃ M, Inv ps ph L (i + 1) ⟨w2, w2, fun _ => False⟩ M w4) → Hid (∃ M, Inv ps ph L (i + 1) ⟨w2, w2, fun _ => False⟩ M W)) := hide (fun W s h => by obtain ⟨M, h⟩ := unhide h; exact hide ⟨M, h.still s.below⟩)
            by_cases hKF : K = 1 ∧ Fits A B C
            · obtain ⟨rfl, hF⟩ := hKF
              have dF : fitsB A B C = true := decide_eq_true hF
              rcases hl rfl hF with rfl | rfl
              · have h20 : Hid (∀ W', Still w4 W' → Calls Tryz.prog 20 #[.pointer (some ⟨ps, 0, none⟩), .pointer (some ⟨px, 0, none⟩), .agg #[.int .i64 1, .int .i64 A, .int .i64 B, .int .i64 C, .int .i64 HH, .int .i64 GG, .int .u64 (V : Nat), .slice da dn dc]] W' fun e W => e = .returned (.bool true) ∧ (W.cell? ⟨bm, 0, none⟩ = some (.int .i64 1) ∧ W.cell? ⟨bm, 1, none⟩ = some (.int .i64 A) ∧ W.cell? ⟨bm, 2, none⟩ = some (.int .i64 B) ∧ W.cell? ⟨bm, 3, none⟩ = some (.int .i64 C) ∧ W.cell? ⟨bm, 4, none⟩ = some (.int .i64 HH) ∧ W.cell? ⟨bm, 5, none⟩ = some (.int .i64 GG) ∧ W.cell? ⟨bm, 6, none⟩ = some (.int .u64 (V : Nat)) ∧ W.cell? ⟨bm, 7, none⟩ = some (.slice da dn dc) ∧ W.cell? ⟨ps, 4, none⟩ = some (.int .i64 0)) ∧ Hid (∃ M, Inv ps ph L (i + 1) ⟨w2, w2, fun _ => False⟩ M W)) := hide (fun W' s => (unhide H20 px _ w4 W' rfl hF hR s).mono fun e W ⟨q1, q2⟩ => by
                  obtain ⟨⟨x0, x1, x2, x3, x4, x5, x6, x7⟩, y4, y5, _⟩ := unhide HST _ _ _ q2
                  exact ⟨q1, ⟨x0, x1, x2, x3, x4, x5, x6, x7, y4⟩, y5⟩)
                clear H20 HST hF hR hl HN
                go_wp2_with fail
                go_region_held3 (fun W => W.cell? ⟨bm, 0, none⟩ = some (.int .i64 1) ∧ W.cell? ⟨bm, 1, none⟩ = some (.int .i64 A) ∧ W.cell? ⟨bm, 2, none⟩ = some (.int .i64 B) ∧ W.cell? ⟨bm, 3, none⟩ = some (.int .i64 C) ∧ W.cell? ⟨bm, 4, none⟩ = some (.int .i64 HH) ∧ W.cell? ⟨bm, 5, none⟩ = some (.int .i64 GG) ∧ W.cell? ⟨bm, 6, none⟩ = some (.int .u64 (V : Nat)) ∧ W.cell? ⟨bm, 7, none⟩ = some (.slice da dn dc) ∧ W.cell? ⟨ps, 4, none⟩ = some (.int .i64 0)) (go_keep) (first | (go_at_call 20; refine (unhide h20 _ ((Still.refl _).drew _)).mono ?_; rintro e w5 ⟨rfl, ⟨x0, x1, x2, x3, x4, x5, x6, x7, y4⟩, HN5⟩))
                all_goals go_wp2_with fail
                all_goals go_roundw
                all_goals first | exact ⟨i + 1, by simp, by omega, HN5⟩ | (simp [intOf]; omega)
              · have h20 : Hid (∀ W', Still w4 W' → Calls Tryz.prog 20 #[.pointer (some ⟨ps, 0, none⟩), .pointer (some ⟨px, 0, none⟩), .agg #[.int .i64 1, .int .i64 A, .int .i64 B, .int .i64 C, .int .i64 HH, .int .i64 GG, .int .u64 (V : Nat), .slice da dn dc]] W' fun e W => e = .returned (.bool false) ∧ (W.cell? ⟨bm, 0, none⟩ = some (.int .i64 1) ∧ W.cell? ⟨bm, 1, none⟩ = some (.int .i64 A) ∧ W.cell? ⟨bm, 2, none⟩ = some (.int .i64 B) ∧ W.cell? ⟨bm, 3, none⟩ = some (.int .i64 C) ∧ W.cell? ⟨bm, 4, none⟩ = some (.int .i64 HH) ∧ W.cell? ⟨bm, 5, none⟩ = some (.int .i64 GG) ∧ W.cell? ⟨bm, 6, none⟩ = some (.int .u64 (V : Nat)) ∧ W.cell? ⟨bm, 7, none⟩ = some (.slice da dn dc) ∧ W.cell? ⟨ps, 4, none⟩ = some (.int .i64 31)) ∧ Hid (∃ M, Inv ps ph L (i + 1) ⟨w2, w2, fun _ => False⟩ M W)) := hide (fun W' s => (unhide H20 px _ w4 W' rfl hF hR s).mono fun e W ⟨q1, q2⟩ => by
                  obtain ⟨⟨x0, x1, x2, x3, x4, x5, x6, x7⟩, y4, y5, _⟩ := unhide HST _ _ _ q2
                  exact ⟨q1, ⟨x0, x1, x2, x3, x4, x5, x6, x7, y4⟩, y5⟩)
                clear H20 HST hF hR hl HN
                go_wp2_with fail
                go_region_held3 (fun W => W.cell? ⟨bm, 0, none⟩ = some (.int .i64 1) ∧ W.cell? ⟨bm, 1, none⟩ = some (.int .i64 A) ∧ W.cell? ⟨bm, 2, none⟩ = some (.int .i64 B) ∧ W.cell? ⟨bm, 3, none⟩ = some (.int .i64 C) ∧ W.cell? ⟨bm, 4, none⟩ = some (.int .i64 HH) ∧ W.cell? ⟨bm, 5, none⟩ = some (.int .i64 GG) ∧ W.cell? ⟨bm, 6, none⟩ = some (.int .u64 (V : Nat)) ∧ W.cell? ⟨bm, 7, none⟩ = some (.slice da dn dc) ∧ W.cell? ⟨ps, 4, none⟩ = some (.int .i64 31)) (go_keep) (first | (go_at_call 20; refine (unhide h20 _ ((Still.refl _).drew _)).mono ?_; rintro e w5 ⟨rfl, ⟨x0, x1, x2, x3, x4, x5, x6, x7, y4⟩, HN5⟩))
                all_goals go_wp2_with fail
                all_goals go_roundw
                all_goals first | exact ⟨i + 1, by simp, by omega, HN5⟩ | (simp [intOf]; omega)
            · by_cases hK1 : K = 1
              · subst hK1
                have dF : fitsB A B C = false := decide_eq_false (fun h => hKF ⟨rfl, h⟩)
                clear H20 HST hKF hR hl
                go_wp2_with fail
                refine wp_region_noPanic ?_
                go_region
                all_goals refine NoPanic.normal ?_
                all_goals go_wp2_with fail
                all_goals go_roundw
                all_goals first | exact ⟨i + 1, by simp, by omega, HN⟩ | exact ⟨i + 1, by simp, by omega, unhide HSL _ ((Still.refl _).drew _) HN⟩ | (simp [intOf]; omega)
              · have dK : (K == 1) = false := by simp [hK1]
                have dK' : (K = 1) = False := by simp [hK1]
                clear H20 HST hKF hR hl
                go_wp2_with fail
                refine wp_region_noPanic ?_
                go_region
                all_goals refine NoPanic.normal ?_
                all_goals go_wp2_with fail
                all_goals go_roundw
                all_goals first | exact ⟨i + 1, by simp, by omega, HN⟩ | exact ⟨i + 1, by simp, by omega, unhide HSL _ ((Still.refl _).drew _) HN⟩ | (simp [intOf]; omega)
        · have hiN : i = n := by omega
          subst hiN
          have dl' : decide ((i : Int) < (i : Nat)) = false := decide_eq_false (by omega)
          have HBW := hide hbw
          clear hinv hbw hI
          go_wp2_with fail
          all_goals go_ret
          all_goals exact ⟨by simp, by first | exact unhide HBW | exact (unhide HBW).drew⟩
end Go.Proofs.YtidfllgaeiopjaaGreat
