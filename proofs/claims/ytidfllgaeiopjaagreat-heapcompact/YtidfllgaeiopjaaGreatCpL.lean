/- HeapCompact: the law. -/
import Derived.Test.YtidfllgaeiopjaaGreatBnd
import Derived.Deep.RegionHeld3
import Derived.Test.YtidfllgaeiopjaaGreatPool4
import Derived.Test.YtidfllgaeiopjaaGreatShP
import Derived.Test.YtidfllgaeiopjaaGreatHRoot
import Derived.Test.YtidfllgaeiopjaaGreatLkB
import Derived.Test.YtidfllgaeiopjaaGreatUntil
import Derived.Deep.DeepCutAuto
namespace Go.Proofs.YtidfllgaeiopjaaGreat
open Go.ChangeShapes Go.WideShapes Go.ChangeAt Go.RowKit
set_option linter.unusedVariables false
set_option linter.unusedSimpArgs false
set_option maxRecDepth 100000
set_option maxHeartbeats 1000000

/-- while a node is looked at: what is seen, and the box beside it -/
def LkSt (w0 : World) (px : Nat) (M : Hp) (bn : Nat) (box : Obj) (k : Wk) (w : World) : Prop := ∃ V, Below w0.heap.size w0 w ∧ SeenAt w w0.heap.size px M M.objs.length k V ∧ Pu M k ∧ OffV V px bn ∧ w.heap[bn]? = some box
theorem LkSt.below {w0 w w' : World} {px bn : Nat} {M : Hp} {box : Obj} {k : Wk} (h : LkSt w0 px M bn box k w) (q : Below w.heap.size w w') : LkSt w0 px M bn box k w' := by
  obtain ⟨V, h1, h2, h3, h4, h5⟩ := h
  exact ⟨V, h1.trans (q.mono h1.size), h2.below q, h3, h4, (q.block bn (Array.getElem?_eq_some_iff.1 h5).1).trans h5⟩
theorem foldl_more (M : Hp) (k : Wk) (l : List Nat) (j : Nat) (hj : j < l.length) : (l.take (j + 1)).foldl (reachW M) k = reachW M ((l.take j).foldl (reachW M) k) (l.getD j 0) := by
  rw [take_more j hj, List.foldl_append]
  rfl
theorem LkSt.reach {ps ph lim n px bn : Nat} {kk : Kp} {M : Hp} {w0 w : World} {box : Obj} {k : Wk} (iv : Inv ps ph lim n kk M w0) (hn : n ≤ 10000) (h : LkSt w0 px M bn box k w) {i : Nat} (hi : i = 0 ∨ Is M i) :
    Calls Tryz.prog 36 #[.pointer (some ⟨px, 0, none⟩), .pointer (some ⟨ps, 0, none⟩), .int .u64 (refW M i : Nat), .int .i64 (i : Nat)] w fun e w' => e = .returned (.bool true) ∧ LkSt w0 px M bn box (reachW M k i) w' := by
  obtain ⟨V, h1, h2, h3, h4, h5⟩ := h
  refine (reach_any iv h1 h2 h3 hn hi).mono fun e w' ⟨e1, e2, V', e3, e4⟩ => ⟨e1, V', e2, e3, h3.reach iv.wf.1.ok hi, ?_⟩
  obtain ⟨z1, z2⟩ := e4 bn (Array.getElem?_eq_some_iff.1 h5).1 h4
  exact ⟨z2, z1.trans h5⟩
theorem same_any {ps ph lim n px : Nat} {kk : Kp} {M : Hp} {w0 w : World} (iv : Inv ps ph lim n kk M w0) (q : Below w0.heap.size w0 w) {k : Wk} {V : SeenC} (h : SeenAt w w0.heap.size px M M.objs.length k V) (p : Pu M k) (hn : n ≤ 10000) {i : Nat} (hi : i ∈ k.cop ∨ i ∈ k.lin) :
    Calls Tryz.prog 38 #[.pointer (some ⟨px, 0, none⟩), .pointer (some ⟨ps, 0, none⟩), .int .i64 (i : Nat)] w fun e w' => e = .returned (.bool true) ∧ Below w0.heap.size w0 w' ∧ ∃ V', SeenAt w' w0.heap.size px M M.objs.length (lookW M k i) V' := by
  have wf := iv.wf.1
  have ok := wf.ok
  have hI := p.all i hi
  have hob := iv.nobj
  obtain ⟨gN, cN, ar, aw, cr, cw, nm⟩ := iv.nodeM hI
  have hl := nm.lt
  obtain ⟨gW, cW, ev, ho, hc⟩ := h.h.at (by omega)
  have e0 := (hc i hl).1
  rw [show whr M k i = refW M i by unfold whr; rw [if_pos hi]] at e0
  have c2 := h.c2
  rw [ev] at c2
  have nq := nm.below q
  obtain ⟨box, hbox⟩ : ∃ box : Obj, box = .cells #[.int .i64 ((ob M i).kind : Nat), .slice ar (ob M i).refs.length cr, .slice aw (ob M i).raws.length cw] 69 := ⟨_, rfl⟩
  have HB : Hid (LkSt w0 px M w.heap.size box k (w.alloc box)) := hide (by
    have hb : Below w.heap.size w (w.alloc box) := (Below.refl _ _).alloc (Nat.le_refl _) _
    exact ⟨V, q.trans (hb.mono q.size), h.below hb, p, ⟨by have := h.lt; omega, fun e => by have := h.s.lt _ e; omega, fun e => by have := h.b.lt _ e; omega, fun e => by have := h.h.lt _ e; omega⟩, (MapKept.heap_alloc w box).1⟩)
  have HCL : Hid (∀ k' W, Hid (LkSt w0 px M w.heap.size box k' W) → W.cell? ⟨ps, 0, none⟩ = some (.pointer (some ⟨ph, 0, none⟩)) ∧ W.cell? ⟨w.heap.size, 0, none⟩ = some (.int .i64 ((ob M i).kind : Nat)) ∧ W.cell? ⟨w.heap.size, 1, none⟩ = some (.slice ar (ob M i).refs.length cr) ∧ W.cell? ⟨w.heap.size, 2, none⟩ = some (.slice aw (ob M i).raws.length cw)) := hide (fun k' W hW => by
    obtain ⟨V', h1, h2, h3, h4, h5⟩ := unhide hW
    rw [hbox] at h5
    exact ⟨(iv.still h1).c0, by simp only [World.cell?, h5]; rfl, by simp only [World.cell?, h5]; rfl, by simp only [World.cell?, h5]; rfl⟩)
  have H45 : Hid (∀ k' W, Hid (LkSt w0 px M w.heap.size box k' W) → Calls Tryz.prog 45 #[.pointer (some ⟨ph, 0, none⟩), .int .u64 (refW M i : Nat)] W fun e w' => e = .returned (.tuple #[.int .i64 ((ob M i).kind : Nat), .int .i64 ((ob M i).refs.length : Nat), .int .i64 ((ob M i).raws.length : Nat), .int .i64 0]) ∧ Hid (LkSt w0 px M w.heap.size box k' w')) := hide (fun k' W hW => by
    obtain ⟨V', h1, _⟩ := unhide hW
    have := (iv.still h1).object (refW M i) (num_back ok hI).2.1
    rw [obj_ref ok hI] at this
    exact this.mono fun e w' ⟨q1, q2⟩ => ⟨q1, hide ((unhide hW).below q2)⟩)
  have H29 : Hid (∀ k' W j, j < (ob M i).refs.length → Hid (LkSt w0 px M w.heap.size box k' W) → Calls Tryz.prog 29 #[.pointer (some ⟨ph, 0, none⟩), .int .u64 (refW M i : Nat), .int .i64 (j : Nat)] W fun e w' => e = .returned (.tuple #[.int .u64 (refW M ((ob M i).refs.getD j 0) : Nat), .int .i64 0]) ∧ Hid (LkSt w0 px M w.heap.size box k' w')) := hide (fun k' W j hj hW => by
    obtain ⟨V', h1, _⟩ := unhide hW
    have := (iv.still h1).get (refW M i) (num_back ok hI).2.1 (j : Int)
    rw [get_ref ok hI hj] at this
    exact this.mono fun e w' ⟨q1, q2⟩ => ⟨q1, hide ((unhide hW).below q2)⟩)
  have H29w : Hid (∀ k' W j, j < (ob M i).raws.length → Hid (LkSt w0 px M w.heap.size box k' W) → Calls Tryz.prog 29 #[.pointer (some ⟨ph, 0, none⟩), .int .u64 (refW M i : Nat), .int .i64 (((ob M i).refs.length : Int) + (j : Int))] W fun e w' => e = .returned (.tuple #[.int .u64 ((ob M i).raws.getD j 0 : Nat), .int .i64 0]) ∧ Hid (LkSt w0 px M w.heap.size box k' w')) := hide (fun k' W j hj hW => by
    obtain ⟨V', h1, _⟩ := unhide hW
    have := (iv.still h1).get (refW M i) (num_back ok hI).2.1 (((ob M i).refs.length : Int) + (j : Int))
    rw [get_raw ok hI hj] at this
    exact this.mono fun e w' ⟨q1, q2⟩ => ⟨q1, hide ((unhide hW).below q2)⟩)
  have H36 : Hid (∀ k' W j, j < (ob M i).refs.length → Hid (LkSt w0 px M w.heap.size box k' W) → Calls Tryz.prog 36 #[.pointer (some ⟨px, 0, none⟩), .pointer (some ⟨ps, 0, none⟩), .int .u64 (refW M ((ob M i).refs.getD j 0) : Nat), .int .i64 ((ob M i).refs.getD j 0 : Nat)] W fun e w' => e = .returned (.bool true) ∧ Hid (LkSt w0 px M w.heap.size box (reachW M k' ((ob M i).refs.getD j 0)) w')) := hide (fun k' W j hj hW => by
    refine (LkSt.reach iv hn (unhide hW) (ok.rf i hI _ ?_)).mono fun e w' ⟨q1, q2⟩ => ⟨q1, hide q2⟩
    rw [List.getD_eq_getElem?_getD, List.getElem?_eq_getElem hj]; exact List.getElem_mem hj)
  have HRF : Hid (∀ k' W j, j < (ob M i).refs.length → Hid (LkSt w0 px M w.heap.size box k' W) → ∃ g, ar = some ⟨g, 0, none⟩ ∧ W.cell? ⟨g, j, none⟩ = some (.int .i64 ((ob M i).refs.getD j 0 : Nat))) := hide (fun k' W j hj hW => by
    obtain ⟨V', h1, _⟩ := unhide hW
    exact (nm.below h1).rf j hj)
  have HRW : Hid (∀ k' W j, j < (ob M i).raws.length → Hid (LkSt w0 px M w.heap.size box k' W) → ∃ g, aw = some ⟨g, 0, none⟩ ∧ W.cell? ⟨g, j, none⟩ = some (.int .u64 ((ob M i).raws.getD j 0 : Nat))) := hide (fun k' W j hj hW => by
    obtain ⟨V', h1, _⟩ := unhide hW
    exact (nm.below h1).rw j hj)
  have HND : Hid (∀ k' W, Hid (LkSt w0 px M w.heap.size box k' W) → Below w0.heap.size w0 W ∧ ∃ V', SeenAt W w0.heap.size px M M.objs.length k' V') := hide (fun k' W hW => by
    obtain ⟨V', h1, h2, _⟩ := unhide hW
    exact ⟨h1, V', h2⟩)
  obtain ⟨hsz1, hsz2⟩ : (ob M i).refs.length ≤ 10000000 ∧ (ob M i).raws.length ≤ 10000000 := by
    rcases hI with z | ⟨z0, z⟩
    · have := wf.ss i z
      unfold osz at this
      omega
    · have := sum_sub (fun i => if i = 0 then 0 else 1 + osz (ob M i)) [i] M.slots (by simp) (fun x hx => by rw [List.mem_singleton.1 hx]; exact z)
      have hg := wf.lg
      have h1 := wf.lm
      have h2 := wf.l2
      unfold lgOf at hg
      simp [z0] at this
      unfold osz at this hg
      omega
  obtain ⟨x1, y0, y1, y2, _, _, _⟩ := nq
  have hFM := hide (fun j hj => foldl_more M k (ob M i).refs j hj)
  have hFE : Hid ((ob M i).refs.foldl (reachW M) k = lookW M k i) := hide rfl
  obtain ⟨R, hR⟩ : ∃ R, refW M i = R := ⟨_, rfl⟩
  rw [hR] at e0 H45 H29 H29w
  generalize hrl : (ob M i).refs = rl at *
  generalize hwl : (ob M i).raws = wl at *
  generalize hkd : (ob M i).kind = kd at *
  have i1 : (0 : Int) ≤ (i : Nat) := by omega
  have i2 : (i : Int) < (M.objs.length : Nat) := by omega
  obtain ⟨z0, _, _, _⟩ := unhide HCL _ _ HB
  rw [hbox] at z0
  clear iv q h p hi wf ok hI hob nm hl ev ho hc hR hrl hwl hkd
  subst hbox
  go_enter Tryz.func38, Tryz.ntmps38
  go_wp2_with fail
  refine (unhide H45 _ _ HB).mono ?_
  rintro e w2 ⟨rfl, hI2⟩
  clear HB
  generalize hbn : w.heap.size = bn at *
  clear hbn
  obtain ⟨c0, b0, b1, b2⟩ := unhide HCL _ _ hI2
  clear z0 x1 y0 y1 y2 c2 e0
  go_wp2_with fail
  go_loopw [13] (fun jv wr => ∃ j : Nat, jv = .int .i64 (j : Nat) ∧ j ≤ rl.length ∧ Hid (LkSt w0 px M bn _ ((rl.take j).foldl (reachW M) k) wr)) (fun jv _ => rl.length - (intOf jv).toNat)
  case atStart => exact ⟨0, rfl, Nat.zero_le _, hI2⟩
  case round =>
    obtain ⟨j, rfl, hj, hI⟩ := hrel
    obtain ⟨c0, b0, b1, b2⟩ := unhide HCL _ _ hI
    have w1 : IntKind.i64.wrap ((j : Int) + 1) = (j : Int) + 1 := wrap_small _ (by omega) (by omega)
    by_cases hjn : j < rl.length
    · have hG := hide (unhide H29 _ _ j hjn hI)
      have hH := hide (fun W hW => unhide H36 ((rl.take j).foldl (reachW M) k) W j hjn hW)
      have hZ := hide (fun W hW => unhide HRF ((rl.take j).foldl (reachW M) k) W j hjn hW)
      have hX := hide (unhide hFM j hjn)
      obtain ⟨g, rfl, _⟩ := unhide hZ _ hI
      obtain ⟨r, hr⟩ : ∃ r, rl.getD j 0 = r := ⟨_, rfl⟩
      rw [hr] at hG hX
      simp only [hr] at hH hZ
      clear hr
      have dl : decide ((j : Int) < (rl.length : Nat)) = true := decide_eq_true (by omega)
      have j1 : (0 : Int) ≤ (j : Nat) := by omega
      have j2 : (j : Int) < (rl.length : Nat) := by omega
      go_wp2_with fail
      refine (unhide hG).mono ?_
      rintro e w3 ⟨rfl, hI3⟩
      obtain ⟨c0, b0, b1, b2⟩ := unhide HCL _ _ hI3
      obtain ⟨g', eg, z0⟩ := unhide hZ _ hI3
      cases eg
      go_wp2_with fail
      refine (unhide hH _ hI3).mono ?_
      rintro e w4 ⟨rfl, hI4⟩
      clear c0 b0 b1 b2 z0
      rw [← unhide hX] at hI4
      go_wp2_with fail
      all_goals go_roundw
      all_goals first | exact ⟨j + 1, by simp, by omega, hI4⟩ | (simp [intOf]; omega)
    · have hje : j = rl.length := by omega
      have dl : decide ((j : Int) < (rl.length : Nat)) = false := decide_eq_false (by omega)
      have hI5 : Hid (LkSt w0 px M bn (Obj.cells #[.int .i64 (kd : Nat), .slice ar rl.length cr, .slice aw wl.length cw] 69) (lookW M k i) wr) := by
        rw [hje, List.take_length, unhide hFE] at hI
        exact hI
      clear hI hje
      go_wp2_with fail
      clear dl w1 hj hjn c0 b0 b1 b2
      go_loopw [16] (fun jv ws => ∃ t : Nat, jv = .int .i64 (t : Nat) ∧ t ≤ wl.length ∧ Hid (LkSt w0 px M bn (Obj.cells #[.int .i64 (kd : Nat), .slice ar rl.length cr, .slice aw wl.length cw] 69) (lookW M k i) ws)) (fun jv _ => wl.length - (intOf jv).toNat)
      case atStart => exact ⟨0, rfl, Nat.zero_le _, hI5⟩
      case round =>
        obtain ⟨t, rfl, ht, hI⟩ := hrel
        obtain ⟨c0, b0, b1, b2⟩ := unhide HCL _ _ hI
        have w1 : IntKind.i64.wrap ((t : Int) + 1) = (t : Int) + 1 := wrap_small _ (by omega) (by omega)
        by_cases htn : t < wl.length
        · have hG := hide (unhide H29w _ _ t htn hI)
          have hZ := hide (fun W hW => unhide HRW (lookW M k i) W t htn hW)
          obtain ⟨g, rfl, _⟩ := unhide hZ _ hI
          obtain ⟨r, hr⟩ : ∃ r, wl.getD t 0 = r := ⟨_, rfl⟩
          rw [hr] at hG
          simp only [hr] at hZ
          clear hr
          have dl : decide ((t : Int) < (wl.length : Nat)) = true := decide_eq_true (by omega)
          have j1 : (0 : Int) ≤ (t : Nat) := by omega
          have j2 : (t : Int) < (wl.length : Nat) := by omega
          have w2' : IntKind.i64.wrap ((rl.length : Int) + (t : Int)) = (rl.length : Int) + (t : Int) := wrap_small _ (by omega) (by omega)
          go_wp2_with fail
          refine (unhide hG).mono ?_
          rintro e w3 ⟨rfl, hI3⟩
          obtain ⟨c0, b0, b1, b2⟩ := unhide HCL _ _ hI3
          obtain ⟨g', eg, z0⟩ := unhide hZ _ hI3
          cases eg
          go_wp2_with fail
          all_goals go_roundw
          all_goals first | exact ⟨t + 1, by simp, by omega, hI3⟩ | (simp [intOf]; omega)
        · have dl : decide ((t : Int) < (wl.length : Nat)) = false := decide_eq_false (by omega)
          have HE := hide (unhide HND _ _ hI)
          clear hI
          go_wp2_with fail
          all_goals go_ret
          all_goals exact ⟨by simp, (unhide HE).1, (unhide HE).2⟩
end Go.Proofs.YtidfllgaeiopjaaGreat
namespace Go.Proofs.YtidfllgaeiopjaaGreat
open Go.ChangeShapes Go.WideShapes Go.ChangeAt Go.RowKit
set_option linter.unusedVariables false
set_option linter.unusedSimpArgs false
set_option maxRecDepth 100000
set_option maxHeartbeats 1000000

/-- what look has seen so far -/
def LkS (w0 : World) (px : Nat) (M : Hp) (k : Wk) (w : World) : Prop := ∃ V, Below w0.heap.size w0 w ∧ SeenAt w w0.heap.size px M M.objs.length k V ∧ Pu M k
theorem LkS.below {w0 w w' : World} {px : Nat} {M : Hp} {k : Wk} (h : LkS w0 px M k w) (q : Below w.heap.size w w') : LkS w0 px M k w' := by
  obtain ⟨V, h1, h2, h3⟩ := h
  exact ⟨V, h1.trans (q.mono h1.size), h2.below q, h3⟩
/-- the first of it: nothing seen -/
theorem seen_new (w0 : World) (M : Hp) (hN : M.objs.length ≤ 1048576) (hN0 : 0 < M.objs.length) : LkS w0 (w0.heap.size + 1) M ⟨[], []⟩ ((w0.alloc (.cells (madeCells #[.int .u64 0] M.objs.length) 30 (0, 0))).alloc (.cells #[.slice none 0 0, .slice none 0 0, .slice (some ⟨w0.heap.size, 0, none⟩) M.objs.length M.objs.length, .int .i64 1, .int .i64 0] 73)) := by
  generalize hA : (Obj.cells (madeCells #[.int .u64 0] M.objs.length) 30 (0, 0)) = A
  generalize hB : (Obj.cells #[.slice none 0 0, .slice none 0 0, .slice (some ⟨w0.heap.size, 0, none⟩) M.objs.length M.objs.length, .int .i64 1, .int .i64 0] 73) = B
  have k1 : Below w0.heap.size w0 ((w0.alloc A).alloc B) := ((Below.refl _ _).alloc (Nat.le_refl _) _).alloc (by simp) _
  have g1 : ((w0.alloc A).alloc B).heap[w0.heap.size]? = some A := by
    have : Below (w0.alloc A).heap.size (w0.alloc A) ((w0.alloc A).alloc B) := (Below.refl _ _).alloc (Nat.le_refl _) _
    rw [this.block w0.heap.size (by simp)]
    exact heap_alloc_new _ _
  have g2 : ((w0.alloc A).alloc B).heap[w0.heap.size + 1]? = some B := heap_alloc2_new _ _ _
  have hnn : ∀ g, (Value.slice none 0 0).ownBlock ≠ some g := fun g => by simp [Value.ownBlock]
  refine ⟨⟨.slice none 0 0, .slice none 0 0, .slice (some ⟨w0.heap.size, 0, none⟩) M.objs.length M.objs.length⟩, k1, ?_, ⟨⟨List.nodup_nil, List.nodup_nil⟩, fun i hi => absurd hi List.not_mem_nil, fun i hi => absurd hi List.not_mem_nil⟩⟩
  have hL : Line ((w0.alloc A).alloc B) 30 (.slice (some ⟨w0.heap.size, 0, none⟩) M.objs.length M.objs.length) M.objs.length (fun _ => .int .u64 0) := made_line (by rw [g1, ← hA]) hN
  refine ⟨?_, ?_, ?_, ?_, ?_, fun i hi => ?_, .inl ⟨rfl, rfl⟩, .inl ⟨rfl, rfl⟩, ?_, ⟨Nat.le_succ _, fun g hg => ?_⟩, fun g e => absurd e (hnn g), fun g e => absurd e (hnn g), fun g e => absurd e (hnn g)⟩
  · simp only [World.cell?, g2]; rw [← hB]; rfl
  · simp only [World.cell?, g2]; rw [← hB]; rfl
  · simp only [World.cell?, g2]; rw [← hB]; rfl
  · simp only [World.cell?, g2]; rw [← hB]; rfl
  · simp only [World.cell?, g2]; rw [← hB]; rfl
  · simp only [World.frozen?, g2]; rw [← hB]; simp
  · have e : (fun j => Value.int .u64 ((whr M ⟨[], []⟩ j : Nat) : Int)) = fun _ => .int .u64 0 := by
      funext j
      unfold whr
      rw [if_neg (by rintro (h | h) <;> exact absurd h List.not_mem_nil)]
      rfl
    rw [e]
    exact hL
  · rcases hg with e | e | e
    · exact absurd e (hnn g)
    · exact absurd e (hnn g)
    · simp [Value.ownBlock] at e
      omega
theorem LkS.reach {ps ph lim n px : Nat} {kk : Kp} {M : Hp} {w0 w : World} {k : Wk} (iv : Inv ps ph lim n kk M w0) (hn : n ≤ 10000) (h : LkS w0 px M k w) {i : Nat} (hi : i = 0 ∨ Is M i) :
    Calls Tryz.prog 36 #[.pointer (some ⟨px, 0, none⟩), .pointer (some ⟨ps, 0, none⟩), .int .u64 (refW M i : Nat), .int .i64 (i : Nat)] w fun e w' => e = .returned (.bool true) ∧ LkS w0 px M (reachW M k i) w' := by
  obtain ⟨V, h1, h2, h3⟩ := h
  exact (reach_any iv h1 h2 h3 hn hi).mono fun e w' ⟨e1, e2, V', e3, _⟩ => ⟨e1, V', e2, e3, h3.reach iv.wf.1.ok hi⟩
theorem LkS.node {ps ph lim n px : Nat} {kk : Kp} {M : Hp} {w0 w : World} {k : Wk} (iv : Inv ps ph lim n kk M w0) (hn : n ≤ 10000) (h : LkS w0 px M k w) {i : Nat} (hi : i ∈ k.cop ∨ i ∈ k.lin) :
    Calls Tryz.prog 37 #[.pointer (some ⟨px, 0, none⟩), .int .u64 (refW M i : Nat)] w fun e w' => e = .returned (.int .i64 (i : Nat)) ∧ LkS w0 px M k w' := by
  have hl := (iv.nodeM (h.choose_spec.2.2.all i hi))
  obtain ⟨gN, cN, ar, aw, cr, cw, nm⟩ := hl
  obtain ⟨V, h1, h2, h3⟩ := h
  have hob := iv.nobj
  exact (node_any h2 iv.wf.1.ok h3.all (by omega) hi nm.lt).mono fun e w' ⟨e1, s⟩ => ⟨e1, V, h1.trans (s.below.mono h1.size), h2.below s.below, h3⟩
theorem Pu.look {M : Hp} (ok : HpOk M) {k : Wk} (p : Pu M k) {i : Nat} (hi : i ∈ k.cop ∨ i ∈ k.lin) : Pu M (lookW M k i) :=
  Pu.fold ok _ p fun r hr => ok.rf i (p.all i hi) r hr
theorem LkS.same {ps ph lim n px : Nat} {kk : Kp} {M : Hp} {w0 w : World} {k : Wk} (iv : Inv ps ph lim n kk M w0) (hn : n ≤ 10000) (h : LkS w0 px M k w) {i : Nat} (hi : i ∈ k.cop ∨ i ∈ k.lin) :
    Calls Tryz.prog 38 #[.pointer (some ⟨px, 0, none⟩), .pointer (some ⟨ps, 0, none⟩), .int .i64 (i : Nat)] w fun e w' => e = .returned (.bool true) ∧ LkS w0 px M (lookW M k i) w' := by
  obtain ⟨V, h1, h2, h3⟩ := h
  exact (same_any iv h1 h2 h3 hn hi).mono fun e w' ⟨e1, e2, V', e3⟩ => ⟨e1, V', e2, e3, h3.look iv.wf.1.ok hi⟩
end Go.Proofs.YtidfllgaeiopjaaGreat
namespace Go.Proofs.YtidfllgaeiopjaaGreat
open Go.ChangeShapes Go.WideShapes Go.ChangeAt Go.RowKit
set_option linter.unusedVariables false
set_option maxRecDepth 100000
set_option maxHeartbeats 1000000

/-- a step, and what it has done -/
theorem Inv.step2 {ps ph lim n : Nat} {k : Kp} {M : Hp} {w : World} (h : Inv ps ph lim n k M w) (hn : n ≤ 10000) (q : MvL) (ok : DataOk k.w q.A q.V q.a q.c q.l) :
    Calls Tryz.prog 12 #[.pointer (some ⟨ps, 0, none⟩), mvV q.K q.A q.B q.C q.H q.G q.V (.slice q.a q.l.length q.c)] w fun e w' => e = .returned (.bool true) ∧ ∃ M' last, Inv ps ph lim (n + 1) k M' w' ∧ SameK k w w' ∧ w'.cell? ⟨ps, 3, none⟩ = some (.int .i64 (lim : Nat)) ∧ w'.cell? ⟨ps, 4, none⟩ = some (.int .i64 (last : Nat)) ∧ StepR q.K q.A q.B q.C M M' last := by
  obtain ⟨tag, st, H, ns, C, last, b, bd⟩ := h
  refine (step_any b bd hn q.K q.A q.B q.C q.H q.G q.V q.a q.c q.l ok).mono ?_
  rintro e w' ⟨rfl, t', s', M', H', n', C', l', b', bd', r⟩
  exact ⟨rfl, M', l', ⟨t', s', H', n', C', l', b', bd'⟩, b.sameK b', b'.sh.c3, b'.sh.c4, r⟩
end Go.Proofs.YtidfllgaeiopjaaGreat
namespace Go.Proofs.YtidfllgaeiopjaaGreat
open Go.ChangeShapes Go.WideShapes Go.ChangeAt Go.RowKit
set_option linter.unusedVariables false
set_option linter.unusedSimpArgs false
set_option maxRecDepth 100000
set_option maxHeartbeats 2000000

theorem small_len {M : Hp} (wf : HpWf M) : M.small.length ≤ 1000000 := by
  have ok := wf.ok
  have h1 := ok.us
  have h2 := place_all M M.small
  have h3 := ok.u2; have h4 := wf.lm; have h5 := wf.l2; have h7 := ok.h2
  have h6 : M.small.length ≤ (M.small.map fun i => osz (ob M i)).sum := by
    have : ∀ l : List Nat, l.length ≤ (l.map fun i => osz (ob M i)).sum := fun l => by
      induction l with
      | nil => simp
      | cons a l ih => simp only [List.map_cons, List.sum_cons, List.length_cons]; have := (show 1 ≤ osz (ob M a) by unfold osz; omega); omega
    exact this _
  omega
theorem Inv.hands {ps ph lim n : Nat} {k : Kp} {M : Hp} {w : World} (h : Inv ps ph lim n k M w) (hn : n ≤ 10000) : 1 ≤ M.objs.length ∧ M.roots.length ≤ 100000 ∧ ∃ aN cN aH cH, w.cell? ⟨ps, 1, none⟩ = some (.slice aN M.objs.length cN) ∧ w.cell? ⟨ps, 2, none⟩ = some (.slice aH M.roots.length cH) ∧ ∀ j, j < M.roots.length → ∃ g, aH = some ⟨g, 0, none⟩ ∧ w.cell? ⟨g, j, none⟩ = some (.int .i64 (hval (M.roots.getD j none))) := by
  obtain ⟨tag, st, H, ns, C, last, b, bd⟩ := h
  have hrt := bd.rt
  obtain ⟨aN, cN, eN⟩ := b.sh.nd.shape
  obtain ⟨aH, cH, eH⟩ := b.sh.hn.shape
  refine ⟨bd.o1, by omega, aN, cN, aH, cH, ?_, ?_, fun j hj => ?_⟩
  · rw [b.sh.c1, eN, b.gr.ln]
  · rw [b.sh.c2, eH]
  · obtain ⟨g, cap, ev, _, hc⟩ := b.sh.hn.at (by omega)
    rw [eH] at ev
    cases ev
    exact ⟨g, rfl, (hc j hj).1⟩
theorem Inv.at {ps ph lim n : Nat} {k : Kp} {M : Hp} {w : World} (h : Inv ps ph lim n k M w) (hn : n ≤ 10000) {m i : Nat} (hm : m < M.roots.length) (hi : M.roots.getD m none = some i) :
    Calls Tryz.prog 28 #[.pointer (some ⟨ph, 0, none⟩), .int .i64 ((m : Int) + 1)] w fun e w' => e = .returned (.tuple #[.int .u64 (refW M i : Nat), .int .i64 0]) ∧ Below w.heap.size w w' := by
  obtain ⟨tag, st, H, ns, C, last, b, bd⟩ := h
  have hrt := bd.rt
  exact at_held b.he (by omega) hm hi
theorem getD_mem0 {l : List Nat} {j : Nat} (h : j < l.length) : l.getD j 0 ∈ l := by
  rw [List.getD_eq_getElem?_getD, List.getElem?_eq_getElem h]
  exact List.getElem_mem h
theorem seen_any {ps ph lim n : Nat} {kk : Kp} {M : Hp} {w0 : World} (iv : Inv ps ph lim n kk M w0) (hn : n ≤ 10000) :
    Calls Tryz.prog 13 #[.pointer (some ⟨ps, 0, none⟩)] w0 fun e w' => ∃ px t, e = .returned (.tuple #[.pointer (some ⟨px, 0, none⟩), .bool true]) ∧ LkS w0 px M t.k w' ∧ Star M (stR M M.roots.length) t ∧ stepW M t = none := by
  have wf := iv.wf.1
  have ok := wf.ok
  have hob := iv.nobj
  have hsml := small_len wf
  have hsl := ok.sl
  obtain ⟨ho1, hrt, aN, cN, aH, cH, x1, x2, xh⟩ := iv.hands hn
  have x0 := iv.c0
  have mk1 := fun w' => run_make_row' (P := Tryz.prog) 44 30 (.int .u64 0) 8 Tryz.underlying44 Tryz.info30 rfl .i64 .i64 M.objs.length (by omega) (by omega) w'
  have HB : Hid (LkS w0 (w0.heap.size + 1) M (rootsW M 0) ((w0.alloc (.cells (madeCells #[.int .u64 0] M.objs.length) 30 (0, 0))).alloc (.cells #[.slice none 0 0, .slice none 0 0, .slice (some ⟨w0.heap.size, 0, none⟩) M.objs.length M.objs.length, .int .i64 1, .int .i64 0] 73))) := hide (seen_new w0 M (by omega) (by omega))
  have HI : ∀ px k W, Hid (LkS w0 px M k W) → Inv ps ph lim n kk M W := fun px k W h => by
    obtain ⟨V, h1, _⟩ := unhide h
    exact iv.still h1
  have HC : Hid (∀ px k W, Hid (LkS w0 px M k W) → W.cell? ⟨ps, 0, none⟩ = some (.pointer (some ⟨ph, 0, none⟩)) ∧ W.cell? ⟨ps, 2, none⟩ = some (.slice aH M.roots.length cH)) := hide (fun px k W h => by
    obtain ⟨V, h1, _⟩ := unhide h
    exact ⟨(iv.still h1).c0, (h1.cell (p := ⟨ps, 2, none⟩) (block_lt_of_cell x2)).trans x2⟩)
  have HH : Hid (∀ px k W j, j < M.roots.length → Hid (LkS w0 px M k W) → ∃ g, aH = some ⟨g, 0, none⟩ ∧ W.cell? ⟨g, j, none⟩ = some (.int .i64 (hval (M.roots.getD j none)))) := hide (fun px k W j hj h => by
    obtain ⟨V, h1, _⟩ := unhide h
    obtain ⟨g, e, c⟩ := xh j hj
    exact ⟨g, e, (h1.cell (p := ⟨g, j, none⟩) (block_lt_of_cell c)).trans c⟩)
  have H28 : Hid (∀ px k W j i, j < M.roots.length → M.roots.getD j none = some i → Hid (LkS w0 px M k W) → Calls Tryz.prog 28 #[.pointer (some ⟨ph, 0, none⟩), .int .i64 ((j : Int) + 1)] W fun e w' => e = .returned (.tuple #[.int .u64 (refW M i : Nat), .int .i64 0]) ∧ Hid (LkS w0 px M k w')) := hide (fun px k W j i hj hi h => (Inv.at (HI px k W h) hn hj hi).mono fun e w' ⟨e1, e2⟩ => ⟨e1, hide ((unhide h).below e2)⟩)
  have H36 : Hid (∀ px k W j i, j < M.roots.length → M.roots.getD j none = some i → Hid (LkS w0 px M k W) → Calls Tryz.prog 36 #[.pointer (some ⟨px, 0, none⟩), .pointer (some ⟨ps, 0, none⟩), .int .u64 (refW M i : Nat), .int .i64 (i : Nat)] W fun e w' => e = .returned (.bool true) ∧ Hid (LkS w0 px M (reachW M k i) w')) := hide (fun px k W j i hj hi h => (LkS.reach iv hn (unhide h) (root_is ok hj hi)).mono fun e w' ⟨e1, e2⟩ => ⟨e1, hide e2⟩)
  have H37 : Hid (∀ px k W i, (i ∈ k.cop ∨ i ∈ k.lin) → Hid (LkS w0 px M k W) → Calls Tryz.prog 37 #[.pointer (some ⟨px, 0, none⟩), .int .u64 (refW M i : Nat)] W fun e w' => e = .returned (.int .i64 (i : Nat)) ∧ Hid (LkS w0 px M k w')) := hide (fun px k W i hi h => (LkS.node iv hn (unhide h) hi).mono fun e w' ⟨e1, e2⟩ => ⟨e1, hide e2⟩)
  have H38 : Hid (∀ px k W i, (i ∈ k.cop ∨ i ∈ k.lin) → Hid (LkS w0 px M k W) → Calls Tryz.prog 38 #[.pointer (some ⟨px, 0, none⟩), .pointer (some ⟨ps, 0, none⟩), .int .i64 (i : Nat)] W fun e w' => e = .returned (.bool true) ∧ Hid (LkS w0 px M (lookW M k i) w')) := hide (fun px k W i hi h => (LkS.same iv hn (unhide h) hi).mono fun e w' ⟨e1, e2⟩ => ⟨e1, hide e2⟩)
  have HX : Hid (∀ px k W, Hid (LkS w0 px M k W) → (k.cop.length ≤ M.small.length ∧ k.lin.length ≤ M.slots.length) ∧ ∃ aS cS aB cB, W.cell? ⟨px, 0, none⟩ = some (.slice aS k.cop.length cS) ∧ W.cell? ⟨px, 1, none⟩ = some (.slice aB k.lin.length cB) ∧ (∀ j, j < k.cop.length → ∃ g, aS = some ⟨g, 0, none⟩ ∧ W.cell? ⟨g, j, none⟩ = some (.int .u64 (refW M (k.cop.getD j 0) : Nat))) ∧ ∀ j, j < k.lin.length → ∃ g, aB = some ⟨g, 0, none⟩ ∧ W.cell? ⟨g, j, none⟩ = some (.int .u64 (refW M (k.lin.getD j 0) : Nat))) := hide (fun px k W h => by
    obtain ⟨V, h1, h2, h3⟩ := unhide h
    obtain ⟨aS, cS, eS⟩ := h2.s.shape
    obtain ⟨aB, cB, eB⟩ := h2.b.shape
    refine ⟨h3.lens, aS, cS, aB, cB, by rw [h2.c0, eS], by rw [h2.c1, eB], fun j hj => ?_, fun j hj => ?_⟩
    · obtain ⟨g, cap, ev, _, hc⟩ := h2.s.at (by omega)
      rw [eS] at ev
      cases ev
      exact ⟨g, rfl, (hc j hj).1⟩
    · obtain ⟨g, cap, ev, _, hc⟩ := h2.b.at (by omega)
      rw [eB] at ev
      cases ev
      exact ⟨g, rfl, (hc j hj).1⟩)
  have HP : Hid (∀ px k W i, (i ∈ k.cop ∨ i ∈ k.lin) → Hid (LkS w0 px M k W) → i ≠ 0) := hide (fun px k W i hi h => by
    obtain ⟨V, h1, h2, h3⟩ := unhide h
    exact is_pos ok (h3.all i hi))
  have HR : Hid (∀ j, rootsW M (j + 1) = match M.roots.getD j none with | none => rootsW M j | some i => reachW M (rootsW M j) i) := hide (fun j => rootsW_succ M j)
  generalize hnr : M.roots.length = nR at *
  generalize hno : M.objs.length = nO at *
  clear iv wf ok hob xh HI hnr hno
  go_enter Tryz.func13, Tryz.ntmps13
  go_wp2_with fail
  clear x0 x1 x2 mk1
  generalize hpx : w0.heap.size + 1 = px at *
  generalize hW1 : World.alloc (World.alloc w0 _) _ = W1 at *
  clear hpx hW1
  go_loopw [5] (fun iv wr => ∃ i : Nat, iv = .int .i64 (i : Nat) ∧ i ≤ nR ∧ Hid (LkS w0 px M (rootsW M i) wr)) (fun iv _ => nR - (intOf iv).toNat)
  case atStart => exact ⟨0, rfl, Nat.zero_le _, HB⟩
  case round =>
    clear HB
    obtain ⟨j, rfl, hj, hL⟩ := hrel
    obtain ⟨c0, c2⟩ := unhide HC _ _ _ hL
    have w1 : IntKind.i64.wrap ((j : Int) + 1) = (j : Int) + 1 := wrap_small _ (by omega) (by omega)
    by_cases hjn : j < nR
    · have dl : decide ((j : Int) < (nR : Nat)) = true := decide_eq_true (by omega)
      have i1 : (0 : Int) ≤ (j : Nat) := by omega
      have i2 : (j : Int) < (nR : Nat) := by omega
      obtain ⟨g, rfl, e0⟩ := unhide HH _ _ _ j hjn hL
      have hrj := unhide HR j
      cases ho : M.roots.getD j none with
      | none =>
        rw [ho] at e0 hrj
        have e0' : wr.cell? ⟨g, j, none⟩ = some (.int .i64 (-1)) := e0
        have hL' : Hid (LkS w0 px M (rootsW M (j + 1)) wr) := by rw [hrj]; exact hL
        clear e0 hrj ho hL
        go_wp2_with fail
        all_goals go_roundw
        all_goals first | exact ⟨j + 1, by simp, by omega, hL'⟩ | (simp [intOf]; omega)
      | some r =>
        rw [ho] at e0 hrj
        have e0' : wr.cell? ⟨g, j, none⟩ = some (.int .i64 (r : Nat)) := e0
        have d0 : decide ((r : Int) < 0) = false := decide_eq_false (by omega)
        have h28 := hide (unhide H28 px _ wr j r hjn ho hL)
        have h36 := hide (fun W hW => unhide H36 px (rootsW M j) W j r hjn ho hW)
        have hH := hide (fun W hW => unhide HH px (rootsW M j) W j hjn hW)
        have HJ := hide hrj
        rw [ho] at hH
        clear e0 hrj hL ho
        go_wp2_with fail
        refine (unhide h28).mono ?_
        rintro e w3 ⟨rfl, hL3⟩
        obtain ⟨c0, c2⟩ := unhide HC _ _ _ hL3
        obtain ⟨g', eg, e0⟩ := unhide hH _ hL3
        cases eg
        have e0' : w3.cell? ⟨g, j, none⟩ = some (.int .i64 (r : Nat)) := e0
        clear e0 h28
        go_wp2_with fail
        refine (unhide h36 _ hL3).mono ?_
        rintro e w4 ⟨rfl, hL4⟩
        clear h36 c0 c2 e0' hL3
        rw [← unhide HJ] at hL4
        go_wp2_with fail
        all_goals go_roundw
        all_goals first | exact ⟨j + 1, by simp, by omega, hL4⟩ | (simp [intOf]; omega)
    · have hje : j = nR := by omega
      subst hje
      have dl : decide ((j : Int) < (j : Nat)) = false := decide_eq_false (by omega)
      go_wp2_with fail
      clear dl c0 c2 HH H28 H36 HR w1
      rename World => wo
      go_loopw [8, 9] (fun av bv wr => ∃ t : St, av = .int .i64 (t.a : Nat) ∧ bv = .int .i64 (t.b : Nat) ∧ Hid (Star M (stR M j) t ∧ Cl M t) ∧ Hid (LkS w0 px M t.k wr)) (fun av bv _ => M.small.length + M.slots.length - ((intOf av).toNat + (intOf bv).toNat))
      case atStart => exact ⟨stR M j, rfl, rfl, hide ⟨Star.refl _, cl_start M j⟩, hL⟩
      case round =>
        clear hL
        obtain ⟨⟨k, a, b⟩, rfl, rfl, hS, hL⟩ := hrel
        dsimp only at hL
        obtain ⟨⟨l1, l2⟩, aS, cS, aB, cB, c0, c1, hs, hb⟩ := unhide HX _ _ _ hL
        obtain ⟨hst, hcl⟩ := unhide hS
        have hca := hcl.1
        have hcb := hcl.2.1
        dsimp only at hca hcb
        by_cases hA : a < k.cop.length
        · obtain ⟨g, rfl, e0⟩ := hs a hA
          have hmem := getD_mem0 hA
          have dA : decide ((a : Int) < (k.cop.length : Nat)) = true := decide_eq_true (by omega)
          have i1 : (0 : Int) ≤ (a : Nat) := by omega
          have i2 : (a : Int) < (k.cop.length : Nat) := by omega
          have w1 : IntKind.i64.wrap ((a : Int) + 1) = (a : Int) + 1 := wrap_small _ (by omega) (by omega)
          obtain ⟨r, hr⟩ : ∃ r, k.cop.getD a 0 = r := ⟨_, rfl⟩
          rw [hr] at e0 hmem
          have h37 := hide (unhide H37 px k wr r (.inl hmem) hL)
          have h38 := hide (fun W hW => unhide H38 px k W r (.inl hmem) hW)
          have hr0 := unhide HP px k wr r (.inl hmem) hL
          have d0 : ((r : Int) == 0) = false := by simp; omega
          have d0' : ((r : Int) = 0) = False := by simp; omega
          have hstep : stepW M ⟨k, a, b⟩ = some ⟨lookW M k r, a + 1, b⟩ := by unfold stepW; rw [if_pos hA, hr]
          have HN : Hid (Star M (stR M j) ⟨lookW M k r, a + 1, b⟩ ∧ Cl M ⟨lookW M k r, a + 1, b⟩) := hide ⟨hst.more hstep, (hcl.step hstep).1⟩
          have HM : Hid (a < k.cop.length ∧ k.cop.length ≤ M.small.length ∧ k.lin.length ≤ M.slots.length ∧ a ≤ k.cop.length ∧ b ≤ k.lin.length) := hide ⟨hA, l1, l2, hca, hcb⟩
          clear hr hmem hr0 hstep hst hcl hs hb hS hL l1 l2
          go_wp2_with fail
          refine (unhide h37).mono ?_
          rintro e w3 ⟨rfl, hL3⟩
          clear h37 c0 c1 e0
          go_wp2_with fail
          refine (unhide h38 _ hL3).mono ?_
          rintro e w4 ⟨rfl, hL4⟩
          clear h38 hL3
          go_wp2_with fail
          all_goals go_roundw
          all_goals first | exact ⟨⟨lookW M k r, a + 1, b⟩, by simp, by simp, HN, hL4⟩ | (have := unhide HM; simp [intOf]; omega)
        · by_cases hB : b < k.lin.length
          · obtain ⟨g, rfl, e0⟩ := hb b hB
            have hmem := getD_mem0 hB
            have dA : decide ((a : Int) < (k.cop.length : Nat)) = false := decide_eq_false (by omega)
            have dB : decide ((b : Int) < (k.lin.length : Nat)) = true := decide_eq_true (by omega)
            have i1 : (0 : Int) ≤ (b : Nat) := by omega
            have i2 : (b : Int) < (k.lin.length : Nat) := by omega
            have w1 : IntKind.i64.wrap ((b : Int) + 1) = (b : Int) + 1 := wrap_small _ (by omega) (by omega)
            obtain ⟨r, hr⟩ : ∃ r, k.lin.getD b 0 = r := ⟨_, rfl⟩
            rw [hr] at e0 hmem
            have h37 := hide (unhide H37 px k wr r (.inr hmem) hL)
            have h38 := hide (fun W hW => unhide H38 px k W r (.inr hmem) hW)
            have hr0 := unhide HP px k wr r (.inr hmem) hL
            have d0 : ((r : Int) == 0) = false := by simp; omega
            have d0' : ((r : Int) = 0) = False := by simp; omega
            have hstep : stepW M ⟨k, a, b⟩ = some ⟨lookW M k r, a, b + 1⟩ := by unfold stepW; rw [if_neg hA, if_pos hB, hr]
            have HN : Hid (Star M (stR M j) ⟨lookW M k r, a, b + 1⟩ ∧ Cl M ⟨lookW M k r, a, b + 1⟩) := hide ⟨hst.more hstep, (hcl.step hstep).1⟩
            have HM : Hid (b < k.lin.length ∧ k.cop.length ≤ M.small.length ∧ k.lin.length ≤ M.slots.length ∧ a ≤ k.cop.length ∧ b ≤ k.lin.length) := hide ⟨hB, l1, l2, hca, hcb⟩
            clear hr hmem hr0 hstep hst hcl hs hb hS hL l1 l2
            go_wp2_with fail
            refine (unhide h37).mono ?_
            rintro e w3 ⟨rfl, hL3⟩
            clear h37 c0 c1 e0
            go_wp2_with fail
            refine (unhide h38 _ hL3).mono ?_
            rintro e w4 ⟨rfl, hL4⟩
            clear h38 hL3
            go_wp2_with fail
            all_goals go_roundw
            all_goals first | exact ⟨⟨lookW M k r, a, b + 1⟩, by simp, by simp, HN, hL4⟩ | (have := unhide HM; simp [intOf]; omega)
          · have dA : decide ((a : Int) < (k.cop.length : Nat)) = false := decide_eq_false (by omega)
            have dB : decide ((b : Int) < (k.lin.length : Nat)) = false := decide_eq_false (by omega)
            have hno : stepW M ⟨k, a, b⟩ = none := by unfold stepW; rw [if_neg hA, if_neg hB]
            have HF := hide (⟨unhide hL, hst, hno⟩ : _ ∧ _ ∧ _)
            clear hs hb hst hcl hS hno hL
            go_wp2_with fail
            all_goals go_ret2
            all_goals exact ⟨px, ⟨k, a, b⟩, rfl, (unhide HF).1, (unhide HF).2.1, (unhide HF).2.2⟩
end Go.Proofs.YtidfllgaeiopjaaGreat
namespace Go.Proofs.YtidfllgaeiopjaaGreat
open Go.ChangeShapes Go.WideShapes Go.ChangeAt Go.RowKit
set_option linter.unusedVariables false
set_option maxRecDepth 100000
set_option maxHeartbeats 1000000

theorem Inv.nodeG {ps ph lim n : Nat} {k : Kp} {M : Hp} {w : World} (h : Inv ps ph lim n k M w) : ∃ gN cN, w.cell? ⟨ps, 1, none⟩ = some (.slice (some ⟨gN, 0, none⟩) M.objs.length cN) := by
  obtain ⟨tag, st, H, ns, C, last, b, bd⟩ := h
  have h1 := bd.o1
  obtain ⟨g, cap, ev, _, _⟩ := b.sh.nd.at (by rw [b.gr.ln]; omega)
  exact ⟨g, cap, by rw [b.sh.c1, ev, b.gr.ln]⟩
theorem packed_any {ps ph lim n : Nat} {kk : Kp} {M : Hp} {w : World} (iv : Inv ps ph lim n kk M w) (hn : n ≤ 10000) (fr : Fresh0 M) :
    Calls Tryz.prog 22 #[.pointer (some ⟨ps, 0, none⟩)] w fun e w' => e = .returned (.bool true) ∧ Below w.heap.size w w' := by
  have wf := iv.wf.1
  have ok := wf.ok
  have hob := iv.nobj
  have hsml := small_len wf
  obtain ⟨t, a1, a2, fi, _⟩ := walk_done ok M.roots.length (fun x hx => by rw [List.getD_eq_getElem?_getD, List.getElem?_eq_none hx]; rfl)
  obtain ⟨e1, e2, e3, e4⟩ := fr.seen wf a1 a2
  obtain ⟨gN, cN, x1⟩ := iv.nodeG
  have hmem : ∀ j, j < M.small.length → M.small.getD j 0 ∈ M.small := fun j hj => getD_mem0 hj
  have hu := ok.u2; have hh := ok.h2
  have hplace : ∀ j, j ≤ M.small.length → place (shapes M M.small) j ≤ 10000000 := fun j hj => by
    have h1 : place (shapes M M.small) j ≤ place (shapes M M.small) M.small.length := by
      rw [place_sum _ _ (by rw [shapes_length]; exact hj), place_sum _ _ (by rw [shapes_length]; exact Nat.le_refl _)]
      have : (((shapes M M.small).take j).map wd).sum ≤ (((shapes M M.small).take M.small.length).map wd).sum := by
        have e : (shapes M M.small).take M.small.length = (shapes M M.small).take j ++ ((shapes M M.small).take M.small.length).drop j := by
          conv => lhs; rw [← List.take_append_drop j ((shapes M M.small).take M.small.length), List.take_take, Nat.min_eq_left hj]
        rw [e, List.map_append, List.sum_append]
        omega
      omega
    rw [← ok.us] at h1
    omega
  refine (packed_walk (gN := gN) (N := M.objs.length) (cN := cN) (n := M.small.length) (m := cntS M) (used := M.used) (large := M.large) (limit := M.limit) (half := M.half) (roots := cntR M) (coll := M.coll) (resz := M.resz) (moved := M.moved) (ph := ph)
    (pl := fun j => place (shapes M M.small) j) (id := fun j => M.small.getD j 0) (kd := fun j => (ob M (M.small.getD j 0)).kind) (rl := fun j => (ob M (M.small.getD j 0)).refs.length) (wl := fun j => (ob M (M.small.getD j 0)).raws.length) (P := fun px W => LkS w px M t.k W)
    rfl (fun j hj => small_step hj) ok.us.symm hplace (fun j hj => wf.ln _ (.inl (hmem j hj))) (fun j hj => by have := wf.ss _ (hmem j hj); unfold osz at this; omega) (by omega) (fun px W W' h k => h.below k) ?_ ?_ ?_ ?_ ?_ ?_).mono ?_
  · refine (seen_any iv hn).mono fun e w' ⟨px, u, q1, q2, q3, q4⟩ => ⟨px, q1, ?_⟩
    rw [star_end a1 a2 q3 q4]
    exact q2
  · rintro px W ⟨V, h1, h2, h3⟩
    obtain ⟨aS, cS, eS⟩ := h2.s.shape
    obtain ⟨aB, cB, eB⟩ := h2.b.shape
    refine ⟨(iv.still h1).c0, (h1.cell (p := ⟨ps, 1, none⟩) (block_lt_of_cell x1)).trans x1, ⟨aS, cS, by rw [h2.c0, eS, e1], fun j hj => ?_⟩, ⟨aB, cB, by rw [h2.c1, eB, e4]⟩, by rw [h2.c3, e2], by rw [h2.c4, e3]⟩
    have hj' : j < t.k.cop.length := by rw [e1]; exact hj
    obtain ⟨g, cap, ev, _, hc⟩ := h2.s.at (by omega)
    rw [eS] at ev
    cases ev
    refine ⟨g, rfl, (hc j hj').1.trans ?_⟩
    rw [e1, small_ref ok hj]
  · rintro px W j ⟨V, h1, h2, h3⟩ hj
    obtain ⟨g, c, ar, aw, cr, cw, nm⟩ := (iv.still h1).nodeM (.inl (hmem j hj))
    have y1 := (h1.cell (p := ⟨ps, 1, none⟩) (block_lt_of_cell x1)).trans x1
    have := nm.x1
    rw [y1] at this
    cases this
    exact ⟨ar, cr, aw, cw, nm.y0, nm.y1, nm.y2⟩
  · rintro px W j ⟨V, h1, h2, h3⟩ hj
    have hc : M.small.getD j 0 ∈ t.k.cop := by rw [e1]; exact hmem j hj
    have := node_any h2 ok h3.all (by omega) (.inl hc) (wf.ln _ (.inl (hmem j hj)))
    rw [small_ref ok hj] at this
    exact this
  · rintro px W ⟨V, h1, h2, h3⟩
    exact (iv.still h1).stats
  · rintro px W ⟨V, h1, h2, h3⟩
    exact (iv.still h1).image.mono fun e w' ⟨q1, q2, q3, q4⟩ => ⟨_, q1, q4⟩
  · rintro e w' ⟨q1, px, V, h1, _⟩
    exact ⟨q1, h1⟩
end Go.Proofs.YtidfllgaeiopjaaGreat
namespace Go.Proofs.YtidfllgaeiopjaaGreat
open Go.ChangeShapes Go.WideShapes Go.ChangeAt Go.RowKit
set_option linter.unusedVariables false
set_option linter.unusedSimpArgs false
set_option maxRecDepth 100000
set_option maxHeartbeats 1000000

def sO (M : Hp) : Obj := .cells #[.int .i64 (M.limit : Nat), .int .i64 (M.half : Nat), .int .i64 (M.used : Nat), .int .i64 (M.large : Nat), .int .i64 (cntS M : Nat), .int .i64 (cntR M : Nat), .int .i64 (M.coll : Nat), .int .i64 (M.resz : Nat), .int .i64 (M.moved : Nat)] 47
def s9 (w : World) (g : Nat) (M : Hp) : World := ((((((((w.setCell ⟨g, 0, none⟩ (.int .i64 (M.limit : Nat))).setCell ⟨g, 1, none⟩ (.int .i64 (M.half : Nat))).setCell ⟨g, 2, none⟩ (.int .i64 (M.used : Nat))).setCell ⟨g, 3, none⟩ (.int .i64 (M.large : Nat))).setCell ⟨g, 4, none⟩ (.int .i64 (cntS M : Nat))).setCell ⟨g, 5, none⟩ (.int .i64 (cntR M : Nat))).setCell ⟨g, 6, none⟩ (.int .i64 (M.coll : Nat))).setCell ⟨g, 7, none⟩ (.int .i64 (M.resz : Nat))).setCell ⟨g, 8, none⟩ (.int .i64 (M.moved : Nat))
/-- where Image's answer lies, and Stats' -/
structure AT (M : Hp) (ga gt : Nat) (w X : World) : Prop where
  be : Below w.heap.size w X
  a1 : w.heap.size ≤ ga ∧ ga < X.heap.size
  t1 : w.heap.size ≤ gt ∧ gt < X.heap.size
  img : ∀ j, j < M.used → X.cell? ⟨ga, j, none⟩ = some (.int .u64 ((imgM M).getD j 0 : Nat))
  st : X.heap[gt]? = some (sO M)
end Go.Proofs.YtidfllgaeiopjaaGreat
namespace Go.Proofs.YtidfllgaeiopjaaGreat
open Go.ChangeShapes Go.WideShapes Go.ChangeAt Go.RowKit
set_option linter.unusedVariables false
set_option linter.unusedSimpArgs false
set_option maxRecDepth 100000
set_option maxHeartbeats 2000000
end Go.Proofs.YtidfllgaeiopjaaGreat
namespace Go.Proofs.YtidfllgaeiopjaaGreat
open Go.ChangeShapes Go.WideShapes Go.ChangeAt Go.RowKit
set_option linter.unusedVariables false
set_option linter.unusedSimpArgs false
set_option maxRecDepth 100000
set_option maxHeartbeats 4000000

theorem Moves3.under {w w' : World} {a : Option Addr} {n : Nat} (h : Moves3 w a n) (k : Below w.heap.size w w') : Moves3 w' a n := by
  rcases h with h | ⟨b, off, e, hb, hq⟩
  · exact .inl h
  · refine .inr ⟨b, off, e, Nat.lt_of_lt_of_le hb k.size, fun i hi => ?_⟩
    obtain ⟨q, h1, h2⟩ := hq i hi
    exact ⟨q, h1.like (k.block b hb), ⟨h2.a1, h2.a2, h2.vl, h2.dl, h2.sm, h2.by'.below k, h2.nl⟩⟩
theorem Inv.bel {ps ph lim n : Nat} {k : Kp} {M : Hp} {w : World} (h : Inv ps ph lim n k M w) : Below k.w.heap.size k.w w := by
  obtain ⟨tag, st, H, ns, C, last, b, bd⟩ := h
  exact b.o1.be
end Go.Proofs.YtidfllgaeiopjaaGreat
namespace Go.Proofs.YtidfllgaeiopjaaGreat
open Go.ChangeShapes Go.WideShapes Go.ChangeAt Go.RowKit
set_option linter.unusedVariables false
set_option linter.unusedSimpArgs false
set_option maxRecDepth 100000
set_option maxHeartbeats 4000000

theorem step_fresh {K A B C : Int} {M M' : Hp} {last : Nat} (wf : HpWf M) (r : StepR K A B C M M' last) (h : K = 8 ∨ (K = 9 ∧ last = 0)) : Fresh0 M' := by
  rcases h with h | ⟨h, hl⟩
  · obtain ⟨M1, hc, rfl⟩ := r.2.1 h
    exact .fit wf hc 0
  · rcases r.2.2.1 h with ⟨_, _, e⟩ | ⟨_, M1, hc, ⟨_, e, _⟩ | ⟨_, _, rfl⟩⟩
    · omega
    · omega
    · exact .bec wf hc _
theorem compact_law (w : World) (lim : Int) (a : Option Addr) (n cap : Nat) (hS : Moves3 w a n) : Calls Tryz.prog 7 #[.agg #[.int .i64 lim, .slice a n cap]] w fun e w' => e = .returned (.bool true) ∧ Below w.heap.size w w' := by
  have hb0 : Below w.heap.size w (w.alloc (.cells #[.int .i64 lim, .slice a n cap] 24)) := (Below.refl _ _).alloc (Nat.le_refl _) _
  have hs0 : (w.alloc (.cells #[.int .i64 lim, .slice a n cap] 24)).heap.size = w.heap.size + 1 := by simp
  have z0 : (w.alloc (.cells #[.int .i64 lim, .slice a n cap] 24)).cell? ⟨w.heap.size, 0, none⟩ = some (.int .i64 lim) := World.cell?_alloc_at _ _ _ _ rfl
  have z1 : (w.alloc (.cells #[.int .i64 lim, .slice a n cap] 24)).cell? ⟨w.heap.size, 1, none⟩ = some (.slice a n cap) := World.cell?_alloc_at _ _ _ _ rfl
  have HP : Hid (∀ W, Below (w.heap.size + 1) (w.alloc (.cells #[.int .i64 lim, .slice a n cap] 24)) W → W.cell? ⟨w.heap.size, 0, none⟩ = some (.int .i64 lim) ∧ W.cell? ⟨w.heap.size, 1, none⟩ = some (.slice a n cap) ∧ Below w.heap.size w W ∧ w.heap.size < W.heap.size) := hide (fun W k => ⟨(k.cell (p := ⟨w.heap.size, 0, none⟩) (Nat.lt_succ_self _)).trans z0, (k.cell (p := ⟨w.heap.size, 1, none⟩) (Nat.lt_succ_self _)).trans z1, hb0.trans (k.mono (by omega)), by have := k.size; omega⟩)
  have H9 : Hid (∀ W, Below (w.heap.size + 1) (w.alloc (.cells #[.int .i64 lim, .slice a n cap] 24)) W → Calls Tryz.prog 9 #[] W fun e w' => e = .returned (.bool true) ∧ Below (w.heap.size + 1) (w.alloc (.cells #[.int .i64 lim, .slice a n cap] 24)) w') := hide (fun W k => (wakes_any W).mono fun e w' ⟨q1, q2⟩ => ⟨q1, k.trans (q2.mono (by have := k.size; omega))⟩)
  have H10 : Hid (∀ W, Below (w.heap.size + 1) (w.alloc (.cells #[.int .i64 lim, .slice a n cap] 24)) W → Calls Tryz.prog 10 #[.agg #[.int .i64 lim, .slice a n cap]] W fun e w' => ∃ v, e = .returned (.bool v) ∧ (v = true → n ≤ 200) ∧ Below (w.heap.size + 1) (w.alloc (.cells #[.int .i64 lim, .slice a n cap] 24)) w') := hide (fun W k => (small_any W lim a n cap (hS.under (hb0.trans (k.mono (by omega))))).mono fun e w' ⟨v, q1, q2, q3⟩ => ⟨v, q1, q2, k.trans (q3.mono (by have := k.size; omega))⟩)
  have hI0 : Below (w.heap.size + 1) (w.alloc (.cells #[.int .i64 lim, .slice a n cap] 24)) (w.alloc (.cells #[.int .i64 lim, .slice a n cap] 24)) := Below.refl _ _
  have HS := hide hS
  clear hb0 hs0 z0 z1 hS
  generalize hW : World.alloc w _ = W0 at *
  go_enter Tryz.func7, Tryz.ntmps7
  go_wp2_with fail
  (try rw [hW])
  clear hW
  refine (unhide H9 _ hI0).mono ?_
  clear hI0
  rintro e w1 ⟨rfl, hI1⟩
  obtain ⟨y0, y1, _, _⟩ := unhide HP _ hI1
  have HI1 := hide hI1
  clear hI1
  go_wp2_with fail
  refine (unhide H10 _ (unhide HI1)).mono ?_
  rintro e w2 ⟨v, rfl, hv, hI2⟩
  obtain ⟨y0, y1, hbw, _⟩ := unhide HP _ hI2
  have HI2 := hide hI2
  have HBW := hide hbw
  have HV := hide hv
  clear hI2 HI1 hbw hv H9 H10
  cases v
  · go_wp2_with fail
    go_ret
    exact ⟨rfl, unhide HBW⟩
  · have hn200 := unhide HV rfl
    by_cases hbad : lim < 128 ∨ 1048576 < lim
    · have H11 := hide (begins_bad (w := w2) hbad)
      clear hbad
      go_wp2_with fail
      refine (unhide H11).mono ?_
      rintro e w3 ⟨rfl, rfl⟩
      go_wp2_with fail
      go_ret
      exact ⟨rfl, unhide HBW⟩
    · obtain ⟨L, rfl⟩ : ∃ L : Nat, lim = (L : Nat) := ⟨lim.toNat, by omega⟩
      have H11 : Hid (Calls Tryz.prog 11 #[.int .i64 (L : Nat)] w2 fun e w' => ∃ ps ph, e = .returned (.tuple #[.pointer (some ⟨ps, 0, none⟩), .bool true]) ∧ Inv ps ph L 0 ⟨w2, w2, fun _ => False⟩ (newM L) w') := hide ((begins_any L (by omega) (by omega)).mono fun e w' ⟨ps, ph, tag, st, H, C, q1, q2⟩ => ⟨ps, ph, q1, tag, st, H, _, C, 0, q2, ⟨by show 1 ≤ 1; decide, by show 1 ≤ 1; decide, Nat.zero_le _, Nat.zero_le _, Nat.zero_le _, Nat.zero_le _, Nat.zero_le _⟩⟩)
      clear hbad
      go_wp2_with fail
      refine (unhide H11).mono ?_
      rintro e w3 ⟨ps, ph, rfl, hinv⟩
      have HV3 : Hid (∃ M, Inv ps ph L 0 ⟨w2, w2, fun _ => False⟩ M w3) := hide ⟨_, hinv⟩
      clear hinv
      have HC : Hid (∀ W, Below w2.heap.size w2 W → W.cell? ⟨w.heap.size, 1, none⟩ = some (.slice a n cap) ∧ Below w.heap.size w W) := hide (fun W k => by
        have k0 := unhide HI2
        have hz := (unhide HP _ k0).2.2.2
        have k1 : Below (w.heap.size + 1) W0 W := k0.trans (k.mono (by omega))
        exact ⟨(unhide HP _ k1).2.1, (unhide HP _ k1).2.2.1⟩)
      have HM : Hid (Moves3 w2 a n) := hide ((unhide HS).under (unhide HBW))
      clear H11 HI2 HBW HV HP HS y0 y1
      go_wp2_with fail
      go_loopw [5] (fun iv wr => ∃ i : Nat, iv = .int .i64 (i : Nat) ∧ i ≤ n ∧ Hid (∃ M, Inv ps ph L i ⟨w2, w2, fun _ => False⟩ M wr)) (fun iv _ => n - (intOf iv).toNat)
      case atStart => exact ⟨0, rfl, Nat.zero_le _, HV3⟩
      case round =>
        obtain ⟨i, rfl, hi, hI⟩ := hrel
        obtain ⟨M, hinv⟩ := unhide hI
        obtain ⟨y1, hbw⟩ := unhide HC _ hinv.bel
        have w1' : IntKind.i64.wrap ((i : Int) + 1) = (i : Int) + 1 := wrap_small _ (by omega) (by omega)
        by_cases hin : i < n
        · obtain ⟨bb, off, rfl, hbl, hq⟩ : ∃ b off, a = some ⟨b, off, none⟩ ∧ b < w2.heap.size ∧ ∀ i, i < n → ∃ q, MvAt w2 b (off + i * 8) q ∧ DataOk w2 q.A q.V q.a q.c q.l := by
            rcases unhide HM with h | h
            · omega
            · exact h
          obtain ⟨q, hm, hok⟩ := hq i hin
          have hmr := hm.like (hinv.bel.block bb hbl)
          obtain ⟨r0, r1, r2, r3, r4, r5, r6, r7⟩ := hmr
          have HF : Hid (∀ W, Hid (∃ M, Inv ps ph L (i + 1) ⟨w2, w2, fun _ => False⟩ M W) → W.cell? ⟨bb, off + i * 8, none⟩ = some (.int .i64 q.K)) := hide (fun W h => by
            obtain ⟨M', h⟩ := unhide h
            exact (hm.like (h.bel.block bb hbl)).m0)
          have HC' : Hid (∀ W, Hid (∃ M, Inv ps ph L (i + 1) ⟨w2, w2, fun _ => False⟩ M W) → W.cell? ⟨w.heap.size, 1, none⟩ = some (.slice (some ⟨bb, off, none⟩) n cap)) := hide (fun W h => by
            obtain ⟨M', h⟩ := unhide h
            exact (unhide HC _ h.bel).1)
          have H12 : Hid (Calls Tryz.prog 12 #[.pointer (some ⟨ps, 0, none⟩), mvV q.K q.A q.B q.C q.H q.G q.V (.slice q.a q.l.length q.c)] wr fun e w' => e = .returned (.bool true) ∧ ∃ last : Nat, w'.cell? ⟨ps, 4, none⟩ = some (.int .i64 (last : Nat)) ∧ Hid (∃ M, Inv ps ph L (i + 1) ⟨w2, w2, fun _ => False⟩ M w') ∧ Hid (q.K = 8 ∨ (q.K = 9 ∧ last = 0) → Calls Tryz.prog 22 #[.pointer (some ⟨ps, 0, none⟩)] w' fun e w'' => e = .returned (.bool true) ∧ Hid (∃ M, Inv ps ph L (i + 1) ⟨w2, w2, fun _ => False⟩ M w''))) := hide ((hinv.step2 (by omega) q hok).mono fun e w' ⟨z1, M', last, z2, z3, z4, z5, z6⟩ => ⟨z1, last, z5, hide ⟨M', z2⟩, hide (fun hK => (packed_any z2 (by omega) (step_fresh hinv.wf.1 z6 hK)).mono fun e w'' ⟨y1, y2⟩ => ⟨y1, hide ⟨M', z2.still y2⟩⟩)⟩)
          clear hm hok hq hinv
          obtain ⟨K, A, B, C, HH, GG, V, da, dl, dc⟩ := q
          dsimp only at r0 r1 r2 r3 r4 r5 r6 r7 H12 HF
          unfold mvV at H12
          obtain ⟨dn, hdn⟩ : ∃ dn, dl.length = dn := ⟨_, rfl⟩
          rw [hdn] at r7 H12
          clear hdn
          have dl' : decide ((i : Int) < (n : Nat)) = true := decide_eq_true (by omega)
          have i1 : (0 : Int) ≤ (i : Nat) := by omega
          have i2 : (i : Int) < (n : Nat) := by omega
          go_wp2_with fail
          refine (unhide H12).mono ?_
          rintro e w3 ⟨rfl, last, c4, HN, HPK⟩
          have f0 := unhide HF w3 HN
          have y1 := unhide HC' w3 HN
          clear H12 r0 r1 r2 r3 r4 r5 r6 r7 hbw hI HF HC'
          by_cases h8 : K = 8
          · subst h8
            have h22 := hide (unhide HPK (.inl rfl))
            clear HPK
            go_wp2_with fail
            refine (unhide h22).mono ?_
            rintro e w4 ⟨rfl, HN4⟩
            go_wp2_with fail
            all_goals go_roundw
            all_goals first | exact ⟨i + 1, by simp, by omega, HN4⟩ | (simp [intOf]; omega)
          · have n8 : (K == 8) = false := by simp [h8]
            by_cases h9 : K = 9
            · subst h9
              by_cases hl : last = 0
              · subst hl
                have h22 := hide (unhide HPK (.inr ⟨rfl, rfl⟩))
                clear HPK
                go_wp2_with fail
                refine (unhide h22).mono ?_
                rintro e w4 ⟨rfl, HN4⟩
                go_wp2_with fail
                all_goals go_roundw
                all_goals first | exact ⟨i + 1, by simp, by omega, HN4⟩ | (simp [intOf]; omega)
              · have nl : ((last : Int) == 0) = false := by simp; omega
                clear HPK
                go_wp2_with fail
                all_goals go_roundw
                all_goals first | exact ⟨i + 1, by simp, by omega, HN⟩ | (simp [intOf]; omega)
            · have n9 : (K == 9) = false := by simp [h9]
              clear HPK
              go_wp2_with fail
              all_goals go_roundw
              all_goals first | exact ⟨i + 1, by simp, by omega, HN⟩ | (simp [intOf]; omega)
        · have hiN : i = n := by omega
          subst hiN
          have dl' : decide ((i : Int) < (i : Nat)) = false := decide_eq_false (by omega)
          have x0 := hinv.c0
          have H14 : Hid (Calls Tryz.prog 14 #[.pointer (some ⟨ph, 0, none⟩)] wr fun e w' => e = .returned (.tuple #[]) ∧ Hid (Calls Tryz.prog 22 #[.pointer (some ⟨ps, 0, none⟩)] w' fun e w'' => e = .returned (.bool true) ∧ Below w.heap.size w w'')) := hide ((hinv.collect (by omega)).mono fun e w' ⟨z1, M1, z2, z3, z4⟩ => ⟨z1, hide ((packed_any z3 (by omega) (.fit hinv.wf.1 z2 0)).mono fun e w'' ⟨y1, y2⟩ => ⟨y1, (unhide HC _ (z3.still y2).bel).2⟩)⟩)
          clear hinv hbw hI HC
          go_wp2_with fail
          refine (unhide H14).mono ?_
          rintro e w5 ⟨rfl, h22⟩
          clear H14
          go_wp2_with fail
          refine (unhide h22).mono ?_
          rintro e w6 ⟨rfl, hb6⟩
          have HB6 := hide hb6
          clear hb6
          go_wp2_with fail
          all_goals go_ret
          all_goals exact ⟨by simp, by first | exact unhide HB6 | exact (unhide HB6).drew⟩
end Go.Proofs.YtidfllgaeiopjaaGreat
