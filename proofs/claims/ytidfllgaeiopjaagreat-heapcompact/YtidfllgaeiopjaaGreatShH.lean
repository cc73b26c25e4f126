/- The shadow changes: its last errno, one node more; the heap beside it stays. -/
import Derived.Test.YtidfllgaeiopjaaGreatLive2
namespace Go.Proofs.YtidfllgaeiopjaaGreat
open Go.ChangeShapes Go.WideShapes Go.ChangeAt Go.RowKit
set_option linter.unusedVariables false
set_option maxRecDepth 100000
set_option maxHeartbeats 1000000

/-- all that was there in w0 is as it was, and none of it is the heap's -/
structure Own0 (w0 w : World) (tag : Nat → Nat) : Prop where
  be : Below w0.heap.size w0 w
  tg : ∀ g, g < w0.heap.size → tag g = 0
theorem Own0.fr {w0 w w' : World} {tag tag' : Nat → Nat} (h : Own0 w0 w tag) (f : Fr tag tag' w w') : Own0 w0 w' tag' :=
  ⟨⟨f.os.trans h.be.os, f.tape.trans h.be.tape, f.output.trans h.be.output, Nat.le_trans h.be.size f.size, fun g hg => (f.blk g (Nat.lt_of_lt_of_le hg h.be.size) (h.tg g hg)).1.trans (h.be.block g hg)⟩, fun g hg => (f.blk g (Nat.lt_of_lt_of_le hg h.be.size) (h.tg g hg)).2⟩
theorem Own0.below {w0 w w' : World} {tag : Nat → Nat} (h : Own0 w0 w tag) (k : Below w.heap.size w w') : Own0 w0 w' tag := ⟨h.be.trans (k.mono h.be.size), h.tg⟩

def wk2 : Hp := addS (newM 1000) 7 1 2
def wk3 : Hp := putO wk2 1 (setO wk2 1 2 99)
def wk4 : Hp := rootM wk3 0 1
theorem wk_alloc : AllocR (newM 1000) 7 1 2 wk2 1 0 := .inl ⟨by decide, newM 1000, .inl ⟨by decide, rfl⟩, .inl ⟨by decide, rfl, rfl, rfl⟩⟩
theorem wk_set : setM wk2 1 2 99 = (wk3, 0) := by rfl
theorem wk_may : mayM wk3 1 = true := by rfl
theorem wk_low : LowR wk3 0 := ⟨rfl, Nat.le_refl _, fun q hq => absurd hq (Nat.not_lt_zero _)⟩
theorem wk_gr : Gr wk4 [(0, [], []), (7, [0], [0, 99])] := by
  have g1 := Gr.new 1000
  have g2 : Gr wk2 ([(0, [], [])] ++ [dat (newOb 7 1 2 false 1)]) := g1.more (fun i hi => by
    rcases hi with hi | ⟨_, hi⟩
    · exact absurd hi List.not_mem_nil
    · exact absurd hi List.not_mem_nil) (newOb 7 1 2 false 1) rfl fun i hi => addS_is hi
  have g3 : Gr wk3 _ := g2.put 1 (setO wk2 1 2 99) (by decide)
  exact g3.roots _
theorem wk_end {M5 : Hp} (wf4 : HpWf wk4) (h : IsColl wk4 M5) (wf6 : HpWf (fitM M5 0)) : handR (fitM M5 0) 1 = some 1 ∧ getM (fitM M5 0) (refW (fitM M5 0) 1) 2 = (99, 0) ∧ refW (fitM M5 0) 1 < 18446744073709551616 := by
  have g := (wk_gr.coll wf4 h).fit 0
  have hr : (fitM M5 0).roots = [some 1] := by
    rw [(fitM_objs M5 0).2.1, h.nums.2.2.2.2.1]
    rfl
  have his : Is (fitM M5 0) 1 := by
    rcases wf6.ok.rt 1 (by rw [hr]; exact List.mem_cons_self) with e | e
    · cases e
    · exact e
  obtain ⟨n1, n2, n3⟩ := num_back wf6.ok his
  have hd := g.dt 1 his
  have hd' : (7, [0], [0, 99]) = dat (ob (fitM M5 0) 1) := hd
  have e2 : (ob (fitM M5 0) 1).refs = [0] := (congrArg (fun x => x.2.1) hd').symm
  have e3 : (ob (fitM M5 0) 1).raws = [0, 99] := (congrArg (fun x => x.2.2) hd').symm
  refine ⟨?_, ?_, n2⟩
  · unfold handR
    rw [hr]
    rfl
  · unfold getM fldM
    rw [n1, if_neg (by decide), e2, e3]
    rfl

theorem wakes_any (w : World) : Calls Tryz.prog 9 #[] w fun e w' => e = .returned (.bool true) ∧ Below w.heap.size w w' := by
  have H1 : Hid (Calls Tryz.prog 24 #[.int .i64 1000] w fun e w' => ∃ ph tag H, e = .returned (.tuple #[.pointer (some ⟨ph, 0, none⟩), .int .i64 0]) ∧ HAt w' ph tag (newM 1000) H ∧ Own0 w w' tag) := hide ((hnew_any 1000 (by omega) (by omega)).mono fun e w' ⟨ph, tag, H, h1, h2, h3, h4⟩ => ⟨ph, tag, H, h1, h2, ⟨h4, fun g hg => by
    by_cases q : tag g = 0
    · exact q
    · have := h3 g q; omega⟩⟩)
  have H2 : Hid (∀ W ph tag H, HAt W ph tag (newM 1000) H → Own0 w W tag → Calls Tryz.prog 25 #[.pointer (some ⟨ph, 0, none⟩), .int .i64 7, .int .i64 1, .int .i64 2] W fun e w' => e = .returned (.tuple #[.int .u64 1, .int .i64 0]) ∧ ∃ tag' H', HAt w' ph tag' wk2 H' ∧ Own0 w w' tag') := hide (fun W ph tag H h o => (halloc_any h (by decide) (by decide) (by decide) (by decide) 7 1 2 (by unfold Fits; decide)).mono fun e w' ⟨tag', H', M', v, x, h1, h2, h3, h4⟩ => by
    obtain ⟨rfl, rfl, rfl⟩ := h1.one wk_alloc
    exact ⟨h3, tag', H', h4, o.fr h2⟩)
  have H3 : Hid (∀ W ph tag H, HAt W ph tag wk2 H → Own0 w W tag → Calls Tryz.prog 26 #[.pointer (some ⟨ph, 0, none⟩), .int .u64 1, .int .i64 2, .int .u64 99] W fun e w' => e = .returned (.int .i64 0) ∧ ∃ H', HAt w' ph tag wk3 H' ∧ Own0 w w' tag) := hide (fun W ph tag H h o => (hset_any h 1 (by omega) 2 99 (by omega)).mono fun e w' ⟨h1, H', h2, h3⟩ => by
    rw [wk_set] at h1 h2
    exact ⟨h1, H', h2, o.fr h3⟩)
  have H4 : Hid (∀ W ph tag H, HAt W ph tag wk3 H → Own0 w W tag → Calls Tryz.prog 27 #[.pointer (some ⟨ph, 0, none⟩), .int .u64 1] W fun e w' => e = .returned (.tuple #[.int .i64 1, .int .i64 0]) ∧ ∃ tag' H', HAt w' ph tag' wk4 H' ∧ Own0 w w' tag') := hide (fun W ph tag H h o => (hrootM_yes h (by decide) 1 (by omega) wk_may).mono fun e w' ⟨n, tag', H', h1, h2, h3, h4⟩ => by
    obtain rfl := h2.one wk_low
    exact ⟨h1, tag', H', h3, o.fr h4⟩)
  have H5 : Hid (∀ W ph tag H, HAt W ph tag wk4 H → Own0 w W tag → Calls Tryz.prog 14 #[.pointer (some ⟨ph, 0, none⟩)] W fun e w' => e = .returned (.tuple #[]) ∧ ∃ tag' H' M r, HAt w' ph tag' M H' ∧ Own0 w w' tag' ∧ handR M 1 = some 1 ∧ refW M 1 = r ∧ getM M r 2 = (99, 0) ∧ r < 18446744073709551616) := hide (fun W ph tag H h o => (hcollect_any h (by decide) (by decide)).mono fun e w' ⟨h1, tag', H', M', h2, h3, h4⟩ => by
    obtain ⟨q1, q2, q3⟩ := wk_end h.wf h2 h3.wf
    exact ⟨h1, tag', H', _, _, h3, o.fr h4, q1, rfl, q2, q3⟩)
  have H6 : Hid (∀ W ph tag H M (r : Nat), HAt W ph tag M H → Own0 w W tag → handR M 1 = some 1 → refW M 1 = r → Calls Tryz.prog 28 #[.pointer (some ⟨ph, 0, none⟩), .int .i64 1] W fun e w' => e = .returned (.tuple #[.int .u64 (r : Nat), .int .i64 0]) ∧ HAt w' ph tag M H ∧ Own0 w w' tag) := hide (fun W ph tag H M r h o e1 e2 => (hatM_any h 1 (by omega) (by omega)).mono fun e w' ⟨h1, h2⟩ => by
    rw [e1] at h1
    subst e2
    exact ⟨h1, h.still h2, o.below h2⟩)
  have H7 : Hid (∀ W ph tag H M (r : Nat), HAt W ph tag M H → Own0 w W tag → getM M r 2 = (99, 0) → r < 18446744073709551616 → Calls Tryz.prog 29 #[.pointer (some ⟨ph, 0, none⟩), .int .u64 (r : Nat), .int .i64 2] W fun e w' => e = .returned (.tuple #[.int .u64 99, .int .i64 0]) ∧ Below w.heap.size w w') := hide (fun W ph tag H M r h o e1 e2 => (hget_any h r e2 2).mono fun e w' ⟨h1, h2⟩ => by
    rw [e1] at h1
    exact ⟨h1, (o.below h2).be⟩)
  go_enter Tryz.func9, Tryz.ntmps9
  go_wp2_with fail
  refine (unhide H1).mono ?_
  clear H1
  rintro e w1 ⟨ph, tag, H, rfl, h1, o1⟩
  have K2 := hide (unhide H2 w1 ph tag H h1 o1)
  clear H2 h1 o1
  go_wp2_with fail
  refine (unhide K2).mono ?_
  clear K2
  rintro e w2 ⟨rfl, tag2, G2, h2, o2⟩
  have K3 := hide (unhide H3 w2 ph tag2 G2 h2 o2)
  clear H3 h2 o2
  go_wp2_with fail
  refine (unhide K3).mono ?_
  clear K3
  rintro e w3 ⟨rfl, G3, h3, o3⟩
  have K4 := hide (unhide H4 w3 ph tag2 G3 h3 o3)
  clear H4 h3 o3
  go_wp2_with fail
  refine (unhide K4).mono ?_
  clear K4
  rintro e w4 ⟨rfl, tag4, G4, h4, o4⟩
  have K5 := hide (unhide H5 w4 ph tag4 G4 h4 o4)
  clear H5 h4 o4
  go_wp2_with fail
  refine (unhide K5).mono ?_
  clear K5
  rintro e w5 ⟨rfl, tag5, G5, M, r, h5, o5, q1, q2, q3, q4⟩
  have K6 := hide (unhide H6 w5 ph tag5 G5 M r h5 o5 q1 q2)
  have Q := hide (And.intro q3 q4)
  clear H6 h5 o5 q1 q2 q3 q4
  go_wp2_with fail
  refine (unhide K6).mono ?_
  clear K6
  rintro e w6 ⟨rfl, h6, o6⟩
  have K7 := hide (unhide H7 w6 ph tag5 G5 M r h6 o6 (unhide Q).1 (unhide Q).2)
  clear H7 h6 o6 Q
  go_wp2_with fail
  refine (unhide K7).mono ?_
  clear K7
  rintro e w7 ⟨rfl, hb⟩
  go_wp2
  go_ret
  exact ⟨rfl, hb⟩
end Go.Proofs.YtidfllgaeiopjaaGreat
namespace Go.Proofs.YtidfllgaeiopjaaGreat
open Go.ChangeShapes Go.WideShapes Go.ChangeAt Go.RowKit
set_option linter.unusedVariables false
set_option maxRecDepth 100000
set_option maxHeartbeats 1000000

theorem begins_bad {w : World} {n : Int} (h : n < 128 ∨ 1048576 < n) :
    Calls Tryz.prog 11 #[.int .i64 n] w fun e w' => e = .returned (.tuple #[.pointer none, .bool true]) ∧ w' = w := by
  have H1 := hide (hnew_bad (w := w) h)
  by_cases h1 : n < 128
  · have d1 : decide (128 ≤ n) = false := decide_eq_false (by omega)
    clear h
    go_enter Tryz.func11, Tryz.ntmps11
    go_wp2_with fail
    refine (unhide H1).mono ?_
    clear H1
    rintro e w1 ⟨rfl, rfl⟩
    go_wp2
    go_ret2
    exact ⟨rfl, rfl⟩
  · have d1 : decide (128 ≤ n) = true := decide_eq_true (by omega)
    have d2 : decide (n ≤ 1048576) = false := decide_eq_false (by omega)
    clear h
    go_enter Tryz.func11, Tryz.ntmps11
    go_wp2_with fail
    refine (unhide H1).mono ?_
    clear H1
    rintro e w1 ⟨rfl, rfl⟩
    go_wp2
    go_ret2
    exact ⟨rfl, rfl⟩

theorem round_any {w : World} (a : Int) (n : Nat) (h0 : 0 < n) (hn : n ≤ 1000000000) :
    Calls Tryz.prog 58 #[.int .i64 a, .int .i64 (n : Nat)] w fun e w' => e = .returned (.int .i64 (a % (n : Nat))) ∧ w' = w := by
  have hz : (n : Int) ≠ 0 := by omega
  obtain ⟨k, hk⟩ : ∃ k, a.tmod (n : Nat) = k := ⟨_, rfl⟩
  have hkn : k < (n : Nat) ∧ -(n : Int) < k := by
    subst hk
    have h1 := Int.tmod_lt_of_pos a (b := (n : Nat)) (by omega)
    have h2 := Int.tmod_lt_of_pos (-a) (b := (n : Nat)) (by omega)
    rw [Int.neg_tmod] at h2
    omega
  have w1 : IntKind.i64.wrap k = k := wrap_small _ (by omega) (by omega)
  have he : a % (n : Nat) = if k < 0 then k + n else k := by
    subst hk
    have h1 := Int.tmod_add_mul_tdiv a (n : Nat)
    have h2 := Int.emod_add_mul_ediv a (n : Nat)
    split
    · rename_i q
      have h3 : ((a.tmod (n : Nat)) + n) % (n : Nat) = a % (n : Nat) := by
        rw [Int.add_emod_right]
        conv => rhs; rw [← h1]
        rw [Int.add_mul_emod_self_left]
      rw [← h3, Int.emod_eq_of_lt (by omega) (by omega)]
    · rename_i q
      have h3 : (a.tmod (n : Nat)) % (n : Nat) = a % (n : Nat) := by
        conv => rhs; rw [← h1]
        rw [Int.add_mul_emod_self_left]
      rw [← h3, Int.emod_eq_of_lt (by omega) (by omega)]
  rw [he]
  clear he
  by_cases hneg : k < 0
  · have d1 : decide (k < 0) = true := decide_eq_true hneg
    have w2 : IntKind.i64.wrap (k + (n : Nat)) = k + (n : Nat) := wrap_small _ (by omega) (by omega)
    rw [if_pos hneg]
    go_enter Tryz.func58, Tryz.ntmps58
    go_wp2
    go_ret
    exact ⟨rfl, rfl⟩
  · have d1 : decide (k < 0) = false := decide_eq_false hneg
    rw [if_neg hneg]
    go_enter Tryz.func58, Tryz.ntmps58
    go_wp2
    go_ret
    exact ⟨rfl, rfl⟩
end Go.Proofs.YtidfllgaeiopjaaGreat
namespace Go.Proofs.YtidfllgaeiopjaaGreat
open Go.ChangeShapes Go.WideShapes Go.ChangeAt Go.RowKit
set_option linter.unusedVariables false
set_option maxRecDepth 100000
set_option maxHeartbeats 1000000

/-- what a handle holds, as the shadow has it -/
def hval : Option Nat → Int
  | none => -1
  | some i => (i : Nat)
structure ShC where
  vN : Value
  vH : Value
  rf : Nat → Value
  rw : Nat → Value
def ndField (C : ShC) (ns : List (Nat × List Nat × List Nat)) (j c : Nat) : Value := if c = 0 then .int .i64 ((ns.getD j (0, [], [])).1 : Nat) else if c = 1 then C.rf j else C.rw j
def ndCell (C : ShC) (ns : List (Nat × List Nat × List Nat)) (i : Nat) : Value := ndField C ns (i / 3) (i % 3)

/-- the shadow at ps: its heap's address, the graph, the handles, the limit, the last errno; st: whose block is whose (1 struct, 2 nodes, 3 hands, 4 + 2 j refs of node j, 5 + 2 j its raws) -/
structure ShAt (w : World) (ps ph : Nat) (st : Nat → Nat) (ns : List (Nat × List Nat × List Nat)) (hd : List (Option Nat)) (limit last : Nat) (C : ShC) : Prop where
  c0 : w.cell? ⟨ps, 0, none⟩ = some (.pointer (some ⟨ph, 0, none⟩))
  c1 : w.cell? ⟨ps, 1, none⟩ = some C.vN
  c2 : w.cell? ⟨ps, 2, none⟩ = some C.vH
  c3 : w.cell? ⟨ps, 3, none⟩ = some (.int .i64 (limit : Nat))
  c4 : w.cell? ⟨ps, 4, none⟩ = some (.int .i64 (last : Nat))
  fz : ∀ i, i < 5 → w.frozen? ⟨ps, i, none⟩ = false
  nd : Wide w 69 3 C.vN ns.length (ndCell C ns)
  hn : Line w 3 C.vH hd.length (fun j => .int .i64 (hval (hd.getD j none)))
  rf : ∀ j, j < ns.length → Line w 3 (C.rf j) (ns.getD j (0, [], [])).2.1.length (fun k => .int .i64 ((ns.getD j (0, [], [])).2.1.getD k 0 : Nat))
  rw : ∀ j, j < ns.length → Line w 30 (C.rw j) (ns.getD j (0, [], [])).2.2.length (fun k => .int .u64 ((ns.getD j (0, [], [])).2.2.getD k 0 : Nat))
  t1 : st ps = 1
  t2 : ∀ g, C.vN.ownBlock = some g → st g = 2
  t3 : ∀ g, C.vH.ownBlock = some g → st g = 3
  t4 : ∀ j g, j < ns.length → (C.rf j).ownBlock = some g → st g = 4 + 2 * j
  t5 : ∀ j g, j < ns.length → (C.rw j).ownBlock = some g → st g = 5 + 2 * j
  un : ∀ g, st g ≠ 0 → g < w.heap.size

theorem ShAt.same {w w' : World} {ps ph : Nat} {st : Nat → Nat} {ns : List (Nat × List Nat × List Nat)} {hd : List (Option Nat)} {limit last : Nat} {C : ShC} (h : ShAt w ps ph st ns hd limit last C) (hs : w.heap.size ≤ w'.heap.size) (hb : ∀ g, st g ≠ 0 → w'.heap[g]? = w.heap[g]?) : ShAt w' ps ph st ns hd limit last C := by
  have hp := hb ps (by rw [h.t1]; decide)
  exact {
    c0 := (cell_like hp _).trans h.c0, c1 := (cell_like hp _).trans h.c1, c2 := (cell_like hp _).trans h.c2, c3 := (cell_like hp _).trans h.c3, c4 := (cell_like hp _).trans h.c4
    fz := fun i hi => (froz_like hp _).trans (h.fz i hi)
    nd := h.nd.same fun g e => hb g (by rw [h.t2 g e]; decide)
    hn := h.hn.same fun g e => hb g (by rw [h.t3 g e]; decide)
    rf := fun j hj => (h.rf j hj).same fun g e => hb g (by rw [h.t4 j g hj e]; omega)
    rw := fun j hj => (h.rw j hj).same fun g e => hb g (by rw [h.t5 j g hj e]; omega)
    t1 := h.t1, t2 := h.t2, t3 := h.t3, t4 := h.t4, t5 := h.t5
    un := fun g e => Nat.lt_of_lt_of_le (h.un g e) hs }

/-- what is kept: all that lies in w, and the blocks of K as they are in v -/
structure Kp where
  w : World
  v : World
  K : Nat → Prop
structure OwnK (k : Kp) (w : World) (tag : Nat → Nat) : Prop where
  be : Below k.w.heap.size k.w w
  tg : ∀ g, g < k.w.heap.size ∨ k.K g → tag g = 0
  kp : ∀ g, k.K g → g < w.heap.size ∧ w.heap[g]? = k.v.heap[g]?
theorem OwnK.fr {k : Kp} {w w' : World} {tag tag' : Nat → Nat} (h : OwnK k w tag) (f : Fr tag tag' w w') : OwnK k w' tag' := by
  have hl : ∀ g, g < k.w.heap.size ∨ k.K g → g < w.heap.size := fun g q => by
    rcases q with q | q
    · exact Nat.lt_of_lt_of_le q h.be.size
    · exact (h.kp g q).1
  exact ⟨⟨f.os.trans h.be.os, f.tape.trans h.be.tape, f.output.trans h.be.output, Nat.le_trans h.be.size f.size, fun g hg => (f.blk g (hl g (.inl hg)) (h.tg g (.inl hg))).1.trans (h.be.block g hg)⟩, fun g q => (f.blk g (hl g q) (h.tg g q)).2, fun g q => ⟨Nat.lt_of_lt_of_le (h.kp g q).1 f.size, (f.blk g (hl g (.inr q)) (h.tg g (.inr q))).1.trans (h.kp g q).2⟩⟩
theorem OwnK.below {k : Kp} {w w' : World} {tag : Nat → Nat} (h : OwnK k w tag) (q : Below w.heap.size w w') : OwnK k w' tag := ⟨h.be.trans (q.mono h.be.size), h.tg, fun g hg => ⟨Nat.lt_of_lt_of_le (h.kp g hg).1 q.size, (q.block g (h.kp g hg).1).trans (h.kp g hg).2⟩⟩

/-- the heap and its shadow side by side, over what was there in w0 -/
structure Both0 (w0 : Kp) (w : World) (ps ph : Nat) (tag st : Nat → Nat) (M : Hp) (H : HC) (ns : List (Nat × List Nat × List Nat)) (limit last : Nat) (C : ShC) : Prop where
  he : HAt w ph tag M H
  sh : ShAt w ps ph st ns M.roots limit last C
  gr : Gr M ns
  li : M.limit = limit
  o1 : OwnK w0 w tag
  o2 : OwnK w0 w st
  ap : ∀ g, st g ≠ 0 → tag g = 0

/-- a call of the heap's leaves the shadow as it is -/
theorem Both0.heap {w0 : Kp} {w w' : World} {ps ph : Nat} {tag tag' st : Nat → Nat} {M M' : Hp} {H H' : HC} {ns : List (Nat × List Nat × List Nat)} {limit last : Nat} {C : ShC} (b : Both0 w0 w ps ph tag st M H ns limit last C) (f : Fr tag tag' w w') (h : HAt w' ph tag' M' H') (g : Gr M' ns) (er : M'.roots = M.roots) (el : M'.limit = M.limit) : Both0 w0 w' ps ph tag' st M' H' ns limit last C := by
  have hb : ∀ g, st g ≠ 0 → w'.heap[g]? = w.heap[g]? ∧ tag' g = 0 := fun g e => f.blk g (b.sh.un g e) (b.ap g e)
  exact ⟨h, by rw [er]; exact b.sh.same f.size fun g e => (hb g e).1, g, el.trans b.li, b.o1.fr f, ⟨(b.o1.fr f).be, b.o2.tg, (b.o1.fr f).kp⟩, fun g e => (hb g e).2⟩

theorem begins_walk {w : World} {n : Nat} (h1 : 128 ≤ n) (h2 : n ≤ 1048576) {G : Nat → World → Prop}
    (HN : Calls Tryz.prog 24 #[.int .i64 (n : Nat)] w fun e w' => ∃ ph, e = .returned (.tuple #[.pointer (some ⟨ph, 0, none⟩), .int .i64 0]) ∧ G ph w') :
    Calls Tryz.prog 11 #[.int .i64 (n : Nat)] w fun e w' => ∃ ph w1, G ph w1 ∧ e = .returned (.tuple #[.pointer (some ⟨w1.heap.size + 1, 0, none⟩), .bool true]) ∧ w' = (w1.alloc (.cells #[.int .i64 0, .slice none 0 0, .slice none 0 0] 69)).alloc (.cells #[.pointer (some ⟨ph, 0, none⟩), .slice (some ⟨w1.heap.size, 0, none⟩) 1 1, .slice none 0 0, .int .i64 (n : Nat), .int .i64 0] 43) := by
  have H1 := hide HN
  have d1 : decide ((128 : Int) ≤ (n : Nat)) = true := decide_eq_true (by omega)
  have d2 : decide ((n : Int) ≤ 1048576) = true := decide_eq_true (by omega)
  clear HN
  go_enter Tryz.func11, Tryz.ntmps11
  go_wp2_with fail
  refine (unhide H1).mono ?_
  clear H1
  rintro e w1 ⟨ph, rfl, hg⟩
  go_wp2
  go_ret2
  exact ⟨ph, w1, hg, rfl, rfl⟩

theorem begins_any {w : World} (n : Nat) (h1 : 128 ≤ n) (h2 : n ≤ 1048576) :
    Calls Tryz.prog 11 #[.int .i64 (n : Nat)] w fun e w' => ∃ ps ph tag st H C, e = .returned (.tuple #[.pointer (some ⟨ps, 0, none⟩), .bool true]) ∧ Both0 ⟨w, w, fun _ => False⟩ w' ps ph tag st (newM n) H [(0, [], [])] n 0 C := by
  refine (begins_walk h1 h2 (G := fun ph W => ∃ tag H, HAt W ph tag (newM n) H ∧ Own0 w W tag) ((hnew_any n h1 h2).mono fun e w' ⟨ph, tag, H, a1, a2, a3, a4⟩ => ⟨ph, a1, tag, H, a2, ⟨a4, fun g hg => by
    by_cases q : tag g = 0
    · exact q
    · have := a3 g q; omega⟩⟩)).mono ?_
  rintro e w' ⟨ph, w1, ⟨tag, H, hh, ho⟩, rfl, rfl⟩
  generalize hO1 : (Obj.cells #[.int .i64 0, .slice none 0 0, .slice none 0 0] 69) = O1
  generalize hO2 : (Obj.cells #[.pointer (some ⟨ph, 0, none⟩), .slice (some ⟨w1.heap.size, 0, none⟩) 1 1, .slice none 0 0, .int .i64 (n : Nat), .int .i64 0] 43) = O2
  have k1 : Below w1.heap.size w1 ((w1.alloc O1).alloc O2) := ((Below.refl _ _).alloc (Nat.le_refl _) _).alloc (by simp) _
  have hz : ((w1.alloc O1).alloc O2).heap.size = w1.heap.size + 2 := by simp
  have g1 : ((w1.alloc O1).alloc O2).heap[w1.heap.size]? = some O1 := by
    have : Below (w1.alloc O1).heap.size (w1.alloc O1) ((w1.alloc O1).alloc O2) := (Below.refl _ _).alloc (Nat.le_refl _) _
    rw [this.block w1.heap.size (by simp)]
    exact heap_alloc_new _ _
  have g2 : ((w1.alloc O1).alloc O2).heap[w1.heap.size + 1]? = some O2 := heap_alloc2_new _ _ _
  have hw := ho.be.size
  have hnn : ∀ g, (Value.slice none 0 0).ownBlock ≠ some g := fun g => by simp [Value.ownBlock]
  have hc : ∀ i v, #[Value.pointer (some ⟨ph, 0, none⟩), .slice (some ⟨w1.heap.size, 0, none⟩) 1 1, .slice none 0 0, .int .i64 (n : Nat), .int .i64 0][i]? = some v → ((w1.alloc O1).alloc O2).cell? ⟨w1.heap.size + 1, i, none⟩ = some v := fun i v hv => by
    simp only [World.cell?, g2]
    rw [← hO2]
    exact hv
  have T0 : ∀ g, (if g = w1.heap.size + 1 then 1 else if g = w1.heap.size then 2 else 0) ≠ 0 → w1.heap.size ≤ g ∧ g < w1.heap.size + 2 := fun g e => by
    by_cases q : g = w1.heap.size + 1
    · omega
    · rw [if_neg q] at e
      by_cases q2 : g = w1.heap.size
      · omega
      · rw [if_neg q2] at e; exact absurd rfl e
  have hj0 : ∀ j, j < [((0 : Nat), ([] : List Nat), ([] : List Nat))].length → j = 0 := fun j hj => by simp at hj; exact hj
  refine ⟨w1.heap.size + 1, ph, tag, (fun g => if g = w1.heap.size + 1 then 1 else if g = w1.heap.size then 2 else 0), H, ⟨.slice (some ⟨w1.heap.size, 0, none⟩) 1 1, .slice none 0 0, fun _ => .slice none 0 0, fun _ => .slice none 0 0⟩, rfl, ⟨hh.still k1, ?_, Gr.new n, rfl, ⟨(ho.below k1).be, fun g hg => (ho.below k1).tg g (hg.elim id False.elim), fun g hg => hg.elim⟩, ⟨(ho.below k1).be, fun g hg0 => ?_, fun g hg => hg.elim⟩, fun g e => ?_⟩⟩
  · exact {
      c0 := hc 0 _ rfl, c1 := hc 1 _ rfl, c2 := hc 2 _ rfl, c3 := hc 3 _ rfl, c4 := hc 4 _ rfl
      fz := fun i _ => by
        simp only [World.frozen?, g2]
        rw [← hO2]
        show (decide ((0 : Nat) ≤ i) && decide (i < 0)) = false
        simp
      nd := .inr ⟨w1.heap.size, 1, #[.int .i64 0, .slice none 0 0, .slice none 0 0], rfl, by rw [g1, ← hO1], Nat.le_refl _, by decide, rfl, fun j hj => by
        have hj3 : j < 3 := hj
        rcases (by omega : j = 0 ∨ j = 1 ∨ j = 2) with rfl | rfl | rfl <;> rfl⟩
      hn := .inl ⟨rfl, rfl⟩
      rf := fun j hj => by obtain rfl := hj0 j hj; exact .inl ⟨rfl, rfl⟩
      rw := fun j hj => by obtain rfl := hj0 j hj; exact .inl ⟨rfl, rfl⟩
      t1 := if_pos rfl
      t2 := fun g e => by
        have e' : w1.heap.size = g := by simpa [Value.ownBlock] using e
        subst e'
        show (if w1.heap.size = w1.heap.size + 1 then 1 else if w1.heap.size = w1.heap.size then 2 else 0) = 2
        rw [if_neg (by omega), if_pos rfl]
      t3 := fun g e => absurd e (hnn g)
      t4 := fun j g _ e => absurd e (hnn g)
      t5 := fun j g _ e => absurd e (hnn g)
      un := fun g e => by rw [hz]; exact (T0 g e).2 }
  · have hg : g < w.heap.size := hg0.elim id False.elim
    by_cases q : (if g = w1.heap.size + 1 then 1 else if g = w1.heap.size then 2 else 0) = 0
    · exact q
    · have := T0 g q; omega
  · have := (T0 g e).1
    by_cases q : tag g = 0
    · exact q
    · have := hh.raw.un g q; omega
end Go.Proofs.YtidfllgaeiopjaaGreat
namespace Go.Proofs.YtidfllgaeiopjaaGreat
open Go.ChangeShapes Go.WideShapes Go.ChangeAt Go.RowKit
set_option linter.unusedVariables false
set_option maxRecDepth 100000
set_option maxHeartbeats 1000000

def handN (n : Nat) (h : Int) : Int := if n = 0 then 0 else 1 + h % (n : Nat)
theorem hand_any {w : World} {ps ph : Nat} {st : Nat → Nat} {ns : List (Nat × List Nat × List Nat)} {hd : List (Option Nat)} {limit last : Nat} {C : ShC} (s : ShAt w ps ph st ns hd limit last C) (hl : hd.length ≤ 1000000) (h : Int) :
    Calls Tryz.prog 30 #[.pointer (some ⟨ps, 0, none⟩), .int .i64 h] w fun e w' => e = .returned (.int .i64 (handN hd.length h)) ∧ Still w w' := by
  obtain ⟨a, cap, hv⟩ := s.hn.shape
  have c2 := s.c2
  rw [hv] at c2
  clear s hv
  obtain ⟨n, hn⟩ : ∃ n, hd.length = n := ⟨_, rfl⟩
  rw [hn] at c2 hl ⊢
  clear hn
  by_cases h0 : n = 0
  · subst h0
    go_enter Tryz.func30, Tryz.ntmps30
    go_wp2
    go_ret
    exact ⟨rfl, Still.refl _⟩
  · have H1 : Hid (∀ W, Calls Tryz.prog 58 #[.int .i64 h, .int .i64 (n : Nat)] W fun e w' => e = .returned (.int .i64 (h % (n : Nat))) ∧ w' = W) := hide (fun W => round_any h n (by omega) (by omega))
    have d1 : decide ((n : Int) = 0) = false := decide_eq_false (by omega)
    have b1 : 0 ≤ h % (n : Nat) := Int.emod_nonneg _ (by omega)
    have b2 : h % (n : Nat) < (n : Nat) := Int.emod_lt_of_pos _ (by omega)
    have e : handN n h = 1 + h % (n : Nat) := if_neg h0
    rw [e]
    clear e
    obtain ⟨k, hk⟩ : ∃ k, h % (n : Nat) = k := ⟨_, rfl⟩
    rw [hk] at b1 b2 H1 ⊢
    have w1 : IntKind.i64.wrap (1 + k) = 1 + k := wrap_small _ (by omega) (by omega)
    clear hk b1 b2
    go_enter Tryz.func30, Tryz.ntmps30
    go_wp2_with fail
    refine (unhide H1 _).mono ?_
    clear H1
    rintro e w2 ⟨rfl, rfl⟩
    go_wp2
    go_ret
    exact ⟨rfl, Still.refl _⟩

def heldV (hd : List (Option Nat)) (n : Int) : Int := if 1 ≤ n ∧ n ≤ (hd.length : Nat) then hval (hd.getD (n - 1).toNat none) else -1
theorem held_any {w : World} {ps ph : Nat} {st : Nat → Nat} {ns : List (Nat × List Nat × List Nat)} {hd : List (Option Nat)} {limit last : Nat} {C : ShC} (s : ShAt w ps ph st ns hd limit last C) (hl : hd.length ≤ 1000000) (n : Int) :
    Calls Tryz.prog 33 #[.pointer (some ⟨ps, 0, none⟩), .int .i64 n] w fun e w' => e = .returned (.int .i64 (heldV hd n)) ∧ Still w w' := by
  obtain ⟨a, cap, hv⟩ := s.hn.shape
  have c2 := s.c2
  rw [hv] at c2
  unfold heldV
  by_cases h1 : n < 1
  · have d1 : decide (n < 1) = true := decide_eq_true h1
    rw [if_neg (by omega)]
    clear s hv
    go_enter Tryz.func33, Tryz.ntmps33
    go_wp2
    go_ret
    exact ⟨rfl, Still.refl _⟩
  · have d1 : decide (n < 1) = false := decide_eq_false h1
    by_cases h2 : (hd.length : Int) < n
    · have d2 : decide ((hd.length : Int) < n) = true := decide_eq_true h2
      rw [if_neg (by omega)]
      clear s hv
      go_enter Tryz.func33, Tryz.ntmps33
      go_wp2
      go_ret
      exact ⟨rfl, Still.refl _⟩
    · have d2 : decide ((hd.length : Int) < n) = false := decide_eq_false h2
      rw [if_pos (by omega)]
      obtain ⟨m, rfl⟩ : ∃ m : Nat, n = (m : Int) + 1 := ⟨(n - 1).toNat, by omega⟩
      have hm : m < hd.length := by omega
      obtain ⟨g, cap', e1, _, hcell⟩ := s.hn.at (by omega)
      rw [hv] at e1
      cases e1
      have e0 := (hcell m hm).1
      have w1 : IntKind.i64.wrap ((m : Int) + 1 - 1) = (m : Nat) := by rw [show (m : Int) + 1 - 1 = (m : Nat) by omega]; exact wrap_small _ (by omega) (by omega)
      have d3 : decide ((m : Int) < (hd.length : Nat)) = true := decide_eq_true (by omega)
      have t1 : ((m : Int) + 1 - 1).toNat = m := by omega
      rw [t1]
      clear s hv hcell
      go_enter Tryz.func33, Tryz.ntmps33
      go_wp2
      go_ret
      exact ⟨rfl, Still.refl _⟩
end Go.Proofs.YtidfllgaeiopjaaGreat
namespace Go.Proofs.YtidfllgaeiopjaaGreat
open Go.ChangeShapes Go.WideShapes Go.ChangeAt Go.RowKit
set_option linter.unusedVariables false
set_option maxRecDepth 100000
set_option maxHeartbeats 1000000

/-- give finds a free handle -/
theorem give_found {w : World} {ps g n cap id N : Nat} (hN : n < N) (hl : N ≤ 1000000) (f : Nat → Int) (c2 : w.cell? ⟨ps, 2, none⟩ = some (.slice (some ⟨g, 0, none⟩) N cap)) (hc : ∀ j, j < N → w.cell? ⟨g, j, none⟩ = some (.int .i64 (f j))) (hz : w.frozen? ⟨g, n, none⟩ = false) (hf : f n < 0) (hlo : ∀ j, j < n → 0 ≤ f j) :
    Calls Tryz.prog 92 #[.pointer (some ⟨ps, 0, none⟩), .int .i64 (id : Nat)] w fun e w' => e = .returned (.int .i64 ((n : Int) + 1)) ∧ ∃ W, Still w W ∧ w' = W.setCell ⟨g, n, none⟩ (.int .i64 (id : Nat)) := by
  have HC := hide hc
  have HL := hide hlo
  clear hc hlo
  go_enter Tryz.func92, Tryz.ntmps92
  go_wp2_with fail
  go_loopw [5] (fun iv wr => ∃ i : Nat, iv = .int .i64 (i : Nat) ∧ i ≤ n ∧ Still w wr) (fun iv _ => n - (intOf iv).toNat)
  case atStart => exact ⟨0, rfl, Nat.zero_le _, Still.refl _⟩
  case round =>
    obtain ⟨i, rfl, hi, hk⟩ := hrel
    have c2' := (hk.cell _).trans c2
    have e0 := (hk.cell _).trans (unhide HC i (by omega))
    have dl : decide ((i : Int) < (N : Nat)) = true := decide_eq_true (by omega)
    have w1 : IntKind.i64.wrap ((i : Int) + 1) = (i : Int) + 1 := wrap_small _ (by omega) (by omega)
    by_cases hin : i = n
    · subst hin
      have dn : decide (f i < 0) = true := decide_eq_true hf
      have hz' : wr.frozen? ⟨g, i, none⟩ = false := by rw [← hz]; simp only [World.frozen?, hk.heap]
      have HK := hide hk
      clear hk c2 hz
      go_wp2
      go_ret
      exact ⟨rfl, wr, unhide HK, rfl⟩
    · have dn : decide (f i < 0) = false := decide_eq_false (by have := unhide HL i (by omega); omega)
      have HK := hide hk
      clear hk c2
      go_wp2
      all_goals go_roundw
      all_goals first | exact ⟨i + 1, by simp, by omega, unhide HK⟩ | (simp [intOf]; omega)
end Go.Proofs.YtidfllgaeiopjaaGreat
namespace Go.Proofs.YtidfllgaeiopjaaGreat
open Go.ChangeShapes Go.WideShapes Go.ChangeAt Go.RowKit
set_option linter.unusedVariables false
set_option maxRecDepth 100000
set_option maxHeartbeats 1000000

def addI (N : Nat) (f : Nat → Int) (id : Nat) : Nat → Value := fun j => if j < N then .int .i64 (f j) else .int .i64 (id : Nat)
theorem give_more {ps : Nat} {v : Value} {N id : Nat} (w : World) (f : Nat → Int) (hcell : w.cell? ⟨ps, 2, none⟩ = some v) (hfr : w.frozen? ⟨ps, 2, none⟩ = false) (hL : Line w 3 v N (fun j => .int .i64 (f j))) (hap : v.ownBlock ≠ some ps) (hlen : N ≤ 1000000) (hlo : ∀ j, j < N → 0 ≤ f j) :
    Calls Tryz.prog 92 #[.pointer (some ⟨ps, 0, none⟩), .int .i64 (id : Nat)] w fun e w' => e = .returned (.int .i64 ((N + 1 : Nat) : Int)) ∧ ∃ v', w'.cell? ⟨ps, 2, none⟩ = some v' ∧ Line w' 3 v' (N + 1) (addI N f id) ∧ v'.ownBlock ≠ some ps ∧ (∀ g, v'.ownBlock = some g → v.ownBlock = some g ∨ w.heap.size ≤ g) ∧ NChg ps 2 v w w' := by
  obtain ⟨i0, hi, hy0, hy1, hy2⟩ := info_parts Tryz.info3
  obtain ⟨a, cap, hv⟩ := hL.shape
  subst hv
  have HW : Hid (∀ wr, Still w wr → (Line (wr.alloc (.cells #[.int .i64 (id : Nat)] 3)) 3 (.slice a N cap) N (fun j => .int .i64 (f j))) ∧ (wr.alloc (.cells #[.int .i64 (id : Nat)] 3)).cell? ⟨ps, 2, none⟩ = some (.slice a N cap) ∧ (wr.alloc (.cells #[.int .i64 (id : Nat)] 3)).cell? ⟨wr.heap.size, 0, none⟩ = some (.int .i64 (id : Nat)) ∧
      ∀ v' w', Line w' 3 v' (N + 1) (fun j => if j < N then .int .i64 (f j) else .int .i64 (id : Nat)) → Grew 3 N (.int .i64 (id : Nat)) (wr.alloc (.cells #[.int .i64 (id : Nat)] 3)) w' (.slice a N cap) v' → w'.cell? ⟨ps, 2, none⟩ = some (.slice a N cap) ∧ w'.frozen? ⟨ps, 2, none⟩ = false ∧ (∃ a9 c9, v' = .slice a9 (N + 1) c9 ∧ (w'.setCell ⟨ps, 2, none⟩ (.slice a9 (N + 1) c9)).cell? ⟨ps, 2, none⟩ = some (.slice a9 (N + 1) c9)) ∧
      ∀ W, W.heap = (w'.setCell ⟨ps, 2, none⟩ v').heap → W.os = w'.os → W.tape = w'.tape → W.output = w'.output → ∃ v', W.cell? ⟨ps, 2, none⟩ = some v' ∧ Line W 3 v' (N + 1) (addI N f id) ∧ v'.ownBlock ≠ some ps ∧ (∀ g, v'.ownBlock = some g → (Value.slice a N cap).ownBlock = some g ∨ w.heap.size ≤ g) ∧ NChg ps 2 (.slice a N cap) w W) := hide (fun wr hk => by
    have hcell' := (hk.cell ⟨ps, 2, none⟩).trans hcell
    have hfr' : wr.frozen? ⟨ps, 2, none⟩ = false := by rw [← hfr]; simp only [World.frozen?, hk.heap]
    have hL' : Line wr 3 (.slice a N cap) N (fun j => .int .i64 (f j)) := hL.same fun g _ => by rw [hk.heap]
    have hbw : ps < wr.heap.size := by have := block_lt_of_cell hcell'; simpa using this
    have hbA : Below wr.heap.size wr (wr.alloc (.cells #[.int .i64 (id : Nat)] 3)) := (Below.refl _ _).alloc (Nat.le_refl _) _
    have hsz : wr.heap.size = w.heap.size := by rw [hk.heap]
    refine ⟨hL'.same (fun g hg => hbA.block g (hL'.lt g hg)), (hbA.cell (p := ⟨ps, 2, none⟩) hbw).trans hcell', cell_made rfl _ _, fun v' w' h1 h2 => ?_⟩
    obtain ⟨n1, n2, n3, n4⟩ := h2.nchg (o := 2) hbw hap hbA
    have hcc : w'.cell? ⟨ps, 2, none⟩ = some (.slice a N cap) := by rw [← hcell']; simp only [World.cell?, n4]
    obtain ⟨a9, c9, e9⟩ := h1.shape
    refine ⟨hcc, by rw [← hfr']; simp only [World.frozen?, n4], ⟨a9, c9, e9, World.cell?_setCell_same' w' ⟨ps, 2, none⟩ _ (by rw [hcc]; rfl)⟩, fun W eh e1 e2 e3 => ?_⟩
    have k1 := n1.set v'
    refine ⟨v', ?_, ?_, n2, fun g e => by rw [← hsz]; exact n3 g e, NChg.of_still hk ⟨⟨e1.trans k1.but.os, e2.trans k1.but.tape, e3.trans k1.but.output, by rw [eh]; exact k1.but.size, fun j hj hn => by rw [eh]; exact k1.but.block j hj hn⟩, fun k hk => ?_, fun k => ?_⟩⟩
    · have := World.cell?_setCell_same' w' ⟨ps, 2, none⟩ v' (by rw [hcc]; rfl)
      rw [← this]; simp only [World.cell?, eh]
    · exact h1.same (w' := W) (fun g hg => by rw [eh, setCell_else _ _ _ _ _ (by rintro rfl; exact n2 hg)])
    · rw [← k1.cell k hk]; simp only [World.cell?, eh]
    · rw [← k1.froz k]; simp only [World.frozen?, eh])
  have HC : Hid (∀ j, j < N → ∃ g, a = some ⟨g, 0, none⟩ ∧ w.cell? ⟨g, j, none⟩ = some (.int .i64 (f j))) := hide (fun j hj => by
    obtain ⟨g, cap', e1, _, hc⟩ := hL.at (by omega)
    cases e1
    exact ⟨g, rfl, (hc j hj).1⟩)
  have HL := hide hlo
  have HFr := hide hfr
  clear hL hap hlo hfr
  go_enter Tryz.func92, Tryz.ntmps92
  go_wp2_with fail
  go_loopw [5] (fun iv wr => ∃ i : Nat, iv = .int .i64 (i : Nat) ∧ i ≤ N ∧ Still w wr) (fun iv _ => N - (intOf iv).toNat)
  case atStart => exact ⟨0, rfl, Nat.zero_le _, Still.refl _⟩
  case round =>
    obtain ⟨i, rfl, hi', hk⟩ := hrel
    have c2' := (hk.cell _).trans hcell
    have w1 : IntKind.i64.wrap ((i : Int) + 1) = (i : Int) + 1 := wrap_small _ (by omega) (by omega)
    by_cases hin : i < N
    · obtain ⟨g, rfl, e0⟩ := unhide HC i hin
      have e0' := (hk.cell _).trans e0
      have dl : decide ((i : Int) < (N : Nat)) = true := decide_eq_true (by omega)
      have dn : decide (f i < 0) = false := decide_eq_false (by have := unhide HL i hin; omega)
      have HK := hide hk
      clear hk hcell e0 HW HC HFr
      go_wp2
      all_goals go_roundw
      all_goals first | exact ⟨i + 1, by simp, by omega, unhide HK⟩ | (simp [intOf]; omega)
    · have hiN : i = N := by omega
      subst hiN
      have dl : decide ((i : Int) < (i : Nat)) = false := decide_eq_false (by omega)
      obtain ⟨x1, cA, x2, x3⟩ := unhide HW wr hk
      have HROW := hide x1
      have C1 := hide x2
      have HFIN := hide x3
      clear x1 x2 x3 hk hcell HW HC HFr HL w1
      go_wp2_with (refine append_line rfl (.tmp 36) (.tmp 38) 40 rfl 3 i0 (.int .i64 0) 8 Tryz.underlying40 hi hy0 hy1 hy2 rfl (.slice a i cap) i _ (by simp [Act.eval]) (unhide HROW) wr.heap.size (by simp [Act.eval]) (.int .i64 (id : Nat)) (unhide C1) rfl (by omega) (by omega) ?_)
      intro v9 w9 hl9 hg9
      obtain ⟨k1, k2, ⟨a9, cp9, rfl, k3⟩, hst⟩ := unhide HFIN _ _ hl9 hg9
      clear hl9 hg9
      go_wp2
      go_ret
      exact ⟨rfl, hst _ rfl rfl rfl rfl⟩
end Go.Proofs.YtidfllgaeiopjaaGreat
namespace Go.Proofs.YtidfllgaeiopjaaGreat
open Go.ChangeShapes Go.WideShapes Go.ChangeAt Go.RowKit
set_option linter.unusedVariables false
set_option maxRecDepth 100000
set_option maxHeartbeats 1000000

theorem ShAt.hands {w w' : World} {ps ph : Nat} {st : Nat → Nat} {ns : List (Nat × List Nat × List Nat)} {hd hd' : List (Option Nat)} {limit last : Nat} {C : ShC} (h : ShAt w ps ph st ns hd limit last C) {vH' : Value} (hL : Line w' 3 vH' hd'.length (fun j => .int .i64 (hval (hd'.getD j none)))) (hv : Own2 w C.vH vH') (c2 : w'.cell? ⟨ps, 2, none⟩ = some vH')
    (hs : w.heap.size ≤ w'.heap.size) (hb : ∀ g, g < w.heap.size → st g ≠ 1 → st g ≠ 3 → w'.heap[g]? = w.heap[g]?) (hcc : ∀ k, k ≠ 2 → w'.cell? ⟨ps, k, none⟩ = w.cell? ⟨ps, k, none⟩) (hff : ∀ k, w'.frozen? ⟨ps, k, none⟩ = w.frozen? ⟨ps, k, none⟩) :
    ShAt w' ps ph (tagAt st vH' 3) ns hd' limit last { C with vH := vH' } ∧ ∀ g, g < w.heap.size → tagAt st vH' 3 g = st g := by
  have ht := tagAt_same (by decide) h.t3 hv
  have hk : ∀ g n, n ≠ 0 → st g = n → tagAt st vH' 3 g = n := fun g n hn e => (ht g (h.un g (by omega))).trans e
  have hg : ∀ n g, n ≠ 0 → n ≠ 1 → n ≠ 3 → st g = n → w'.heap[g]? = w.heap[g]? := fun n g h0 h1 h3 e => hb g (h.un g (by omega)) (by omega) (by omega)
  exact ⟨{
    c0 := (hcc 0 (by decide)).trans h.c0, c1 := (hcc 1 (by decide)).trans h.c1, c2 := c2, c3 := (hcc 3 (by decide)).trans h.c3, c4 := (hcc 4 (by decide)).trans h.c4
    fz := fun i hi => (hff i).trans (h.fz i hi)
    nd := h.nd.same fun g e => hg 2 g (by decide) (by decide) (by decide) (h.t2 g e)
    hn := hL
    rf := fun j hj => (h.rf j hj).same fun g e => hg (4 + 2 * j) g (by omega) (by omega) (by omega) (h.t4 j g hj e)
    rw := fun j hj => (h.rw j hj).same fun g e => hg (5 + 2 * j) g (by omega) (by omega) (by omega) (h.t5 j g hj e)
    t1 := hk _ _ (by decide) h.t1
    t2 := fun g e => hk _ _ (by decide) (h.t2 g e)
    t3 := fun g e => by unfold tagAt; exact if_pos e
    t4 := fun j g hj e => hk _ _ (by omega) (h.t4 j g hj e)
    t5 := fun j g hj e => hk _ _ (by omega) (h.t5 j g hj e)
    un := fun g e => by
      unfold tagAt at e
      split at e
      · rename_i q; exact hL.lt g q
      · exact Nat.lt_of_lt_of_le (h.un g e) hs }, ht⟩

def LowH (hd : List (Option Nat)) (n : Nat) : Prop := hd.getD n none = none ∧ n ≤ hd.length ∧ ∀ q, q < n → hd.getD q none ≠ none
theorem hval_neg (o : Option Nat) : hval o < 0 ↔ o = none := by
  cases o with
  | none => simp [hval]
  | some i => simp [hval]
theorem low_any (hd : List (Option Nat)) : ∃ n, LowH hd n := by
  induction hd with
  | nil => exact ⟨0, by simp, Nat.le_refl _, fun q hq => absurd hq (Nat.not_lt_zero _)⟩
  | cons a l ih =>
    cases a with
    | none => exact ⟨0, rfl, Nat.zero_le _, fun q hq => absurd hq (Nat.not_lt_zero _)⟩
    | some i =>
      obtain ⟨n, h1, h2, h3⟩ := ih
      refine ⟨n + 1, h1, Nat.succ_le_succ h2, fun q hq => ?_⟩
      cases q with
      | zero => exact fun e => by cases e
      | succ q => exact h3 q (by omega)

/-- what give leaves as it was -/
def KeepH (ps : Nat) (st : Nat → Nat) (w w' : World) : Prop := (∀ g, g < w.heap.size → st g ≠ 1 → st g ≠ 3 → w'.heap[g]? = w.heap[g]?) ∧ ∀ k, k ≠ 2 → w'.cell? ⟨ps, k, none⟩ = w.cell? ⟨ps, k, none⟩
theorem give_any {w : World} {ps ph : Nat} {st : Nat → Nat} {ns : List (Nat × List Nat × List Nat)} {hd : List (Option Nat)} {limit last : Nat} {C : ShC} (s : ShAt w ps ph st ns hd limit last C) (hl : hd.length ≤ 1000000) (id : Nat) :
    Calls Tryz.prog 92 #[.pointer (some ⟨ps, 0, none⟩), .int .i64 (id : Nat)] w fun e w' => ∃ n : Nat, LowH hd n ∧ e = .returned (.int .i64 ((n : Int) + 1)) ∧ ∃ st' C', ShAt w' ps ph st' ns (poolPut hd n id) limit last C' ∧ Fr st st' w w' ∧ KeepH ps st w w' := by
  obtain ⟨n, low⟩ := low_any hd
  have hpl : ps < w.heap.size := s.un ps (by rw [s.t1]; decide)
  by_cases hn : n < hd.length
  · obtain ⟨g, cap, hv, hown, hc⟩ := s.hn.at (by omega)
    have c2 := s.c2
    rw [hv] at c2
    have t3 := s.t3 g hown
    have hgp : g ≠ ps := by rintro rfl; rw [s.t1] at t3; cases t3
    have hgl := s.un g (by rw [t3]; decide)
    refine (give_found hn hl (fun j => hval (hd.getD j none)) c2 (fun j hj => (hc j hj).1) (hc n hn).2 ((hval_neg _).2 low.1) (fun j hj => by
      have := low.2.2 j hj
      have q := mt (hval_neg (hd.getD j none)).1 this
      omega)).mono ?_
    rintro e w' ⟨rfl, W, hk, rfl⟩
    refine ⟨n, low, rfl, ?_⟩
    have hLW : Line W 3 C.vH hd.length (fun j => .int .i64 (hval (hd.getD j none))) := s.hn.same fun g _ => by rw [hk.heap]
    have hbb : ∀ k, k ≠ g → (W.setCell ⟨g, n, none⟩ (.int .i64 (id : Nat))).heap[k]? = w.heap[k]? := fun k hkg => by rw [setCell_else _ _ _ _ _ hkg, hk.heap]
    have hpp := hbb ps (fun e => hgp e.symm)
    have hsz : (W.setCell ⟨g, n, none⟩ (.int .i64 (id : Nat))).heap.size = w.heap.size := by rw [World.size_setCell, hk.heap]
    have hL := hLW.put hown n (.int .i64 (id : Nat)) hn
    have hlen : (poolPut hd n id).length = hd.length := by rw [poolPut_length, if_pos hn]
    obtain ⟨a1, a2⟩ := s.hands (w' := W.setCell ⟨g, n, none⟩ (.int .i64 (id : Nat))) (hd' := poolPut hd n id) (vH' := C.vH) (by
        rw [hlen]
        refine hL.congr fun j hj => ?_
        rw [poolPut_at _ _ _ _ low.2.1]
        by_cases q : j = n
        · rw [if_pos q, if_pos q]; rfl
        · rw [if_neg q, if_neg q]) (fun g e => .inl e) ((cell_like hpp _).trans s.c2) (by omega) (fun k hk1 h1 h3 => hbb k (by rintro rfl; exact h3 t3)) (fun k _ => cell_like hpp k) (fun k => froz_like hpp k)
    exact ⟨_, _, a1, ⟨hk.os, hk.tape, hk.output, by omega, fun k hk1 e => ⟨hbb k (by rintro rfl; rw [t3] at e; cases e), (a2 k hk1).trans e⟩⟩, fun k _ h1 h3 => hbb k (by rintro rfl; exact h3 t3), fun k _ => cell_like hpp k⟩
  · have hnl : n = hd.length := by have := low.2.1; omega
    have hap : C.vH.ownBlock ≠ some ps := fun e => by have := s.t3 ps e; rw [s.t1] at this; cases this
    refine (give_more w (fun j => hval (hd.getD j none)) s.c2 (s.fz 2 (by decide)) s.hn hap hl (fun j hj => by
      have := low.2.2 j (by omega)
      have q := mt (hval_neg (hd.getD j none)).1 this
      omega)).mono ?_
    rintro e w' ⟨rfl, v', c2, hL, hn1, hn2, hch⟩
    refine ⟨n, low, by rw [hnl]; rfl, ?_⟩
    have hlen : (poolPut hd n id).length = hd.length + 1 := by rw [poolPut_length, if_neg hn]
    have hbk : ∀ g, g < w.heap.size → st g ≠ 1 → st g ≠ 3 → w'.heap[g]? = w.heap[g]? := fun g hg h1 h3 => hch.but.block g hg (fun hm => by
      rcases List.mem_cons.1 hm with q | q
      · exact h1 (by rw [q]; exact s.t1)
      · exact h3 (s.t3 g (mem_gB.1 q)))
    obtain ⟨a1, a2⟩ := s.hands (w' := w') (hd' := poolPut hd n id) (vH' := v') (by
        rw [hlen]
        refine hL.congr fun j hj => ?_
        unfold addI
        rw [poolPut_at _ _ _ _ low.2.1]
        by_cases q : j = n
        · rw [if_pos q, if_neg (by omega)]; rfl
        · rw [if_neg q, if_pos (by omega)]) hn2 c2 hch.but.size hbk hch.cell hch.froz
    exact ⟨_, _, a1, ⟨hch.but.os, hch.but.tape, hch.but.output, hch.but.size, fun k hk1 e => ⟨hbk k hk1 (by omega) (by omega), (a2 k hk1).trans e⟩⟩, hbk, hch.cell⟩
end Go.Proofs.YtidfllgaeiopjaaGreat
namespace Go.Proofs.YtidfllgaeiopjaaGreat
open Go.ChangeShapes Go.WideShapes Go.ChangeAt Go.RowKit
set_option linter.unusedVariables false
set_option maxRecDepth 100000
set_option maxHeartbeats 1000000

theorem rooted_walk {w : World} {ps ph ref id : Nat} {G1 R : World → Prop} (c0 : w.cell? ⟨ps, 0, none⟩ = some (.pointer (some ⟨ph, 0, none⟩)))
    (HR : Calls Tryz.prog 27 #[.pointer (some ⟨ph, 0, none⟩), .int .u64 (ref : Nat)] w fun e w' => ∃ n : Nat, e = .returned (.tuple #[.int .i64 (1 + (n : Int)), .int .i64 0]) ∧ G1 w' ∧
      Calls Tryz.prog 92 #[.pointer (some ⟨ps, 0, none⟩), .int .i64 (id : Nat)] w' fun e w'' => e = .returned (.int .i64 (1 + (n : Int))) ∧ R w'') :
    Calls Tryz.prog 59 #[.pointer (some ⟨ps, 0, none⟩), .int .u64 (ref : Nat), .int .i64 (id : Nat)] w fun e w' => e = .returned (.bool true) ∧ R w' := by
  have H1 := hide HR
  clear HR
  go_enter Tryz.func59, Tryz.ntmps59
  go_wp2_with fail
  refine (unhide H1).mono ?_
  clear H1
  rintro e w1 ⟨m, rfl, hg, HG⟩
  have H2 := hide HG
  clear HG
  go_wp2_with fail
  refine (unhide H2).mono ?_
  clear H2
  rintro e w2 ⟨rfl, hr⟩
  go_wp2
  go_ret
  exact ⟨by simp, hr⟩

theorem rooted_any {w0 : Kp} {w : World} {ps ph : Nat} {tag st : Nat → Nat} {M : Hp} {H : HC} {ns : List (Nat × List Nat × List Nat)} {limit last : Nat} {C : ShC} (b : Both0 w0 w ps ph tag st M H ns limit last C) (hl : M.roots.length < 1000000) (ref : Nat) (hx : ref < 18446744073709551616) (hm : mayM M ref = true) :
    Calls Tryz.prog 59 #[.pointer (some ⟨ps, 0, none⟩), .int .u64 (ref : Nat), .int .i64 (numOf M ref : Nat)] w fun e w' => e = .returned (.bool true) ∧ ∃ n tag' st' H' C', LowR M n ∧ Both0 w0 w' ps ph tag' st' (rootM M n ref) H' ns limit last C' ∧ (∀ g, g < w.heap.size → tag g = 0 → st g ≠ 1 → st g ≠ 3 → w'.heap[g]? = w.heap[g]?) ∧ ∀ k, k ≠ 2 → w'.cell? ⟨ps, k, none⟩ = w.cell? ⟨ps, k, none⟩ := by
  refine rooted_walk (G1 := fun _ => True) b.sh.c0 ((hrootM_yes b.he hl ref hx hm).mono ?_)
  rintro e w1 ⟨n, tag', H', rfl, low, hh, f⟩
  refine ⟨n, rfl, trivial, ?_⟩
  have hb : ∀ g, st g ≠ 0 → w1.heap[g]? = w.heap[g]? ∧ tag' g = 0 := fun g e => f.blk g (b.sh.un g e) (b.ap g e)
  have s1 := b.sh.same f.size fun g e => (hb g e).1
  have o2 : OwnK w0 w1 st := ⟨(b.o1.fr f).be, b.o2.tg, (b.o1.fr f).kp⟩
  have o1 := b.o1.fr f
  refine (give_any s1 (by omega) (numOf M ref)).mono ?_
  rintro e w2 ⟨n', low', rfl, st', C', s2, f2, kp1, kp2⟩
  have low2 : LowR M n' := low'
  obtain rfl := low.one low2
  refine ⟨by rw [Int.add_comm], n, tag', st', H', C', low, ?_, fun g hg e h1 h3 => (kp1 g (Nat.lt_of_lt_of_le hg f.size) h1 h3).trans (f.blk g hg e).1, fun k hk => (kp2 k hk).trans (cell_like (hb ps (by rw [b.sh.t1]; decide)).1 k)⟩
  have ht0 : ∀ g, tag' g ≠ 0 → st g = 0 := fun g e => by
    by_cases q : st g = 0
    · exact q
    · exact absurd (hb g q).2 e
  have o2' := o2.fr f2
  refine ⟨{ hh with raw := hh.raw.same f2.size fun g e => (f2.blk g (hh.raw.un g e) (ht0 g e)).1 }, s2, b.gr.roots _, b.li, ⟨o2'.be, o1.tg, o2'.kp⟩, o2', fun g e => ?_⟩
  by_cases q : tag' g = 0
  · exact q
  · exact absurd (f2.blk g (hh.raw.un g q) (ht0 g q)).2 e
end Go.Proofs.YtidfllgaeiopjaaGreat
namespace Go.Proofs.YtidfllgaeiopjaaGreat
open Go.ChangeShapes Go.WideShapes Go.ChangeAt Go.RowKit
set_option linter.unusedVariables false
set_option maxRecDepth 100000
set_option maxHeartbeats 1000000

/-- a heap beside a shadow that has changed -/
theorem Both0.mk2 {w0 : Kp} {w w' : World} {ps ph : Nat} {tag st st' : Nat → Nat} {M : Hp} {H : HC} {ns' : List (Nat × List Nat × List Nat)} {limit last' : Nat} {C' : ShC} (he : HAt w ph tag M H) (o1 : OwnK w0 w tag) (o2 : OwnK w0 w st) (ap : ∀ g, st g ≠ 0 → tag g = 0) (li : M.limit = limit) (f : Fr st st' w w') (s : ShAt w' ps ph st' ns' M.roots limit last' C') (g : Gr M ns') : Both0 w0 w' ps ph tag st' M H ns' limit last' C' := by
  have ht0 : ∀ g, tag g ≠ 0 → st g = 0 := fun g e => by
    by_cases q : st g = 0
    · exact q
    · exact absurd (ap g q) e
  have o2' := o2.fr f
  refine ⟨{ he with raw := he.raw.same f.size fun g e => (f.blk g (he.raw.un g e) (ht0 g e)).1 }, s, g, li, ⟨o2'.be, o1.tg, o2'.kp⟩, o2', fun g e => ?_⟩
  by_cases q : tag g = 0
  · exact q
  · exact absurd (f.blk g (he.raw.un g q) (ht0 g q)).2 e
/-- what is done to the shadow alone -/
theorem Both0.shad {w0 : Kp} {w w' : World} {ps ph : Nat} {tag st st' : Nat → Nat} {M : Hp} {H : HC} {ns ns' : List (Nat × List Nat × List Nat)} {limit last last' : Nat} {C C' : ShC} (b : Both0 w0 w ps ph tag st M H ns limit last C) (f : Fr st st' w w') (s : ShAt w' ps ph st' ns' M.roots limit last' C') (g : Gr M ns') : Both0 w0 w' ps ph tag st' M H ns' limit last' C' := .mk2 b.he b.o1 b.o2 b.ap b.li f s g
/-- what is made beside both -/
theorem Both0.below {w0 : Kp} {w w' : World} {ps ph : Nat} {tag st : Nat → Nat} {M : Hp} {H : HC} {ns : List (Nat × List Nat × List Nat)} {limit last : Nat} {C : ShC} (b : Both0 w0 w ps ph tag st M H ns limit last C) (k : Below w.heap.size w w') : Both0 w0 w' ps ph tag st M H ns limit last C :=
  ⟨b.he.still k, b.sh.same k.size fun g e => k.block g (b.sh.un g e), b.gr, b.li, b.o1.below k, b.o2.below k, b.ap⟩

/-- the last errno is noted -/
theorem ShAt.noted {w : World} {ps ph : Nat} {st : Nat → Nat} {ns : List (Nat × List Nat × List Nat)} {hd : List (Option Nat)} {limit last : Nat} {C : ShC} (h : ShAt w ps ph st ns hd limit last C) (x : Nat) : ShAt (w.setCell ⟨ps, 4, none⟩ (.int .i64 (x : Nat))) ps ph st ns hd limit x C ∧ Fr st st w (w.setCell ⟨ps, 4, none⟩ (.int .i64 (x : Nat))) := by
  have hb : ∀ g, g ≠ ps → (w.setCell ⟨ps, 4, none⟩ (.int .i64 (x : Nat))).heap[g]? = w.heap[g]? := fun g e => setCell_else _ _ _ _ _ e
  have hg : ∀ n g, n ≠ 1 → st g = n → (w.setCell ⟨ps, 4, none⟩ (.int .i64 (x : Nat))).heap[g]? = w.heap[g]? := fun n g hn e => hb g (by rintro rfl; rw [h.t1] at e; exact hn e.symm)
  have hc : ∀ k, k ≠ 4 → (w.setCell ⟨ps, 4, none⟩ (.int .i64 (x : Nat))).cell? ⟨ps, k, none⟩ = w.cell? ⟨ps, k, none⟩ := fun k hk => World.cell?_setCell_other _ _ _ _ (by simp)
  exact ⟨{
    c0 := (hc 0 (by decide)).trans h.c0, c1 := (hc 1 (by decide)).trans h.c1, c2 := (hc 2 (by decide)).trans h.c2, c3 := (hc 3 (by decide)).trans h.c3
    c4 := World.cell?_setCell_same' w ⟨ps, 4, none⟩ _ (by rw [h.c4]; rfl)
    fz := fun i hi => by rw [World.frozen?_setCell]; exact h.fz i hi
    nd := h.nd.same fun g e => hg 2 g (by decide) (h.t2 g e)
    hn := h.hn.same fun g e => hg 3 g (by decide) (h.t3 g e)
    rf := fun j hj => (h.rf j hj).same fun g e => hg (4 + 2 * j) g (by omega) (h.t4 j g hj e)
    rw := fun j hj => (h.rw j hj).same fun g e => hg (5 + 2 * j) g (by omega) (h.t5 j g hj e)
    t1 := h.t1, t2 := h.t2, t3 := h.t3, t4 := h.t4, t5 := h.t5
    un := fun g e => by rw [World.size_setCell]; exact h.un g e }, ⟨rfl, rfl, rfl, by rw [World.size_setCell]; exact Nat.le_refl _, fun g _ e => ⟨hb g (by rintro rfl; rw [h.t1] at e; cases e), e⟩⟩⟩

/-- the three blocks of a new node -/
def tag3 (st : Nat → Nat) (n : Nat) (v r s : Value) : Nat → Nat := tagAt (tagAt (tagAt st v 2) r (4 + 2 * n)) s (5 + 2 * n)
theorem tag3_old {w : World} {st : Nat → Nat} {n : Nat} {vN v r s : Value} (ht : ∀ g, vN.ownBlock = some g → st g = 2) (hv : Own2 w vN v) (hr : ∀ g, r.ownBlock = some g → w.heap.size ≤ g) (hs : ∀ g, s.ownBlock = some g → w.heap.size ≤ g) : ∀ g, g < w.heap.size → tag3 st n v r s g = st g := by
  intro g hg
  unfold tag3
  have h1 := tagAt_same (by decide) ht hv g hg
  unfold tagAt at h1 ⊢
  rw [if_neg (fun e => by have := hs g e; omega), if_neg (fun e => by have := hr g e; omega)]
  exact h1

theorem ShAt.node {w w' : World} {ps ph : Nat} {st : Nat → Nat} {ns : List (Nat × List Nat × List Nat)} {hd : List (Option Nat)} {limit last : Nat} {C : ShC} (h : ShAt w ps ph st ns hd limit last C) (k r s : Nat) {v' r' s' : Value}
    (hW : Wide w' 69 3 v' (ns.length + 1) (fun j => if j < ns.length * 3 then ndCell C ns j else [Value.int .i64 (k : Nat), r', s'].getD (j - ns.length * 3) undef))
    (hR : Line w' 3 r' r (fun _ => .int .i64 0)) (hS : Line w' 30 s' s (fun _ => .int .u64 0)) (hv : Own2 w C.vN v') (hr : ∀ g, r'.ownBlock = some g → w.heap.size ≤ g) (hs : ∀ g, s'.ownBlock = some g → w.heap.size ≤ g)
    (hvr : ∀ g, v'.ownBlock = some g → r'.ownBlock ≠ some g) (hvs : ∀ g, v'.ownBlock = some g → s'.ownBlock ≠ some g) (hrs : ∀ g, r'.ownBlock = some g → s'.ownBlock ≠ some g) (c1 : w'.cell? ⟨ps, 1, none⟩ = some v')
    (hz : w.heap.size ≤ w'.heap.size) (hb : ∀ g, g < w.heap.size → st g ≠ 1 → st g ≠ 2 → w'.heap[g]? = w.heap[g]?) (hcc : ∀ k, k ≠ 1 → w'.cell? ⟨ps, k, none⟩ = w.cell? ⟨ps, k, none⟩) (hff : ∀ k, w'.frozen? ⟨ps, k, none⟩ = w.frozen? ⟨ps, k, none⟩) :
    ShAt w' ps ph (tag3 st ns.length v' r' s') (ns ++ [(k, List.replicate r 0, List.replicate s 0)]) hd limit last { C with vN := v', rf := fun j => if j < ns.length then C.rf j else r', rw := fun j => if j < ns.length then C.rw j else s' } := by
  have ht := tag3_old (n := ns.length) h.t2 hv hr hs
  have hk : ∀ g n, n ≠ 0 → st g = n → tag3 st ns.length v' r' s' g = n := fun g n hn e => (ht g (h.un g (by omega))).trans e
  have hg : ∀ n g, n ≠ 0 → n ≠ 1 → n ≠ 2 → st g = n → w'.heap[g]? = w.heap[g]? := fun n g h0 h1 h3 e => hb g (h.un g (by omega)) (by omega) (by omega)
  have hl : (ns ++ [(k, List.replicate r 0, List.replicate s 0)]).length = ns.length + 1 := by rw [List.length_append]; rfl
  have ho : ∀ j, j < ns.length → (ns ++ [(k, List.replicate r 0, List.replicate s 0)]).getD j (0, [], []) = ns.getD j (0, [], []) := fun j hj => by rw [getD_snoc, if_pos hj]
  have hn : (ns ++ [(k, List.replicate r 0, List.replicate s 0)]).getD ns.length (0, [], []) = (k, List.replicate r 0, List.replicate s 0) := by rw [getD_snoc, if_neg (Nat.lt_irrefl _), if_pos rfl]
  have hz0 : ∀ (m j : Nat), (List.replicate m 0).getD j 0 = 0 := fun m j => by
    rw [List.getD_eq_getElem?_getD, List.getElem?_replicate]
    split <;> rfl
  exact {
    c0 := (hcc 0 (by decide)).trans h.c0, c1 := c1, c2 := (hcc 2 (by decide)).trans h.c2, c3 := (hcc 3 (by decide)).trans h.c3, c4 := (hcc 4 (by decide)).trans h.c4
    fz := fun i hi => (hff i).trans (h.fz i hi)
    nd := by
      rw [hl]
      refine hW.congr fun j hj => ?_
      unfold ndCell ndField
      by_cases q : j < ns.length * 3
      · have q' : j / 3 < ns.length := by omega
        rw [if_pos q, ho _ q']
        simp only [if_pos q']
      · have q' : j / 3 = ns.length := by omega
        rw [if_neg q, q', hn]
        simp only [Nat.lt_irrefl, if_false]
        rcases (by omega : j = ns.length * 3 ∨ j = ns.length * 3 + 1 ∨ j = ns.length * 3 + 2) with rfl | rfl | rfl
        · rw [Nat.sub_self, if_pos (by omega)]; rfl
        · rw [if_neg (by omega), if_pos (by omega), Nat.add_sub_cancel_left]; rfl
        · rw [if_neg (by omega), if_neg (by omega), Nat.add_sub_cancel_left]; rfl
    hn := h.hn.same fun g e => hg 3 g (by decide) (by decide) (by decide) (h.t3 g e)
    rf := fun j hj => by
      by_cases q : j < ns.length
      · simp only [if_pos q]
        rw [ho j q]
        exact (h.rf j q).same fun g e => hg (4 + 2 * j) g (by omega) (by omega) (by omega) (h.t4 j g q e)
      · obtain rfl : j = ns.length := by rw [hl] at hj; omega
        simp only [if_neg q]
        rw [hn]
        simp only [List.length_replicate]
        exact hR.congr fun i _ => by rw [hz0]; rfl
    rw := fun j hj => by
      by_cases q : j < ns.length
      · simp only [if_pos q]
        rw [ho j q]
        exact (h.rw j q).same fun g e => hg (5 + 2 * j) g (by omega) (by omega) (by omega) (h.t5 j g q e)
      · obtain rfl : j = ns.length := by rw [hl] at hj; omega
        simp only [if_neg q]
        rw [hn]
        simp only [List.length_replicate]
        exact hS.congr fun i _ => by rw [hz0]; rfl
    t1 := hk _ _ (by decide) h.t1
    t2 := fun g e => by
      have e' : v'.ownBlock = some g := e
      unfold tag3 tagAt
      rw [if_neg (hvs g e'), if_neg (hvr g e'), if_pos e']
    t3 := fun g e => hk _ _ (by decide) (h.t3 g e)
    t4 := fun j g hj e => by
      by_cases q : j < ns.length
      · simp only [if_pos q] at e
        exact hk _ _ (by omega) (h.t4 j g q e)
      · obtain rfl : j = ns.length := by rw [hl] at hj; omega
        simp only [if_neg q] at e
        unfold tag3 tagAt
        rw [if_neg (hrs g e), if_pos e]
    t5 := fun j g hj e => by
      by_cases q : j < ns.length
      · simp only [if_pos q] at e
        exact hk _ _ (by omega) (h.t5 j g q e)
      · obtain rfl : j = ns.length := by rw [hl] at hj; omega
        simp only [if_neg q] at e
        unfold tag3 tagAt
        rw [if_pos e]
    un := fun g e => by
      by_cases q1 : s'.ownBlock = some g
      · exact hS.lt g q1
      · by_cases q2 : r'.ownBlock = some g
        · exact hR.lt g q2
        · by_cases q3 : v'.ownBlock = some g
          · exact hW.lt g q3
          · unfold tag3 tagAt at e
            rw [if_neg q1, if_neg q2, if_neg q3] at e
            exact Nat.lt_of_lt_of_le (h.un g e) hz }
end Go.Proofs.YtidfllgaeiopjaaGreat
