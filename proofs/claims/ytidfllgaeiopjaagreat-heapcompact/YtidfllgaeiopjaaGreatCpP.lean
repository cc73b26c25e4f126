/- Behind a collection a look finds all that is there, in order. No program here. -/
import Derived.Test.YtidfllgaeiopjaaGreatShR
import Derived.Test.YtidfllgaeiopjaaGreatEqw
import Derived.Test.YtidfllgaeiopjaaGreatShH
import Derived.Deep.RegionHeld3
import Derived.Test.YtidfllgaeiopjaaGreatAllocM
import Derived.Test.YtidfllgaeiopjaaGreatFindM
import Derived.Test.YtidfllgaeiopjaaGreatLive2
namespace Go.Proofs.YtidfllgaeiopjaaGreat
open Go.ChangeShapes Go.WideShapes Go.ChangeAt Go.RowKit
set_option linter.unusedVariables false
set_option linter.unusedSimpArgs false
set_option maxRecDepth 100000
set_option maxHeartbeats 1000000

/-- a move -/
structure MvL where
  K : Int
  A : Int
  B : Int
  C : Int
  H : Int
  G : Int
  V : Nat
  a : Option Addr
  l : List Nat
  c : Nat
structure MvAt (w : World) (b o : Nat) (q : MvL) : Prop where
  m0 : w.cell? ⟨b, o, none⟩ = some (.int .i64 q.K)
  m1 : w.cell? ⟨b, o + 1, none⟩ = some (.int .i64 q.A)
  m2 : w.cell? ⟨b, o + 2, none⟩ = some (.int .i64 q.B)
  m3 : w.cell? ⟨b, o + 3, none⟩ = some (.int .i64 q.C)
  m4 : w.cell? ⟨b, o + 4, none⟩ = some (.int .i64 q.H)
  m5 : w.cell? ⟨b, o + 5, none⟩ = some (.int .i64 q.G)
  m6 : w.cell? ⟨b, o + 6, none⟩ = some (.int .u64 (q.V : Nat))
  m7 : w.cell? ⟨b, o + 7, none⟩ = some (.slice q.a q.l.length q.c)
theorem MvAt.like {w w' : World} {b o : Nat} {q : MvL} (h : MvAt w b o q) (e : w'.heap[b]? = w.heap[b]?) : MvAt w' b o q := by
  have k : ∀ i, w'.cell? ⟨b, i, none⟩ = w.cell? ⟨b, i, none⟩ := fun i => by simp only [World.cell?, e]
  exact ⟨(k _).trans h.m0, (k _).trans h.m1, (k _).trans h.m2, (k _).trans h.m3, (k _).trans h.m4, (k _).trans h.m5, (k _).trans h.m6, (k _).trans h.m7⟩
/-- a script of n moves -/
def Moves3 (w : World) (a : Option Addr) (n : Nat) : Prop := n = 0 ∨ ∃ b off, a = some ⟨b, off, none⟩ ∧ b < w.heap.size ∧ ∀ i, i < n → ∃ q, MvAt w b (off + i * 8) q ∧ DataOk w q.A q.V q.a q.c q.l

def SmallP (w : World) (n : Nat) (e : Ending) (w' : World) : Prop := ∃ v, e = .returned (.bool v) ∧ (v = true → n ≤ 200) ∧ Below w.heap.size w w'
theorem small_any (w : World) (lim : Int) (a : Option Addr) (n cap : Nat) (hS : Moves3 w a n) : Calls Tryz.prog 10 #[.agg #[.int .i64 lim, .slice a n cap]] w (SmallP w n) := by
  by_cases h : 200 < n
  · have d1 : decide ((200 : Int) < (n : Nat)) = true := decide_eq_true (by omega)
    clear hS
    go_enter Tryz.func10, Tryz.ntmps10
    go_wp2_with fail
    go_ret
    exact ⟨false, rfl, fun h => (by cases h), (Below.refl _ _).alloc (Nat.le_refl _) _⟩
  · have d1 : decide ((200 : Int) < (n : Nat)) = false := decide_eq_false (by omega)
    have hb : Below w.heap.size w (w.alloc (.cells #[.int .i64 lim, .slice a n cap] 24)) := (Below.refl _ _).alloc (Nat.le_refl _) _
    have y1 : (w.alloc (.cells #[.int .i64 lim, .slice a n cap] 24)).cell? ⟨w.heap.size, 1, none⟩ = some (.slice a n cap) := World.cell?_alloc_at _ _ _ _ rfl
    have hs0 : (w.alloc (.cells #[.int .i64 lim, .slice a n cap] 24)).heap.size = w.heap.size + 1 := by simp
    have HI0 : Hid (Below w.heap.size w (w.alloc (.cells #[.int .i64 lim, .slice a n cap] 24)) ∧ Below (w.heap.size + 1) (w.alloc (.cells #[.int .i64 lim, .slice a n cap] 24)) (w.alloc (.cells #[.int .i64 lim, .slice a n cap] 24))) := hide ⟨hb, Below.refl _ _⟩
    have HS := hide hS
    clear hS hb
    go_enter Tryz.func10, Tryz.ntmps10
    go_wp2_with fail
    generalize hW : World.alloc w _ = W0 at *
    have HY := hide y1
    clear hW y1
    go_loopw [3] (fun iv wr => ∃ i : Nat, iv = .int .i64 (i : Nat) ∧ i ≤ n ∧ Hid (Below w.heap.size w wr ∧ Below (w.heap.size + 1) W0 wr)) (fun iv _ => n - (intOf iv).toNat)
    case atStart => exact ⟨0, rfl, Nat.zero_le _, HI0⟩
    case round =>
      obtain ⟨i, rfl, hi, hI⟩ := hrel
      have y1 : wr.cell? ⟨w.heap.size, 1, none⟩ = some (.slice a n cap) := ((unhide hI).2.cell (p := ⟨w.heap.size, 1, none⟩) (Nat.lt_succ_self _)).trans (unhide HY)
      have w1 : IntKind.i64.wrap ((i : Int) + 1) = (i : Int) + 1 := wrap_small _ (by omega) (by omega)
      by_cases hin : i < n
      · obtain ⟨b, off, rfl, hbl, hq⟩ : ∃ b off, a = some ⟨b, off, none⟩ ∧ b < w.heap.size ∧ ∀ i, i < n → ∃ q, MvAt w b (off + i * 8) q ∧ DataOk w q.A q.V q.a q.c q.l := by
          rcases unhide HS with h | h
          · omega
          · exact h
        obtain ⟨q, hm, _⟩ := hq i hin
        obtain ⟨r0, r1, r2, r3, r4, r5, r6, r7⟩ := hm.like ((unhide hI).1.block b hbl)
        obtain ⟨K, A, B, C, HH, GG, V, da, dl, dc⟩ := q
        dsimp only at r0 r1 r2 r3 r4 r5 r6 r7
        obtain ⟨dn, hdn⟩ : ∃ dn, dl.length = dn := ⟨_, rfl⟩
        rw [hdn] at r7
        have dl' : decide ((i : Int) < (n : Nat)) = true := decide_eq_true (by omega)
        have i1 : (0 : Int) ≤ (i : Nat) := by omega
        have i2 : (i : Int) < (n : Nat) := by omega
        have HNX : Hid (∀ x, Below w.heap.size w (wr.alloc x) ∧ Below (w.heap.size + 1) W0 (wr.alloc x)) := hide (fun x => by
          have k := unhide hI
          have hz := k.2.size
          rw [hs0] at hz
          exact ⟨k.1.alloc k.1.size _, k.2.alloc hz _⟩)
        have hnew : ∀ x, (wr.alloc (.cells x 33)).heap.size = wr.heap.size + 1 := fun x => by simp
        clear hdn hq hm HS hbl
        have hgo : ∀ x, ∃ i', (Value.int IntKind.i64 ((i : Int) + 1) = .int .i64 (i' : Nat)) ∧ i' ≤ n ∧ Hid (Below w.heap.size w (wr.alloc x) ∧ Below (w.heap.size + 1) W0 (wr.alloc x)) := fun x => ⟨i + 1, by simp, by omega, hide (unhide HNX x)⟩
        have HGO := hide hgo
        clear hgo
        by_cases t1 : K = 1
        · subst t1
          by_cases t2 : 1000 < B
          · have e2 : decide (1000 < B) = true := decide_eq_true t2
            by_cases t4 : B ≤ 1048576
            · have e4 : decide (B ≤ 1048576) = true := decide_eq_true t4
              by_cases t5 : C ≤ 1048576
              · have e5 : decide (C ≤ 1048576) = true := decide_eq_true t5
                go_wp2
                go_ret
                exact ⟨false, rfl, fun h => (by cases h), (unhide HNX _).1⟩
              · have e5 : decide (C ≤ 1048576) = false := decide_eq_false t5
                go_wp2
                all_goals go_roundw
                all_goals first | exact unhide HGO _ | (simp [intOf]; omega)
            · have e4 : decide (B ≤ 1048576) = false := decide_eq_false t4
              go_wp2
              all_goals go_roundw
              all_goals first | exact unhide HGO _ | (simp [intOf]; omega)
          · have e2 : decide (1000 < B) = false := decide_eq_false t2
            by_cases t3 : 1000 < C
            · have e3 : decide (1000 < C) = true := decide_eq_true t3
              have e4 : decide (B ≤ 1048576) = true := decide_eq_true (by omega)
              by_cases t5 : C ≤ 1048576
              · have e5 : decide (C ≤ 1048576) = true := decide_eq_true t5
                go_wp2
                go_ret
                exact ⟨false, rfl, fun h => (by cases h), (unhide HNX _).1⟩
              · have e5 : decide (C ≤ 1048576) = false := decide_eq_false t5
                go_wp2
                all_goals go_roundw
                all_goals first | exact unhide HGO _ | (simp [intOf]; omega)
            · have e3 : decide (1000 < C) = false := decide_eq_false t3
              go_wp2
              all_goals go_roundw
              all_goals first | exact unhide HGO _ | (simp [intOf]; omega)
        · have e1 : decide (K = 1) = false := decide_eq_false t1
          go_wp2
          all_goals go_roundw
          all_goals first | exact unhide HGO _ | (simp [intOf]; omega)
      · have hiN : i = n := by omega
        subst hiN
        have dl' : decide ((i : Int) < (i : Nat)) = false := decide_eq_false (by omega)
        go_wp2
        go_ret
        exact ⟨true, rfl, fun _ => (by omega), (unhide hI).1⟩
end Go.Proofs.YtidfllgaeiopjaaGreat
namespace Go.Proofs.YtidfllgaeiopjaaGreat
open Go.ChangeShapes Go.WideShapes Go.ChangeAt Go.RowKit
set_option linter.unusedVariables false
set_option linter.unusedSimpArgs false
set_option maxRecDepth 100000
set_option maxHeartbeats 1000000

/-- both, at most n steps made -/
def Inv (ps ph lim n : Nat) (k : Kp) (M : Hp) (w : World) : Prop := ∃ tag st H ns C last, Both0 k w ps ph tag st M H ns lim last C ∧ Bnd M n
/-- what is kept is as it was -/
def SameK (k : Kp) (w w' : World) : Prop := ∀ g, g < k.w.heap.size ∨ k.K g → w'.heap[g]? = w.heap[g]?
theorem Both0.sameK {k : Kp} {w w' : World} {ps ph ps' ph' : Nat} {tag st tag' st' : Nat → Nat} {M M' : Hp} {H H' : HC} {ns ns' : List (Nat × List Nat × List Nat)} {limit last limit' last' : Nat} {C C' : ShC} (b : Both0 k w ps ph tag st M H ns limit last C) (b' : Both0 k w' ps' ph' tag' st' M' H' ns' limit' last' C') : SameK k w w' := fun g hg => by
  rcases hg with hg | hg
  · exact (b'.o1.be.block g hg).trans (b.o1.be.block g hg).symm
  · exact (b'.o1.kp g hg).2.trans (b.o1.kp g hg).2.symm
theorem Inv.c0 {ps ph lim n : Nat} {k : Kp} {M : Hp} {w : World} (h : Inv ps ph lim n k M w) : w.cell? ⟨ps, 0, none⟩ = some (.pointer (some ⟨ph, 0, none⟩)) := by
  obtain ⟨tag, st, H, ns, C, last, b, bd⟩ := h
  exact b.sh.c0
theorem Inv.still {ps ph lim n : Nat} {k : Kp} {M : Hp} {w w' : World} (h : Inv ps ph lim n k M w) (q : Below w.heap.size w w') : Inv ps ph lim n k M w' := by
  obtain ⟨tag, st, H, ns, C, last, b, bd⟩ := h
  exact ⟨tag, st, H, ns, C, last, b.below q, bd⟩
theorem Inv.collect {ps ph lim n : Nat} {k : Kp} {M : Hp} {w : World} (h : Inv ps ph lim n k M w) (hn : n ≤ 10000) :
    Calls Tryz.prog 14 #[.pointer (some ⟨ph, 0, none⟩)] w fun e w' => e = .returned (.tuple #[]) ∧ ∃ M1, IsColl M M1 ∧ Inv ps ph lim (n + 1) k (fitM M1 0) w' ∧ SameK k w w' := by
  obtain ⟨tag, st, H, ns, C, last, b, bd⟩ := h
  have hcl := bd.cl
  have hrz := bd.rz
  refine (hcollect_any b.he (by omega) (by omega)).mono ?_
  rintro e w' ⟨rfl, t', H', M1, hc, h', f⟩
  have q := hc.nums
  obtain ⟨o1, o2, o3, _, o5⟩ := fitM_objs M1 0
  have fr := fitM_resz M1 0
  have b' := b.heap f h' ((b.gr.coll b.he.wf hc).fit 0) (by rw [o2, q.2.2.2.2.1]) (by rw [o3, q.1])
  refine ⟨rfl, M1, hc, ⟨t', st, H', ns, C, last, b', ⟨?_, ?_, ?_, ?_, ?_, ?_, ?_⟩⟩, b.sameK b'⟩
  · rw [o1, q.2.2.2.2.2]; exact bd.o1
  · rw [o1, q.2.2.2.2.2]; have := bd.ob; omega
  · rw [fr.2, q.2.2.1]; omega
  · have := fr.1; rw [q.2.2.2.1] at this; omega
  · rw [o5, coll_slots hc]; have := bd.sl; omega
  · rw [o2, q.2.2.2.2.1]; have := bd.rt; omega
  · rw [o5, coll_slots hc, o1, q.2.2.2.2.2]; exact bd.so
theorem Inv.wf {ps ph lim n : Nat} {k : Kp} {M : Hp} {w : World} (h : Inv ps ph lim n k M w) : HpWf M ∧ M.limit = lim ∧ M.resz ≤ 10 * n ∧ M.coll ≤ 10 * n := by
  obtain ⟨tag, st, H, ns, C, last, b, bd⟩ := h
  exact ⟨b.he.wf, b.li, bd.rz, bd.cl⟩
theorem Inv.image {ps ph lim n : Nat} {k : Kp} {M : Hp} {w : World} (h : Inv ps ph lim n k M w) :
    Calls Tryz.prog 15 #[.pointer (some ⟨ph, 0, none⟩)] w fun e w' => e = .returned (.slice (some ⟨w.heap.size, 0, none⟩) M.used M.used) ∧ w.heap.size < w'.heap.size ∧ (∀ j, j < M.used → w'.cell? ⟨w.heap.size, j, none⟩ = some (.int .u64 ((imgM M).getD j 0 : Nat))) ∧ Below w.heap.size w w' := by
  obtain ⟨tag, st, H, ns, C, last, b, bd⟩ := h
  refine (himage_any b.he).mono ?_
  rintro e w' ⟨v, rfl, rfl, h1, h2, h3, h4⟩
  exact ⟨rfl, h1, h3, h4⟩
def statV (M : Hp) : Value := stV M.limit M.half M.used M.large (cntS M) (cntR M) M.coll M.resz M.moved
theorem Inv.stats {ps ph lim n : Nat} {k : Kp} {M : Hp} {w : World} (h : Inv ps ph lim n k M w) :
    Calls Tryz.prog 16 #[.pointer (some ⟨ph, 0, none⟩)] w fun e w' => e = .returned (statV M) ∧ Below w.heap.size w w' := by
  obtain ⟨tag, st, H, ns, C, last, b, bd⟩ := h
  exact hstats_any b.he
end Go.Proofs.YtidfllgaeiopjaaGreat
namespace Go.Proofs.YtidfllgaeiopjaaGreat
open Go.ChangeShapes Go.WideShapes Go.ChangeAt Go.RowKit
set_option linter.unusedVariables false
set_option linter.unusedSimpArgs false
set_option maxRecDepth 100000
set_option maxHeartbeats 1000000

/-- where a node is, as the walk has come to it: 0: not yet -/
def whr (M : Hp) (k : Wk) (j : Nat) : Nat := if j ∈ k.cop ∨ j ∈ k.lin then refW M j else 0
def wordsK (M : Hp) (k : Wk) : Nat := 1 + (k.cop.map fun i => osz (ob M i)).sum
def largeK (M : Hp) (k : Wk) : Nat := (k.lin.map fun i => 1 + osz (ob M i)).sum
structure SeenC where
  vS : Value
  vB : Value
  vW : Value
/-- what look has seen, at px: the refs of the small ones and of the large ones in order, of each of N nodes its ref, the words -/
structure SeenAt (w : World) (b0 px : Nat) (M : Hp) (N : Nat) (k : Wk) (V : SeenC) : Prop where
  c0 : w.cell? ⟨px, 0, none⟩ = some V.vS
  c1 : w.cell? ⟨px, 1, none⟩ = some V.vB
  c2 : w.cell? ⟨px, 2, none⟩ = some V.vW
  c3 : w.cell? ⟨px, 3, none⟩ = some (.int .i64 (wordsK M k : Nat))
  c4 : w.cell? ⟨px, 4, none⟩ = some (.int .i64 (largeK M k : Nat))
  fz : ∀ i, i < 5 → w.frozen? ⟨px, i, none⟩ = false
  s : Line w 30 V.vS k.cop.length (fun j => .int .u64 (refW M (k.cop.getD j 0) : Nat))
  b : Line w 30 V.vB k.lin.length (fun j => .int .u64 (refW M (k.lin.getD j 0) : Nat))
  h : Line w 30 V.vW N (fun j => .int .u64 (whr M k j : Nat))
  lo : b0 ≤ px ∧ ∀ g, (V.vS.ownBlock = some g ∨ V.vB.ownBlock = some g ∨ V.vW.ownBlock = some g) → b0 ≤ g ∧ g ≠ px
  d1 : ∀ g, V.vS.ownBlock = some g → V.vB.ownBlock ≠ some g
  d2 : ∀ g, V.vS.ownBlock = some g → V.vW.ownBlock ≠ some g
  d3 : ∀ g, V.vB.ownBlock = some g → V.vW.ownBlock ≠ some g
theorem SeenAt.lt {w : World} {b0 px N : Nat} {M : Hp} {k : Wk} {V : SeenC} (h : SeenAt w b0 px M N k V) : px < w.heap.size := block_lt_of_cell h.c0
/-- what is only asked leaves it -/
theorem SeenAt.below {w w' : World} {b0 px N : Nat} {M : Hp} {k : Wk} {V : SeenC} (h : SeenAt w b0 px M N k V) (q : Below w.heap.size w w') : SeenAt w' b0 px M N k V := by
  have hc : ∀ o, w'.cell? ⟨px, o, none⟩ = w.cell? ⟨px, o, none⟩ := fun o => q.cell (p := ⟨px, o, none⟩) h.lt
  refine ⟨(hc 0).trans h.c0, (hc 1).trans h.c1, (hc 2).trans h.c2, (hc 3).trans h.c3, (hc 4).trans h.c4, fun i hi => ?_, h.s.same fun g e => q.block g (h.s.lt g e), h.b.same fun g e => q.block g (h.b.lt g e), h.h.same fun g e => q.block g (h.h.lt g e), h.lo, h.d1, h.d2, h.d3⟩
  rw [← h.fz i hi]
  simp only [World.frozen?, q.block px h.lt]
/-- all that the walk has come to is there -/
def AllIs (M : Hp) (k : Wk) : Prop := ∀ i, i ∈ k.cop ∨ i ∈ k.lin → Is M i
theorem ref_inj {M : Hp} (ok : HpOk M) {i j : Nat} (hi : Is M i) (hj : Is M j) (e : refW M i = refW M j) : i = j := by
  rw [← (num_back ok hi).1, ← (num_back ok hj).1, e]
theorem is_pos {M : Hp} (ok : HpOk M) {i : Nat} (h : Is M i) : i ≠ 0 := by
  rintro rfl
  exact (num_back ok h).2.2 rfl
theorem whr_ne {M : Hp} (ok : HpOk M) {k : Wk} (ha : AllIs M k) {i j : Nat} (hi : Is M i) (hj : j ≠ i) : whr M k j ≠ refW M i := by
  unfold whr
  split
  · rename_i h
    exact fun e => hj (ref_inj ok (ha j h) hi e)
  · exact fun e => (num_back ok hi).2.2 e.symm
theorem node_any {w : World} {b0 px N : Nat} {M : Hp} {k : Wk} {V : SeenC} (h : SeenAt w b0 px M N k V) (ok : HpOk M) (ha : AllIs M k) (hN : N ≤ 1000000) {i : Nat} (hi : i ∈ k.cop ∨ i ∈ k.lin) (hiN : i < N) :
    Calls Tryz.prog 37 #[.pointer (some ⟨px, 0, none⟩), .int .u64 (refW M i : Nat)] w fun e w' => e = .returned (.int .i64 (i : Nat)) ∧ Still w w' := by
  have hI := ha i hi
  have h0 := is_pos ok hI
  obtain ⟨g, cap, ev, ho, hc⟩ := h.h.at (by omega)
  have c2 := h.c2
  rw [ev] at c2
  have HN : Hid (∀ j, j ≠ i → ((whr M k j : Int) == (refW M i : Nat)) = false) := hide (fun j hj => by
    have := whr_ne ok ha hI hj
    simp; omega)
  have HE : Hid (whr M k i = refW M i) := hide (by unfold whr; rw [if_pos hi])
  have HC : Hid (∀ j, j < N → w.cell? ⟨g, j, none⟩ = some (.int .u64 (whr M k j : Nat))) := hide (fun j hj => (hc j hj).1)
  obtain ⟨R, hR⟩ : ∃ R, refW M i = R := ⟨_, rfl⟩
  rw [hR] at HN HE ⊢
  clear h ok ha hI ev ho hc hi hR
  go_enter Tryz.func37, Tryz.ntmps37
  go_wp2_with fail
  go_loopw [5] (fun iv wr => ∃ j : Nat, iv = .int .i64 (j : Nat) ∧ 1 ≤ j ∧ j ≤ i ∧ Still w wr) (fun iv _ => N - (intOf iv).toNat)
  case atStart => exact ⟨1, rfl, Nat.le_refl _, by omega, Still.refl _⟩
  case round =>
    obtain ⟨j, rfl, hj1, hj2, hk⟩ := hrel
    have c2' := (hk.cell _).trans c2
    have e0 := (hk.cell _).trans (unhide HC j (by omega))
    have dl : decide ((j : Int) < (N : Nat)) = true := decide_eq_true (by omega)
    have i1 : (0 : Int) ≤ (j : Nat) := by omega
    have i2 : (j : Int) < (N : Nat) := by omega
    have w1 : IntKind.i64.wrap ((j : Int) + 1) = (j : Int) + 1 := wrap_small _ (by omega) (by omega)
    have HK := hide hk
    by_cases hji : j = i
    · subst hji
      rw [unhide HE] at e0
      clear hk c2
      go_wp2_with fail
      all_goals go_ret
      all_goals exact ⟨by simp, by first | exact unhide HK | exact (unhide HK).drew _⟩
    · have dn := unhide HN j hji
      have dn' : ((whr M k j : Int) = (R : Nat)) = False := by simpa using dn
      clear hk c2
      go_wp2_with fail
      all_goals go_roundw
      all_goals first | exact ⟨j + 1, by simp, by omega, by omega, unhide HK⟩ | (simp [intOf]; omega)
end Go.Proofs.YtidfllgaeiopjaaGreat
namespace Go.Proofs.YtidfllgaeiopjaaGreat
open Go.ChangeShapes Go.WideShapes Go.ChangeAt Go.RowKit
set_option linter.unusedVariables false
set_option linter.unusedSimpArgs false
set_option maxRecDepth 100000
set_option maxHeartbeats 1000000

theorem reach_none {px ps : Nat} (w : World) : Calls Tryz.prog 36 #[.pointer (some ⟨px, 0, none⟩), .pointer (some ⟨ps, 0, none⟩), .int .u64 0, .int .i64 0] w fun e w' => e = .returned (.bool true) ∧ Still w w' := by
  go_enter Tryz.func36, Tryz.ntmps36
  go_wp2_with fail
  all_goals go_ret
  all_goals exact ⟨by simp, by first | exact Still.refl _ | exact (Still.refl _).drew _⟩
theorem reach_seen {w : World} {b0 px ps N : Nat} {M : Hp} {k : Wk} {V : SeenC} (h : SeenAt w b0 px M N k V) (ok : HpOk M) (ha : AllIs M k) (hN : N ≤ 1000000) {i : Nat} (hi : i ∈ k.cop ∨ i ∈ k.lin) (hiN : i < N) :
    Calls Tryz.prog 36 #[.pointer (some ⟨px, 0, none⟩), .pointer (some ⟨ps, 0, none⟩), .int .u64 (refW M i : Nat), .int .i64 (i : Nat)] w fun e w' => e = .returned (.bool true) ∧ Still w w' := by
  have hI := ha i hi
  have h0 := is_pos ok hI
  have hr0 := (num_back ok hI).2.2
  obtain ⟨g, cap, ev, ho, hc⟩ := h.h.at (by omega)
  have c2 := h.c2
  rw [ev] at c2
  have e0 := (hc i hiN).1
  rw [show whr M k i = refW M i by unfold whr; rw [if_pos hi]] at e0
  obtain ⟨R, hR⟩ : ∃ R, refW M i = R := ⟨_, rfl⟩
  rw [hR] at hr0 e0 ⊢
  clear h ok ha hI ev ho hc hi hR
  have i1 : (0 : Int) ≤ (i : Nat) := by omega
  have i2 : (i : Int) < (N : Nat) := by omega
  have d1 : ((i : Int) == 0) = false := by simp; omega
  have d2 : ((R : Int) == 0) = false := by simp; omega
  have d3 : ((R : Int) != 0) = true := by simp; omega
  go_enter Tryz.func36, Tryz.ntmps36
  go_wp2_with fail
  all_goals go_ret
  all_goals exact ⟨by simp, by first | exact Still.refl _ | exact (Still.refl _).drew _⟩
end Go.Proofs.YtidfllgaeiopjaaGreat
namespace Go.Proofs.YtidfllgaeiopjaaGreat
open Go.ChangeShapes Go.WideShapes Go.ChangeAt Go.RowKit
set_option linter.unusedVariables false
set_option linter.unusedSimpArgs false
set_option maxRecDepth 100000
set_option maxHeartbeats 1000000


theorem Still.setC {w wr : World} (h : Still w wr) (a : Addr) (v : Value) : Still (w.setCell a v) (wr.setCell a v) := by
  obtain ⟨h1, h2, h3, h4⟩ := h
  refine ⟨h1, h2, h3, ?_⟩
  unfold World.setCell
  rw [h4]
/-- reach, at a small one that is new -/
theorem reach_small {w : World} {px ps gN nN cN rf rr cr cw : Nat} {ar aw : Option Addr} {vS vB : Value} {nS nB gW N cW i R WD : Nat} (fS fB : Nat → Nat)
    (c0 : w.cell? ⟨px, 0, none⟩ = some vS) (c1 : w.cell? ⟨px, 1, none⟩ = some vB) (c2 : w.cell? ⟨px, 2, none⟩ = some (.slice (some ⟨gW, 0, none⟩) N cW)) (c3 : w.cell? ⟨px, 3, none⟩ = some (.int .i64 (WD : Nat)))
    (fz : ∀ o, o < 5 → w.frozen? ⟨px, o, none⟩ = false) (hS : Line w 30 vS nS (fun j => .int .u64 (fS j : Nat))) (hB : Line w 30 vB nB (fun j => .int .u64 (fB j : Nat)))
    (e0 : w.cell? ⟨gW, i, none⟩ = some (.int .u64 (0 : Nat))) (f0 : w.frozen? ⟨gW, i, none⟩ = false)
    (x1 : w.cell? ⟨ps, 1, none⟩ = some (.slice (some ⟨gN, 0, none⟩) nN cN)) (y1 : w.cell? ⟨gN, i * 3 + 1, none⟩ = some (.slice ar rf cr)) (y2 : w.cell? ⟨gN, i * 3 + 2, none⟩ = some (.slice aw rr cw))
    (hi0 : i ≠ 0) (hiN : i < N) (hin : i < nN) (hR : R ≠ 0) (nS' : ∀ j, j < nS → fS j ≠ R) (nB' : ∀ j, j < nB → fB j ≠ R) (hsm : 1 + rf + rr ≤ 64) (lS : nS ≤ 1000000) (lB : nB ≤ 1000000) (lN : N ≤ 1000000) (lW : WD ≤ 100000000)
    (a1 : gW ≠ px) (a2 : vS.ownBlock ≠ some px) (a3 : vS.ownBlock ≠ some gW) (a4 : ps ≠ px) (a5 : ps ≠ gW) (a6 : gN ≠ px) (a7 : gN ≠ gW) :
    Calls Tryz.prog 36 #[.pointer (some ⟨px, 0, none⟩), .pointer (some ⟨ps, 0, none⟩), .int .u64 (R : Nat), .int .i64 (i : Nat)] w fun e w' => e = .returned (.bool true) ∧ ∃ w1 w2 v', Still (w.setCell ⟨gW, i, none⟩ (.int .u64 (R : Nat))) w1 ∧ Line w2 30 v' (nS + 1) (fun j => if j < nS then .int .u64 (fS j : Nat) else .int .u64 (R : Nat)) ∧ Grew 30 nS (.int .u64 (R : Nat)) (w1.alloc (.cells #[.int .u64 (R : Nat)] 30)) w2 vS v' ∧ Still ((w2.setCell ⟨px, 0, none⟩ v').setCell ⟨px, 3, none⟩ (.int .i64 ((WD + (1 + rf + rr) : Nat) : Int))) w' := by
  obtain ⟨i0, hi, hy0, hy1, hy2⟩ := info_parts Tryz.info30
  obtain ⟨aS, cS, rfl⟩ := hS.shape
  obtain ⟨aB, cB, rfl⟩ := hB.shape
  have HS : Hid (∀ j, j < nS → ∃ g, aS = some ⟨g, 0, none⟩ ∧ w.cell? ⟨g, j, none⟩ = some (.int .u64 (fS j : Nat))) := hide (fun j hj => by
    obtain ⟨g, cap', e1, _, hc⟩ := hS.at (by omega)
    cases e1
    exact ⟨g, rfl, (hc j hj).1⟩)
  have HB : Hid (∀ j, j < nB → ∃ g, aB = some ⟨g, 0, none⟩ ∧ w.cell? ⟨g, j, none⟩ = some (.int .u64 (fB j : Nat))) := hide (fun j hj => by
    obtain ⟨g, cap', e1, _, hc⟩ := hB.at (by omega)
    cases e1
    exact ⟨g, rfl, (hc j hj).1⟩)
  have HX : Hid (∀ W, Hid (Still (w.setCell ⟨gW, i, none⟩ (.int .u64 (R : Nat))) W) → W.cell? ⟨ps, 1, none⟩ = some (.slice (some ⟨gN, 0, none⟩) nN cN) ∧ W.cell? ⟨gN, i * 3 + 1, none⟩ = some (.slice ar rf cr) ∧ W.cell? ⟨gN, i * 3 + 2, none⟩ = some (.slice aw rr cw)) := hide (fun W q => by
    have hh : ∀ b o, b ≠ gW → W.cell? ⟨b, o, none⟩ = w.cell? ⟨b, o, none⟩ := fun b o hb => ((unhide q).cell _).trans (World.cell?_setCell_other _ _ _ _ (by intro e; cases e; exact hb rfl))
    exact ⟨(hh _ _ a5).trans x1, (hh _ _ a7).trans y1, (hh _ _ a7).trans y2⟩)
  have HA : Hid (∀ W, Hid (Still (w.setCell ⟨gW, i, none⟩ (.int .u64 (R : Nat))) W) → W.cell? ⟨px, 0, none⟩ = some (.slice aS nS cS) ∧ Hid (Line (W.alloc (.cells #[.int .u64 (R : Nat)] 30)) 30 (.slice aS nS cS) nS (fun j => .int .u64 (fS j : Nat))) ∧ (W.alloc (.cells #[.int .u64 (R : Nat)] 30)).cell? ⟨px, 0, none⟩ = some (.slice aS nS cS) ∧ Hid ((W.alloc (.cells #[.int .u64 (R : Nat)] 30)).cell? ⟨W.heap.size, 0, none⟩ = some (.int .u64 (R : Nat))) ∧
      Hid (∀ v' w', Grew 30 nS (.int .u64 (R : Nat)) (W.alloc (.cells #[.int .u64 (R : Nat)] 30)) w' (.slice aS nS cS) v' → w'.cell? ⟨px, 0, none⟩ = some (.slice aS nS cS) ∧ w'.frozen? ⟨px, 0, none⟩ = false ∧ (w'.setCell ⟨px, 0, none⟩ v').cell? ⟨px, 0, none⟩ = some v' ∧ (w'.setCell ⟨px, 0, none⟩ v').cell? ⟨px, 3, none⟩ = some (.int .i64 (WD : Nat)) ∧ (w'.setCell ⟨px, 0, none⟩ v').frozen? ⟨px, 3, none⟩ = false)) := hide (fun W q => by
    have hq := unhide q
    have hpx : px < W.heap.size := by
      have h1 := block_lt_of_cell c0
      rw [hq.heap, World.size_setCell]; exact h1
    have hx : ∀ o, W.cell? ⟨px, o, none⟩ = w.cell? ⟨px, o, none⟩ := fun o => (hq.cell _).trans (World.cell?_setCell_other _ _ _ _ (by intro e; cases e; exact a1 rfl))
    have hf : ∀ o, W.frozen? ⟨px, o, none⟩ = w.frozen? ⟨px, o, none⟩ := fun o => by
      have : W.frozen? ⟨px, o, none⟩ = (w.setCell ⟨gW, i, none⟩ (.int .u64 (R : Nat))).frozen? ⟨px, o, none⟩ := by simp only [World.frozen?, hq.heap]
      rw [this, World.frozen?_setCell]
    have hbA : Below W.heap.size W (W.alloc (.cells #[.int .u64 (R : Nat)] 30)) := (Below.refl _ _).alloc (Nat.le_refl _) _
    have hL : Line W 30 (.slice aS nS cS) nS (fun j => .int .u64 (fS j : Nat)) := hS.same fun g hg => by
      rw [hq.heap, setCell_else _ _ _ _ _ (by rintro rfl; exact a3 hg)]
    refine ⟨(hx 0).trans c0, hide (hL.same fun g hg => hbA.block g (hL.lt g hg)), (hbA.cell (p := ⟨px, 0, none⟩) hpx).trans ((hx 0).trans c0), hide (cell_made rfl _ _), hide (fun v' w' h2 => ?_)⟩
    have hb : w'.heap[px]? = W.heap[px]? := (h2.other px (Nat.lt_of_lt_of_le hpx hbA.size) a2).trans (hbA.block px hpx)
    have hc : ∀ o, w'.cell? ⟨px, o, none⟩ = w.cell? ⟨px, o, none⟩ := fun o => by rw [← hx o]; simp only [World.cell?, hb]
    have hg : ∀ o, w'.frozen? ⟨px, o, none⟩ = w.frozen? ⟨px, o, none⟩ := fun o => by rw [← hf o]; simp only [World.frozen?, hb]
    refine ⟨(hc 0).trans c0, (hg 0).trans (fz 0 (by decide)), World.cell?_setCell_same' w' ⟨px, 0, none⟩ _ (by rw [hc 0, c0]; rfl), (World.cell?_setCell_other _ _ _ _ (by intro e; cases e)).trans ((hc 3).trans c3), ?_⟩
    rw [World.frozen?_setCell]; exact (hg 3).trans (fz 3 (by decide)))
  have i1 : (0 : Int) ≤ (i : Nat) := by omega
  have i2 : (i : Int) < (N : Nat) := by omega
  have i3 : (i : Int) < (nN : Nat) := by omega
  have d1 : ((i : Int) == 0) = false := by simp; omega
  have d2 : ((R : Int) == 0) = false := by simp; omega
  have NS := hide nS'
  have NB := hide nB'
  have HFz := hide fz
  have HLS := hide hS
  clear nS' nB' fz hS hB
  go_enter Tryz.func36, Tryz.ntmps36
  go_wp2_with fail
  go_loopw [9] (fun iv wr => ∃ j : Nat, iv = .int .i64 (j : Nat) ∧ j ≤ nS ∧ Still w wr) (fun iv _ => nS - (intOf iv).toNat)
  case atStart => exact ⟨0, rfl, Nat.zero_le _, Still.refl _⟩
  case round =>
    obtain ⟨j, rfl, hj, hk⟩ := hrel
    have w1 : IntKind.i64.wrap ((j : Int) + 1) = (j : Int) + 1 := wrap_small _ (by omega) (by omega)
    have HK := hide hk
    have c0' := (hk.cell _).trans c0
    by_cases hjn : j < nS
    · obtain ⟨g, rfl, q0⟩ := unhide HS j hjn
      have q0' := (hk.cell _).trans q0
      have dl : decide ((j : Int) < (nS : Nat)) = true := decide_eq_true (by omega)
      have j1 : (0 : Int) ≤ (j : Nat) := by omega
      have j2 : (j : Int) < (nS : Nat) := by omega
      have hne := unhide NS j hjn
      have dn : ((fS j : Int) == (R : Nat)) = false := by simp; omega
      have dn' : ((fS j : Int) = (R : Nat)) = False := by simpa using dn
      clear hk c0 q0 c1 c2 c3 e0 x1 y1 y2
      go_wp2_with fail
      all_goals go_roundw
      all_goals first | exact ⟨j + 1, by simp, by omega, unhide HK⟩ | (simp [intOf]; omega)
    · have dl : decide ((j : Int) < (nS : Nat)) = false := decide_eq_false (by omega)
      go_wp2_with fail
      clear c0' dl w1 hj hjn
      go_loopw [10] (fun iv ws => ∃ q : Nat, iv = .int .i64 (q : Nat) ∧ q ≤ nB ∧ Hid (Still w ws)) (fun iv _ => nB - (intOf iv).toNat)
      case atStart => exact ⟨0, rfl, Nat.zero_le _, HK⟩
      case round =>
        obtain ⟨q, rfl, hq, HQ⟩ := hrel
        clear hk HK
        have hk := unhide HQ
        have w1 : IntKind.i64.wrap ((q : Int) + 1) = (q : Int) + 1 := wrap_small _ (by omega) (by omega)
        have c1' := (hk.cell _).trans c1
        by_cases hjn : q < nB
        · obtain ⟨g, rfl, q0⟩ := unhide HB q hjn
          have q0' := (hk.cell _).trans q0
          have dl : decide ((q : Int) < (nB : Nat)) = true := decide_eq_true (by omega)
          have j1 : (0 : Int) ≤ (q : Nat) := by omega
          have j2 : (q : Int) < (nB : Nat) := by omega
          have hne := unhide NB q hjn
          have dn : ((fB q : Int) == (R : Nat)) = false := by simp; omega
          have dn' : ((fB q : Int) = (R : Nat)) = False := by simpa using dn
          clear hk c0 q0 c1 c2 c3 e0 x1 y1 y2
          go_wp2_with fail
          all_goals go_roundw
          all_goals first | exact ⟨q + 1, by simp, by omega, HQ⟩ | (simp [intOf]; omega)
        · have dl : decide ((q : Int) < (nB : Nat)) = false := decide_eq_false (by omega)
          have c2' := (hk.cell _).trans c2
          have e0' := (hk.cell _).trans e0
          have f0' : wr.frozen? ⟨gW, i, none⟩ = false := by rw [← f0]; simp only [World.frozen?, hk.heap]
          clear hk c0 c1 c2 c3 e0 x1 y1 y2 f0
          have HW1 : Hid (Still (w.setCell ⟨gW, i, none⟩ (.int .u64 (R : Nat))) (wr.setCell ⟨gW, i, none⟩ (.int .u64 (R : Nat)))) := hide ((unhide HQ).setC _ _)
          go_wp2_with fail
          generalize hW1 : World.setCell wr _ _ = W1 at *
          clear hW1 e0' f0' c1' c2'
          obtain ⟨x1, y1, y2⟩ := unhide HX _ HW1
          have a1 : IntKind.i64.wrap (1 + (rf : Int)) = 1 + (rf : Int) := wrap_small _ (by omega) (by omega)
          have a2 : IntKind.i64.wrap (1 + (rf : Int) + (rr : Int)) = 1 + (rf : Int) + (rr : Int) := wrap_small _ (by omega) (by omega)
          have d3 : decide (1 + (rf : Int) + (rr : Int) ≤ 64) = true := decide_eq_true (by omega)
          go_region_held3 (fun w' => w'.cell? ⟨ps, 1, none⟩ = some (.slice (some ⟨gN, 0, none⟩) nN cN) ∧ w'.cell? ⟨gN, i * 3 + 1, none⟩ = some (.slice ar rf cr) ∧ w'.cell? ⟨gN, i * 3 + 2, none⟩ = some (.slice aw rr cw)) (go_keep) (fail)
          clear x1 y1 y2
          have HW2 : Hid (Still (w.setCell ⟨gW, i, none⟩ (.int .u64 (R : Nat))) W1.drew) := hide ((unhide HW1).trans ((Still.refl W1).drew 1))
          obtain ⟨z0, z1, z2, z3, z4⟩ := unhide HA _ HW2
          generalize W1.drew = W2 at *
          clear HA HX HLS HFz HS HB NS NB HQ
          have b1 : IntKind.i64.wrap ((WD : Int) + (1 + (rf : Int) + (rr : Int))) = (WD : Int) + (1 + (rf : Int) + (rr : Int)) := wrap_small _ (by omega) (by omega)
          go_wp2_with (refine append_line rfl (.tmp 110) (.tmp 112) 44 rfl 30 i0 (.int .u64 0) 8 Tryz.underlying44 hi hy0 hy1 hy2 rfl (.slice aS nS cS) nS _ (by simp [Act.eval]) (unhide z1) W2.heap.size (by simp [Act.eval]) (.int .u64 (R : Nat)) (unhide z3) rfl (by omega) (by omega) ?_)
          intro v9 w9 hl9 hg9
          obtain ⟨k1, k2, k3, k4, k5⟩ := unhide z4 _ _ hg9
          obtain ⟨a9, c9, rfl⟩ := hl9.shape
          have HL9 := hide hl9
          have HG9 := hide hg9
          clear hl9 hg9 z1 z3 z4 z0 z2
          go_wp2_with fail
          all_goals go_ret
          all_goals exact ⟨by simp, _, _, _, unhide HW2, unhide HL9, unhide HG9, by first | exact Still.refl _ | exact (Still.refl _).drew _⟩
/-- reach, at a large one that is new -/
theorem reach_big {w : World} {px ps gN nN cN rf rr cr cw : Nat} {ar aw : Option Addr} {vS vB : Value} {nS nB gW N cW i R WD : Nat} (fS fB : Nat → Nat)
    (c0 : w.cell? ⟨px, 0, none⟩ = some vS) (c1 : w.cell? ⟨px, 1, none⟩ = some vB) (c2 : w.cell? ⟨px, 2, none⟩ = some (.slice (some ⟨gW, 0, none⟩) N cW)) (c3 : w.cell? ⟨px, 4, none⟩ = some (.int .i64 (WD : Nat)))
    (fz : ∀ o, o < 5 → w.frozen? ⟨px, o, none⟩ = false) (hS : Line w 30 vS nS (fun j => .int .u64 (fS j : Nat))) (hB : Line w 30 vB nB (fun j => .int .u64 (fB j : Nat)))
    (e0 : w.cell? ⟨gW, i, none⟩ = some (.int .u64 (0 : Nat))) (f0 : w.frozen? ⟨gW, i, none⟩ = false)
    (x1 : w.cell? ⟨ps, 1, none⟩ = some (.slice (some ⟨gN, 0, none⟩) nN cN)) (y1 : w.cell? ⟨gN, i * 3 + 1, none⟩ = some (.slice ar rf cr)) (y2 : w.cell? ⟨gN, i * 3 + 2, none⟩ = some (.slice aw rr cw))
    (hi0 : i ≠ 0) (hiN : i < N) (hin : i < nN) (hR : R ≠ 0) (nS' : ∀ j, j < nS → fS j ≠ R) (nB' : ∀ j, j < nB → fB j ≠ R) (hsm : 64 < 1 + rf + rr) (hsm2 : 1 + rf + rr ≤ 100000000) (lS : nS ≤ 1000000) (lB : nB ≤ 1000000) (lN : N ≤ 1000000) (lW : WD ≤ 100000000)
    (a1 : gW ≠ px) (a2 : vB.ownBlock ≠ some px) (a3 : vB.ownBlock ≠ some gW) (a4 : ps ≠ px) (a5 : ps ≠ gW) (a6 : gN ≠ px) (a7 : gN ≠ gW) :
    Calls Tryz.prog 36 #[.pointer (some ⟨px, 0, none⟩), .pointer (some ⟨ps, 0, none⟩), .int .u64 (R : Nat), .int .i64 (i : Nat)] w fun e w' => e = .returned (.bool true) ∧ ∃ w1 w2 v', Still (w.setCell ⟨gW, i, none⟩ (.int .u64 (R : Nat))) w1 ∧ Line w2 30 v' (nB + 1) (fun j => if j < nB then .int .u64 (fB j : Nat) else .int .u64 (R : Nat)) ∧ Grew 30 nB (.int .u64 (R : Nat)) (w1.alloc (.cells #[.int .u64 (R : Nat)] 30)) w2 vB v' ∧ Still ((w2.setCell ⟨px, 1, none⟩ v').setCell ⟨px, 4, none⟩ (.int .i64 ((WD + (1 + rf + rr) + 1 : Nat) : Int))) w' := by
  obtain ⟨i0, hi, hy0, hy1, hy2⟩ := info_parts Tryz.info30
  obtain ⟨aS, cS, rfl⟩ := hS.shape
  obtain ⟨aB, cB, rfl⟩ := hB.shape
  have HS : Hid (∀ j, j < nS → ∃ g, aS = some ⟨g, 0, none⟩ ∧ w.cell? ⟨g, j, none⟩ = some (.int .u64 (fS j : Nat))) := hide (fun j hj => by
    obtain ⟨g, cap', e1, _, hc⟩ := hS.at (by omega)
    cases e1
    exact ⟨g, rfl, (hc j hj).1⟩)
  have HB : Hid (∀ j, j < nB → ∃ g, aB = some ⟨g, 0, none⟩ ∧ w.cell? ⟨g, j, none⟩ = some (.int .u64 (fB j : Nat))) := hide (fun j hj => by
    obtain ⟨g, cap', e1, _, hc⟩ := hB.at (by omega)
    cases e1
    exact ⟨g, rfl, (hc j hj).1⟩)
  have HX : Hid (∀ W, Hid (Still (w.setCell ⟨gW, i, none⟩ (.int .u64 (R : Nat))) W) → W.cell? ⟨ps, 1, none⟩ = some (.slice (some ⟨gN, 0, none⟩) nN cN) ∧ W.cell? ⟨gN, i * 3 + 1, none⟩ = some (.slice ar rf cr) ∧ W.cell? ⟨gN, i * 3 + 2, none⟩ = some (.slice aw rr cw)) := hide (fun W q => by
    have hh : ∀ b o, b ≠ gW → W.cell? ⟨b, o, none⟩ = w.cell? ⟨b, o, none⟩ := fun b o hb => ((unhide q).cell _).trans (World.cell?_setCell_other _ _ _ _ (by intro e; cases e; exact hb rfl))
    exact ⟨(hh _ _ a5).trans x1, (hh _ _ a7).trans y1, (hh _ _ a7).trans y2⟩)
  have HA : Hid (∀ W, Hid (Still (w.setCell ⟨gW, i, none⟩ (.int .u64 (R : Nat))) W) → W.cell? ⟨px, 1, none⟩ = some (.slice aB nB cB) ∧ Hid (Line (W.alloc (.cells #[.int .u64 (R : Nat)] 30)) 30 (.slice aB nB cB) nB (fun j => .int .u64 (fB j : Nat))) ∧ (W.alloc (.cells #[.int .u64 (R : Nat)] 30)).cell? ⟨px, 1, none⟩ = some (.slice aB nB cB) ∧ Hid ((W.alloc (.cells #[.int .u64 (R : Nat)] 30)).cell? ⟨W.heap.size, 0, none⟩ = some (.int .u64 (R : Nat))) ∧
      Hid (∀ v' w', Grew 30 nB (.int .u64 (R : Nat)) (W.alloc (.cells #[.int .u64 (R : Nat)] 30)) w' (.slice aB nB cB) v' → w'.cell? ⟨px, 1, none⟩ = some (.slice aB nB cB) ∧ w'.frozen? ⟨px, 1, none⟩ = false ∧ (w'.setCell ⟨px, 1, none⟩ v').cell? ⟨px, 1, none⟩ = some v' ∧ (w'.setCell ⟨px, 1, none⟩ v').cell? ⟨px, 4, none⟩ = some (.int .i64 (WD : Nat)) ∧ (w'.setCell ⟨px, 1, none⟩ v').frozen? ⟨px, 4, none⟩ = false)) := hide (fun W q => by
    have hq := unhide q
    have hpx : px < W.heap.size := by
      have h1 := block_lt_of_cell c1
      rw [hq.heap, World.size_setCell]; exact h1
    have hx : ∀ o, W.cell? ⟨px, o, none⟩ = w.cell? ⟨px, o, none⟩ := fun o => (hq.cell _).trans (World.cell?_setCell_other _ _ _ _ (by intro e; cases e; exact a1 rfl))
    have hf : ∀ o, W.frozen? ⟨px, o, none⟩ = w.frozen? ⟨px, o, none⟩ := fun o => by
      have : W.frozen? ⟨px, o, none⟩ = (w.setCell ⟨gW, i, none⟩ (.int .u64 (R : Nat))).frozen? ⟨px, o, none⟩ := by simp only [World.frozen?, hq.heap]
      rw [this, World.frozen?_setCell]
    have hbA : Below W.heap.size W (W.alloc (.cells #[.int .u64 (R : Nat)] 30)) := (Below.refl _ _).alloc (Nat.le_refl _) _
    have hL : Line W 30 (.slice aB nB cB) nB (fun j => .int .u64 (fB j : Nat)) := hB.same fun g hg => by
      rw [hq.heap, setCell_else _ _ _ _ _ (by rintro rfl; exact a3 hg)]
    refine ⟨(hx 1).trans c1, hide (hL.same fun g hg => hbA.block g (hL.lt g hg)), (hbA.cell (p := ⟨px, 1, none⟩) hpx).trans ((hx 1).trans c1), hide (cell_made rfl _ _), hide (fun v' w' h2 => ?_)⟩
    have hb : w'.heap[px]? = W.heap[px]? := (h2.other px (Nat.lt_of_lt_of_le hpx hbA.size) a2).trans (hbA.block px hpx)
    have hc : ∀ o, w'.cell? ⟨px, o, none⟩ = w.cell? ⟨px, o, none⟩ := fun o => by rw [← hx o]; simp only [World.cell?, hb]
    have hg : ∀ o, w'.frozen? ⟨px, o, none⟩ = w.frozen? ⟨px, o, none⟩ := fun o => by rw [← hf o]; simp only [World.frozen?, hb]
    refine ⟨(hc 1).trans c1, (hg 1).trans (fz 1 (by decide)), World.cell?_setCell_same' w' ⟨px, 1, none⟩ _ (by rw [hc 1, c1]; rfl), (World.cell?_setCell_other _ _ _ _ (by intro e; cases e)).trans ((hc 4).trans c3), ?_⟩
    rw [World.frozen?_setCell]; exact (hg 4).trans (fz 4 (by decide)))
  have i1 : (0 : Int) ≤ (i : Nat) := by omega
  have i2 : (i : Int) < (N : Nat) := by omega
  have i3 : (i : Int) < (nN : Nat) := by omega
  have d1 : ((i : Int) == 0) = false := by simp; omega
  have d2 : ((R : Int) == 0) = false := by simp; omega
  have NS := hide nS'
  have NB := hide nB'
  have HFz := hide fz
  have HLS := hide hS
  clear nS' nB' fz hS hB
  go_enter Tryz.func36, Tryz.ntmps36
  go_wp2_with fail
  go_loopw [9] (fun iv wr => ∃ j : Nat, iv = .int .i64 (j : Nat) ∧ j ≤ nS ∧ Still w wr) (fun iv _ => nS - (intOf iv).toNat)
  case atStart => exact ⟨0, rfl, Nat.zero_le _, Still.refl _⟩
  case round =>
    obtain ⟨j, rfl, hj, hk⟩ := hrel
    have w1 : IntKind.i64.wrap ((j : Int) + 1) = (j : Int) + 1 := wrap_small _ (by omega) (by omega)
    have HK := hide hk
    have c0' := (hk.cell _).trans c0
    by_cases hjn : j < nS
    · obtain ⟨g, rfl, q0⟩ := unhide HS j hjn
      have q0' := (hk.cell _).trans q0
      have dl : decide ((j : Int) < (nS : Nat)) = true := decide_eq_true (by omega)
      have j1 : (0 : Int) ≤ (j : Nat) := by omega
      have j2 : (j : Int) < (nS : Nat) := by omega
      have hne := unhide NS j hjn
      have dn : ((fS j : Int) == (R : Nat)) = false := by simp; omega
      have dn' : ((fS j : Int) = (R : Nat)) = False := by simpa using dn
      clear hk c0 q0 c1 c2 c3 e0 x1 y1 y2
      go_wp2_with fail
      all_goals go_roundw
      all_goals first | exact ⟨j + 1, by simp, by omega, unhide HK⟩ | (simp [intOf]; omega)
    · have dl : decide ((j : Int) < (nS : Nat)) = false := decide_eq_false (by omega)
      go_wp2_with fail
      clear c0' dl w1 hj hjn
      go_loopw [10] (fun iv ws => ∃ q : Nat, iv = .int .i64 (q : Nat) ∧ q ≤ nB ∧ Hid (Still w ws)) (fun iv _ => nB - (intOf iv).toNat)
      case atStart => exact ⟨0, rfl, Nat.zero_le _, HK⟩
      case round =>
        obtain ⟨q, rfl, hq, HQ⟩ := hrel
        clear hk HK
        have hk := unhide HQ
        have w1 : IntKind.i64.wrap ((q : Int) + 1) = (q : Int) + 1 := wrap_small _ (by omega) (by omega)
        have c1' := (hk.cell _).trans c1
        by_cases hjn : q < nB
        · obtain ⟨g, rfl, q0⟩ := unhide HB q hjn
          have q0' := (hk.cell _).trans q0
          have dl : decide ((q : Int) < (nB : Nat)) = true := decide_eq_true (by omega)
          have j1 : (0 : Int) ≤ (q : Nat) := by omega
          have j2 : (q : Int) < (nB : Nat) := by omega
          have hne := unhide NB q hjn
          have dn : ((fB q : Int) == (R : Nat)) = false := by simp; omega
          have dn' : ((fB q : Int) = (R : Nat)) = False := by simpa using dn
          clear hk c0 q0 c1 c2 c3 e0 x1 y1 y2
          go_wp2_with fail
          all_goals go_roundw
          all_goals first | exact ⟨q + 1, by simp, by omega, HQ⟩ | (simp [intOf]; omega)
        · have dl : decide ((q : Int) < (nB : Nat)) = false := decide_eq_false (by omega)
          have c2' := (hk.cell _).trans c2
          have e0' := (hk.cell _).trans e0
          have f0' : wr.frozen? ⟨gW, i, none⟩ = false := by rw [← f0]; simp only [World.frozen?, hk.heap]
          clear hk c0 c1 c2 c3 e0 x1 y1 y2 f0
          have HW1 : Hid (Still (w.setCell ⟨gW, i, none⟩ (.int .u64 (R : Nat))) (wr.setCell ⟨gW, i, none⟩ (.int .u64 (R : Nat)))) := hide ((unhide HQ).setC _ _)
          go_wp2_with fail
          generalize hW1 : World.setCell wr _ _ = W1 at *
          clear hW1 e0' f0' c1' c2'
          obtain ⟨x1, y1, y2⟩ := unhide HX _ HW1
          have a1 : IntKind.i64.wrap (1 + (rf : Int)) = 1 + (rf : Int) := wrap_small _ (by omega) (by omega)
          have a2 : IntKind.i64.wrap (1 + (rf : Int) + (rr : Int)) = 1 + (rf : Int) + (rr : Int) := wrap_small _ (by omega) (by omega)
          have d3 : decide (1 + (rf : Int) + (rr : Int) ≤ 64) = false := decide_eq_false (by omega)
          go_region_held3 (fun w' => w'.cell? ⟨ps, 1, none⟩ = some (.slice (some ⟨gN, 0, none⟩) nN cN) ∧ w'.cell? ⟨gN, i * 3 + 1, none⟩ = some (.slice ar rf cr) ∧ w'.cell? ⟨gN, i * 3 + 2, none⟩ = some (.slice aw rr cw)) (go_keep) (fail)
          clear x1 y1 y2
          have HW2 : Hid (Still (w.setCell ⟨gW, i, none⟩ (.int .u64 (R : Nat))) W1.drew) := hide ((unhide HW1).trans ((Still.refl W1).drew 1))
          obtain ⟨z0, z1, z2, z3, z4⟩ := unhide HA _ HW2
          generalize W1.drew = W2 at *
          clear HA HX HLS HFz HS HB NS NB HQ
          have b1 : IntKind.i64.wrap ((WD : Int) + (1 + (rf : Int) + (rr : Int))) = (WD : Int) + (1 + (rf : Int) + (rr : Int)) := wrap_small _ (by omega) (by omega)
          have b2 : IntKind.i64.wrap ((WD : Int) + (1 + (rf : Int) + (rr : Int)) + 1) = (WD : Int) + (1 + (rf : Int) + (rr : Int)) + 1 := wrap_small _ (by omega) (by omega)
          go_wp2_with (refine append_line rfl (.tmp 129) (.tmp 131) 44 rfl 30 i0 (.int .u64 0) 8 Tryz.underlying44 hi hy0 hy1 hy2 rfl (.slice aB nB cB) nB _ (by simp [Act.eval]) (unhide z1) W2.heap.size (by simp [Act.eval]) (.int .u64 (R : Nat)) (unhide z3) rfl (by omega) (by omega) ?_)
          intro v9 w9 hl9 hg9
          obtain ⟨k1, k2, k3, k4, k5⟩ := unhide z4 _ _ hg9
          obtain ⟨a9, c9, rfl⟩ := hl9.shape
          have HL9 := hide hl9
          have HG9 := hide hg9
          clear hl9 hg9 z1 z3 z4 z0 z2
          go_wp2_with fail
          all_goals go_ret
          all_goals exact ⟨by simp, _, _, _, unhide HW2, unhide HL9, unhide HG9, by first | exact Still.refl _ | exact (Still.refl _).drew _⟩
end Go.Proofs.YtidfllgaeiopjaaGreat
namespace Go.Proofs.YtidfllgaeiopjaaGreat
open Go.ChangeShapes Go.WideShapes Go.ChangeAt Go.RowKit
set_option linter.unusedVariables false
set_option linter.unusedSimpArgs false
set_option maxRecDepth 100000
set_option maxHeartbeats 1000000

theorem Pu.all {M : Hp} {k : Wk} (p : Pu M k) : AllIs M k := fun i hi => hi.elim (fun h => .inl (p.cs i h)) (fun h => .inr (p.ls i h))
theorem words_le {M : Hp} {k : Wk} (ok : HpOk M) (p : Pu M k) : wordsK M k ≤ M.used := by
  have h := sum_sub (fun i => osz (ob M i)) k.cop M.small p.nd.1 p.cs
  rw [ok.us, place_all]
  unfold wordsK
  omega
theorem large_le {M : Hp} {k : Wk} (wf : HpWf M) (p : Pu M k) : largeK M k ≤ M.large := by
  have h := sum_sub (fun i => if i = 0 then 0 else 1 + osz (ob M i)) k.lin M.slots p.nd.2 (fun x hx => (p.ls x hx).2)
  have e : (k.lin.map fun i => 1 + osz (ob M i)) = k.lin.map (fun i => if i = 0 then 0 else 1 + osz (ob M i)) := List.map_congr_left fun i hi => by rw [if_neg (p.ls i hi).1]
  rw [wf.lg]
  unfold largeK lgOf
  rw [e]
  exact h
theorem words_app (M : Hp) (k : Wk) (i : Nat) : wordsK M ⟨k.cop ++ [i], k.lin⟩ = wordsK M k + osz (ob M i) := by unfold wordsK; simp; omega
theorem large_app (M : Hp) (k : Wk) (i : Nat) : largeK M ⟨k.cop, k.lin ++ [i]⟩ = largeK M k + osz (ob M i) + 1 := by unfold largeK; simp; omega
theorem app_get (M : Hp) (l : List Nat) (i j : Nat) (hj : j < l.length + 1) : (if j < l.length then Value.int .u64 (refW M (l.getD j 0) : Nat) else .int .u64 (refW M i : Nat)) = .int .u64 (refW M ((l ++ [i]).getD j 0) : Nat) := by
  by_cases h : j < l.length
  · rw [if_pos h, List.getD_eq_getElem?_getD, List.getD_eq_getElem?_getD, List.getElem?_append_left h]
  · have : j = l.length := by omega
    subst this
    rw [if_neg h]
    simp
theorem Grew.own {e : TypeId} {n : Nat} {u : Value} {w w' : World} {v v' : Value} (h : Grew e n u w w' v v') (g : Nat) (hg : v'.ownBlock = some g) : v.ownBlock = some g ∨ w.heap.size ≤ g := by
  rcases h.how with ⟨x, cur, e1, e2, _⟩ | ⟨e, _⟩
  · left; rw [e1, ← e2]; exact hg
  · right; rw [e] at hg; cases hg; exact Nat.le_refl _
/-- the blocks behind reach -/
theorem grow_blocks {w w1 w2 w' : World} {gW i px o1 o2 n : Nat} {R : Value} {vS v' x2 : Value} (s1 : Still (w.setCell ⟨gW, i, none⟩ R) w1) (hg : Grew 30 n R (w1.alloc (.cells #[R] 30)) w2 vS v') (s2 : Still ((w2.setCell ⟨px, o1, none⟩ v').setCell ⟨px, o2, none⟩ x2) w') :
    w.heap.size ≤ w'.heap.size ∧ (∀ g, g < w.heap.size → g ≠ px → vS.ownBlock ≠ some g → w'.heap[g]? = (w.setCell ⟨gW, i, none⟩ R).heap[g]?) ∧ (∀ g, g ≠ px → w'.heap[g]? = w2.heap[g]?) ∧ (px < w.heap.size → px ≠ gW → vS.ownBlock ≠ some px → w2.heap[px]? = w.heap[px]?) ∧ (∀ g, v'.ownBlock = some g → vS.ownBlock = some g ∨ w.heap.size ≤ g) ∧ w'.os = w.os ∧ w'.tape = w.tape ∧ w'.output = w.output := by
  have z1 : w1.heap.size = w.heap.size := by rw [s1.heap, World.size_setCell]
  have hbA : Below w1.heap.size w1 (w1.alloc (.cells #[R] 30)) := (Below.refl _ _).alloc (Nat.le_refl _) _
  have z2 := hbA.size
  have z3 := hg.size
  have z4 : w'.heap.size = w2.heap.size := by rw [s2.heap, World.size_setCell, World.size_setCell]
  have e1 : ∀ g, g ≠ px → w'.heap[g]? = w2.heap[g]? := fun g hp => by rw [s2.heap, setCell_else _ _ _ _ _ hp, setCell_else _ _ _ _ _ hp]
  have e2 : ∀ g, g < w.heap.size → vS.ownBlock ≠ some g → w2.heap[g]? = (w.setCell ⟨gW, i, none⟩ R).heap[g]? := fun g hl hv => by
    rw [hg.other g (by omega) hv, hbA.block g (by omega), s1.heap]
  refine ⟨by omega, fun g hl hp hv => (e1 g hp).trans (e2 g hl hv), e1, fun hl hp hv => ?_, fun g h => ?_, ?_, ?_, ?_⟩
  · rw [e2 px hl hv, setCell_else _ _ _ _ _ hp]
  · rcases hg.own g h with q | q
    · exact .inl q
    · exact .inr (by omega)
  · exact s2.os.trans (hg.os.trans (hbA.os.trans s1.os))
  · exact s2.tape.trans (hg.tape.trans (hbA.tape.trans s1.tape))
  · exact s2.output.trans (hg.output.trans (hbA.output.trans s1.output))
end Go.Proofs.YtidfllgaeiopjaaGreat
namespace Go.Proofs.YtidfllgaeiopjaaGreat
open Go.ChangeShapes Go.WideShapes Go.ChangeAt Go.RowKit
set_option linter.unusedVariables false
set_option linter.unusedSimpArgs false

theorem fin_of {M : Hp} (ok : HpOk M) {t : St} (a1 : Star M (stR M M.roots.length) t) (a2 : stepW M t = none) : Fin' M t.k := by
  obtain ⟨u, b1, b2, f, _⟩ := walk_done ok M.roots.length (fun x hx => by rw [List.getD_eq_getElem?_getD, List.getElem?_eq_none hx]; rfl)
  rw [star_end a1 a2 b1 b2]
  exact f
theorem slots_nodup {M : Hp} (ok : HpOk M) : (M.slots.filter fun i => i != 0).Nodup := by
  rw [List.Nodup, List.pairwise_filter, List.pairwise_iff_getElem]
  intro i j hi hj hij h1 h2 e
  have e1 : M.slots.getD i 0 = M.slots[i] := by rw [List.getD_eq_getElem?_getD, List.getElem?_eq_getElem hi]; rfl
  have e2 : M.slots.getD j 0 = M.slots[j] := by rw [List.getD_eq_getElem?_getD, List.getElem?_eq_getElem hj]; rfl
  have a := (ok.b1 i (by rw [e1]; simpa using h1)).2
  have b := (ok.b1 j (by rw [e2]; simpa using h2)).2
  rw [e1] at a
  rw [e2, ← e] at b
  omega
theorem lg_filter (M : Hp) : ∀ l : List Nat, lgOf M l = ((l.filter fun i => i != 0).map fun i => 1 + osz (ob M i)).sum
  | [] => rfl
  | x :: l => by
    have ih := lg_filter M l
    unfold lgOf at ih ⊢
    rw [List.map_cons, List.sum_cons, ih]
    by_cases h : x = 0
    · subst h; simp
    · rw [if_neg h, List.filter_cons_of_pos (by simpa using h), List.map_cons, List.sum_cons]
theorem mem_fil {M : Hp} {k : Wk} (f : Fin' M k) (x : Nat) : x ∈ (slC M k).filter (fun i => i != 0) ↔ x ∈ k.lin := by
  rw [List.mem_filter]
  unfold slC
  rw [List.mem_map]
  constructor
  · rintro ⟨⟨y, _, e⟩, h0⟩
    have h0' : x ≠ 0 := by simpa using h0
    split at e
    · rename_i h; rw [← e]; exact h
    · exact absurd e.symm h0'
  · intro h
    obtain ⟨q0, q1⟩ := f.ls x h
    exact ⟨⟨x, q1, if_pos h⟩, by simpa using q0⟩
theorem large_fin {M : Hp} {k : Wk} (wf : HpWf M) (f : Fin' M k) : lgOf M (slC M k) = largeK M k := by
  have hn : ((slC M k).filter fun i => i != 0).Nodup := slots_nodup (f.wf wf).ok
  rw [lg_filter]
  unfold largeK
  have h1 := sum_sub (fun i => 1 + osz (ob M i)) _ k.lin hn (fun x hx => (mem_fil f x).1 hx)
  have h2 := sum_sub (fun i => 1 + osz (ob M i)) k.lin _ f.nd.2 (fun x hx => (mem_fil f x).2 hx)
  omega
theorem cnt_fin {M : Hp} {k : Wk} (wf : HpWf M) (f : Fin' M k) : ((slC M k).filter fun i => i != 0).length = k.lin.length := by
  have hn : ((slC M k).filter fun i => i != 0).Nodup := slots_nodup (f.wf wf).ok
  have e : ∀ l : List Nat, (l.map (fun _ => 1)).sum = l.length := fun l => by induction l with | nil => rfl | cons a l ih => simp [ih]; omega
  have h1 := sum_sub (fun _ => 1) _ k.lin hn (fun x hx => (mem_fil f x).1 hx)
  have h2 := sum_sub (fun _ => 1) k.lin _ f.nd.2 (fun x hx => (mem_fil f x).2 hx)
  rw [e, e] at h1 h2
  omega
theorem coll_used (M : Hp) (k : Wk) : (collM M k).used = wordsK M k := place_all M k.cop
end Go.Proofs.YtidfllgaeiopjaaGreat
namespace Go.Proofs.YtidfllgaeiopjaaGreat
open Go.ChangeShapes Go.WideShapes Go.ChangeAt Go.RowKit
set_option linter.unusedVariables false
set_option linter.unusedSimpArgs false

/-- a heap that was just collected -/
def Fresh0 (N : Hp) : Prop := ∃ M M1 hf rs, HpWf M ∧ IsColl M M1 ∧ N = { M1 with half := hf, resz := rs }
theorem becM_eq (M : Hp) (n : Nat) : ∃ rs, becM M n = { M with half := n, resz := rs } := by
  unfold becM
  split
  · rename_i h; subst h; exact ⟨M.resz, rfl⟩
  · exact ⟨_, rfl⟩
theorem Fresh0.bec {M M1 : Hp} (wf : HpWf M) (h : IsColl M M1) (n : Nat) : Fresh0 (becM M1 n) := by
  obtain ⟨rs, e⟩ := becM_eq M1 n
  exact ⟨M, M1, n, rs, wf, h, e⟩
theorem Fresh0.fit {M M1 : Hp} (wf : HpWf M) (h : IsColl M M1) (s : Nat) : Fresh0 (fitM M1 s) := by
  have hself : Fresh0 M1 := ⟨M, M1, M1.half, M1.resz, wf, h, rfl⟩
  unfold fitM
  split
  · split
    · exact .bec wf h _
    · exact hself
  · split
    · exact .bec wf h _
    · exact hself
theorem Fresh0.seen {N : Hp} (f : Fresh0 N) (wf : HpWf N) {t : St} (a1 : Star N (stR N N.roots.length) t) (a2 : stepW N t = none) : t.k.cop = N.small ∧ wordsK N t.k = N.used ∧ largeK N t.k = N.large ∧ t.k.lin.length = cntS N := by
  obtain ⟨M, M1, hf, rs, wfM, hc, eN⟩ := f
  have fi := fin_of wf.ok a1 a2
  have hI : IsColl N (collM N t.k) := ⟨t, a1, a2, fi, rfl⟩
  have e := coll_twice wfM hc hf rs (by rw [← eN]; exact hI)
  have h1 : (collM N t.k).small = N.small := by rw [e, eN]
  have h2 : (collM N t.k).used = N.used := by rw [e, eN]
  have h3 : (collM N t.k).large = N.large := by rw [e, eN]
  have h4 : (collM N t.k).slots = N.slots := by rw [e, eN]
  refine ⟨h1, (coll_used N t.k).symm.trans h2, (large_fin wf fi).symm.trans h3, ?_⟩
  rw [← cnt_fin wf fi]
  have h5 : slC N t.k = N.slots := h4
  unfold cntS
  rw [h5]
theorem small_ref {N : Hp} (ok : HpOk N) {j : Nat} (hj : j < N.small.length) : refW N (N.small.getD j 0) = place (shapes N N.small) j := by
  have hm : N.small.getD j 0 ∈ N.small := by rw [List.getD_eq_getElem?_getD, List.getElem?_eq_getElem hj]; exact List.getElem_mem hj
  obtain ⟨h0, hb, ha⟩ := ok.s1 _ hm
  unfold refW
  rw [if_neg h0, if_neg (by rw [hb]; decide), ha, addr_at N N.small ok.sm j hj]
theorem small_step {N : Hp} {j : Nat} (hj : j < N.small.length) : place (shapes N N.small) (j + 1) = place (shapes N N.small) j + (1 + (ob N (N.small.getD j 0)).refs.length + (ob N (N.small.getD j 0)).raws.length) := by
  rw [place, shapes_at N N.small j hj]
  rfl
end Go.Proofs.YtidfllgaeiopjaaGreat
