/- The program's calls, said of the document's block. -/
import Derived.Test.YtdgdnpgjbphgaabRel
import Derived.Test.YtdgdnpgjbphgaabRefSetB
import Derived.Test.YtdgdnpgjbphgaabBookLook
import Derived.Test.YtdgdnpgjbphgaabThree
namespace Go.Proofs.Ytdgdnpgjbphgaab
open Go.ChangeShapes Go.WideShapes Go.ChangeAt Go.RowKit
set_option linter.unusedVariables false
set_option maxRecDepth 100000
set_option maxHeartbeats 2000000

/-- a pair: the program's block, the document's -/
structure Dat where
  p : Nat
  bw : Nat
  bh : Nat
  ws : List Nat
  hs : List Bool
  used : Nat
  pr : Nat
  R : RefSt
def ptr (x : Option Dat) : Value := .pointer (x.map fun d => ⟨d.p, 0, none⟩)
def qtr (x : Option Dat) : Value := .pointer (x.map fun d => ⟨d.pr, 0, none⟩)
structure Blk (w : World) (i : Nat) (kt rt : Nat → Nat) (d : Dat) : Prop where
  ar : Ar w d.p d.bw d.bh d.ws d.hs d.used
  ref : RefAt w d.pr i rt d.R
  rel : Rel d.ws d.hs d.used d.R
  t1 : kt d.p = 2 + i
  t2 : kt d.bw = 2 + i
  t3 : kt d.bh = 2 + i
structure WAt (w0 w : World) (pw : Nat) (tag rt kt : Nat → Nat) (S : BookSt) (D : Nat → Option Dat) (V : Nat → Value) : Prop where
  cp : ∀ i, i < 3 → w.cell? ⟨pw, i, none⟩ = some (ptr (D i)) ∧ w.frozen? ⟨pw, i, none⟩ = false
  cq : ∀ i, i < 3 → w.cell? ⟨pw, 3 + i, none⟩ = some (qtr (D i)) ∧ w.frozen? ⟨pw, 3 + i, none⟩ = false
  bk : BookAt w pw 6 tag S
  rm : ∀ k, k < 64 → w.cell? ⟨pw, 39 + k, none⟩ = some (V k) ∧ w.frozen? ⟨pw, 39 + k, none⟩ = false ∧ (∃ n f, Line w 5 (V k) n f) ∧ ∀ g, (V k).ownBlock = some g → kt g = 10 + k
  bl : ∀ i d, i < 3 → D i = some d → Blk w i kt rt d
  ap : ∀ g, (tag g ≠ 0 → rt g = 0 ∧ kt g = 0) ∧ (rt g ≠ 0 → kt g = 0)
  tp : rt pw = 0 ∧ kt pw = 0
  un : ∀ g, rt g ≠ 0 ∨ kt g ≠ 0 → g < w.heap.size
  lo : ∀ g, tag g ≠ 0 ∨ rt g ≠ 0 ∨ kt g ≠ 0 → w0.heap.size ≤ g
  bp : w0.heap.size ≤ pw
  bel : Below w0.heap.size w0 w
theorem Ar.conf {w w' : World} {p bw bh : Nat} {ws : List Nat} {hs : List Bool} {used : Nat} (h : Ar w p bw bh ws hs used) (hs1 : w.heap.size ≤ w'.heap.size) (h1 : w'.heap[p]? = w.heap[p]?) (h2 : w'.heap[bw]? = w.heap[bw]?) (h3 : w'.heap[bh]? = w.heap[bh]?) : Ar w' p bw bh ws hs used where
  c0 := (World.cell?_of_block (a := ⟨p, 0, none⟩) h1).trans h.c0
  c1 := (World.cell?_of_block (a := ⟨p, 1, none⟩) h1).trans h.c1
  c2 := (World.cell?_of_block (a := ⟨p, 2, none⟩) h1).trans h.c2
  f2 := (World.frozen?_of_block (a := ⟨p, 2, none⟩) h1).trans h.f2
  ww j hj := (World.cell?_of_block (a := ⟨bw, j, none⟩) h2).trans (h.ww j hj)
  wf j hj := (World.frozen?_of_block (a := ⟨bw, j, none⟩) h2).trans (h.wf j hj)
  hh j hj := (World.cell?_of_block (a := ⟨bh, j, none⟩) h3).trans (h.hh j hj)
  hf j hj := (World.frozen?_of_block (a := ⟨bh, j, none⟩) h3).trans (h.hf j hj)
  hl := h.hl
  ne1 := h.ne1
  ne2 := h.ne2
  ne3 := h.ne3
  lp := Nat.lt_of_lt_of_le h.lp hs1
  lw := Nat.lt_of_lt_of_le h.lw hs1
  lh := Nat.lt_of_lt_of_le h.lh hs1
  u1 := h.u1
  u2 := h.u2
  sz := h.sz
  small := h.small
theorem Blk.keep {w w' : World} {i : Nat} {kt rt rt' : Nat → Nat} {d : Dat} (h : Blk w i kt rt d) (hs : w.heap.size ≤ w'.heap.size) (h1 : ∀ g, g < w.heap.size → kt g = 2 + i → w'.heap[g]? = w.heap[g]?) (h2 : ∀ g, g < w.heap.size → Mine i (rt g) → w'.heap[g]? = w.heap[g]?) (ht : ∀ g, g < w.heap.size → rt' g = rt g) : Blk w' i kt rt' d :=
  ⟨h.ar.conf hs (h1 _ h.ar.lp h.t1) (h1 _ h.ar.lw h.t2) (h1 _ h.ar.lh h.t3), h.ref.conf hs h2 (fun g hg _ => ht g hg), h.rel, h.t1, h.t2, h.t3⟩
theorem BookAt.keep {w w' : World} {pb o : Nat} {tag : Nat → Nat} {S : BookSt} (h : BookAt w pb o tag S) (hs : w.heap.size ≤ w'.heap.size) (hb : ∀ g, tag g ≠ 0 → w'.heap[g]? = w.heap[g]?) (hp : w'.heap[pb]? = w.heap[pb]?) : BookAt w' pb o tag S :=
  ⟨h.fl.same hp hs, h.hb.same hb (Nat.le_refl _), h.hu.same hb (Nat.le_refl _), fun g hg => Nat.lt_of_lt_of_le (h.un g hg) hs, h.tp, h.eb, h.eu, h.nb, h.nu, h.cnt, h.us, h.tn⟩
theorem BookAt.keep2 {w w' : World} {pb o : Nat} {tag : Nat → Nat} {S : BookSt} (h : BookAt w pb o tag S) (hs : w.heap.size ≤ w'.heap.size) (hb : ∀ g, tag g ≠ 0 → w'.heap[g]? = w.heap[g]?) (hp : ∀ j, o ≤ j → j < o + 33 → w'.cell? ⟨pb, j, none⟩ = w.cell? ⟨pb, j, none⟩ ∧ w'.frozen? ⟨pb, j, none⟩ = w.frozen? ⟨pb, j, none⟩) : BookAt w' pb o tag S :=
  ⟨⟨fun i hi => (hp (o + i) (by omega) (by omega)).1.trans (h.fl.c i hi), fun i hi => (hp (o + i) (by omega) (by omega)).2.trans (h.fl.f i hi), Nat.lt_of_lt_of_le h.fl.lt hs⟩, h.hb.same hb (Nat.le_refl _), h.hu.same hb (Nat.le_refl _), fun g hg => Nat.lt_of_lt_of_le (h.un g hg) hs, h.tp, h.eb, h.eu, h.nb, h.nu, h.cnt, h.us, h.tn⟩
theorem WAt.core {w0 w : World} {pw : Nat} {tag rt kt : Nat → Nat} {S : BookSt} {D : Nat → Option Dat} {V : Nat → Value} (h : WAt w0 w pw tag rt kt S D V) {w' : World} {rt' : Nat → Nat} (hs : w.heap.size ≤ w'.heap.size) (q : w'.os = w.os ∧ w'.tape = w.tape ∧ w'.output = w.output)
    (fix : ∀ g, g < w.heap.size → rt g = 0 → (kt g = 0 ∨ 5 ≤ kt g) → w'.heap[g]? = w.heap[g]?) (ht : ∀ g, g < w.heap.size → rt' g = rt g) (un : ∀ g, rt' g ≠ 0 → g < w'.heap.size)
    (D' : Nat → Option Dat) (hD : ∀ i, i < 3 → ptr (D' i) = ptr (D i) ∧ qtr (D' i) = qtr (D i)) (bl : ∀ i d, i < 3 → D' i = some d → Blk w' i kt rt' d) : WAt w0 w' pw tag rt' kt S D' V := by
  have lpw := h.bk.fl.lt
  have hp := fix pw lpw h.tp.1 (.inl h.tp.2)
  have hb0 := h.bel.size
  refine ⟨fun i hi => ?_, fun i hi => ?_, h.bk.keep hs (fun g hg => ?_) hp, fun k hk => ?_, bl, fun g => ⟨fun hg => ?_, fun hg => ?_⟩, ⟨(ht pw lpw).trans h.tp.1, h.tp.2⟩, fun g hg => ?_, fun g hg => ?_, h.bp, ?_⟩
  · rw [(hD i hi).1]
    exact ⟨(World.cell?_of_block (a := ⟨pw, i, none⟩) hp).trans (h.cp i hi).1, (World.frozen?_of_block (a := ⟨pw, i, none⟩) hp).trans (h.cp i hi).2⟩
  · rw [(hD i hi).2]
    exact ⟨(World.cell?_of_block (a := ⟨pw, 3 + i, none⟩) hp).trans (h.cq i hi).1, (World.frozen?_of_block (a := ⟨pw, 3 + i, none⟩) hp).trans (h.cq i hi).2⟩
  · have := (h.ap g).1 hg
    exact fix g (h.bk.un g hg) this.1 (.inl this.2)
  · obtain ⟨r1, r2, ⟨n, f, r3⟩, r4⟩ := h.rm k hk
    refine ⟨(World.cell?_of_block (a := ⟨pw, 39 + k, none⟩) hp).trans r1, (World.frozen?_of_block (a := ⟨pw, 39 + k, none⟩) hp).trans r2, ⟨n, f, r3.same (fun g hg => ?_)⟩, r4⟩
    have e := r4 g hg
    refine fix g (r3.lt g hg) ?_ (.inr (by omega))
    cases hr : rt g with
    | zero => rfl
    | succ m => have := (h.ap g).2 (by omega); omega
  · have := (h.ap g).1 hg
    exact ⟨(ht g (h.bk.un g hg)).trans this.1, this.2⟩
  · by_cases hl : g < w.heap.size
    · rw [ht g hl] at hg; exact (h.ap g).2 hg
    · cases hk : kt g with
      | zero => rfl
      | succ m => exact absurd (h.un g (.inr (by omega))) hl
  · rcases hg with hg | hg
    · exact un g hg
    · exact Nat.lt_of_lt_of_le (h.un g (.inr hg)) hs
  · by_cases hl : g < w.heap.size
    · rw [ht g hl] at hg; exact h.lo g hg
    · omega
  · refine ⟨q.1.trans h.bel.os, q.2.1.trans h.bel.tape, q.2.2.trans h.bel.output, by omega, fun g hg => ?_⟩
    have r0 : rt g = 0 := by
      cases e : rt g with
      | zero => rfl
      | succ m => have := h.lo g (.inr (.inl (by omega))); omega
    have r1 : kt g = 0 := by
      cases e : kt g with
      | zero => rfl
      | succ m => have := h.lo g (.inr (.inr (by omega))); omega
    rw [fix g (by omega) r0 (.inl r1)]
    exact h.bel.block g hg
def setD (D : Nat → Option Dat) (i : Nat) (d : Dat) : Nat → Option Dat := fun j => if j = i then some d else D j
theorem mine0 (r : Nat) : ¬ Mine r 0 := fun h => h.1 rfl
theorem WAt.rt0 {w0 w : World} {pw : Nat} {tag rt kt : Nat → Nat} {S : BookSt} {D : Nat → Option Dat} {V : Nat → Value} (h : WAt w0 w pw tag rt kt S D V) {g : Nat} (hk : kt g ≠ 0) : rt g = 0 := by
  cases e : rt g with
  | zero => rfl
  | succ m => exact absurd ((h.ap g).2 (by omega)) hk
/-- the document's blocks, behind a call of the program's -/
theorem WAt.refs {w0 w : World} {pw : Nat} {tag rt kt : Nat → Nat} {S : BookSt} {D : Nat → Option Dat} {V : Nat → Value} (h : WAt w0 w pw tag rt kt S D V) {B : List Nat} {w1 : World} (b : But B w w1) (hB : ∀ x ∈ B, kt x ≠ 0) : (∀ i d, i < 3 → D i = some d → RefAt w1 d.pr i rt d.R) ∧ ∀ g, rt g ≠ 0 → g < w1.heap.size := by
  refine ⟨fun i d hi hd => (h.bl i d hi hd).ref.conf b.size (fun g hg hm => b.block g hg (fun hx => ?_)) (fun _ _ _ => rfl), fun g hg => Nat.lt_of_lt_of_le (h.un g (.inl hg)) b.size⟩
  rw [h.rt0 (hB g hx)] at hm
  exact mine0 _ hm
theorem WAt.mem {w0 w : World} {pw : Nat} {tag rt kt : Nat → Nat} {S : BookSt} {D : Nat → Option Dat} {V : Nat → Value} (h : WAt w0 w pw tag rt kt S D V) {i : Nat} {d : Dat} (hi : i < 3) (hd : D i = some d) : ∀ x ∈ [d.p, d.bw, d.bh], kt x = 2 + i := by
  have b := h.bl i d hi hd
  intro x hx
  simp at hx
  rcases hx with rfl | rfl | rfl
  · exact b.t1
  · exact b.t2
  · exact b.t3
/-- a step at one pair -/
theorem WAt.one {w0 w : World} {pw : Nat} {tag rt kt : Nat → Nat} {S : BookSt} {D : Nat → Option Dat} {V : Nat → Value} (h : WAt w0 w pw tag rt kt S D V) {i : Nat} {d : Dat} (hi : i < 3) (hd : D i = some d) {w1 w2 : World} {rt' : Nat → Nat} (b : But [d.p, d.bw, d.bh] w w1) (c : RChg (Mine i) rt rt' w1 w2)
    (ws' : List Nat) (hs' : List Bool) (used' : Nat) (R' : RefSt) (ar : Ar w1 d.p d.bw d.bh ws' hs' used') (rf : RefAt w2 d.pr i rt' R') (rel : Rel ws' hs' used' R') :
    WAt w0 w2 pw tag rt' kt S (setD D i { d with ws := ws', hs := hs', used := used', R := R' }) V := by
  have hm := h.mem hi hd
  have hb := h.bl i d hi hd
  have s1 := b.size
  have s2 := c.size
  have two : ∀ g, g < w.heap.size → kt g ≠ 2 + i → ¬ Mine i (rt g) → w2.heap[g]? = w.heap[g]? := fun g hg hk hr =>
    (c.blk g (by omega) hr).trans (b.block g hg (fun hx => hk (hm g hx)))
  have k0 : ∀ g, kt g = 2 + i → w2.heap[g]? = w1.heap[g]? := fun g hk => c.blk g (by have := h.un g (.inr (by omega)); omega) (by rw [h.rt0 (by omega)]; exact mine0 _)
  refine h.core (by omega) ⟨c.os.trans b.os, c.tape.trans b.tape, c.output.trans b.output⟩ (fun g hg hr hk => two g hg (by omega) (by rw [hr]; exact mine0 _)) (fun g hg => c.tg g (by omega)) c.un _ (fun j hj => ?_) (fun j dj hj hdj => ?_)
  · unfold setD
    by_cases e : j = i
    · subst e; rw [if_pos rfl, hd]; exact ⟨rfl, rfl⟩
    · rw [if_neg e]; exact ⟨rfl, rfl⟩
  · unfold setD at hdj
    by_cases e : j = i
    · subst e
      rw [if_pos rfl] at hdj
      injection hdj with hdj
      subst hdj
      exact ⟨ar.conf s2 (k0 _ hb.t1) (k0 _ hb.t2) (k0 _ hb.t3), rf, rel, hb.t1, hb.t2, hb.t3⟩
    · rw [if_neg e] at hdj
      refine (h.bl j dj hj hdj).keep (by omega) (fun g hg hk => two g hg (by omega) (by rw [h.rt0 (by omega)]; exact mine0 _)) (fun g hg hm2 => two g hg (fun hk => ?_) (fun hm3 => ?_)) (fun g hg => c.tg g (by omega))
      · rw [h.rt0 (by omega)] at hm2; exact mine0 _ hm2
      · exact Mine.apart hm2 (by omega) hm3
/-- nothing changed there, though memory was made -/
theorem WAt.below {w0 w : World} {pw : Nat} {tag rt kt : Nat → Nat} {S : BookSt} {D : Nat → Option Dat} {V : Nat → Value} (h : WAt w0 w pw tag rt kt S D V) {w' : World} (k : Below w.heap.size w w') : WAt w0 w' pw tag rt kt S D V :=
  h.core k.size ⟨k.os, k.tape, k.output⟩ (fun g hg _ _ => k.block g hg) (fun _ _ => rfl) (fun g hg => Nat.lt_of_lt_of_le (h.un g (.inl hg)) k.size) D (fun _ _ => ⟨rfl, rfl⟩) (fun i d hi hd => (h.bl i d hi hd).keep k.size (fun g hg _ => k.block g hg) (fun g hg _ => k.block g hg) (fun _ _ => rfl))
/-- Take between two pairs: out of y into x -/
theorem WAt.two {w0 w : World} {pw : Nat} {tag rt kt : Nat → Nat} {S : BookSt} {D : Nat → Option Dat} {V : Nat → Value} (h : WAt w0 w pw tag rt kt S D V) {x y : Nat} {d s : Dat} (hx : x < 3) (hy : y < 3) (hxy : y ≠ x) (hd : D x = some d) (hsd : D y = some s) {w1 w2 : World} {rt' : Nat → Nat} (b : But [d.p, d.bh, d.bw, s.bw] w w1) (c : RChg (fun k => Mine y k ∨ Mine x k) rt rt' w1 w2)
    (wd' : List Nat) (hd' : List Bool) (ud' : Nat) (Rd' : RefSt) (ws' : List Nat) (Rs' : RefSt) (ar : Ar w1 d.p d.bw d.bh wd' hd' ud') (ar2 : Ar w1 s.p s.bw s.bh ws' s.hs s.used) (rf : RefAt w2 d.pr x rt' Rd') (rf2 : RefAt w2 s.pr y rt' Rs') (rel : Rel wd' hd' ud' Rd') (rel2 : Rel ws' s.hs s.used Rs') :
    WAt w0 w2 pw tag rt' kt S (setD (setD D x { d with ws := wd', hs := hd', used := ud', R := Rd' }) y { s with ws := ws', R := Rs' }) V := by
  have hm := h.mem hx hd
  have hb := h.bl x d hx hd
  have hb2 := h.bl y s hy hsd
  have s1 := b.size
  have s2 := c.size
  have n0 : ¬ (Mine y 0 ∨ Mine x 0) := fun e => by rcases e with e | e <;> exact mine0 _ e
  have hB : ∀ g ∈ [d.p, d.bh, d.bw, s.bw], kt g = 2 + x ∨ kt g = 2 + y := fun g hg => by
    simp at hg
    rcases hg with rfl | rfl | rfl | rfl
    · exact .inl hb.t1
    · exact .inl hb.t3
    · exact .inl hb.t2
    · exact .inr hb2.t2
  have two : ∀ g, g < w.heap.size → kt g ≠ 2 + x → kt g ≠ 2 + y → ¬ (Mine y (rt g) ∨ Mine x (rt g)) → w2.heap[g]? = w.heap[g]? := fun g hg hk hk2 hr =>
    (c.blk g (by omega) hr).trans (b.block g hg (fun hxx => by rcases hB g hxx with e | e <;> omega))
  have k0 : ∀ g, kt g ≠ 0 → w2.heap[g]? = w1.heap[g]? := fun g hk => c.blk g (by have := h.un g (.inr hk); omega) (by rw [h.rt0 hk]; exact n0)
  refine h.core (by omega) ⟨c.os.trans b.os, c.tape.trans b.tape, c.output.trans b.output⟩ (fun g hg hr hk => two g hg (by omega) (by omega) (by rw [hr]; exact n0)) (fun g hg => c.tg g (by omega)) c.un _ (fun j hj => ?_) (fun j dj hj hdj => ?_)
  · unfold setD
    by_cases e : j = y
    · subst e; rw [if_pos rfl, hsd]; exact ⟨rfl, rfl⟩
    · rw [if_neg e]
      by_cases e2 : j = x
      · subst e2; rw [if_pos rfl, hd]; exact ⟨rfl, rfl⟩
      · rw [if_neg e2]; exact ⟨rfl, rfl⟩
  · unfold setD at hdj
    by_cases e : j = y
    · subst e
      rw [if_pos rfl] at hdj
      injection hdj with hdj
      subst hdj
      exact ⟨ar2.conf s2 (k0 _ (by rw [hb2.t1]; omega)) (k0 _ (by rw [hb2.t2]; omega)) (k0 _ (by rw [hb2.t3]; omega)), rf2, rel2, hb2.t1, hb2.t2, hb2.t3⟩
    · rw [if_neg e] at hdj
      by_cases e2 : j = x
      · subst e2
        rw [if_pos rfl] at hdj
        injection hdj with hdj
        subst hdj
        exact ⟨ar.conf s2 (k0 _ (by rw [hb.t1]; omega)) (k0 _ (by rw [hb.t2]; omega)) (k0 _ (by rw [hb.t3]; omega)), rf, rel, hb.t1, hb.t2, hb.t3⟩
      · rw [if_neg e2] at hdj
        refine (h.bl j dj hj hdj).keep (by omega) (fun g hg hk => two g hg (by omega) (by omega) (by rw [h.rt0 (by omega)]; exact n0)) (fun g hg hm2 => two g hg (fun hk => ?_) (fun hk => ?_) (fun hm3 => ?_)) (fun g hg => c.tg g (by omega))
        · rw [h.rt0 (by omega)] at hm2; exact mine0 _ hm2
        · rw [h.rt0 (by omega)] at hm2; exact mine0 _ hm2
        · rcases hm3 with hm3 | hm3
          · exact Mine.apart hm2 (by omega) hm3
          · exact Mine.apart hm2 (by omega) hm3
/-- the book has noted something; v was handed to it, or nothing (v nil) -/
theorem WAt.noted {w0 w : World} {pw : Nat} {tag rt kt : Nat → Nat} {S : BookSt} {D : Nat → Option Dat} {V : Nat → Value} (h : WAt w0 w pw tag rt kt S D V) {w' : World} {tag' : Nat → Nat} {S' : BookSt} (v : Value) (k : Nat) (hv : ∀ g, v.ownBlock = some g → rt g = 0 ∧ kt g = 0 ∧ g ≠ pw ∧ w0.heap.size ≤ g) (hb : BookAt w' pw 6 tag' S') (hn : Noted pw 6 (tagAt tag v k) tag' w w') : WAt w0 w' pw tag' rt kt S' D V := by
  have hs := hn.size
  have hb0 := h.bel.size
  have old : ∀ g, g < w.heap.size → (rt g ≠ 0 ∨ kt g ≠ 0) → w'.heap[g]? = w.heap[g]? := fun g hg hr => by
    refine hn.blk g hg ?_ (fun e => ?_)
    · unfold tagAt
      rw [if_neg (fun e => by have := hv g e; omega)]
      cases e : tag g with
      | zero => rfl
      | succ m => have := (h.ap g).1 (by omega); omega
    · subst e
      have := h.tp
      omega
  have tk : ∀ g, tag' g ≠ 0 → (g < w.heap.size ∧ tag g ≠ 0) ∨ v.ownBlock = some g ∨ w.heap.size ≤ g := fun g hg => by
    by_cases hl : g < w.heap.size
    · rw [hn.tg g hl] at hg
      unfold tagAt at hg
      by_cases e : v.ownBlock = some g
      · exact .inr (.inl e)
      · rw [if_neg e] at hg; exact .inl ⟨hl, hg⟩
    · exact .inr (.inr (by omega))
  refine ⟨fun i hi => ?_, fun i hi => ?_, hb, fun j hj => ?_, fun i d hi hd => ?_, fun g => ⟨fun hg => ?_, (h.ap g).2⟩, h.tp, fun g hg => Nat.lt_of_lt_of_le (h.un g hg) hs, fun g hg => ?_, h.bp, ?_⟩
  · exact ⟨(hn.rest i (.inl (by omega))).1.trans (h.cp i hi).1, (hn.rest i (.inl (by omega))).2.trans (h.cp i hi).2⟩
  · exact ⟨(hn.rest (3 + i) (.inl (by omega))).1.trans (h.cq i hi).1, (hn.rest (3 + i) (.inl (by omega))).2.trans (h.cq i hi).2⟩
  · obtain ⟨r1, r2, ⟨n, f, r3⟩, r4⟩ := h.rm j hj
    exact ⟨(hn.rest (39 + j) (.inr (by omega))).1.trans r1, (hn.rest (39 + j) (.inr (by omega))).2.trans r2, ⟨n, f, r3.same (fun g hg => old g (r3.lt g hg) (.inr (by rw [r4 g hg]; omega)))⟩, r4⟩
  · exact (h.bl i d hi hd).keep hs (fun g hg hk => old g hg (.inr (by omega))) (fun g hg hm => old g hg (.inl hm.1)) (fun _ _ => rfl)
  · rcases tk g hg with ⟨_, e⟩ | e | e
    · exact (h.ap g).1 e
    · exact ⟨(hv g e).1, (hv g e).2.1⟩
    · constructor
      · cases e2 : rt g with
        | zero => rfl
        | succ m => have := h.un g (.inl (by omega)); omega
      · cases e2 : kt g with
        | zero => rfl
        | succ m => have := h.un g (.inr (by omega)); omega
  · rcases hg with hg | hg
    · rcases tk g hg with ⟨_, e⟩ | e | e
      · exact h.lo g (.inl e)
      · exact (hv g e).2.2.2
      · omega
    · exact h.lo g (.inr hg)
  · refine ⟨hn.os.trans h.bel.os, hn.tape.trans h.bel.tape, hn.output.trans h.bel.output, by omega, fun g hg => ?_⟩
    rw [hn.blk g (by omega) ?_ (fun e => by have := h.bp; omega)]
    · exact h.bel.block g hg
    · unfold tagAt
      rw [if_neg (fun e => by have := hv g e; omega)]
      cases e : tag g with
      | zero => rfl
      | succ m => have := h.lo g (.inl (by omega)); omega
end Go.Proofs.Ytdgdnpgjbphgaab
namespace Go.Proofs.Ytdgdnpgjbphgaab
open Go.ChangeShapes Go.WideShapes Go.ChangeAt Go.RowKit
set_option linter.unusedVariables false
set_option maxRecDepth 100000
set_option maxHeartbeats 2000000

theorem p_object {p bw bh : Nat} {ws : List Nat} {hs : List Bool} {used : Nat} {R : RefSt} {w : World} (h : Ar w p bw bh ws hs used) (r : Rel ws hs used R) (o : RefOk R) (at' : Int) :
    Calls Try.prog 21 #[.pointer (some ⟨p, 0, none⟩), .int .i64 at'] w fun e w' => e = .returned (.tuple #[.int .i64 ((robj R at').1 : Nat), .int .i64 ((robj R at').2.1 : Nat), .int .i64 ((robj R at').2.2.1 : Nat), .int .i64 ((robj R at').2.2.2 : Nat)]) ∧ Below w.heap.size w w' := by
  have := object_any at' w h (r.sound o).heads
  rw [r.obj o] at this
  exact this
theorem rget_zero1 {R : RefSt} {at' i : Int} (h : rsetErr R at' i ≠ 0) : (rget R at' i).1 = 0 := by
  unfold rsetErr at h
  rcases at_cases R.L at' with ⟨j, hj, rfl⟩ | hno
  · cases hg : R.Gn.getD j none with
    | none =>
      rw [rget_none hj hg] at h ⊢
      split at h
      · exact absurd rfl h
      · rename_i hi; rw [if_neg hi]
    | some t => rw [rget_some hj hg]
  · rw [rget_no hno]
theorem p_get {p bw bh : Nat} {ws : List Nat} {hs : List Bool} {used : Nat} {R : RefSt} {w : World} (h : Ar w p bw bh ws hs used) (r : Rel ws hs used R) (o : RefOk R) (at' i : Int) :
    Calls Try.prog 23 #[.pointer (some ⟨p, 0, none⟩), .int .i64 at', .int .i64 i] w fun e w' => e = .returned (.tuple #[.int .u64 ((rget R at' i).1 : Nat), .int .i64 ((rget R at' i).2 : Nat)]) ∧ Below w.heap.size w w' := by
  by_cases he : rsetErr R at' i = 0
  · obtain ⟨j, m, hj, rfl, rfl, hm, hg, e1, e2⟩ := rget_zero he
    have hob := (r.obj o (place R.L j : Nat)).trans e2
    refine (get_yes (place R.L j) m w h (r.sound o).heads (by rw [hob]) (by rw [hob]; exact hm)).mono ?_
    rintro e w' ⟨rfl, hb⟩
    refine ⟨?_, hb⟩
    rw [e1, r.flds j m hj hm]
    rfl
  · refine (get_no at' i w h (r.sound o).heads _ (r.err o at' i).symm he).mono ?_
    rintro e w' ⟨rfl, hb⟩
    refine ⟨?_, hb⟩
    rw [rget_zero1 he]
    rfl
theorem p_moved {p bw bh : Nat} {ws : List Nat} {hs : List Bool} {used : Nat} {R : RefSt} {w : World} (h : Ar w p bw bh ws hs used) (r : Rel ws hs used R) (o : RefOk R) (at' : Int) :
    Calls Try.prog 27 #[.pointer (some ⟨p, 0, none⟩), .int .i64 at'] w fun e w' => e = .returned (.tuple #[.int .i64 ((rmoved R at').1 : Nat), .bool (rmoved R at').2.1, .int .i64 ((rmoved R at').2.2 : Nat)]) ∧ w' = w := by
  have := movedcall_any at' w h
  rw [r.moved o] at this
  exact this
theorem p_set {p bw bh : Nat} {ws : List Nat} {hs : List Bool} {used : Nat} {R : RefSt} {w : World} (h : Ar w p bw bh ws hs used) (r : Rel ws hs used R) (o : RefOk R) (at' i : Int) (v : Nat) (hv : v < 18446744073709551616) :
    Calls Try.prog 25 #[.pointer (some ⟨p, 0, none⟩), .int .i64 at', .int .i64 i, .int .u64 (v : Nat)] w fun e w' => e = .returned (.int .i64 (rsetErr R at' i : Nat)) ∧ But [p, bw, bh] w w' ∧ ∃ ws', Ar w' p bw bh ws' hs used ∧ (rsetErr R at' i ≠ 0 → ws' = ws) ∧ (rsetErr R at' i = 0 → ∀ j m : Nat, j < R.L.length → at' = (place R.L j : Nat) → i = m → m < fldsOf R.L j → Rel ws' hs used (R.put j m v)) := by
  by_cases he : rsetErr R at' i = 0
  · obtain ⟨j, m, hj, rfl, rfl, hm, hg, e1, e2⟩ := rget_zero he
    have hob := (r.obj o (place R.L j : Nat)).trans e2
    refine (set_yes (place R.L j) m v w hv h (r.sound o).heads (by rw [hob]) (by rw [hob]; exact hm)).mono ?_
    rintro e w' ⟨rfl, hA, hB⟩
    refine ⟨by rw [he]; rfl, hB.over (by simp), _, hA, fun hne => absurd he hne, fun _ j2 m2 hj2 e3 e4 hm2 => ?_⟩
    have := place_inj R.L (Int.ofNat.inj e3)
    subst this
    have := Int.ofNat.inj e4
    subst this
    exact r.put o j m v hj hm
  · refine (set_no at' i v w h (r.sound o).heads _ (r.err o at' i).symm he).mono ?_
    rintro e w' ⟨rfl, hb⟩
    exact ⟨rfl, But.of_below hb, ws, h.below hb, fun _ => rfl, fun h0 => absurd h0 he⟩
theorem p_clear {p bw bh : Nat} {ws : List Nat} {hs : List Bool} {used : Nat} {w : World} (h : Ar w p bw bh ws hs used) :
    Calls Try.prog 43 #[.pointer (some ⟨p, 0, none⟩)] w fun e w' => e = .returned (.tuple #[]) ∧ Ar w' p bw bh ws hs 1 ∧ But [p, bw, bh] w w' := by
  have hA := h.grown 1 (by omega) (by have := h.u1; have := h.u2; omega)
  have hB : But [p, bw, bh] w (w.setCell ⟨p, 2, none⟩ (.int .i64 ((1 : Nat) : Int))) := (But.refl _ _).set ⟨p, 2, none⟩ (by simp) _
  have c2 := h.c2
  have f2 := h.f2
  have HA := hide hA
  have HB := hide hB
  clear h hA hB
  go_enter Try.func43, Try.ntmps43
  go_wp2
  go_end0
  exact ⟨rfl, unhide HA, unhide HB⟩
/-- the words of an object behind each other -/
theorem laid_old (ws : List Nat) (u n x i : Nat) (h : i < u) (hn : u ≤ ws.length) : (laid ws u n x).getD i 0 = ws.getD i 0 := by
  rw [laid_at _ _ _ _ _ (by omega), if_neg (by omega), if_neg (by omega)]
theorem alloc_rel {ws : List Nat} {hs : List Bool} {used : Nat} {R : RefSt} (r : Rel ws hs used R) (o : RefOk R) (k rf rw' : Nat) (F v' : Value) (hfit : used + (1 + rf + rw') ≤ ws.length) : Rel (laid ws used (1 + rf + rw') (k + 256 * rf + 4294967296 * rw')) (mark hs used (1 + rf + rw')) (used + (1 + rf + rw')) (R.lay k rf rw' (List.replicate (rf + rw') 0) F v') := by
  refine r.lay o k rf rw' _ F v' (by simp) hfit (laid_length _ _ _ _) (fun i hi => laid_old _ _ _ _ _ hi (by omega)) ?_ (fun i hi => ?_)
  · rw [laid_at _ _ _ _ _ (by omega), if_pos rfl]
  · rw [laid_at _ _ _ _ _ (by omega), if_neg (by omega), if_pos (by omega), getD_zeros]
theorem take_rel {wd : List Nat} {hd : List Bool} {ud : Nat} {Rd : RefSt} (r : Rel wd hd ud Rd) (o : RefOk Rd) {ws : List Nat} {hs : List Bool} {us : Nat} {R : RefSt} (rs : Rel ws hs us R) (os : RefOk R) (j : Nat) (hj : j < R.L.length) (hg : R.Gn.getD j none = none) (F v' : Value) (hfit : ud + (1 + (R.L.getD j (0, 0, 0)).2.1 + (R.L.getD j (0, 0, 0)).2.2) ≤ wd.length) :
    Rel (patch wd ud (runL ws (place R.L j) (1 + (R.L.getD j (0, 0, 0)).2.1 + (R.L.getD j (0, 0, 0)).2.2))) (mark hd ud (1 + (R.L.getD j (0, 0, 0)).2.1 + (R.L.getD j (0, 0, 0)).2.2)) (ud + (1 + (R.L.getD j (0, 0, 0)).2.1 + (R.L.getD j (0, 0, 0)).2.2)) (Rd.lay (R.L.getD j (0, 0, 0)).1 (R.L.getD j (0, 0, 0)).2.1 (R.L.getD j (0, 0, 0)).2.2 (R.X.getD j []) F v') := by
  have hxs := os.xs j hj
  have hfl : fldsOf R.L j = (R.L.getD j (0, 0, 0)).2.1 + (R.L.getD j (0, 0, 0)).2.2 := rfl
  have hw := rs.heads j hj
  rw [rword_none hg] at hw
  refine r.lay o _ _ _ _ F v' (by rw [hxs, hfl]) hfit (patch_length _ _ _) (fun i hi => ?_) ?_ (fun i hi => ?_)
  · rw [patch_at _ _ _ _ (by omega), if_neg (by omega)]
  · rw [patch_at _ _ _ _ (by omega), runL_length, if_pos (by omega), Nat.sub_self, runL_at _ _ _ _ (by omega), Nat.add_zero, hw]
  · rw [patch_at _ _ _ _ (by omega), runL_length, if_pos (by omega), show ud + 1 + i - ud = 1 + i by omega, runL_at _ _ _ _ (by omega), ← Nat.add_assoc, rs.flds j i hj (by omega)]
end Go.Proofs.Ytdgdnpgjbphgaab
