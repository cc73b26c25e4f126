/- Table's loops: what stays between the rounds. -/
import Derived.Test.YteooecjmnombfaaDoorLn
import Derived.Test.YteooecjmnombfaaDoorCd
namespace Go.Proofs.YteooecjmnombfaaDoor
open Go.ChangeShapes Go.WideShapes Go.ChangeAt Go.RowKit
set_option linter.unusedVariables false
set_option maxRecDepth 20000
set_option maxHeartbeats 2000000

theorem Tryd.info24 : (Tryd.prog.info? 24).map (fun i => (i.zero, i.size, i.bytes)) = some (some (.slice none 0 0), 1, 24) := by kernel_rfl
theorem bel_chain {B : Nat} {a b c : World} (h : Below B a b) (k : Below b.heap.size b c) (hB : B ≤ b.heap.size) : Below B a c := h.trans (k.mono hB)
/-- list j, as it stands in l -/
abbrev el (b : Nat) : Value := .slice (some ⟨b, 0, none⟩) 29 29
/-- the command that list j is written over with, and its cells in a row of them -/
def cmdR (j : Nat) : List Value := [.string ⟨#[]⟩, .int .i64 (1000 + (j : Int)), .bool false, .int .i64 0, .int .i64 0, .int .i64 0, .int .i64 0]
def cmdC (j k : Nat) : Value := (cmdR j).getD (k % 7) undef
theorem cmdC_at (j k c : Nat) (hc : c < 7) : cmdC j (k * 7 + c) = (cmdR j).getD c undef := by
  unfold cmdC
  rw [show (k * 7 + c) % 7 = c by omega]
theorem cmdR_one (j : Nat) : ∀ x ∈ cmdR j, x.oneCell' = true := by
  intro x hx
  simp only [cmdR, List.mem_cons, List.not_mem_nil, or_false] at hx
  rcases hx with rfl | rfl | rfl | rfl | rfl | rfl | rfl <;> rfl
theorem block_lt {w : World} {b : Nat} {o : Obj} (h : w.heap[b]? = some o) : b < w.heap.size := (Array.getElem?_eq_some_iff.1 h).1
/-- the first k lists have come: each lies in a block of its own and is the table -/
structure P1 (w wr : World) (lv : Value) (k : Nat) (bs : Nat → Nat) : Prop where
  bel : Below w.heap.size w wr
  line : Rws wr 24 1 lv k (fun j => el (bs j))
  tab : ∀ j, j < k → w.heap.size ≤ bs j ∧ wr.heap[bs j]? = some (.cells tabA 30 (0, 0))
  one : ∀ i j, i < k → j < k → bs i = bs j → i = j
  own : ∀ g, lv.ownBlock = some g → w.heap.size ≤ g
theorem P1.start (w : World) : P1 w w (.slice none 0 0) 0 (fun _ => 0) :=
  ⟨Below.refl _ _, .inl ⟨rfl, rfl⟩, fun j hj => absurd hj (Nat.not_lt_zero _), fun i j hi => absurd hi (Nat.not_lt_zero _), fun g hg => by simp [Value.ownBlock] at hg⟩
/-- behind ask and the box of its answer -/
theorem P1.mid {w wr w1 : World} {lv : Value} {k : Nat} {bs : Nat → Nat} (h : P1 w wr lv k bs) (c1 : w1.heap[wr.heap.size]? = some (.cells tabA 30 (0, 0)) ∧ w1.heap.size = wr.heap.size + 1 ∧ Below wr.heap.size wr w1) :
    Rws (w1.alloc (.cells #[el wr.heap.size] 24)) 24 1 lv k (fun j => el (bs j)) := by
  refine h.line.same (fun g hg => ?_)
  have := h.line.lt g hg
  rw [Below.heap_alloc _ _ _ (by have := c1.2.1; omega), c1.2.2.block g this]
theorem P1.step {w wr w1 w3 : World} {lv v' : Value} {k : Nat} {bs : Nat → Nat} (h : P1 w wr lv k bs) (c1 : w1.heap[wr.heap.size]? = some (.cells tabA 30 (0, 0)) ∧ w1.heap.size = wr.heap.size + 1 ∧ Below wr.heap.size wr w1)
    (hL : Rws w3 24 1 v' (k + 1) (fun j => if j < k * 1 then el (bs j) else [el wr.heap.size].getD (j - k * 1) undef)) (hG : Gr 24 (k * 1) [el wr.heap.size].length (w1.alloc (.cells #[el wr.heap.size] 24)) w3 lv v') :
    P1 w w3 v' (k + 1) (fun j => if j < k then bs j else wr.heap.size) := by
  have hs1 := c1.2.1
  have hsz : (w1.alloc (.cells #[el wr.heap.size] 24)).heap.size = wr.heap.size + 2 := by simp; omega
  have old : ∀ b, b < wr.heap.size + 1 → lv.ownBlock ≠ some b → w3.heap[b]? = w1.heap[b]? := fun b hb hv => by
    rw [hG.other b (by omega) hv, Below.heap_alloc _ _ _ (by omega)]
  have hbs := h.bel.size
  have tlv : ∀ b cs, w1.heap[b]? = some (.cells cs 30 (0, 0)) → lv.ownBlock ≠ some b := fun b cs hb e => by
    have hlt := h.line.lt b e
    obtain ⟨c, hc⟩ := h.line.type b e
    rw [c1.2.2.block b hlt, hc] at hb
    cases hb
  refine ⟨⟨?_, ?_, ?_, ?_, ?_⟩, hL.congr (fun j hj => ?_), fun j hj => ?_, fun i j hi hj e => ?_, ?_⟩
  · rw [hG.os]; exact c1.2.2.os.trans h.bel.os
  · rw [hG.tape]; exact c1.2.2.tape.trans h.bel.tape
  · rw [hG.output]; exact c1.2.2.output.trans h.bel.output
  · have := hG.size; omega
  · intro b hb
    rw [old b (by omega) (fun e => by have := h.own b e; omega), c1.2.2.block b (by omega), h.bel.block b hb]
  · rw [Nat.mul_one] at *
    by_cases e : j < k
    · simp only [if_pos e]
    · have : j = k := by omega
      subst this
      simp only [if_neg e, Nat.sub_self]
      rfl
  · by_cases e : j < k
    · simp only [if_pos e]
      obtain ⟨h1, h2⟩ := h.tab j e
      have hlt := block_lt h2
      have h3 : w1.heap[bs j]? = some (.cells tabA 30 (0, 0)) := by rw [c1.2.2.block _ hlt]; exact h2
      exact ⟨h1, by rw [old _ (by omega) (tlv _ _ h3)]; exact h3⟩
    · simp only [if_neg e]
      exact ⟨hbs, by rw [old _ (by omega) (tlv _ _ c1.1)]; exact c1.1⟩
  · by_cases e1 : i < k <;> by_cases e2 : j < k <;> simp only [e1, e2, if_true, if_false] at e
    · exact h.one i j e1 e2 e
    · have := block_lt (h.tab i e1).2; omega
    · have := block_lt (h.tab j e2).2; omega
    · omega
  · exact hG.own w.heap.size (by omega) h.own
/-- the lists are written over: those ahead of list i whole, of list i the first k commands -/
structure P3 (w wr : World) (lv : Value) (bs : Nat → Nat) (m i k : Nat) : Prop where
  bel : Below w.heap.size w wr
  line : Rws wr 24 1 lv m (fun j => el (bs j))
  cmd : ∀ j, j < m → ∃ cur, wr.heap[bs j]? = some (.cells cur 30 (0, 0)) ∧ cur.size = 203 ∧ ∀ q, q < 203 → j < i ∨ (j = i ∧ q < k * 7) → cur[q]? = some (cmdC j q)
theorem P3.start {w w2 wr : World} {lv : Value} {m : Nat} {bs : Nat → Nat} (h : P1 w w2 lv m bs) (hb : Below w2.heap.size w2 wr) : P3 w wr lv bs m 0 0 :=
  ⟨h.bel.trans (hb.mono h.bel.size), h.line.below hb, fun j hj => ⟨tabA, by rw [hb.block _ (block_lt (h.tab j hj).2)]; exact (h.tab j hj).2, tabA_size, fun m _ h => by omega⟩⟩
theorem P3.next {w wr : World} {lv : Value} {bs : Nat → Nat} {m i : Nat} (h : P3 w wr lv bs m i 29) : P3 w wr lv bs m (i + 1) 0 :=
  ⟨h.bel, h.line, fun j hj => by
    obtain ⟨cur, h1, h2, h3⟩ := h.cmd j hj
    exact ⟨cur, h1, h2, fun q hq hh => h3 q hq (by omega)⟩⟩
/-- cells from lo to hi of one block have been written -/
structure PutR (g lo hi : Nat) (R : Nat → Value) (w w' : World) : Prop where
  os : w'.os = w.os
  tape : w'.tape = w.tape
  output : w'.output = w.output
  size : w'.heap.size = w.heap.size
  else' : ∀ k, k ≠ g → w'.heap[k]? = w.heap[k]?
  blk : ∀ cur t, w.heap[g]? = some (.cells cur t (0, 0)) → hi ≤ cur.size → ∃ cur', w'.heap[g]? = some (.cells cur' t (0, 0)) ∧ cur'.size = cur.size ∧ (∀ j, lo ≤ j → j < hi → cur'[j]? = some (R j)) ∧ ∀ j, j < lo ∨ hi ≤ j → cur'[j]? = cur[j]?
theorem setCell_block (w : World) (g k : Nat) (u : Value) (cur : Array Value) (e : TypeId) (fr : Nat × Nat) (hg : w.heap[g]? = some (.cells cur e fr)) : (w.setCell ⟨g, k, none⟩ u).heap[g]? = some (.cells (cur.setIfInBounds k u) e fr) := by
  simp only [World.setCell, Array.getElem?_modify, if_true, hg, Option.map_some]
  rfl
theorem setCell_else (w : World) (g k j : Nat) (u : Value) (h : j ≠ g) : (w.setCell ⟨g, k, none⟩ u).heap[j]? = w.heap[j]? := by
  simp [World.setCell, Array.getElem?_modify, Ne.symm h]
theorem PutR.one (g o : Nat) (R : Nat → Value) (w : World) (v : Value) (hv : R o = v) : PutR g o (o + 1) R w (w.setCell ⟨g, o, none⟩ v) := by
  refine ⟨rfl, rfl, rfl, by simp [World.setCell], fun k hk => setCell_else w g o k v hk, fun cur t hg hs => ⟨_, setCell_block w g o v cur t _ hg, by simp, fun j h1 h2 => ?_, fun j hj => ?_⟩⟩
  · have : j = o := by omega
    subst this
    rw [Array.getElem?_setIfInBounds, if_pos rfl, if_pos (by omega), hv]
  · rw [Array.getElem?_setIfInBounds, if_neg (by omega)]
theorem PutR.and {g a b c : Nat} {R : Nat → Value} {w w1 w2 : World} (h : PutR g a b R w w1) (k : PutR g b c R w1 w2) (hab : a ≤ b) (hbc : b ≤ c) : PutR g a c R w w2 := by
  refine ⟨k.os.trans h.os, k.tape.trans h.tape, k.output.trans h.output, k.size.trans h.size, fun x hx => (k.else' x hx).trans (h.else' x hx), fun cur t hg hs => ?_⟩
  obtain ⟨c1, h1, h2, h3, h4⟩ := h.blk cur t hg (by omega)
  obtain ⟨c2, k1, k2, k3, k4⟩ := k.blk c1 t h1 (by omega)
  refine ⟨c2, k1, by omega, fun j j1 j2 => ?_, fun j hj => by rw [k4 j (by omega), h4 j (by omega)]⟩
  by_cases e : j < b
  · rw [k4 j (.inl e), h3 j j1 e]
  · exact k3 j (by omega) j2
theorem put7 (g o : Nat) (R : Nat → Value) (w : World) (v0 v1 v2 v3 v4 v5 v6 : Value) (e0 : R o = v0) (e1 : R (o + 1) = v1) (e2 : R (o + 2) = v2) (e3 : R (o + 3) = v3) (e4 : R (o + 4) = v4) (e5 : R (o + 5) = v5) (e6 : R (o + 6) = v6) :
    PutR g o (o + 7) R w (((((((w.setCell ⟨g, o, none⟩ v0).setCell ⟨g, o + 1, none⟩ v1).setCell ⟨g, o + 2, none⟩ v2).setCell ⟨g, o + 3, none⟩ v3).setCell ⟨g, o + 4, none⟩ v4).setCell ⟨g, o + 5, none⟩ v5).setCell ⟨g, o + 6, none⟩ v6) :=
  ((((((PutR.one g o R w v0 e0).and (PutR.one g (o + 1) R _ v1 e1) (by omega) (by omega)).and (PutR.one g (o + 2) R _ v2 e2) (by omega) (by omega)).and (PutR.one g (o + 3) R _ v3 e3) (by omega) (by omega)).and (PutR.one g (o + 4) R _ v4 e4) (by omega) (by omega)).and (PutR.one g (o + 5) R _ v5 e5) (by omega) (by omega)).and (PutR.one g (o + 6) R _ v6 e6) (by omega) (by omega)
theorem P3.put {w wr w1 : World} {lv : Value} {bs : Nat → Nat} {m i k : Nat} (h : P3 w wr lv bs m i k) (hi : i < m) (hk : k < 29) (hbs : w.heap.size ≤ bs i) (hone : ∀ j, j < m → bs j = bs i → j = i) (hp : PutR (bs i) (k * 7) (k * 7 + 7) (cmdC i) wr w1) : P3 w w1 lv bs m i (k + 1) := by
  obtain ⟨cu, c1, c2, c3⟩ := h.cmd i hi
  refine ⟨⟨hp.os.trans h.bel.os, hp.tape.trans h.bel.tape, hp.output.trans h.bel.output, by have := hp.size; have := h.bel.size; omega, fun b hb => by rw [hp.else' b (by omega), h.bel.block b hb]⟩, h.line.same (fun g hg => hp.else' g (fun e => ?_)), fun j hj => ?_⟩
  · subst e
    obtain ⟨c, hc⟩ := h.line.type _ hg
    rw [c1] at hc
    cases hc
  · by_cases e : bs j = bs i
    · have := hone j hj e
      subst this
      obtain ⟨cu', d1, d2, d3, d4⟩ := hp.blk cu 30 c1 (by omega)
      refine ⟨cu', d1, by omega, fun q hq hh => ?_⟩
      by_cases em : k * 7 ≤ q ∧ q < k * 7 + 7
      · exact d3 q em.1 em.2
      · rw [d4 q (by omega), c3 q hq (by omega)]
    · obtain ⟨cur, h1, h2, h3⟩ := h.cmd j hj
      exact ⟨cur, by rw [hp.else' _ e]; exact h1, h2, fun q hq hh => h3 q hq (by
        rcases hh with hh | ⟨rfl, hh⟩
        · exact .inl hh
        · exact absurd rfl e)⟩
/-- all lists are written over; of the first i there are three that are kept -/
structure P4 (w wr : World) (lv kv : Value) (bs : Nat → Nat) (m i : Nat) (F : Nat → Value) : Prop where
  bel : Below w.heap.size w wr
  lin : Rws wr 24 1 lv m (fun j => el (bs j))
  cmd : ∀ j, j < m → Rws wr 30 7 (el (bs j)) 29 (cmdC j)
  ke : Rws wr 24 1 kv (3 * i) F
  kn : ∀ j, j < 3 * i → ∃ n t, 0 < n ∧ n ≤ 100 ∧ t ≠ 24 ∧ Rws wr t 7 (F j) n (cmdC (j / 3))
  lo : ∀ g, lv.ownBlock = some g → w.heap.size ≤ g
  ko : ∀ g, kv.ownBlock = some g → w.heap.size ≤ g ∧ lv.ownBlock ≠ some g
theorem P4.start {w wr : World} {lv : Value} {bs : Nat → Nat} {m : Nat} (h : P3 w wr lv bs m m 0) (lo : ∀ g, lv.ownBlock = some g → w.heap.size ≤ g) : P4 w wr lv (.slice none 0 0) bs m 0 (fun _ => undef) :=
  ⟨h.bel, h.line, fun j hj => by
    obtain ⟨cur, h1, h2, h3⟩ := h.cmd j hj
    exact .inr ⟨bs j, 29, cur, rfl, h1, Nat.le_refl _, by decide, by omega, fun k hk => h3 k (by omega) (.inl hj)⟩, .inl ⟨rfl, rfl⟩, fun j hj => absurd hj (Nat.not_lt_zero _), lo, fun g hg => by simp [Value.ownBlock] at hg⟩
/-- what makes memory alone -/
theorem P4.below {w wr w1 : World} {lv kv : Value} {bs : Nat → Nat} {m i : Nat} {F : Nat → Value} (h : P4 w wr lv kv bs m i F) (hb : Below wr.heap.size wr w1) : P4 w w1 lv kv bs m i F :=
  ⟨bel_chain h.bel hb h.bel.size, h.lin.below hb, fun j hj => (h.cmd j hj).below hb, h.ke.below hb, fun j hj => by
    obtain ⟨n, t, h1, h2, h3, h4⟩ := h.kn j hj
    exact ⟨n, t, h1, h2, h3, h4.below hb⟩, h.lo, h.ko⟩
/-- list i is appended to: k commands have come -/
structure P5 (ws wr : World) (av : Value) (i k : Nat) : Prop where
  bel : Below ws.heap.size ws wr
  an : ∃ t, (t = 29 ∨ (t = 30 ∧ ∀ b cap, av = .slice (some b) (29 + k) cap → cap = 29 + k)) ∧ Rws wr t 7 av (29 + k) (cmdC i) ∧ (t = 29 → ∀ g, av.ownBlock = some g → ws.heap.size ≤ g)
theorem P5.start {w ws : World} {lv kv : Value} {bs : Nat → Nat} {m i : Nat} {F : Nat → Value} (h : P4 w ws lv kv bs m i F) (hi : i < m) : P5 ws ws (el (bs i)) i 0 :=
  ⟨Below.refl _ _, 30, .inr ⟨rfl, fun b cap e => by cases e; rfl⟩, h.cmd i hi, fun e => absurd e (by decide)⟩
theorem P5.below {ws wr w1 : World} {av : Value} {i k : Nat} (h : P5 ws wr av i k) (hb : Below wr.heap.size wr w1) : P5 ws w1 av i k := by
  obtain ⟨t, a1, a2, a3⟩ := h.an
  exact ⟨bel_chain h.bel hb h.bel.size, t, a1, a2.below hb, a3⟩
/-- the cells of a row and one command more -/
theorem more_cells (i n k : Nat) (hk : k < (n + 1) * 7) : (if k < n * 7 then cmdC i k else (cmdR i).getD (k - n * 7) undef) = cmdC i k := by
  split
  · rfl
  · rename_i h
    have e : k = n * 7 + (k - n * 7) := by omega
    rw [e, cmdC_at i n (k - n * 7) (by omega)]
    congr 1
    omega
theorem P5.more {ws wr w1 : World} {av av' : Value} {i k : Nat} {t : TypeId} (h : Below ws.heap.size ws wr) (hv : t = 29 → ∀ g, av.ownBlock = some g → ws.heap.size ≤ g) (ht : t ≠ 29 → ∀ g, av.ownBlock = some g → ∀ c, wr.heap[g]? ≠ some (.cells c 29 (0, 0)))
    (hN : Rws w1 29 7 av' (29 + k + 1) (fun q => if q < (29 + k) * 7 then cmdC i q else (cmdR i).getD (q - (29 + k) * 7) undef)) (hG : Gr 29 ((29 + k) * 7) (cmdR i).length wr w1 av av') : P5 ws w1 av' i (k + 1) := by
  have hws := h.size
  have hown : (∀ g, av'.ownBlock = some g → ws.heap.size ≤ g) ∧ Below ws.heap.size ws w1 := by
    rcases hG.how with ⟨g, cur, cur', h1, h2, h3, _, _, _, hs, hk⟩ | ⟨h2, hs, hk⟩
    · have ht26 : t = 29 := by
        by_cases e : t = 29
        · exact e
        · exact absurd h3 (ht e g h1 cur)
      refine ⟨fun g' hg' => ?_, h.trans (hG.below ws.heap.size hws (hv ht26))⟩
      rw [h2] at hg'
      cases hg'
      exact hv ht26 g h1
    · refine ⟨fun g' hg' => ?_, h.trans ⟨hG.os, hG.tape, hG.output, by omega, fun b hb => hk b (by omega)⟩⟩
      rw [h2] at hg'
      cases hg'
      exact hws
  exact ⟨hown.2, 29, .inl rfl, hN.congr (fun q hq => more_cells i (29 + k) q hq), fun _ => hown.1⟩
theorem P5.shape {ws wr : World} {av : Value} {i k : Nat} (h : P5 ws wr av i k) : ∃ a cap, av = .slice a (29 + k) cap := by
  obtain ⟨t, _, a2, _⟩ := h.an
  exact a2.shape
/-- list i with one command more -/
theorem P5.push {ws wr : World} {av : Value} {i k : Nat} (h : P5 ws wr av i k) : ∃ t, (t = 29 ∨ ∀ b cap, av = .slice (some b) (29 + k) cap → cap = 29 + k) ∧ Rws (wr.alloc (.cells (cmdR i).toArray 29)) t 7 av (29 + k) (cmdC i) ∧
    ∀ av' w1, Rws w1 29 7 av' (29 + k + 1) (fun q => if q < (29 + k) * 7 then cmdC i q else (cmdR i).getD (q - (29 + k) * 7) undef) → Gr 29 ((29 + k) * 7) (cmdR i).length (wr.alloc (.cells (cmdR i).toArray 29)) w1 av av' → P5 ws w1 av' i (k + 1) := by
  have b1 : Below wr.heap.size wr (wr.alloc (.cells (cmdR i).toArray 29)) := (Below.refl _ _).alloc (Nat.le_refl _) _
  obtain ⟨t, a1, a2, a3⟩ := (h.below b1).an
  refine ⟨t, ?_, a2, fun av' w1 hN hG => P5.more (t := t) (h.below b1).bel a3 (fun hne g hg c hc => ?_) hN hG⟩
  · rcases a1 with e | ⟨_, e⟩
    · exact .inl e
    · exact .inr e
  · obtain ⟨c', hc'⟩ := a2.type g hg
    rw [hc'] at hc
    cases hc
    exact hne rfl
/-- list i's three are kept -/
theorem P4.next {w ws wr w2 w4 : World} {lv kv kv' v2 av : Value} {bs : Nat → Nat} {m i k : Nat} {F : Nat → Value} (p : P4 w wr lv kv bs m i F) (q : P5 ws wr av i k) (hk : 29 + k ≤ 100) (hi : i < m)
    (h2 : Rws w2 29 7 v2 (29 + 1) (fun q => if q < 29 * 7 then cmdC i q else (cmdR i).getD (q - 29 * 7) undef)) (g2 : Gr 29 (29 * 7) (cmdR i).length (wr.alloc (.cells (cmdR i).toArray 29)) w2 (el (bs i)) v2)
    (h4 : Rws w4 24 1 kv' (3 * i + 3) (fun j => if j < 3 * i * 1 then F j else [el (bs i), v2, av].getD (j - 3 * i * 1) undef)) (g4 : Gr 24 (3 * i * 1) [el (bs i), v2, av].length (w2.alloc (.cells #[el (bs i), v2, av] 24)) w4 kv kv') :
    P4 w w4 lv kv' bs m (i + 1) (fun j => if j < 3 * i then F j else [el (bs i), v2, av].getD (j - 3 * i) undef) := by
  have b1 : Below wr.heap.size wr (wr.alloc (.cells (cmdR i).toArray 29)) := (Below.refl _ _).alloc (Nat.le_refl _) _
  have p1 := p.below b1
  have b2 : Below (wr.alloc (.cells (cmdR i).toArray 29)).heap.size (wr.alloc (.cells (cmdR i).toArray 29)) w2 := by
    rcases g2.how with ⟨g, cur, cur', e1, _, e3, _⟩ | ⟨_, hs, hk⟩
    · obtain ⟨c, hc⟩ := (p1.cmd i hi).type g e1
      rw [hc] at e3
      cases e3
    · exact ⟨g2.os, g2.tape, g2.output, by omega, hk⟩
  have p2 := p1.below b2
  have b3 : Below w2.heap.size w2 (w2.alloc (.cells #[el (bs i), v2, av] 24)) := (Below.refl _ _).alloc (Nat.le_refl _) _
  have p3 := p2.below b3
  have q3 := ((q.below b1).below b2).below b3
  have v3 := h2.below b3
  have apart : ∀ {t : TypeId} {v : Value} {n : Nat} {f : Nat → Value}, t ≠ 24 → Rws (w2.alloc (.cells #[el (bs i), v2, av] 24)) t 7 v n f → Rws w4 t 7 v n f := fun {t v n f} ht hv =>
    hv.same (fun g hg => g4.other g (hv.lt g hg) (hv.apart p3.ke ht g hg))
  refine ⟨p3.bel.trans (g4.below _ p3.bel.size (fun g hg => (p3.ko g hg).1)), p3.lin.same (fun g hg => g4.other g (p3.lin.lt g hg) (fun e => (p3.ko g e).2 hg)), fun j hj => apart (by decide) (p3.cmd j hj), ?_, fun j hj => ?_, p.lo, fun g hg => ⟨g4.own _ p3.bel.size (fun g hg => (p3.ko g hg).1) g hg, fun e => ?_⟩⟩
  · rw [show 3 * (i + 1) = 3 * i + 3 by omega]
    refine h4.congr (fun j hj => ?_)
    rw [Nat.mul_one]
  · by_cases e : j < 3 * i
    · simp only [if_pos e]
      obtain ⟨n, t, a1, a2, a3, a4⟩ := p3.kn j e
      exact ⟨n, t, a1, a2, a3, apart a3 a4⟩
    · simp only [if_neg e]
      have hd : j / 3 = i := by omega
      rw [hd]
      rcases (show j - 3 * i = 0 ∨ j - 3 * i = 1 ∨ j - 3 * i = 2 by omega) with e2 | e2 | e2 <;> rw [e2]
      · exact ⟨29, 30, by decide, by decide, by decide, apart (by decide) (p3.cmd i hi)⟩
      · exact ⟨30, 29, by decide, by decide, by decide, apart (by decide) (v3.congr (fun q hq => more_cells i 29 q hq))⟩
      · obtain ⟨t, a1, a2, a3⟩ := q3.an
        have ht : t ≠ 24 := by rcases a1 with h | ⟨h, _⟩ <;> rw [h] <;> decide
        exact ⟨29 + k, t, by omega, hk, ht, apart ht a2⟩
  · rcases g4.how with ⟨g', c, c', e1, e2, _⟩ | ⟨e2, _⟩
    · rw [hg] at e2
      cases e2
      exact (p3.ko g e1).2 e
    · rw [hg] at e2
      cases e2
      have := p3.lin.lt _ e
      omega
end Go.Proofs.YteooecjmnombfaaDoor
