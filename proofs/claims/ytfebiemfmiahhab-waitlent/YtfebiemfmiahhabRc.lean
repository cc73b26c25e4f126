/- beyond: a list, and the list with marks behind it. -/
import Derived.Test.YtfebiemfmiahhabRa
namespace Go.Proofs.Ytfebiemfmiahhab
open Go.ChangeShapes Go.WideShapes Go.ChangeAt Go.RowKit
set_option linter.unusedVariables false
set_option linter.unusedSimpArgs false
set_option maxRecDepth 100000
set_option maxHeartbeats 4000000
/-- a mark's cells, again and again -/
def mkF (c : List Value) : Nat → Value := fun k => c.getD (k % c.length) undef
/-- a list and its mark's cells -/
structure Ent where
  v : Value
  n : Nat
  c : List Value
/-- lists that bear a mark each, in blocks from B on; e the element's type, s its cells -/
structure KL (w : World) (e : TypeId) (s B : Nat) (L : List Ent) : Prop where
  row : ∀ x ∈ L, Rws w e s x.v x.n (mkF x.c) ∧ x.c.length = s
  ge : ∀ x ∈ L, ∀ g, x.v.ownBlock = some g → B ≤ g
  one : ∀ x ∈ L, ∀ y ∈ L, ∀ g, x.v.ownBlock = some g → y.v.ownBlock = some g → x.c = y.c
theorem mkF_shift (c : List Value) (n j : Nat) : mkF c (n * c.length + j) = mkF c j := by
  unfold mkF
  rw [Nat.add_comm, Nat.add_mul_mod_self_right]
theorem KL.nil (w : World) (e : TypeId) (s B : Nat) : KL w e s B [] := ⟨fun x hx => (by cases hx), fun x hx => (by cases hx), fun x hx => (by cases hx)⟩
theorem KL.sub {w : World} {e : TypeId} {s B : Nat} {L M : List Ent} (h : KL w e s B L) (hs : ∀ x ∈ M, x ∈ L) : KL w e s B M :=
  ⟨fun x hx => h.row x (hs x hx), fun x hx => h.ge x (hs x hx), fun x hx y hy => h.one x (hs x hx) y (hs y hy)⟩
theorem KL.same {w w' : World} {e : TypeId} {s B : Nat} {L : List Ent} (h : KL w e s B L) (hb : ∀ x ∈ L, ∀ g, x.v.ownBlock = some g → w'.heap[g]? = w.heap[g]?) : KL w' e s B L :=
  ⟨fun x hx => ⟨(h.row x hx).1.same (hb x hx), (h.row x hx).2⟩, h.ge, h.one⟩
theorem KL.lt {w : World} {e : TypeId} {s B : Nat} {L : List Ent} (h : KL w e s B L) {x : Ent} (hx : x ∈ L) : ∀ g, x.v.ownBlock = some g → g < w.heap.size := (h.row x hx).1.lt
theorem KL.below {w w' : World} {e : TypeId} {s B : Nat} {L : List Ent} (h : KL w e s B L) (hb : Below w.heap.size w w') : KL w' e s B L :=
  h.same fun x hx g hg => hb.block g (h.lt hx g hg)
/-- one more list, in a block of its own -/
theorem KL.add {w : World} {e : TypeId} {s B : Nat} {L : List Ent} (h : KL w e s B L) (x : Ent) (hr : Rws w e s x.v x.n (mkF x.c)) (hc : x.c.length = s) (hge : ∀ g, x.v.ownBlock = some g → B ≤ g ∧ ∀ y ∈ L, y.v.ownBlock ≠ some g) : KL w e s B (L ++ [x]) := by
  refine ⟨fun y hy => ?_, fun y hy g hg => ?_, fun y hy z hz g hyg hzg => ?_⟩
  · rcases List.mem_append.1 hy with hy | hy
    · exact h.row y hy
    · rw [List.mem_singleton.1 hy]; exact ⟨hr, hc⟩
  · rcases List.mem_append.1 hy with hy | hy
    · exact h.ge y hy g hg
    · rw [List.mem_singleton.1 hy] at hg; exact (hge g hg).1
  · rcases List.mem_append.1 hy with hy | hy
    · rcases List.mem_append.1 hz with hz | hz
      · exact h.one y hy z hz g hyg hzg
      · rw [List.mem_singleton.1 hz] at hzg
        exact absurd hyg ((hge g hzg).2 y hy)
    · rcases List.mem_append.1 hz with hz | hz
      · rw [List.mem_singleton.1 hy] at hyg
        exact absurd hzg ((hge g hyg).2 z hz)
      · rw [List.mem_singleton.1 hy, List.mem_singleton.1 hz]
/-- marks appended to one of them -/
theorem KL.app {w w' : World} {e : TypeId} {s B : Nat} {L : List Ent} (h : KL w e s B L) (hB : B ≤ w.heap.size) {x : Ent} (hx : x ∈ L) {v' : Value} {q : Nat} {news : List Value}
    (hr : Rws w' e s v' (x.n + q) (fun k => if k < x.n * s then mkF x.c k else news.getD (k - x.n * s) undef)) (hl : news.length = q * s) (hg : Gr e (x.n * s) news.length w w' x.v v') (hnews : ∀ j, j < news.length → news.getD j undef = mkF x.c j) : KL w' e s B (L ++ [⟨v', x.n + q, x.c⟩]) := by
  have hcl := (h.row x hx).2
  have hval : ∀ k, k < (x.n + q) * s → (if k < x.n * s then mkF x.c k else news.getD (k - x.n * s) undef) = mkF x.c k := fun k hk => by
    by_cases h1 : k < x.n * s
    · rw [if_pos h1]
    · rw [if_neg h1, hnews (k - x.n * s) (by rw [hl]; rw [Nat.add_mul] at hk; omega), ← mkF_shift x.c x.n (k - x.n * s), hcl]
      congr 1
      omega
  have hr' : Rws w' e s v' (x.n + q) (mkF x.c) := hr.congr hval
  have hrows : ∀ y ∈ L, Rws w' e s y.v y.n (mkF y.c) := fun y hy => by
    have hy0 := (h.row y hy).1
    rcases hg.how with ⟨g, cur, cur', h1, h2, h3, h4, h5, h6, h7, h8⟩ | ⟨h2, h7, h8⟩
    · by_cases hyg : y.v.ownBlock = some g
      · have hcc : y.c = x.c := h.one y hy x hx g hyg h1
        rcases hy0 with ⟨ev, en⟩ | ⟨g', cap, curY, ev, hgY, hn, hcm, hsz, hf⟩
        · exact .inl ⟨ev, en⟩
        · have eg : g' = g := by rw [ev] at hyg; simpa [Value.ownBlock] using hyg
          subst eg
          have ecur : curY = cur := by rw [h3] at hgY; cases hgY; rfl
          subst ecur
          refine .inr ⟨g', cap, cur', ev, h4, hn, hcm, by rw [h5]; exact hsz, fun k hk => ?_⟩
          by_cases hin : x.n * s ≤ k ∧ k < x.n * s + news.length
          · rcases hr' with ⟨ev', en'⟩ | ⟨g2, cap2, cur2, ev', hg2, -, -, -, hf2⟩
            · rw [ev'] at h2; simp [Value.ownBlock] at h2
            · have eg2 : g2 = g' := by rw [ev'] at h2; simpa [Value.ownBlock] using h2
              subst eg2
              have ecur2 : cur2 = cur' := by rw [h4] at hg2; cases hg2; rfl
              subst ecur2
              rw [hf2 k (by rw [Nat.add_mul]; omega), hcc]
          · rw [h6 k (by omega)]
            exact hf k hk
      · exact hy0.same fun g2 hg2 => h8 g2 (fun e2 => hyg (by rw [hg2, e2]))
    · exact hy0.same fun g2 hg2 => h8 g2 (h.lt hy g2 hg2)
  refine ⟨fun y hy => ?_, fun y hy g hyg => ?_, fun y hy z hz g hyg hzg => ?_⟩
  · rcases List.mem_append.1 hy with hy | hy
    · exact ⟨hrows y hy, (h.row y hy).2⟩
    · rw [List.mem_singleton.1 hy]; exact ⟨hr', hcl⟩
  · rcases List.mem_append.1 hy with hy | hy
    · exact h.ge y hy g hyg
    · rw [List.mem_singleton.1 hy] at hyg
      rcases hg.how with ⟨g', cur, cur', h1, h2, -⟩ | ⟨h2, -⟩
      · have : g' = g := by rw [h2] at hyg; simpa using hyg
        rw [← this]; exact h.ge x hx g' h1
      · have : w.heap.size = g := by rw [h2] at hyg; simpa using hyg
        omega
  · have key : ∀ y ∈ L, y.v.ownBlock = some g → v'.ownBlock = some g → y.c = x.c := fun y hy h1 h2 => by
      rcases hg.how with ⟨g', cur, cur', k1, k2, -⟩ | ⟨k2, -⟩
      · have : g' = g := by rw [k2] at h2; simpa using h2
        subst this
        exact h.one y hy x hx g' h1 k1
      · have : w.heap.size = g := by rw [k2] at h2; simpa using h2
        have := h.lt hy g h1
        omega
    rcases List.mem_append.1 hy with hy | hy
    · rcases List.mem_append.1 hz with hz | hz
      · exact h.one y hy z hz g hyg hzg
      · rw [List.mem_singleton.1 hz] at hzg ⊢
        exact key y hy hyg hzg
    · rcases List.mem_append.1 hz with hz | hz
      · rw [List.mem_singleton.1 hy] at hyg ⊢
        exact (key z hz hzg hyg).symm
      · rw [List.mem_singleton.1 hy, List.mem_singleton.1 hz]
/-- only blocks that marked lists own have changed -/
structure Fl (L : List Ent) (w w' : World) : Prop where
  os : w'.os = w.os
  tape : w'.tape = w.tape
  output : w'.output = w.output
  size : w.heap.size ≤ w'.heap.size
  block : ∀ b, b < w.heap.size → (∀ x ∈ L, x.v.ownBlock ≠ some b) → w'.heap[b]? = w.heap[b]?
theorem Fl.refl (L : List Ent) (w : World) : Fl L w w := ⟨rfl, rfl, rfl, Nat.le_refl _, fun _ _ _ => rfl⟩
theorem Fl.of {L : List Ent} {w w' : World} (h : Below w.heap.size w w') : Fl L w w' := ⟨h.os, h.tape, h.output, h.size, fun b hb _ => h.block b hb⟩
theorem Fl.gr {L : List Ent} {e : TypeId} {c m : Nat} {w w' : World} {x : Ent} {v' : Value} (hx : x ∈ L) (h : Gr e c m w w' x.v v') : Fl L w w' :=
  ⟨h.os, h.tape, h.output, h.size, fun b hb hn => h.other b hb (hn x hx)⟩
/-- one behind the other: what the second owns besides was made since -/
theorem Fl.trans {L M : List Ent} {w w' w'' : World} (h : Fl L w w') (k : Fl M w' w'') (hM : ∀ x ∈ M, x ∈ L ∨ ∀ g, x.v.ownBlock = some g → w.heap.size ≤ g ∨ ∃ y ∈ L, y.v.ownBlock = some g) : Fl L w w'' :=
  ⟨k.os.trans h.os, k.tape.trans h.tape, k.output.trans h.output, Nat.le_trans h.size k.size, fun b hb hn => by
    rw [k.block b (Nat.lt_of_lt_of_le hb h.size) (fun x hx e => ?_)]
    · exact h.block b hb hn
    · rcases hM x hx with h1 | h1
      · exact hn x h1 e
      · rcases h1 b e with h2 | ⟨y, hy, h2⟩
        · omega
        · exact hn y hy h2⟩
end Go.Proofs.Ytfebiemfmiahhab
namespace Go.Proofs.Ytfebiemfmiahhab
open Go.ChangeShapes Go.WideShapes Go.ChangeAt Go.RowKit
set_option linter.unusedVariables false
set_option linter.unusedSimpArgs false
set_option maxRecDepth 100000
set_option maxHeartbeats 8000000
theorem info46 : (Try.prog.info? 46).map (fun i => (i.zero, i.size, i.bytes)) = some (some (.agg #[.int .i64 0, .string ⟨#[]⟩]), 2, 24) := by kernel_rfl
theorem info_parts4 {t : TypeId} {z : Value} {s b : Nat} (h : (Try.prog.info? t).map (fun i => (i.zero, i.size, i.bytes)) = some (some z, s, b)) : ∃ i, Try.prog.info? t = some i ∧ i.zero = some z ∧ i.size = s ∧ i.bytes = b := by
  obtain ⟨i0, hi0, hzz⟩ := Option.map_eq_some_iff.1 h
  simp only [Prod.mk.injEq] at hzz
  exact ⟨i0, hi0, hzz.1, hzz.2.1, hzz.2.2⟩
theorem blk_lt'' {w : World} {b : Nat} {o : Obj} (h : w.heap[b]? = some o) : b < w.heap.size := (Array.getElem?_eq_some_iff.1 h).1
/-- under way: lists that bear marks, and a box that nobody of them owns -/
structure BeS (w0 : World) (e : TypeId) (s B : Nat) (L : List Ent) (bx : Nat) (bo : Option Obj) (c : List Value) (W : World) (M : List Ent) : Prop where
  kl : KL W e s B (L ++ M)
  box : ∀ o, bo = some o → W.heap[bx]? = some o
  fl : Fl L w0 W
  hM : ∀ y ∈ M, y.c = c ∧ ∀ g, y.v.ownBlock = some g → w0.heap.size ≤ g ∨ ∃ x ∈ L, x.v.ownBlock = some g
  nb : ∀ o, bo = some o → ∀ y ∈ L ++ M, y.v.ownBlock ≠ some bx
  hB : B ≤ W.heap.size
theorem BeS.below {w0 W W' : World} {e : TypeId} {s B : Nat} {L : List Ent} {bx : Nat} {bo : Option Obj} {c : List Value} {M : List Ent} (h : BeS w0 e s B L bx bo c W M) (hb : Below W.heap.size W W') : BeS w0 e s B L bx bo c W' M :=
  ⟨h.kl.below hb, fun o ho => (hb.block bx (blk_lt'' (h.box o ho))).trans (h.box o ho), h.fl.trans (Fl.of (L := L) hb) (fun x hx => .inl hx), h.hM, h.nb, Nat.le_trans h.hB hb.size⟩
theorem BeS.step {w0 W : World} {e : TypeId} {s B : Nat} {L : List Ent} {bx : Nat} {bo : Option Obj} {c : List Value} {M : List Ent} (h : BeS w0 e s B L bx bo c W M) {a : Option Addr} {n cap : Nat} (hx : (⟨.slice a n cap, n, c⟩ : Ent) ∈ L ++ M) (q : Nat) (cl : List Value) (hl : cl.length = q * s) (hcl : ∀ j, j < cl.length → cl.getD j undef = mkF c j) :
    Rws (W.alloc (.cells cl.toArray e)) e s (.slice a n cap) n (mkF c) ∧ ∀ v' w', Rws w' e s v' (n + q) (fun k => if k < n * s then mkF c k else cl.getD (k - n * s) undef) → Gr e (n * s) cl.length (W.alloc (.cells cl.toArray e)) w' (.slice a n cap) v' → ∃ a' c', v' = .slice a' (n + q) c' ∧ BeS w0 e s B L bx bo c w' (M ++ [⟨.slice a' (n + q) c', n + q, c⟩]) ∧ (⟨.slice a' (n + q) c', n + q, c⟩ : Ent) ∈ L ++ (M ++ [⟨.slice a' (n + q) c', n + q, c⟩]) ∧ ∀ y ∈ L ++ M, y ∈ L ++ (M ++ [⟨.slice a' (n + q) c', n + q, c⟩]) := by
  have hal : Below W.heap.size W (W.alloc (.cells cl.toArray e)) := (Below.refl _ _).alloc (Nat.le_refl _) _
  have h1 := h.below hal
  refine ⟨(h1.kl.row _ hx).1, fun v' w' hr hg => ?_⟩
  obtain ⟨a', c', rfl⟩ := hr.shape
  have hk := h1.kl.app h1.hB hx hr hl hg hcl
  have hsz : W.heap.size ≤ (W.alloc (.cells cl.toArray e)).heap.size := hal.size
  have hown : ∀ g, (Value.slice a' (n + q) c').ownBlock = some g → (W.alloc (.cells cl.toArray e)).heap.size ≤ g ∨ (Value.slice a n cap).ownBlock = some g := fun g hg' => by
    rcases hg.how with ⟨g', cur, cur', k1, k2, -⟩ | ⟨k2, -⟩
    · have e2 : some g' = some g := k2.symm.trans hg'
      cases e2
      exact .inr k1
    · have e2 := k2.symm.trans hg'
      cases e2
      exact .inl (Nat.le_refl _)
  refine ⟨a', c', rfl, ⟨by rw [List.append_assoc] at hk; exact hk, fun o ho => ?_, ?_, fun y hy => ?_, fun o ho y hy => ?_, ?_⟩, List.mem_append_right _ (List.mem_append_right _ (List.mem_singleton.2 rfl)), fun y hy => ?_⟩
  · rw [hg.other bx (Nat.lt_of_lt_of_le (blk_lt'' (h.box o ho)) hsz) (h.nb o ho _ hx)]
    exact h1.box o ho
  · refine h1.fl.trans (Fl.gr (L := L ++ M) hx hg) (fun x hx => ?_)
    rcases List.mem_append.1 hx with hx | hx
    · exact .inl hx
    · exact .inr (h.hM x hx).2
  · rcases List.mem_append.1 hy with hy | hy
    · exact h.hM y hy
    · rw [List.mem_singleton.1 hy]
      refine ⟨rfl, fun g hg' => ?_⟩
      rcases hown g hg' with h2 | h2
      · left
        have := h.fl.size
        omega
      · rcases List.mem_append.1 hx with hx | hx
        · exact .inr ⟨_, hx, h2⟩
        · exact (h.hM _ hx).2 g h2
  · rw [← List.append_assoc] at hy
    rcases List.mem_append.1 hy with hy | hy
    · exact h.nb o ho y hy
    · rw [List.mem_singleton.1 hy]
      intro e2
      have hbx := blk_lt'' (h.box o ho)
      rcases hown bx e2 with h2 | h2
      · omega
      · exact h.nb o ho _ hx h2
  · exact Nat.le_trans h1.hB hg.size
  · rw [← List.append_assoc]
    exact List.mem_append_left _ hy
/-- its beginning: a box -/
theorem BeS.start {w0 : World} {e : TypeId} {s B : Nat} {L : List Ent} (h : KL w0 e s B L) (hB : B ≤ w0.heap.size) (c : List Value) (cs : Array Value) (t : TypeId) : BeS w0 e s B L w0.heap.size (some (.cells cs t (0, 0))) c (w0.alloc (.cells cs t)) [] := by
  have hal : Below w0.heap.size w0 (w0.alloc (.cells cs t)) := (Below.refl _ _).alloc (Nat.le_refl _) _
  refine ⟨by rw [List.append_nil]; exact h.below hal, fun o ho => by cases ho; exact heap_alloc_new _ _, Fl.of hal, fun y hy => (by cases hy), fun o ho y hy e2 => ?_, Nat.le_trans hB hal.size⟩
  rw [List.append_nil] at hy
  have := h.lt hy _ e2
  omega
/-- without a box -/
theorem BeS.start0 {w0 : World} {e : TypeId} {s B : Nat} {L : List Ent} (h : KL w0 e s B L) (hB : B ≤ w0.heap.size) (c : List Value) (bx : Nat) : BeS w0 e s B L bx none c w0 [] :=
  ⟨by rw [List.append_nil]; exact h, fun o ho => (by cases ho), Fl.refl _ _, fun y hy => (by cases hy), fun o ho => (by cases ho), hB⟩
end Go.Proofs.Ytfebiemfmiahhab
