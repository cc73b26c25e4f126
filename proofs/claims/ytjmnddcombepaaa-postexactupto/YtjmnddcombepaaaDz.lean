/- PostExact: the law's state. -/
import Derived.Test.YtjmnddcombepaaaDy
namespace Go.Proofs.Ytjmnddcombepaaa
open Go.ChangeShapes Go.WideShapes Go.ChangeAt Go.RowKit Go.Maps
set_option linter.unusedVariables false
set_option linter.unusedSimpArgs false
set_option maxRecDepth 100000
set_option maxHeartbeats 8000000
/-- a Post of the program and one of the document, at their pointers -/
def PQ (W : World) (X : Nat → Nat) (κ N : Nat) (u v : Value) : Prop := ∃ p b q S L, u = .pointer (some ⟨p, 0, none⟩) ∧ v = .pointer (some ⟨q, 0, none⟩) ∧ PlOk S L N ∧ (∃ Dt, PostAt W p b Dt S) ∧ (∃ x, RPv W q x L ∧ ∀ g, x.ownBlock = some g → X g = κ) ∧ X p = κ ∧ X b = κ ∧ X q = κ
theorem PlOk.mono {S L : List Key} {N N' : Nat} (h : PlOk S L N) (hn : N ≤ N') : PlOk S L N' := ⟨h.perm, h.nd, h.ok, Nat.le_trans h.len hn⟩
theorem PQ.cx {C : Nat → Prop} {W W' : World} {X X' : Nat → Nat} {κ N N' : Nat} {u v : Value} (h : PQ W X κ N u v) (hc : Cx C X W X' W') (hC : ¬ C κ) (hlt : ∀ g, X g = κ → g < W.heap.size) (hn : N ≤ N') : PQ W' X' κ N' u v := by
  obtain ⟨p, b, q, S, L, e1, e2, hp, ⟨Dt, h1⟩, ⟨x, h2, h3⟩, xp, xb, xq⟩ := h
  have key : ∀ g, X g = κ → W'.heap[g]? = W.heap[g]? ∧ X' g = κ := fun g hg => by
    obtain ⟨z1, z2⟩ := hc.block g (hlt g hg) (by rw [hg]; exact hC)
    exact ⟨z1, z2.trans hg⟩
  exact ⟨p, b, q, S, L, e1, e2, hp.mono hn, ⟨Dt, h1.same (key p xp).1 (key b xb).1⟩, ⟨x, ⟨(key q xq).1.trans h2.cell, h2.row.same fun g hg => (key g (h3 g hg)).1⟩, fun g hg => (key g (h3 g hg)).2⟩, (key p xp).2, (key b xb).2, (key q xq).2⟩
/-- m of the twelve Posts stand -/
structure LW (w0 W : World) (X : Nat → Nat) (bp ap aq : Nat) (D : BD) (m N : Nat) : Prop where
  bel : Below w0.heap.size w0 W
  bk : BK W X w0.heap.size bp D
  arr : ∃ ca cq : Array Value, W.heap[ap]? = some (.cells ca 55 (0, 0)) ∧ W.heap[aq]? = some (.cells cq 57 (0, 0)) ∧ ca.size = 12 ∧ cq.size = 12 ∧ ∀ i, i < m → ∃ u v, ca[i]? = some u ∧ cq[i]? = some v ∧ PQ W X (10 + i) N u v
  xap : X ap = 30
  xaq : X aq = 30
theorem LW.lt {w0 W : World} {X : Nat → Nat} {bp ap aq : Nat} {D : BD} {m N : Nat} (h : LW w0 W X bp ap aq D m N) : ∀ k g, k ≠ 0 → X g = k → g < W.heap.size := fun k g hk hg => (h.bk.lt g (by omega)).1
theorem LW.ne {w0 W : World} {X : Nat → Nat} {bp ap aq : Nat} {D : BD} {m N : Nat} (h : LW w0 W X bp ap aq D m N) : ap ≠ aq := fun e => by
  obtain ⟨ca, cq, h1, h2, -⟩ := h.arr
  rw [e, h2] at h1
  simp at h1
theorem LW.below {w0 W W' : World} {X : Nat → Nat} {bp ap aq : Nat} {D : BD} {m N : Nat} (h : LW w0 W X bp ap aq D m N) (hb : Below W.heap.size W W') : LW w0 W' X bp ap aq D m N := by
  obtain ⟨ca, cq, h1, h2, h3, h4, h5⟩ := h.arr
  refine ⟨h.bel.trans (hb.mono h.bel.size), h.bk.below hb, ⟨ca, cq, (hb.block _ (blk_lt h1)).trans h1, (hb.block _ (blk_lt h2)).trans h2, h3, h4, fun i hi => ?_⟩, h.xap, h.xaq⟩
  obtain ⟨u, v, e1, e2, hq⟩ := h5 i hi
  exact ⟨u, v, e1, e2, hq.cx (C := fun _ => False) (Cx.of hb) (fun z => z) (fun g hg => h.lt _ g (by omega) hg) (Nat.le_refl _)⟩
/-- one more Post -/
theorem LW.more {w0 W wa wc : World} {X : Nat → Nat} {bp ap aq : Nat} {D : BD} {m N : Nat} (h : LW w0 W X bp ap aq D m N) (hm : m < 12) (b1 : Below W.heap.size W wa) (p1 : PostAt wa (W.heap.size + 1) W.heap.size (.map []) [])
    (b2 : Below (wa.setCell ⟨ap, m, none⟩ (.pointer (some ⟨W.heap.size + 1, 0, none⟩))).heap.size (wa.setCell ⟨ap, m, none⟩ (.pointer (some ⟨W.heap.size + 1, 0, none⟩))) wc) (r : RPv wc (wa.setCell ⟨ap, m, none⟩ (.pointer (some ⟨W.heap.size + 1, 0, none⟩))).heap.size (.slice none 0 0) []) :
    ∃ X', LW w0 (wc.setCell ⟨aq, m, none⟩ (.pointer (some ⟨(wa.setCell ⟨ap, m, none⟩ (.pointer (some ⟨W.heap.size + 1, 0, none⟩))).heap.size, 0, none⟩))) X' bp ap aq D (m + 1) N := by
  obtain ⟨ca, cq, h1, h2, h3, h4, h5⟩ := h.arr
  have hne := h.ne
  have la := blk_lt h1
  have lq := blk_lt h2
  have sb : (wa.setCell ⟨ap, m, none⟩ (.pointer (some ⟨W.heap.size + 1, 0, none⟩))).heap.size = wa.heap.size := by simp [World.setCell]
  rw [sb] at b2 r ⊢
  have lp := p1.lt
  have lr := r.lt
  have sa := b1.size
  have sc := b2.size
  have sd : (wc.setCell ⟨aq, m, none⟩ (.pointer (some ⟨wa.heap.size, 0, none⟩))).heap.size = wc.heap.size := by simp [World.setCell]
  have e1 := (b1.block ap la).trans h1
  have e2 := heap_setCell_same wa ap m ca 55 (.pointer (some ⟨W.heap.size + 1, 0, none⟩)) e1
  have e3 : (wc.setCell ⟨aq, m, none⟩ (.pointer (some ⟨wa.heap.size, 0, none⟩))).heap[ap]? = some (.cells (ca.setIfInBounds m (.pointer (some ⟨W.heap.size + 1, 0, none⟩))) 55 (0, 0)) := by
    rw [set_other _ _ _ _ _ hne, b2.block ap (by omega)]; exact e2
  have f1 := (b1.block aq lq).trans h2
  have f2 : wc.heap[aq]? = some (.cells cq 57 (0, 0)) := by rw [b2.block aq (by omega), set_other _ _ _ _ _ hne.symm]; exact f1
  have f3 := heap_setCell_same wc aq m cq 57 (.pointer (some ⟨wa.heap.size, 0, none⟩)) f2
  have key : ∀ g, g < wa.heap.size → g ≠ ap → g ≠ aq → (wc.setCell ⟨aq, m, none⟩ (.pointer (some ⟨wa.heap.size, 0, none⟩))).heap[g]? = wa.heap[g]? := fun g hg z1 z2 => by
    rw [set_other _ _ _ _ _ z2, b2.block g hg, set_other _ _ _ _ _ z1]
  have hB0 := h.bel.size
  let X' : Nat → Nat := fun g => if g = W.heap.size ∨ g = W.heap.size + 1 ∨ g = wa.heap.size then 10 + m else X g
  have hX : ∀ g, g < W.heap.size → X' g = X g := fun g hg => if_neg (by omega)
  have hX1 : ∀ g, g = W.heap.size ∨ g = W.heap.size + 1 ∨ g = wa.heap.size → X' g = 10 + m := fun g hg => if_pos hg
  have hcx : Cx (fun k => k = 30) X W X' (wc.setCell ⟨aq, m, none⟩ (.pointer (some ⟨wa.heap.size, 0, none⟩))) := ⟨b2.os.trans b1.os, b2.tape.trans b1.tape, b2.output.trans b1.output, by rw [sd]; omega, fun g hg hn => ⟨(key g (by omega) (fun e => hn (by rw [e]; exact h.xap)) (fun e => hn (by rw [e]; exact h.xaq))).trans (b1.block g hg), hX g hg⟩⟩
  refine ⟨X', ⟨hcx.os.trans h.bel.os, hcx.tape.trans h.bel.tape, hcx.output.trans h.bel.output, by rw [sd]; omega, fun g hg => ?_⟩, h.bk.cx hcx (fun k hk => .inr (by omega)) (fun g hg => ?_), ⟨_, _, e3, f3, by simpa using h3, by simpa using h4, fun i hi => ?_⟩, (hX ap la).trans h.xap, (hX aq lq).trans h.xaq⟩
  · have hg2 : g < W.heap.size := by omega
    rw [(hcx.block g hg2 (fun z => by have := (h.bk.lt g (by omega)).2; omega)).1]
    exact h.bel.block g hg
  · by_cases z : g = W.heap.size ∨ g = W.heap.size + 1 ∨ g = wa.heap.size
    · rw [sd]; omega
    · have : X' g = X g := if_neg z
      rw [this] at hg
      have := h.bk.lt g hg
      rw [sd]; omega
  · by_cases him : i < m
    · obtain ⟨u, v, z1, z2, hq⟩ := h5 i him
      exact ⟨u, v, by rw [Array.getElem?_setIfInBounds_ne (by omega)]; exact z1, by rw [Array.getElem?_setIfInBounds_ne (by omega)]; exact z2, hq.cx hcx (by omega) (fun g hg => h.lt _ g (by omega) hg) (Nat.le_refl _)⟩
    · obtain rfl : i = m := by omega
      refine ⟨_, _, Array.getElem?_setIfInBounds_self_of_lt (by omega), Array.getElem?_setIfInBounds_self_of_lt (by omega), W.heap.size + 1, W.heap.size, wa.heap.size, [], [], rfl, rfl, ⟨List.Perm.refl _, List.nodup_nil, fun k hk => (by cases hk), Nat.zero_le _⟩, ⟨.map [], p1.same (key _ lp.1 (by omega) (by omega)) (key _ lp.2 (by omega) (by omega))⟩, ⟨.slice none 0 0, ⟨?_, .inl ⟨rfl, rfl⟩⟩, fun g hg => (by cases hg)⟩, hX1 _ (by omega), hX1 _ (by omega), hX1 _ (by omega)⟩
      rw [set_other _ _ _ _ _ (by omega)]
      exact r.cell
/-- where the k-th Posts lie -/
theorem LW.at {w0 W : World} {X : Nat → Nat} {bp ap aq : Nat} {D : BD} {m N : Nat} (h : LW w0 W X bp ap aq D m N) {k : Nat} (hk : k < m) (hm : m ≤ 12) : ∃ p b q S L, W.cell? ⟨ap, k, none⟩ = some (.pointer (some ⟨p, 0, none⟩)) ∧ W.cell? ⟨aq, k, none⟩ = some (.pointer (some ⟨q, 0, none⟩)) ∧ PlOk S L N ∧ SV W W X X (10 + k) w0.heap.size bp p b q D S L ∧ (∀ w', StEnd W X (10 + k) w0.heap.size bp p b q N w' → (∃ X' D', LW w0 w' X' bp ap aq D' m (N + 1)) ∧ w'.cell? ⟨ap, k, none⟩ = some (.pointer (some ⟨p, 0, none⟩)) ∧ w'.cell? ⟨aq, k, none⟩ = some (.pointer (some ⟨q, 0, none⟩))) := by
  obtain ⟨ca, cq, h1, h2, h3, h4, h5⟩ := h.arr
  obtain ⟨u, v, z1, z2, p, b, q, S, L, rfl, rfl, hp, hpo, hdo, xp, xb, xq⟩ := h5 k hk
  refine ⟨p, b, q, S, L, by rw [cell_blk h1]; exact z1, by rw [cell_blk h2]; exact z2, hp, ⟨h.bk, hpo, hdo, xp, xb, xq, by omega, Cx.refl _ _ _, h.bel.size⟩, fun w' hw => ?_⟩
  obtain ⟨S', L', hp', X', D', hs⟩ := hw
  have hcx := hs.cx
  have ea := (hcx.block ap (blk_lt h1) (fun z => by unfold CK at z; have := h.xap; omega)).1.trans h1
  have eq := (hcx.block aq (blk_lt h2) (fun z => by unfold CK at z; have := h.xaq; omega)).1.trans h2
  refine ⟨⟨X', D', ⟨hcx.os.trans h.bel.os, hcx.tape.trans h.bel.tape, hcx.output.trans h.bel.output, Nat.le_trans h.bel.size hcx.size, fun g hg => ?_⟩, hs.bk, ⟨ca, cq, ?_, ?_, h3, h4, fun i hi => ?_⟩, ?_, ?_⟩, (by rw [cell_blk ea]; exact z1), (by rw [cell_blk eq]; exact z2)⟩
  · have hx : X g = 0 := by
      by_cases e : X g = 0
      · exact e
      · have := (h.bk.lt g e).2; omega
    rw [(hcx.block g (Nat.lt_of_lt_of_le hg h.bel.size) (fun z => by unfold CK at z; omega)).1]
    exact h.bel.block g hg
  · exact (hcx.block ap (blk_lt h1) (fun z => by unfold CK at z; have := h.xap; omega)).1.trans h1
  · exact (hcx.block aq (blk_lt h2) (fun z => by unfold CK at z; have := h.xaq; omega)).1.trans h2
  · by_cases e : i = k
    · subst e
      exact ⟨_, _, z1, z2, p, b, q, S', L', rfl, rfl, hp', hs.post, hs.doc, hs.xp, hs.xb, hs.xq⟩
    · obtain ⟨u', v', y1, y2, hq⟩ := h5 i hi
      exact ⟨u', v', y1, y2, hq.cx hcx (fun z => by unfold CK at z; omega) (fun g hg => h.lt _ g (by omega) hg) (Nat.le_succ _)⟩
  · exact (hcx.block ap (blk_lt h1) (fun z => by unfold CK at z; have := h.xap; omega)).2.trans h.xap
  · exact (hcx.block aq (blk_lt h2) (fun z => by unfold CK at z; have := h.xaq; omega)).2.trans h.xaq
/-- a step of the script -/
structure OpE where
  kd : Int
  on : Int
  cn : Int
  na : Option Addr
  nc : Nat
  pt : Bool
  T : List UInt8
def OpsAt (w : World) (a : Option Addr) (l : List OpE) : Prop := l = [] ∨ ∃ b off, a = some ⟨b, off, none⟩ ∧ b < w.heap.size ∧ ∀ i x, l[i]? = some x → w.cell? ⟨b, off + i * 5, none⟩ = some (.int .i64 x.kd) ∧ w.cell? ⟨b, off + i * 5 + 1, none⟩ = some (.int .i64 x.on) ∧ w.cell? ⟨b, off + i * 5 + 2, none⟩ = some (.int .i64 x.cn) ∧ w.cell? ⟨b, off + i * 5 + 3, none⟩ = some (.slice x.na x.T.length x.nc) ∧ w.cell? ⟨b, off + i * 5 + 4, none⟩ = some (.bool x.pt)
structure OpOk (w : World) (x : OpE) : Prop where
  on : -9223372036854775808 ≤ x.on ∧ x.on ≤ 9223372036854775807
  cn : -9223372036854775808 ≤ x.cn ∧ x.cn ≤ 9223372036854775807
  T : x.T.length ≤ 1073741824
  B : Bytes w x.na (nb x.T)
theorem exact_law (w : World) (a : Option Addr) (n cap : Nat) (l : List OpE) (hn : n = l.length) (hl : OpsAt w a l) (hok : ∀ x ∈ l, OpOk w x) :
    Calls Try.prog 7 #[.slice a n cap] w fun e w' => e = .returned (.bool true) ∧ Hid (Below w.heap.size w w') := by
  obtain ⟨G, hG⟩ := glob_is
  have HN := hide hn
  have HL := hide hl
  have HO := hide hok
  clear hn hl hok
  go_enter Try.func7, Try.ntmps7
  go_wp2_with (first
    | (go_at_call 26; with_reducible refine (begun_any _).mono ?_; rintro e w1 ⟨rfl, k1⟩))
  have e12 : (#[Value.pointer none, Value.pointer none, Value.pointer none, Value.pointer none, Value.pointer none, Value.pointer none, Value.pointer none, Value.pointer none, Value.pointer none, Value.pointer none, Value.pointer none, Value.pointer none] : Array Value).size = 12 := rfl
  generalize (#[Value.pointer none, Value.pointer none, Value.pointer none, Value.pointer none, Value.pointer none, Value.pointer none, Value.pointer none, Value.pointer none, Value.pointer none, Value.pointer none, Value.pointer none, Value.pointer none] : Array Value) = c12 at e12 ⊢
  obtain ⟨X0, H0⟩ : ∃ X0, Hid (LW w (((w1.alloc (.cells c12 55)).alloc (.cells c12 57)).alloc (.cells #[.slice none 0 0, .slice none 0 0, .slice none 0 0, .slice none 0 0] 63)) X0 (w1.heap.size + 1 + 1) w1.heap.size (w1.heap.size + 1) ⟨[], [], none, 0, 0, none, 0, 0, none, 0, none, 0⟩ 0 0) := by
    have hs1 := (unhide k1).size
    have n1 := heap_alloc_new w1 (.cells c12 55)
    have n2 := heap_alloc_new (w1.alloc (.cells c12 55)) (.cells c12 57)
    have n3 := heap_alloc_new ((w1.alloc (.cells c12 55)).alloc (.cells c12 57)) (.cells #[.slice none 0 0, .slice none 0 0, .slice none 0 0, .slice none 0 0] 63)
    have o2 : ((w1.alloc (.cells c12 55)).alloc (.cells c12 57)).heap[w1.heap.size]? = _ := (heap_alloc_old (w1.alloc (.cells c12 55)) (.cells c12 57) (by simp)).trans n1
    have o3 := (heap_alloc_old ((w1.alloc (.cells c12 55)).alloc (.cells c12 57)) (.cells #[.slice none 0 0, .slice none 0 0, .slice none 0 0, .slice none 0 0] 63) (r := w1.heap.size) (by simp; omega)).trans o2
    have s2 : (w1.alloc (.cells c12 55)).heap.size = w1.heap.size + 1 := by simp
    have s3 : ((w1.alloc (.cells c12 55)).alloc (.cells c12 57)).heap.size = w1.heap.size + 1 + 1 := by simp
    rw [s2] at n2
    rw [s3] at n3
    have o4 := (heap_alloc_old ((w1.alloc (.cells c12 55)).alloc (.cells c12 57)) (.cells #[.slice none 0 0, .slice none 0 0, .slice none 0 0, .slice none 0 0] 63) (r := w1.heap.size + 1) (by simp)).trans n2
    have hb := (((unhide k1).alloc (unhide k1).size (.cells c12 55)).alloc (by rw [s2]; omega) (.cells c12 57)).alloc (by rw [s3]; omega) (.cells #[.slice none 0 0, .slice none 0 0, .slice none 0 0, .slice none 0 0] 63)
    refine ⟨fun g => if g = w1.heap.size + 1 + 1 then 1 else if g = w1.heap.size ∨ g = w1.heap.size + 1 then 30 else 0, hide ⟨hb, ⟨fun g hg => ?_, n3, if_pos rfl, KL.nil _ _ _ _, fun x hx => (by cases hx), KL.nil _ _ _ _, fun x hx => (by cases hx), .inl ⟨rfl, rfl⟩, fun g hg => (by cases hg), .inl ⟨rfl, rfl⟩, fun g hg => (by cases hg), .inl ⟨rfl, rfl⟩, fun g hg => (by cases hg), .inl ⟨rfl, rfl⟩, fun g hg => (by cases hg), rfl, rfl, Nat.zero_le _, Nat.zero_le _, fun x hx => (by cases hx), fun x hx => (by cases hx)⟩, ⟨c12, c12, o3, o4, e12, e12, fun i hi => by omega⟩, ?_, ?_⟩⟩
    · have s4 : (((w1.alloc (.cells c12 55)).alloc (.cells c12 57)).alloc (.cells #[.slice none 0 0, .slice none 0 0, .slice none 0 0, .slice none 0 0] 63)).heap.size = w1.heap.size + 1 + 1 + 1 := by simp
      rw [s4]
      by_cases z1 : g = w1.heap.size + 1 + 1
      · omega
      · by_cases z2 : g = w1.heap.size ∨ g = w1.heap.size + 1
        · omega
        · exact absurd (by rw [if_neg z1, if_neg z2]) hg
    · rw [if_neg (by omega), if_pos (.inl rfl)]
    · rw [if_neg (by omega), if_pos (.inr rfl)]
  generalize (((w1.alloc (.cells c12 55)).alloc (.cells c12 57)).alloc (.cells #[.slice none 0 0, .slice none 0 0, .slice none 0 0, .slice none 0 0] 63)) = wA at H0 ⊢
  generalize w1.heap.size + 1 + 1 = bp at H0 ⊢
  generalize w1.heap.size + 1 = aq at H0 ⊢
  generalize w1.heap.size = ap at H0 ⊢
  clear k1 e12
  go_loopw [6] (fun iv wr => ∃ m : Nat, iv = .int .i64 ((m : Nat) : Int) ∧ m ≤ 12 ∧ Hid (∃ X D, LW w wr X bp ap aq D m 0)) (fun iv _ => 12 - (intOf iv).toNat)
  case atStart => exact ⟨0, rfl, by omega, hide ⟨X0, _, unhide H0⟩⟩
  case round =>
    clear H0
    obtain ⟨m, rfl, hm, HW⟩ := hrel
    by_cases hm2 : m < 12
    · have f1 : decide ((m : Int) < 12) = true := decide_eq_true (by omega)
      have f2 : decide (m < 12) = true := decide_eq_true hm2
      have g1 : (0 : Int) ≤ (m : Int) := by omega
      have g2 : (m : Int) < 12 := by omega
      obtain ⟨X, D, HX⟩ : ∃ X D, Hid (LW w wr X bp ap aq D m 0) := by obtain ⟨X, D, z⟩ := unhide HW; exact ⟨X, D, hide z⟩
      have HA : Hid (∀ V, Below wr.heap.size wr V → (∃ u, V.cell? ⟨ap, m, none⟩ = some u) ∧ V.frozen? ⟨ap, m, none⟩ = false) := hide (fun V hb => by
        obtain ⟨ca, cq, z1, z2, z3, z4, -⟩ := (unhide HX).arr
        have e := (hb.block ap (blk_lt z1)).trans z1
        exact ⟨⟨ca[m]'(by omega), by rw [cell_blk e, Array.getElem?_eq_getElem (by omega)]⟩, by simp [World.frozen?, e]⟩)
      have HQ : Hid (∀ V, Below wr.heap.size wr V → ∀ u V2, Below (V.setCell ⟨ap, m, none⟩ u).heap.size (V.setCell ⟨ap, m, none⟩ u) V2 → (∃ u, V2.cell? ⟨aq, m, none⟩ = some u) ∧ V2.frozen? ⟨aq, m, none⟩ = false ∧ ∀ t, (V2.setCell ⟨aq, m, none⟩ t).cell? ⟨ap, m, none⟩ = some u) := hide (fun V hb u V2 h2 => by
        obtain ⟨ca, cq, z1, z2, z3, z4, -⟩ := (unhide HX).arr
        have hne := (unhide HX).ne
        have sb : (V.setCell ⟨ap, m, none⟩ u).heap.size = V.heap.size := by simp [World.setCell]
        have l1 := blk_lt z1
        have l2 := blk_lt z2
        have ls := hb.size
        have e := (hb.block aq l2).trans z2
        have e2 : V2.heap[aq]? = some (.cells cq 57 (0, 0)) := by rw [h2.block aq (by omega), set_other _ _ _ _ _ hne.symm]; exact e
        have a1 := (hb.block ap l1).trans z1
        have a2 := heap_setCell_same V ap m ca 55 u a1
        refine ⟨⟨cq[m]'(by omega), by rw [cell_blk e2, Array.getElem?_eq_getElem (by omega)]⟩, by simp [World.frozen?, e2], fun t => ?_⟩
        have a3 : (V2.setCell ⟨aq, m, none⟩ t).heap[ap]? = some (.cells (ca.setIfInBounds m u) 55 (0, 0)) := by rw [set_other _ _ _ _ _ hne, h2.block ap (by omega)]; exact a2
        rw [cell_blk a3, Array.getElem?_setIfInBounds_self_of_lt (by omega)])
      go_wp2_with (first
        | (go_at_call 8; with_reducible refine (new_any _).mono ?_; rintro e wa ⟨rfl, ka⟩; obtain ⟨⟨ua, xa⟩, xf⟩ := (unhide HA) wa (unhide ka).2)
        | (go_at_call 27; with_reducible refine (dnew2 _).mono ?_; rintro e wc ⟨rfl, kc⟩; obtain ⟨⟨uc, yc⟩, yf, yt⟩ := (unhide HQ) wa (unhide ka).2 _ wc (unhide kc).2.1; have yu := yt (.pointer (some ⟨(wa.setCell ⟨ap, m, none⟩ (.pointer (some ⟨wr.heap.size + 1, 0, none⟩))).heap.size, 0, none⟩))))
      obtain ⟨X', hX'⟩ := (unhide HX).more hm2 (unhide ka).2 (unhide ka).1 (unhide kc).2.1 (unhide kc).1
      rw [show (wa.setCell ⟨ap, m, none⟩ (.pointer (some ⟨wr.heap.size + 1, 0, none⟩))).heap.size = wa.heap.size from by simp [World.setCell]] at hX'
      exact ⟨⟨m + 1, congrArg (Value.int .i64) (by omega), by omega, hide ⟨X', D, hX'⟩⟩, by simp [intOf]; omega⟩
    · obtain rfl : m = 12 := by omega
      have f1 : decide ((12 : Int) < 12) = false := by decide
      rw [show ((12 : Nat) : Int) = 12 from rfl]
      go_wp2_with fail
      go_loopw [7] (fun iv wr => ∃ i : Nat, iv = .int .i64 ((i : Nat) : Int) ∧ i ≤ n ∧ i ≤ 4096 ∧ Hid (∃ X D, LW w wr X bp ap aq D 12 i)) (fun iv _ => 4096 - (intOf iv).toNat)
      case atStart => exact ⟨0, rfl, Nat.zero_le _, Nat.zero_le _, HW⟩
      case round =>
        clear HW
        rename World => wq
        obtain ⟨i, rfl, hin, hi4, HW⟩ := hrel
        by_cases hi : i < n
        · have p1 : decide ((i : Int) < (n : Int)) = true := decide_eq_true (by omega)
          have p2 : decide (i < n) = true := decide_eq_true hi
          have r1 : (0 : Int) ≤ (i : Int) := by omega
          have r2 : (i : Int) < (n : Int) := by omega
          by_cases hi5 : i < 4096
          · have p3 : decide ((i : Int) < 4096) = true := decide_eq_true (by omega)
            have p4 : decide (i < 4096) = true := decide_eq_true hi5
            obtain ⟨X, D, HX⟩ : ∃ X D, Hid (LW w wq X bp ap aq D 12 i) := by obtain ⟨X, D, z⟩ := unhide HW; exact ⟨X, D, hide z⟩
            obtain ⟨x, hx⟩ : ∃ x, l[i]? = some x := ⟨_, List.getElem?_eq_getElem (by have := unhide HN; omega)⟩
            obtain ⟨b, off, rfl, hb, s0, s1, s2, s3, s4⟩ : ∃ b off, a = some ⟨b, off, none⟩ ∧ b < w.heap.size ∧ w.cell? ⟨b, off + i * 5, none⟩ = some (.int .i64 x.kd) ∧ w.cell? ⟨b, off + i * 5 + 1, none⟩ = some (.int .i64 x.on) ∧ w.cell? ⟨b, off + i * 5 + 2, none⟩ = some (.int .i64 x.cn) ∧ w.cell? ⟨b, off + i * 5 + 3, none⟩ = some (.slice x.na x.T.length x.nc) ∧ w.cell? ⟨b, off + i * 5 + 4, none⟩ = some (.bool x.pt) := by
              rcases unhide HL with z | ⟨b, off, e, hb, hc⟩
              · rw [z] at hx; simp at hx
              · exact ⟨b, off, e, hb, hc i x hx⟩
            have hxo := (unhide HO) x (List.mem_of_getElem? hx)
            obtain ⟨kd, on, cn, na, nc, pt, T⟩ := x
            dsimp only at s0 s1 s2 s3 s4
            have t0 := s0
            have t1 := s1
            have t2 := s2
            have t3 := s3
            have t4 := s4
            have HXO : Hid (OpOk w ⟨kd, on, cn, na, nc, pt, T⟩) := hide hxo
            have hb0 := (unhide HX).bel
            have s0 := (hb0.cell (p := ⟨b, off + i * 5, none⟩) hb).trans s0
            have s1 := (hb0.cell (p := ⟨b, off + i * 5 + 1, none⟩) hb).trans s1
            have s2 := (hb0.cell (p := ⟨b, off + i * 5 + 2, none⟩) hb).trans s2
            have s3 := (hb0.cell (p := ⟨b, off + i * 5 + 3, none⟩) hb).trans s3
            have s4 := (hb0.cell (p := ⟨b, off + i * 5 + 4, none⟩) hb).trans s4
            have C9 := within12 wq on hxo.on
            clear hx hxo hb0
            go_wp2_with (go_at_call 9; refine C9.mono ?_; clear C9; rintro e w9 ⟨k, hk, rfl, h9⟩; obtain rfl := h9.symm)
            have k1 : (0 : Int) ≤ (k : Int) := by omega
            have k2 : (k : Int) < 12 := by omega
            obtain ⟨p, b', q, S, L, xp, xq, hp, hsv, hst⟩ := ((unhide HX).below (Below.refl wq.heap.size wq).drew).at hk (Nat.le_refl _)
            have C28 := step_any G hG wq.drew X (10 + k) w.heap.size bp p b' q D S L i kd on cn na T.length nc pt T hsv hp (by omega) (unhide HXO).cn (unhide HXO).T rfl (((unhide HXO).B.below' (unhide HX).bel).below' (Below.refl wq.heap.size wq).drew)
            have HST := hide hst
            have xp' : wq.cell? ⟨ap, k, none⟩ = some (.pointer (some ⟨p, 0, none⟩)) := xp
            have xq' : wq.cell? ⟨aq, k, none⟩ = some (.pointer (some ⟨q, 0, none⟩)) := xq
            clear hp hsv hst xp xq
            go_region_held3 (fun V => V.cell? ⟨ap, k, none⟩ = some (.pointer (some ⟨p, 0, none⟩)) ∧ V.cell? ⟨aq, k, none⟩ = some (.pointer (some ⟨q, 0, none⟩)) ∧ V.cell? ⟨b, off + i * 5, none⟩ = some (.int .i64 kd) ∧ V.cell? ⟨b, off + i * 5 + 1, none⟩ = some (.int .i64 on) ∧ V.cell? ⟨b, off + i * 5 + 2, none⟩ = some (.int .i64 cn) ∧ V.cell? ⟨b, off + i * 5 + 3, none⟩ = some (.slice na T.length nc) ∧ V.cell? ⟨b, off + i * 5 + 4, none⟩ = some (.bool pt)) (first | exact ⟨y1, y2, v0, v1, v2, v3, v4⟩ | exact ⟨xp', xq', s0, s1, s2, s3, s4⟩ | go_keep) (first | (go_at_call 28; (with_reducible refine C28.mono ?_); clear C28; rintro e w10 ⟨rfl, H10⟩; obtain ⟨X2, D2, HX2, y1, y2⟩ : ∃ X' D', Hid (LW w w10 X' bp ap aq D' 12 (i + 1)) ∧ w10.cell? ⟨ap, k, none⟩ = some (.pointer (some ⟨p, 0, none⟩)) ∧ w10.cell? ⟨aq, k, none⟩ = some (.pointer (some ⟨q, 0, none⟩)) := (by obtain ⟨⟨X', D', z1⟩, z2, z3⟩ := (unhide HST) w10 (unhide H10); exact ⟨X', D', hide z1, z2, z3⟩); have v0 : w10.cell? ⟨b, off + i * 5, none⟩ = some (.int .i64 kd) := ((unhide HX2).bel.cell (p := ⟨b, off + i * 5, none⟩) hb).trans t0; have v1 : w10.cell? ⟨b, off + i * 5 + 1, none⟩ = some (.int .i64 on) := ((unhide HX2).bel.cell (p := ⟨b, off + i * 5 + 1, none⟩) hb).trans t1; have v2 : w10.cell? ⟨b, off + i * 5 + 2, none⟩ = some (.int .i64 cn) := ((unhide HX2).bel.cell (p := ⟨b, off + i * 5 + 2, none⟩) hb).trans t2; have v3 : w10.cell? ⟨b, off + i * 5 + 3, none⟩ = some (.slice na T.length nc) := ((unhide HX2).bel.cell (p := ⟨b, off + i * 5 + 3, none⟩) hb).trans t3; have v4 : w10.cell? ⟨b, off + i * 5 + 4, none⟩ = some (.bool pt) := ((unhide HX2).bel.cell (p := ⟨b, off + i * 5 + 4, none⟩) hb).trans t4))
            have C29 := look_any w10 X2 w.heap.size bp D2 (unhide HX2).bk
            go_wp2_with (go_at_call 29; refine C29.mono ?_; clear C29; rintro e w11 ⟨rfl, H11⟩)
            all_goals go_roundw
            case rel => exact ⟨i + 1, by go_num, by omega, by omega, hide ⟨X2, D2, (unhide HX2).below (unhide H11)⟩⟩
            case measure => simp [intOf]; omega
          · have p3 : decide ((i : Int) < 4096) = false := decide_eq_false (by omega)
            have p4 : decide (i < 4096) = false := decide_eq_false hi5
            have HB := hide (by obtain ⟨X, D, z⟩ := unhide HW; exact z.bel : Below w.heap.size w wq)
            go_wp2_with fail
            go_ret
            exact ⟨rfl, HB⟩
        · have p1 : decide ((i : Int) < (n : Int)) = false := decide_eq_false (by omega)
          have p2 : decide (i < n) = false := decide_eq_false hi
          have HB := hide (by obtain ⟨X, D, z⟩ := unhide HW; exact z.bel : Below w.heap.size w wq)
          go_wp2_with fail
          go_ret
          exact ⟨rfl, HB⟩
end Go.Proofs.Ytjmnddcombepaaa
