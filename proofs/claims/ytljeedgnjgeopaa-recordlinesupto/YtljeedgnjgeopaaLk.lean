/- record: the law RecordLines. -/
import Derived.Test.YtljeedgnjgeopaaLi
import Derived.Test.YtljeedgnjgeopaaZi
namespace Go.Proofs.Ytljeedgnjgeopaa
open Go.ChangeShapes Go.WideShapes Go.ChangeAt Go.RowKit Go.Shelf
set_option linter.unusedVariables false
set_option linter.unusedSimpArgs false
set_option maxRecDepth 100000
set_option maxHeartbeats 4000000
/-- entries that come in -/
def EI (w : World) (a : Option Addr) (es : List Larder.EntI) : Prop := es = [] ∨ ∃ b off, a = some ⟨b, off, none⟩ ∧ b < w.heap.size ∧ ∀ i x, es[i]? = some x → w.cell? ⟨b, off + i * 3, none⟩ = some (.int .i64 x.seq) ∧ w.cell? ⟨b, off + i * 3 + 1, none⟩ = some (.int .u64 (x.now : Nat)) ∧ ∃ xa xc, w.cell? ⟨b, off + i * 3 + 2, none⟩ = some (.slice xa x.group.length xc) ∧ GrpI w xa x.group
/-- their bounds -/
def QE (x : Larder.EntI) : Prop := x.seq < 9223372036854775808 ∧ BdL x.group ∧ BdB x.group ∧ Larder.SmallG x.group
structure Mid (w : World) (M eb : Nat) (A : List (Int × List LT)) (sq : Int) (nw : Nat) (a : Option Addr) (gn c : Nat) (la : Option Addr) (ln lc : Nat) (W : World) : Prop where
  bel : Below w.heap.size w W
  box : W.heap[eb]? = some (.cells #[.int .i64 sq, .int .u64 (nw : Nat), .slice a gn c] 41 (0, 0))
  aq : AQ W (.slice a gn c) A (fun _ => False)
  tr : TR W (.slice la ln lc) (A.flatMap (·.2))
  ln : ∀ p ∈ A.flatMap (·.2), Ld.Lent W w.heap.size p.1 p.2.1 p.2.2
  lo : ∀ p ∈ A.flatMap (·.2), p.1 < M
  nd : ((A.flatMap (·.2)).map (·.1)).Nodup
  sz : M ≤ W.heap.size
  wz : w.heap.size ≤ W.heap.size
theorem Mid.of {w w2 : World} {A : List (Int × List LT)} {sq : Int} {nw gn c ln lc : Nat} {a la : Option Addr} (h : LeN w A (.slice a gn c) (.slice la ln lc) w2) : Mid w (w2.heap.size + 1) w2.heap.size A sq nw a gn c la ln lc (w2.alloc (.cells #[.int .i64 sq, .int .u64 (nw : Nat), .slice a gn c] 41)) := by
  have hb := (Below.refl w2.heap.size w2).alloc (Nat.le_refl _) (.cells #[.int .i64 sq, .int .u64 (nw : Nat), .slice a gn c] 41)
  refine ⟨h.bel.trans (hb.mono h.bel.size), heap_alloc_new _ _, ?_, h.l.kt (p := fun _ => True) (Kt.of hb) trivial, fun p hp => (h.ln p hp).below hb, fun p hp => ?_, h.nd, by simp, Nat.le_trans h.bel.size hb.size⟩
  · obtain ⟨f, h1, h2⟩ := h.a
    refine ⟨f, h1.below hb, fun i x hx => ?_⟩
    obtain ⟨ai, ci, q1, q2, q3, q4⟩ := h2 i x hx
    exact ⟨ai, ci, q1, q2, q3.kt (p := fun _ => True) (Kt.of hb) trivial, fun _ _ h => h⟩
  · obtain ⟨cur, hc⟩ := Lent.blk (h.ln p hp)
    have := blk_lt hc
    omega
theorem Mid.below {w W W' : World} {M eb : Nat} {A : List (Int × List LT)} {sq : Int} {nw gn c ln lc : Nat} {a la : Option Addr} (h : Mid w M eb A sq nw a gn c la ln lc W) (hb : Below W.heap.size W W') : Mid w M eb A sq nw a gn c la ln lc W' :=
  ⟨h.bel.trans (hb.mono h.wz), (hb.block _ (blk_lt h.box)).trans h.box, h.aq.frame (Kt.of hb) (fun b hb' _ _ => hb.block b hb') (fun q hq => hq.elim), h.tr.kt (p := fun _ => True) (Kt.of hb) trivial, fun p hp => (h.ln p hp).below hb, h.lo, h.nd, Nat.le_trans h.sz hb.size, Nat.le_trans h.wz hb.size⟩
theorem Mid.grp {w W : World} {M eb : Nat} {A : List (Int × List LT)} {sq : Int} {nw gn c ln lc : Nat} {a la : Option Addr} (h : Mid w M eb A sq nw a gn c la ln lc W) : GrpI W a (A.map actQ) :=
  h.aq.grpI (base := w.heap.size) (fun x hx p hp => h.ln p (List.mem_flatMap.2 ⟨x, hx, hp⟩))
/-- an answer of Line's, in new memory -/
def R1 (M : Nat) (W : World) (b : Option Addr) (n c : Nat) (L : List Nat) : Prop := n = L.length ∧ (∀ q, (Value.slice b n c).ownBlock = some q → M ≤ q) ∧ RB W (.slice b n c) L
theorem R1.below {M : Nat} {W W' : World} {b : Option Addr} {n c : Nat} {L : List Nat} (h : R1 M W b n c L) (hb : Below W.heap.size W W') : R1 M W' b n c L := ⟨h.1, h.2.1, h.2.2.below hb⟩
theorem R1.inp {M base : Nat} {w0 WM W : World} {LL L' : List LT} {b : Option Addr} {n c : Nat} {L : List Nat} (h : R1 M WM b n c L) (hi : Inp base M w0 WM LL L' W) : R1 M W b n c L :=
  ⟨h.1, h.2.1, Rws.same h.2.2 (fun g hg => hi.hi g (h.2.1 g hg) (Rws.lt h.2.2 g hg))⟩
theorem small_mem {l : List Nat} (h : Small l) : ∀ c ∈ l, c < 256 := fun c hc => by
  obtain ⟨i, hi⟩ := List.mem_iff_getElem?.1 hc
  have h1 := h i (List.getElem?_eq_some_iff.1 hi).1
  rw [List.getD_eq_getElem?_getD, hi] at h1
  exact h1
/-- at the end: other bytes, the same places -/
structure Fin' (w : World) (eb : Nat) (sq : Int) (nw : Nat) (a : Option Addr) (gn c : Nat) (W : World) : Prop where
  bel : Below w.heap.size w W
  wz : w.heap.size ≤ W.heap.size
  box : W.heap[eb]? = some (.cells #[.int .i64 sq, .int .u64 (nw : Nat), .slice a gn c] 41 (0, 0))
  grp : ∃ g', GrpI W a g' ∧ gn = g'.length ∧ Larder.SmallG g'
theorem Mid.fin {w WM W : World} {M eb : Nat} {A : List (Int × List LT)} {sq : Int} {nw gn c ln lc : Nat} {a la : Option Addr} {L : List LT} (h : Mid w M eb A sq nw a gn c la ln lc WM) (hgn : gn = A.length) (hi : Inp w.heap.size M w WM (A.flatMap (·.2)) L W) : Fin' w eb sq nw a gn c W := by
  obtain ⟨A', h1, h2⟩ := split_sh A L hi.eq
  have hA' := (h.aq.sh h2).frame (S' := fun _ => False) (W' := W) (fun b C t f hb ht => hi.kt b C t f hb (by rw [ht]; decide)) (fun b hb _ hC => by
    obtain ⟨C, f, hC⟩ := hC
    exact hi.kt b C 27 f hC (by decide)) (fun q hq => hq.elim)
  refine ⟨hi.bel, Nat.le_trans h.wz hi.size, (hi.kt _ _ _ _ h.box (by decide)).trans h.box, A'.map actQ, ?_, ?_, fun x hx t ht => ?_⟩
  · exact hA'.grpI (base := w.heap.size) (fun x hx p hp => hi.ln p (by rw [← h1]; exact List.mem_flatMap.2 ⟨x, hx, hp⟩))
  · have := congrArg List.length h2
    simp only [List.length_map] at this
    rw [List.length_map, hgn, this]
  · obtain ⟨y, hy, rfl⟩ := List.mem_map.1 hx
    obtain ⟨p, hp, rfl⟩ := List.mem_map.1 ht
    exact small_mem (hi.sm p (by rw [← h1]; exact List.mem_flatMap.2 ⟨y, hy, hp⟩))
theorem Mid.inp {w WM : World} {M eb : Nat} {A : List (Int × List LT)} {sq : Int} {nw gn c ln lc : Nat} {a la : Option Addr} (h : Mid w M eb A sq nw a gn c la ln lc WM) (hs : Larder.SmallG (A.map actQ)) : Inp w.heap.size M w WM (A.flatMap (·.2)) (A.flatMap (·.2)) WM :=
  ⟨h.bel, fun _ _ _ _ _ _ => rfl, fun _ _ _ => rfl, Nat.le_refl _, h.ln, rfl, fun p hp => by
    obtain ⟨x, hx, hp⟩ := List.mem_flatMap.1 hp
    exact small_of (hs (actQ x) (List.mem_map.2 ⟨x, hx, rfl⟩) p.2.2 (List.mem_map.2 ⟨p, hp, rfl⟩))⟩
/-- a list of those that were lent, as it lies there now -/
theorem Mid.at {w WM W : World} {M eb k : Nat} {A : List (Int × List LT)} {sq : Int} {nw gn c ln lc : Nat} {a la : Option Addr} {L : List LT} (h : Mid w M eb A sq nw a gn c la ln lc WM) (hi : Inp w.heap.size M w WM (A.flatMap (·.2)) L W) (hk : k < L.length) : ∃ (bl ol pg pc : Nat) (T : List Nat), la = some ⟨bl, ol, none⟩ ∧ bl < W.heap.size ∧ (∃ C f, W.heap[bl]? = some (.cells C 27 f)) ∧ L[k]? = some (pg, pc, T) ∧ W.cell? ⟨bl, ol + k, none⟩ = some (.slice (some ⟨pg, 0, none⟩) T.length pc) := by
  have ht := (h.tr.sh hi.eq.symm).kt (W' := W) (p := fun t => t ≠ 5) hi.kt (by decide)
  rcases ht with ⟨e, e0⟩ | ⟨bl, cap, cur, e, hg, p1, p2, p3, p4⟩
  · omega
  · cases e
    refine ⟨bl, 0, (L[k]'hk).1, (L[k]'hk).2.1, (L[k]'hk).2.2, rfl, blk_lt hg, ⟨_, _, hg⟩, List.getElem?_eq_getElem hk, ?_⟩
    rw [cell_blk hg, Nat.zero_add, p4 k (by omega)]
    show some (ltV (L.getD k (0, 0, []))) = _
    rw [List.getD_eq_getElem?_getD, List.getElem?_eq_getElem hk]
    rfl
end Go.Proofs.Ytljeedgnjgeopaa
namespace Go.Proofs.Ytljeedgnjgeopaa
open Go.ChangeShapes Go.WideShapes Go.ChangeAt Go.RowKit Go.Shelf
set_option linter.unusedVariables false
set_option linter.unusedSimpArgs false
set_option maxRecDepth 100000
set_option maxHeartbeats 4000000
theorem act_flat (A : List (Int × List LT)) : (A.flatMap (·.2)).map (·.2.2) = (A.map actQ).flatMap (·.2) := by
  induction A with
  | nil => rfl
  | cons x A ih => rw [List.map_cons, List.flatMap_cons, List.flatMap_cons, List.map_append, ih]; rfl
/-- in the middle: the entry that was lent, and both answers -/
def Zm (w : World) (M eb : Nat) (A : List (Int × List LT)) (sq : Int) (nw : Nat) (a : Option Addr) (gn c : Nat) (la : Option Addr) (ln lc : Nat) (b1 : Option Addr) (n1 c1 : Nat) (b2 : Option Addr) (n2 c2 : Nat) (L : List Nat) (W : World) : Prop :=
  Mid w M eb A sq nw a gn c la ln lc W ∧ R1 M W b1 n1 c1 L ∧ R1 M W b2 n2 c2 L
theorem Zm.below {w W W' : World} {M eb : Nat} {A : List (Int × List LT)} {sq : Int} {nw gn c ln lc n1 c1 n2 c2 : Nat} {a la b1 b2 : Option Addr} {L : List Nat} (h : Zm w M eb A sq nw a gn c la ln lc b1 n1 c1 b2 n2 c2 L W) (hb : Below W.heap.size W W') : Zm w M eb A sq nw a gn c la ln lc b1 n1 c1 b2 n2 c2 L W' :=
  ⟨h.1.below hb, h.2.1.below hb, h.2.2.below hb⟩
theorem lines_law (w : World) (a : Option Addr) (n c : Nat) (es : List Larder.EntI) (hn : n = es.length) (hE : EI w a es) (hq : ∀ x ∈ es, QE x) :
    Calls Try.prog 5 #[.slice a n c] w fun e w' => e = .returned (.bool true) ∧ Hid (Below w.heap.size w w') := by
  have HE := hide hE
  have HN := hide hn
  have HQ := hide hq
  have C8 := starts_any w
  clear hE hn hq
  go_enter Try.func5, Try.ntmps5
  go_wp2_with (go_at_call 8; refine C8.mono ?_; clear C8; rintro e w1 ⟨rfl, z8⟩)
  go_loopw [3] (fun iv wr => ∃ i : Nat, iv = .int .i64 ((i : Nat) : Int) ∧ i ≤ n ∧ i ≤ 40 ∧ Hid (Below w.heap.size w wr)) (fun iv _ => n - (intOf iv).toNat)
  case atStart => exact ⟨0, rfl, Nat.zero_le _, by omega, z8⟩
  case round =>
    clear z8
    obtain ⟨i, rfl, hi, hi40, HW⟩ := hrel
    by_cases hin : i < n
    · have f1 : decide ((i : Int) < (n : Int)) = true := decide_eq_true (by omega)
      have f3 : decide (i < n) = true := decide_eq_true hin
      by_cases h40 : i < 40
      · have f5 : decide ((i : Int) < 40) = true := decide_eq_true (by omega)
        have f6 : decide (i < 40) = true := decide_eq_true h40
        have g1 : (0 : Int) ≤ (i : Int) := by omega
        have g2 : (i : Int) < (n : Int) := by omega
        obtain ⟨⟨sq, nw, g⟩, hx⟩ : ∃ x, es[i]? = some x := ⟨_, List.getElem?_eq_getElem (by have := unhide HN; omega)⟩
        obtain ⟨q1, q2, q3, q4⟩ := (unhide HQ) _ (List.mem_of_getElem? hx)
        obtain ⟨b, off, rfl, hbl, k0, k1, xa, xc, k2, k3⟩ : ∃ b off, a = some ⟨b, off, none⟩ ∧ b < wr.heap.size ∧ wr.cell? ⟨b, off + i * 3, none⟩ = some (.int .i64 sq) ∧ wr.cell? ⟨b, off + i * 3 + 1, none⟩ = some (.int .u64 (nw : Nat)) ∧ ∃ xa xc, wr.cell? ⟨b, off + i * 3 + 2, none⟩ = some (.slice xa g.length xc) ∧ GrpI wr xa g := by
          rcases unhide HE with h | ⟨b, off, e, hl, hc⟩
          · rw [h] at hx; cases hx
          · obtain ⟨p0, p1, xa, xc, p2, p3⟩ := hc i _ hx
            have hb := unhide HW
            exact ⟨b, off, e, Nat.lt_of_lt_of_le hl hb.size, (hb.cell (p := ⟨b, _, none⟩) hl).trans p0, (hb.cell (p := ⟨b, _, none⟩) hl).trans p1, xa, xc, (hb.cell (p := ⟨b, _, none⟩) hl).trans p2, by
              rcases p3 with e | ⟨b', off', e, hl', hc'⟩
              · exact .inl e
              · refine .inr ⟨b', off', e, Nat.lt_of_lt_of_le hl' hb.size, fun j x hj => ?_⟩
                obtain ⟨r1, ya, yc, r2, r3⟩ := hc' j x hj
                exact ⟨(hb.cell (p := ⟨b', _, none⟩) hl').trans r1, ya, yc, (hb.cell (p := ⟨b', _, none⟩) hl').trans r2, r3.below hb⟩⟩
        obtain ⟨gn, hgn⟩ : ∃ gn, gn = g.length := ⟨_, rfl⟩
        rw [← hgn] at k2
        dsimp only at q1 q2 q3 q4
        have HGI := hide k3
        have HGN := hide hgn
        have HQ2 := hide q2
        have HQ3 := hide q3
        have HQ4 := hide q4
        have HCF : Hid (∀ W, Below wr.heap.size wr W → W.cell? ⟨b, off + i * 3, none⟩ = some (.int .i64 sq) ∧ W.cell? ⟨b, off + i * 3 + 1, none⟩ = some (.int .u64 (nw : Nat)) ∧ W.cell? ⟨b, off + i * 3 + 2, none⟩ = some (.slice xa gn xc)) := hide (fun W hb => ⟨(hb.cell (p := ⟨b, _, none⟩) hbl).trans k0, (hb.cell (p := ⟨b, _, none⟩) hbl).trans k1, (hb.cell (p := ⟨b, _, none⟩) hbl).trans k2⟩)
        obtain ⟨F, hF⟩ : ∃ F, F = lnF ⟨sq, nw, g⟩ := ⟨_, rfl⟩
        obtain ⟨L, hL⟩ : ∃ L, L = lnL ⟨sq, nw, g⟩ := ⟨_, rfl⟩
        have hF1 : F < 1000 := by rw [hF]; exact lnF_lt _
        have hL1 : L.length ≤ 33587566 := by rw [hL]; exact lnL_le _ q4 q1
        have C14 : Hid (∀ W, W.heap.size = wr.heap.size → Below wr.heap.size wr W → Calls Try.prog 14 #[.agg #[.int .i64 sq, .int .u64 (nw : Nat), .slice xa gn xc]] W fun e w2 => ∃ a c la ln lc A, e = .returned (.tuple #[.agg #[.int .i64 sq, .int .u64 (nw : Nat), .slice a gn c], .slice la ln lc]) ∧ Hid (A.map actQ = g ∧ ln = (A.flatMap (·.2)).length ∧ Mid wr (w2.heap.size + 1) w2.heap.size A sq nw a gn c la ln lc (w2.alloc (.cells #[.int .i64 sq, .int .u64 (nw : Nat), .slice a gn c] 41)))) := hide (fun W hs hb => (lent_any W sq nw xa gn xc g (k3.below hb) hgn q2).mono (fun e w2 h => by
          obtain ⟨a, c, la, ln, lc, A, h1, h2⟩ := h
          obtain ⟨z1, z2, z3⟩ := unhide h2
          have z4 : LeN wr A (.slice a gn c) (.slice la ln lc) w2 := ⟨hb.trans (by rw [← hs]; exact z1.bel), z1.a, z1.l, fun p hp => by rw [← hs]; exact z1.ln p hp, z1.nd⟩
          exact ⟨a, c, la, ln, lc, A, h1, hide ⟨z2, z3, Mid.of z4⟩⟩))
        have C15 : Hid (∀ (W : World) (M eb : Nat) (A : List (Int × List LT)) (a' : Option Addr) (c' : Nat) (la : Option Addr) (ln lc : Nat), A.map actQ = g → Mid wr M eb A sq nw a' gn c' la ln lc W → Calls Try.prog 15 #[.agg #[.int .i64 sq, .int .u64 (nw : Nat), .slice a' gn c']] W fun e w4 => ∃ b1 n1 c1, e = .returned (.tuple #[.slice b1 n1 c1, .int .i64 (F : Nat)]) ∧ (w4.cell? ⟨b, off + i * 3, none⟩ = some (.int .i64 sq) ∧ w4.cell? ⟨b, off + i * 3 + 1, none⟩ = some (.int .u64 (nw : Nat)) ∧ w4.cell? ⟨b, off + i * 3 + 2, none⟩ = some (.slice xa gn xc)) ∧ Hid (Mid wr M eb A sq nw a' gn c' la ln lc w4 ∧ R1 M w4 b1 n1 c1 L)) := hide (fun W M eb A a' c' la ln lc hA hM => by
          have hgr := hM.grp
          rw [hA] at hgr
          refine (line_any W sq nw a' gn c' g hgr hgn q4 q1).mono (fun e w4 h => ?_)
          obtain ⟨b1, n1, c1, h1, h2, h3⟩ := h.u
          rw [← hL] at h2 h3
          rw [← hF] at h1
          have hb := (unhide h3).1.bel
          exact ⟨b1, n1, c1, h1, (unhide HCF) w4 (hM.below hb).bel, hide ⟨hM.below hb, h2, fun q hq => Nat.le_trans hM.sz ((unhide h3).1.own q hq), (unhide h3).2⟩⟩)
        have C16 : Hid (∀ (W : World) (M eb : Nat) (A : List (Int × List LT)) (a' : Option Addr) (c' : Nat) (la : Option Addr) (ln lc : Nat) (b1 : Option Addr) (n1 c1 : Nat), Hid (Mid wr M eb A sq nw a' gn c' la ln lc W ∧ R1 M W b1 n1 c1 L) → Calls Try.prog 16 #[.agg #[.int .i64 sq, .int .u64 (nw : Nat), .slice xa gn xc]] W fun e w5 => ∃ b2 n2 c2, e = .returned (.tuple #[.slice b2 n2 c2, .int .i64 (F : Nat)]) ∧ (w5.cell? ⟨b, off + i * 3, none⟩ = some (.int .i64 sq) ∧ w5.cell? ⟨b, off + i * 3 + 1, none⟩ = some (.int .u64 (nw : Nat)) ∧ w5.cell? ⟨b, off + i * 3 + 2, none⟩ = some (.slice xa gn xc)) ∧ (w5.cell? ⟨eb, 0, none⟩ = some (.int .i64 sq) ∧ w5.cell? ⟨eb, 1, none⟩ = some (.int .u64 (nw : Nat)) ∧ w5.cell? ⟨eb, 2, none⟩ = some (.slice a' gn c')) ∧ Hid (Mid wr M eb A sq nw a' gn c' la ln lc w5 ∧ R1 M w5 b1 n1 c1 L ∧ R1 M w5 b2 n2 c2 L)) := hide (fun W M eb A a' c' la ln lc b1 n1 c1 hM0 => by
          obtain ⟨hM, hR⟩ := unhide hM0
          refine (dline_any W sq nw xa gn xc g (k3.below hM.bel) hgn q4 q1).mono (fun e w5 h => ?_)
          obtain ⟨b2, n2, c2, h1, h2, h3⟩ := h.u
          rw [← hL] at h2 h3
          rw [← hF] at h1
          have hb := (unhide h3).1.bel
          have hM5 := hM.below hb
          exact ⟨b2, n2, c2, h1, (unhide HCF) w5 hM5.bel, ⟨cell_blk hM5.box 0, cell_blk hM5.box 1, cell_blk hM5.box 2⟩, hide ⟨hM5, hR.below hb, h2, fun q hq => Nat.le_trans hM.sz ((unhide h3).1.own q hq), (unhide h3).2⟩⟩)
        have HSQ := hide q1
        clear hx q1 q2 q3 q4 k3 hgn hF hL
        go_wp2_with (first
          | (go_at_call 14; go_loud (refine ((unhide C14) wr rfl (Below.refl _ _)).mono ?_; clear C14; rintro e w2 ⟨a', c', la, ln, lc, A, rfl, z2⟩))
          | (go_at_call 15; go_loud (refine ((unhide C15) _ _ _ A a' c' la ln lc (unhide z2).1 (unhide z2).2.2).mono ?_; clear C15; rintro e w4 ⟨b1, n1, c1, rfl, ⟨y0, y1, y2⟩, z4⟩))
          | (go_at_call 16; go_loud (refine ((unhide C16) w4 _ _ A a' c' la ln lc b1 n1 c1 z4).mono ?_; clear C16; rintro e w5 ⟨b2, n2, c2, rfl, ⟨t0, t1, t2⟩, ⟨v0, v1, v2⟩, z5⟩)))
        obtain ⟨hA, hln, -⟩ := unhide z2
        have HA := hide hA
        have HLN := hide hln
        have z6 : Hid (Zm wr (w2.heap.size + 1) w2.heap.size A sq nw a' gn c' la ln lc b1 n1 c1 b2 n2 c2 L w5.drew) := hide (Zm.below (unhide z5) (below_drew (Below.refl _ _)))
        clear z2 z4 z5 y0 y1 y2 hA hln k0 k1 k2
        generalize w2.heap.size = eb at *
        have C18 : Hid (∀ W, Hid (Zm wr (eb + 1) eb A sq nw a' gn c' la ln lc b1 n1 c1 b2 n2 c2 L W) → Calls Try.prog 18 #[.agg #[.int .i64 sq, .int .u64 (nw : Nat), .slice a' gn c'], .agg #[.int .i64 sq, .int .u64 (nw : Nat), .slice xa gn xc]] W fun e w6 => e = .returned (.bool true) ∧ (w6.cell? ⟨b, off + i * 3, none⟩ = some (.int .i64 sq) ∧ w6.cell? ⟨b, off + i * 3 + 1, none⟩ = some (.int .u64 (nw : Nat)) ∧ w6.cell? ⟨b, off + i * 3 + 2, none⟩ = some (.slice xa gn xc)) ∧ (w6.cell? ⟨eb, 0, none⟩ = some (.int .i64 sq) ∧ w6.cell? ⟨eb, 1, none⟩ = some (.int .u64 (nw : Nat)) ∧ w6.cell? ⟨eb, 2, none⟩ = some (.slice a' gn c')) ∧ Hid (Zm wr (eb + 1) eb A sq nw a' gn c' la ln lc b1 n1 c1 b2 n2 c2 L w6)) := hide (fun W hz => by
          have hM := (unhide hz).1
          have hgr := hM.grp
          rw [unhide HA] at hgr
          refine (same_entryI W sq nw a' xa gn c' xc g (unhide HGN) hgr ((unhide HGI).below hM.bel) (unhide HQ3)).mono (fun e w6 h => ?_)
          have h6 := (unhide hz).below (unhide h.2)
          exact ⟨h.1, (unhide HCF) w6 h6.1.bel, ⟨cell_blk h6.1.box 0, cell_blk h6.1.box 1, cell_blk h6.1.box 2⟩, hide h6⟩)
        have C19 : Hid (∀ W, Hid (Zm wr (eb + 1) eb A sq nw a' gn c' la ln lc b1 n1 c1 b2 n2 c2 L W) → Calls Try.prog 19 #[.slice la ln lc, .agg #[.int .i64 sq, .int .u64 (nw : Nat), .slice xa gn xc]] W fun e w6 => e = .returned (.bool true) ∧ (w6.cell? ⟨b, off + i * 3, none⟩ = some (.int .i64 sq) ∧ w6.cell? ⟨b, off + i * 3 + 1, none⟩ = some (.int .u64 (nw : Nat)) ∧ w6.cell? ⟨b, off + i * 3 + 2, none⟩ = some (.slice xa gn xc)) ∧ (w6.cell? ⟨eb, 0, none⟩ = some (.int .i64 sq) ∧ w6.cell? ⟨eb, 1, none⟩ = some (.int .u64 (nw : Nat)) ∧ w6.cell? ⟨eb, 2, none⟩ = some (.slice a' gn c')) ∧ Hid (Zm wr (eb + 1) eb A sq nw a' gn c' la ln lc b1 n1 c1 b2 n2 c2 L w6)) := hide (fun W hz => by
          have hM := (unhide hz).1
          refine (back_any W la ln lc wr.heap.size (A.flatMap (·.2)) hM.tr (unhide HLN) hM.ln sq nw xa gn xc g ((unhide HGI).below hM.bel) (unhide HGN) (unhide HQ2) (by rw [act_flat, unhide HA])).mono (fun e w6 h => ?_)
          have h6 := (unhide hz).below (unhide h.2)
          exact ⟨h.1, (unhide HCF) w6 h6.1.bel, ⟨cell_blk h6.1.box 0, cell_blk h6.1.box 1, cell_blk h6.1.box 2⟩, hide h6⟩)
        go_region_held3 (fun W => (W.cell? ⟨b, off + i * 3, none⟩ = some (.int .i64 sq) ∧ W.cell? ⟨b, off + i * 3 + 1, none⟩ = some (.int .u64 (nw : Nat)) ∧ W.cell? ⟨b, off + i * 3 + 2, none⟩ = some (.slice xa gn xc)) ∧ (W.cell? ⟨eb, 0, none⟩ = some (.int .i64 sq) ∧ W.cell? ⟨eb, 1, none⟩ = some (.int .u64 (nw : Nat)) ∧ W.cell? ⟨eb, 2, none⟩ = some (.slice a' gn c'))) (go_keep) (first
          | (go_at_call 17; refine (num_any _ F hF1).mono ?_; rintro e w5' ⟨rfl, hw5⟩; subst hw5)
          | (go_at_call 18; refine ((unhide C18) _ z6).mono ?_; clear C18; rintro e w6 ⟨rfl, ⟨y0, y1, y2⟩, ⟨x0, x1, x2⟩, z7⟩)
          | (go_at_call 19; refine ((unhide C19) _ z7).mono ?_; clear C19; rintro e w7 ⟨rfl, ⟨y3, y4, y5⟩, ⟨x3, x4, x5⟩, z8⟩))
        have hlb : ln ≤ 5864062014805 := by
          have h1 := unhide HLN
          have h2 := (unhide HQ2).2.1
          rw [act_len, unhide HA] at h1
          omega
        have HI0 : Hid (∃ L', Inp wr.heap.size (eb + 1) wr w7 (A.flatMap (·.2)) L' w7) := hide ⟨_, (unhide z8).1.inp (by rw [unhide HA]; exact unhide HQ4)⟩
        have HTL : Hid (∀ p ∈ A.flatMap (·.2), p.2.2.length ≤ 1099511627776) := hide (fun p hp => by
          obtain ⟨x, hx, hp⟩ := List.mem_flatMap.1 hp
          have h1 : actQ x ∈ g := by rw [← unhide HA]; exact List.mem_map.2 ⟨x, hx, rfl⟩
          exact (unhide HQ2).2.2 _ h1 p.2.2 (List.mem_map.2 ⟨p, hp, rfl⟩))
        have HZ := z8
        clear z6 z7 z8 y0 y1 y2 x0 x1 x2 y3 y4 y5 x3 x4 x5 t0 t1 t2 v0 v1 v2
        all_goals go_wp2_with fail
        obtain ⟨wo, hwo⟩ : ∃ wo, wo = wr := ⟨_, rfl⟩
        subst hwo
        go_loopw [10] (fun kv wq => ∃ k : Nat, kv = .int .i64 ((k : Nat) : Int) ∧ k ≤ ln ∧ Hid (∃ L', Inp wo.heap.size (eb + 1) wo w7 (A.flatMap (·.2)) L' wq)) (fun kv _ => ln - (intOf kv).toNat)
        case atStart => exact ⟨0, rfl, Nat.zero_le _, HI0⟩
        case round =>
          clear HI0
          obtain ⟨k, rfl, hk, HK⟩ := hrel
          by_cases hkn : k < ln
          · have e1 : decide ((k : Int) < (ln : Int)) = true := decide_eq_true (by omega)
            have e2 : decide (k < ln) = true := decide_eq_true hkn
            have e3 : (0 : Int) ≤ (k : Int) := by omega
            have e4 : (k : Int) < (ln : Int) := by omega
            obtain ⟨L', hI⟩ := unhide HK
            have hkl : k < L'.length := by
              have h1 := sh_len hI.eq
              have h2 := unhide HLN
              omega
            obtain ⟨bl, ol, pg, pc, T, rfl, hbw, hty, hp, kc⟩ := (unhide HZ).1.at hI hkl
            have hT4 : T.length ≤ 1099511627776 := by
              have h1 := congrArg (fun x => x[k]?) hI.eq
              simp only [List.getElem?_map] at h1
              rw [hp] at h1
              cases h2 : (A.flatMap (·.2))[k]? with
              | none => rw [h2] at h1; cases h1
              | some q =>
                rw [h2] at h1
                injection h1 with h1
                have h3 := (unhide HTL) q (List.mem_of_getElem? h2)
                unfold sh at h1
                injection h1 with _ h1
                injection h1 with _ h1
                dsimp only at h1
                omega
            have hLn := hI.ln _ (List.mem_of_getElem? hp)
            have hSm := hI.sm _ (List.mem_of_getElem? hp)
            have hpg : pg < wr.heap.size := by
              obtain ⟨cur, hc⟩ := Lent.blk hLn
              exact blk_lt hc
            have hne : pg ≠ bl := fun e => by
              obtain ⟨cur, hc⟩ := Lent.blk hLn
              obtain ⟨C, f, hC⟩ := hty
              dsimp only at hc
              rw [e, hC] at hc
              cases hc
            obtain ⟨tn, htn⟩ : ∃ tn, tn = T.length := ⟨_, rfl⟩
            have C21 : Hid (Calls Try.prog 21 #[.slice (some ⟨pg, 0, none⟩) tn pc] wr.drew fun e w8 => ∃ a8 c8 m, e = .returned (.slice a8 tn c8) ∧ w8.cell? ⟨bl, ol + k, none⟩ = some (.slice (some ⟨pg, 0, none⟩) tn pc) ∧ Hid (m.length = tn ∧ Small m ∧ Bytes w8 a8 m ∧ (∀ b off, a8 = some ⟨b, off, none⟩ → b ≠ pg) ∧ Below wr.heap.size wr w8)) := hide (by
              rw [htn]
              refine (Ld.other_any (some ⟨pg, 0, none⟩) pc wr.drew T (by omega) (Ld.Lent.bytes (w := wr) hLn) hSm).mono (fun e w8 h => ?_)
              obtain ⟨v, m, h1, h2, h3, h4, h5⟩ := h
              obtain ⟨a8, c8, rfl, h6, h7⟩ := h2.shape
              have hb : Below wr.heap.size wr w8 := (below_drew (Below.refl wr.heap.size wr)).trans h5
              refine ⟨a8, c8, m, by rw [h1, h3], (hb.cell (p := ⟨bl, _, none⟩) hbw).trans kc, hide ⟨h3, h4, h6, fun b' off' e' => ?_, hb⟩⟩
              rcases h2.2 with ⟨q, -⟩ | ⟨g', cap, cur, q, q1, -⟩
              · rw [e'] at q; cases q
              · rw [e'] at q
                cases q
                have : wr.heap.size ≤ b' := q1
                omega)
            have C20 : Hid (∀ (w8 : World) (a8 : Option Addr) (c8 : Nat) (m : List Nat), w8.cell? ⟨bl, ol + k, none⟩ = some (.slice (some ⟨pg, 0, none⟩) tn pc) → Hid (m.length = tn ∧ Small m ∧ Bytes w8 a8 m ∧ (∀ b off, a8 = some ⟨b, off, none⟩ → b ≠ pg) ∧ Below wr.heap.size wr w8) → Calls Try.prog 20 #[.slice (some ⟨pg, 0, none⟩) tn pc, .slice a8 tn c8] w8 fun e w9 => e = .returned (.tuple #[]) ∧ w9.cell? ⟨bl, ol + k, none⟩ = some (.slice (some ⟨pg, 0, none⟩) tn pc) ∧ Hid (∃ L', Inp wo.heap.size (eb + 1) wo w7 (A.flatMap (·.2)) L' w9)) := hide (fun w8 a8 c8 m hc hz => by
              obtain ⟨z1, z2, z3, z4, z5⟩ := unhide hz
              have h20 := Ld.into_both pg pc wo.heap.size a8 c8 w8 T m (by rw [z1, htn]) (by omega) (hLn.below z5) z3 z4
              rw [← htn] at h20
              refine h20.mono (fun e w9 h => ?_)
              obtain ⟨h1, h2, h3⟩ := h
              refine ⟨h1, (h3.cell (p := ⟨bl, _, none⟩) (fun e => hne e.symm)).trans hc, hide ⟨_, hI.step (unhide HZ).1.nd (unhide HZ).1.lo (unhide HZ).1.wz hp z5 (by rw [z1, htn]) z2 h2 h3⟩⟩)
            rw [← htn] at kc
            clear hI hkl hbw hty hp hT4 hLn hSm hpg hne htn HK HZ HTL
            go_wp2_with fail
            go_region_held3 (fun W => W.cell? ⟨bl, ol + k, none⟩ = some (.slice (some ⟨pg, 0, none⟩) tn pc)) (go_keep) (first
              | (go_at_call 21; refine (unhide C21).mono ?_; clear C21; rintro e w8 ⟨a8, c8, m, rfl, y8, z8⟩)
              | (go_at_call 20; go_loud (refine ((unhide C20) w8 a8 c8 m y8 z8).mono ?_; clear C20; rintro e w9 ⟨rfl, y9, z9⟩)))
            all_goals go_wp2_with fail
            all_goals exact ⟨⟨k + 1, congrArg (Value.int .i64) (by omega), by omega, z9⟩, by simp [intOf]; omega⟩
          · obtain rfl : k = ln := by omega
            have e1 : decide ((k : Int) < (k : Int)) = false := decide_eq_false (by omega)
            have e2 : decide (k < k) = false := decide_eq_false (by omega)
            obtain ⟨L', hI⟩ := unhide HK
            have hFi := (unhide HZ).1.fin (by rw [unhide HGN, ← unhide HA, List.length_map]) hI
            have x0 := cell_blk hFi.box 0
            have x1 := cell_blk hFi.box 1
            have x2 := cell_blk hFi.box 2
            obtain ⟨g', j1, j2, j3⟩ := hFi.grp
            have C22 : Hid (Calls Try.prog 22 #[.agg #[.int .i64 sq, .int .u64 (nw : Nat), .slice a' gn c']] wr fun e w10 => e = .returned (.bool true) ∧ Hid (Below wo.heap.size wo w10 ∧ R1 (eb + 1) w10 b1 n1 c1 L ∧ R1 (eb + 1) w10 b2 n2 c2 L)) := hide ((line22_any wr sq nw a' gn c' g' j1 j2 j3 (unhide HSQ)).mono (fun e w10 h => ⟨h.1, hide ⟨hFi.bel.trans ((unhide h.2).mono hFi.wz), ((unhide HZ).2.1.inp hI).below (unhide h.2), ((unhide HZ).2.2.inp hI).below (unhide h.2)⟩⟩))
            have C23 : Hid (∀ w10, Hid (Below wo.heap.size wo w10 ∧ R1 (eb + 1) w10 b1 n1 c1 L ∧ R1 (eb + 1) w10 b2 n2 c2 L) → Calls Try.prog 23 #[.slice b1 n1 c1, .slice b2 n2 c2] w10 fun e w11 => e = .returned (.bool true) ∧ Hid (Below wo.heap.size wo w11)) := hide (fun w10 hz => by
              obtain ⟨z1, z2, z3⟩ := unhide hz
              exact (eq_any w10 b1 b2 n1 n2 c1 c2 L (RB.bytes z2.2.2).1 (RB.bytes z3.2.2).1 z2.1 z3.1 (by omega)).mono (fun e w11 h => ⟨h.1, hide (z1.trans ((unhide h.2).mono z1.size))⟩))
            clear hFi hI HK HZ j1 j2 j3 HTL
            go_wp2_with (first
              | (go_at_call 22; refine (unhide C22).mono ?_; clear C22; rintro e w10 ⟨rfl, z10⟩)
              | (go_at_call 23; refine ((unhide C23) _ z10).mono ?_; clear C23; rintro e w11 ⟨rfl, z11⟩))
            exact ⟨⟨i + 1, congrArg (Value.int .i64) (by omega), by omega, by omega, hide ((unhide HW).trans ((unhide z11).mono (unhide HW).size))⟩, by simp [intOf]; omega⟩
      · obtain rfl : i = 40 := by omega
        go_wp2_with fail
        go_ret
        exact ⟨rfl, HW⟩
    · obtain rfl : i = n := by omega
      have f1 : decide ((i : Int) < (i : Int)) = false := decide_eq_false (by omega)
      have f3 : decide (i < i) = false := decide_eq_false (by omega)
      go_wp2_with fail
      go_ret
      exact ⟨rfl, HW⟩
end Go.Proofs.Ytljeedgnjgeopaa
