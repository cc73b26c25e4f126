/- PostHears: the law. -/
import Derived.Test.YtjmnddcombepaaaHpd
import Derived.Test.YtjmnddcombepaaaHpf
import Derived.Test.YtjmnddcombepaaaMt
import Derived.Deep.CutRange
namespace Go.Proofs.Ytjmnddcombepaaa
open Go.ChangeShapes Go.WideShapes Go.ChangeAt Go.RowKit Go.Maps Go.Sort
set_option linter.unusedVariables false
set_option linter.unusedSimpArgs false
set_option maxRecDepth 100000
set_option maxHeartbeats 200000000
theorem OpenEnd.cells {w0 W : World} {bx g n c gs : Nat} {sv cv xi xn : Value} {l : List Sv} (h : OpenEnd w0 W bx cv l g n c gs) (hb : bx < w0.heap.size ∧ w0.heap[bx]? = some (.cells #[sv, cv, xi, xn] 25 (0, 0))) : W.cell? ⟨bx, 0, none⟩ = some sv ∧ W.cell? ⟨bx, 1, none⟩ = some cv := by
  have hb := (h.bel.block bx hb.1).trans hb.2
  exact ⟨cell_blk hb 0, cell_blk hb 1⟩
theorem OpenEnd.unfrozen {w0 W : World} {bx g n c gs : Nat} {sv cv xi xn : Value} {l : List Sv} (h : OpenEnd w0 W bx cv l g n c gs) (hb : bx < w0.heap.size ∧ w0.heap[bx]? = some (.cells #[sv, cv, xi, xn] 25 (0, 0))) : W.frozen? ⟨bx, 0, none⟩ = false := by
  have hb := (h.bel.block bx hb.1).trans hb.2
  simp [World.frozen?, hb]
/-- the list that is handed to unlike -/
def outL (l : List Sv) (C : List UInt8) (ca : Option Addr) (ccap gs : Nat) : List Sv := l ++ [(((5 : Int), [42], true), some ⟨gs, 0, none⟩, 1), (((2 : Int), C, false), ca, ccap)]
/-- behind the region -/
structure OutAt (w w0 W : World) (C : List UInt8) (ca : Option Addr) (ccap : Nat) (l : List Sv) (g n c gs : Nat) : Prop where
  bel : Below w.heap.size w W
  c0 : W.cell? ⟨w.heap.size, 0, none⟩ = some (.slice (some ⟨g, 0, none⟩) n c)
  c1 : W.cell? ⟨w.heap.size, 1, none⟩ = some (.slice ca C.length ccap)
  lt : w.heap.size < W.heap.size
  sv : SvAt W (some ⟨g, 0, none⟩) (outL l C ca ccap gs)
  len : n = (outL l C ca ccap gs).length
  nam : ∀ x ∈ outL l C ca ccap gs, Named W x
  bnd : Bnd (outL l C ca ccap gs)
theorem OpenEnd.close {w w0 W : World} {g n c gs : Nat} {sv xi xn : Value} {l : List Sv} {C : List UInt8} {ca : Option Addr} {ccap : Nat} (h : OpenEnd w0 W w.heap.size (.slice ca C.length ccap) l g n c gs) (hb : w.heap.size < w0.heap.size ∧ w0.heap[w.heap.size]? = some (.cells #[sv, .slice ca C.length ccap, xi, xn] 25 (0, 0)))
    (hw : Below w.heap.size w w0) (hN : ∀ x ∈ l, Named w x) (hB : Bnd l) (hC : Bytes w ca (nb C)) (hCc : C.length ≤ ccap) (hC2 : C.length ≤ 1048576) : OutAt w w0 (W.setCell ⟨w.heap.size, 0, none⟩ (.slice (some ⟨g, 0, none⟩) n c)) C ca ccap l g n c gs := by
  have hbel : Below w.heap.size w W := hw.trans (h.bel.mono hw.size)
  have hbel2 : Below w.heap.size w (W.setCell ⟨w.heap.size, 0, none⟩ (.slice (some ⟨g, 0, none⟩) n c)) := hbel.setCell (Nat.le_refl _) _
  have hblk := (h.bel.block _ hb.1).trans hb.2
  have hoth : ∀ k, k ≠ w.heap.size → (W.setCell ⟨w.heap.size, 0, none⟩ (.slice (some ⟨g, 0, none⟩) n c)).heap[k]? = W.heap[k]? := fun k hk => Below.heap_setCell W ⟨w.heap.size, 0, none⟩ _ k hk
  have hnew : (W.setCell ⟨w.heap.size, 0, none⟩ (.slice (some ⟨g, 0, none⟩) n c)).heap[w.heap.size]? = some (.cells #[.slice (some ⟨g, 0, none⟩) n c, .slice ca C.length ccap, xi, xn] 25 (0, 0)) := by
    have := heap_setCell_same W w.heap.size 0 #[sv, .slice ca C.length ccap, xi, xn] 25 (.slice (some ⟨g, 0, none⟩) n c) hblk
    rw [this]
    rfl
  have hsz : (W.setCell ⟨w.heap.size, 0, none⟩ (.slice (some ⟨g, 0, none⟩) n c)).heap.size = W.heap.size := by simp [World.setCell]
  have hlen : (outL l C ca ccap gs).length = n := by rw [h.len]; simp [outL]
  have hown : OwnV W w0.heap.size (.slice (some ⟨g, 0, none⟩) n c) (outL l C ca ccap gs) := by
    unfold OwnV
    rw [hlen]
    have := h.own
    have e : (outL l C ca ccap gs).flatMap seatC = l.flatMap seatC ++ [.int .i64 5, .slice (some ⟨gs, 0, none⟩) 1 1, .bool true, .int .i64 2, .slice ca C.length ccap, .bool false] := by
      unfold outL
      rw [List.flatMap_append]
      rfl
    rw [e]
    exact this
  obtain ⟨fr, hst⟩ := h.star
  refine ⟨hbel2, cell_blk hnew 0, cell_blk hnew 1, blk_lt hnew, ?_, hlen.symm, fun x hx => ?_, fun x hx => ?_⟩
  · rcases hown.at with h0 | ⟨b, off, e, hlt, hc⟩
    · exact .inl h0
    · cases e
      have hge : w0.heap.size ≤ g := by
        rcases h.own.2 with ⟨e, -⟩ | ⟨g', cap', cur, e, hbase, -⟩
        · cases e
        · cases e; exact hbase
      refine .inr ⟨g, 0, rfl, by rw [hsz]; exact hlt, fun i x hx => ?_⟩
      obtain ⟨c0, c1, c2⟩ := hc i x hx
      have e2 := hoth g (by omega)
      exact ⟨(World.cell?_of_block (a := ⟨g, 0 + i * 3, none⟩) e2).trans c0, (World.cell?_of_block (a := ⟨g, 0 + i * 3 + 1, none⟩) e2).trans c1, (World.cell?_of_block (a := ⟨g, 0 + i * 3 + 2, none⟩) e2).trans c2⟩
  · unfold outL at hx
    rcases List.mem_append.1 hx with hx | hx
    · exact (hN x hx).below hbel2
    · rcases List.mem_cons.1 hx with rfl | hx
      · have e2 := (hoth gs (by have := h.ne.2; omega)).trans hst
        exact bytes_of (T := [42]) (blk_lt e2) (fun j hj => by
          obtain rfl : j = 0 := by simp at hj; omega
          exact cell_blk e2 0)
      · rw [List.mem_singleton.1 hx]
        exact hC.below hbel2
  · unfold outL at hx
    rcases List.mem_append.1 hx with hx | hx
    · exact hB x hx
    · rcases List.mem_cons.1 hx with rfl | hx
      · exact ⟨⟨by show (-9223372036854775808 : Int) ≤ 5; decide, by show (5 : Int) ≤ 9223372036854775807; decide⟩, Nat.le_refl 1, by show 1 ≤ 9223372036854775807; decide⟩
      · rw [List.mem_singleton.1 hx]
        exact ⟨⟨by show (-9223372036854775808 : Int) ≤ 2; decide, by show (2 : Int) ≤ 9223372036854775807; decide⟩, hCc, by show C.length ≤ _; omega⟩
theorem box_two (wr : World) (c1 c2 : Array Value) (t : TypeId) : ((wr.alloc (.cells c1 t)).alloc (.cells c2 t)).drew.heap[wr.heap.size]? = some (.cells c1 t (0, 0)) ∧ ((wr.alloc (.cells c1 t)).alloc (.cells c2 t)).drew.heap[wr.heap.size + 1]? = some (.cells c2 t (0, 0)) ∧ Below wr.heap.size wr ((wr.alloc (.cells c1 t)).alloc (.cells c2 t)).drew := by
  have e : (wr.alloc (.cells c1 t)).heap.size = wr.heap.size + 1 := by simp
  refine ⟨?_, ?_, (((Below.refl _ _).alloc (Nat.le_refl _) _).alloc (by simp) _).drew⟩
  · have h1 := heap_alloc_new wr (.cells c1 t)
    exact (((Below.refl _ _).alloc (Nat.le_refl _) (.cells c2 t)).block wr.heap.size (by omega)).trans h1
  · have h1 := heap_alloc_new (wr.alloc (.cells c1 t)) (.cells c2 t)
    rw [e] at h1
    exact h1
theorem hears_law (w : World) (a ca : Option Addr) (n0 cap ccap : Nat) (I N : Int) (C : List UInt8) (l : List Sv) (hn : n0 = l.length) (hnil : a = none → cap = 0 ∧ l = []) (hbig : l.length ≤ 2000000) (hl : SvAt w a l) (hNm : ∀ x ∈ l, Named w x) (hB : Bnd l) (hC : Bytes w ca (nb C)) (hCc : C.length ≤ ccap) (hC2 : C.length ≤ 1048576) :
    Calls Try.prog 4 #[.agg #[.slice a n0 cap, .slice ca C.length ccap, .int .i64 I, .int .i64 N]] w fun e w' => e = .returned (.bool true) ∧ Hid (Below w.heap.size w w') := by
  have ha0 : Below w.heap.size w (w.alloc (.cells #[.slice a n0 cap, .slice ca C.length ccap, .int .i64 I, .int .i64 N] 25)) := (Below.refl _ _).alloc (Nat.le_refl _) _
  have hbx := heap_alloc_new w (.cells #[.slice a n0 cap, .slice ca C.length ccap, .int .i64 I, .int .i64 N] 25)
  have hl0 : SvAt (w.alloc (.cells #[.slice a n0 cap, .slice ca C.length ccap, .int .i64 I, .int .i64 N] 25)) a l := by
    rcases hl with h | ⟨b, off, e, hb, hc⟩
    · exact .inl h
    · refine .inr ⟨b, off, e, Nat.lt_of_lt_of_le hb ha0.size, fun i x hx => ?_⟩
      obtain ⟨h0, h1, h2⟩ := hc i x hx
      exact ⟨(ha0.cell (p := ⟨b, off + i * 3, none⟩) hb).trans h0, (ha0.cell (p := ⟨b, off + i * 3 + 1, none⟩) hb).trans h1, (ha0.cell (p := ⟨b, off + i * 3 + 2, none⟩) hb).trans h2⟩
  have hlt0 := blk_lt hbx
  have hcl : Hid (∀ W g n c gs, OpenEnd (w.alloc (.cells #[.slice a n0 cap, .slice ca C.length ccap, .int .i64 I, .int .i64 N] 25)) W w.heap.size (.slice ca C.length ccap) l g n c gs → OutAt w (w.alloc (.cells #[.slice a n0 cap, .slice ca C.length ccap, .int .i64 I, .int .i64 N] 25)) (W.setCell ⟨w.heap.size, 0, none⟩ (.slice (some ⟨g, 0, none⟩) n c)) C ca ccap l g n c gs) := hide (fun W g n c gs h => h.close ⟨hlt0, hbx⟩ ha0 hNm hB hC hCc hC2)
  have HBX := hide (And.intro hlt0 hbx)
  have st0 : Hid (OpenSt (w.alloc (.cells #[.slice a n0 cap, .slice ca C.length ccap, .int .i64 I, .int .i64 N] 25)) (w.alloc (.cells #[.slice a n0 cap, .slice ca C.length ccap, .int .i64 I, .int .i64 N] 25)).drew w.heap.size (.slice a n0 cap) (.slice ca C.length ccap) (.int .i64 I) (.int .i64 N) l none none none false none) :=
    hide ⟨⟨rfl, rfl, rfl, Nat.le_refl _, fun _ _ => rfl⟩, hlt0, hbx, fun g e => (by cases e), fun v e => (by cases e), fun g e => (by cases e), fun p e => (by cases e)⟩
  have HSL := hide hl0
  have HNN := hide hn
  have HNIL := hide hnil
  have HC := hide hC
  have HC2 := hide hC2
  have HA0 := hide ha0
  clear hl hNm hB hC hCc hC2 hn hnil hl0 hbx hlt0 ha0
  obtain ⟨cl, hcl2⟩ : ∃ cl, C.length = cl := ⟨_, rfl⟩
  rw [hcl2] at hcl HBX st0 HSL HA0 ⊢
  have HCL := hide hcl2
  clear hcl2
  go_enter Try.func4, Try.ntmps4
  go_upto_region 1 with fail
  generalize (w.alloc (.cells #[.slice a n0 cap, .slice ca cl ccap, .int .i64 I, .int .i64 N] 25)) = w0 at *
  go_cut [1] from 19 to 31 (fun b wx => b = .pointer (some ⟨w.heap.size, 0, none⟩) ∧ Hid (∃ g n c gs, OutAt w w0 wx C ca ccap l g n c gs))
  case first =>
    refine till_begin (fun Wq => Wq.cell? ⟨w.heap.size, 0, none⟩ = some (.slice a n0 cap) ∧ Wq.cell? ⟨w.heap.size, 1, none⟩ = some (.slice ca cl ccap)) 13 (by kernel_rfl) ?_
    generalize hV : w0.drew = W0 at st0 ⊢
    clear hV
    refine AnyTill.take 1 (v := ?_) rfl (by kernel_rfl) (by kernel_rfl) (by kernel_rfl) (by kernel_rfl) (fun _ _ _ h => h) ?_ rfl (unhide st0).cells ?_
    rotate_left
    · intro Wq hSw
      obtain ⟨s0, s1⟩ := hSw
      go_simp
      all_goals with_reducible rfl
    try simp only [Act.put, List.getElem_toArray, List.getElem_cons_succ, List.getElem_cons_zero, List.setIfInBounds_toArray, List.set_cons_zero, List.set_cons_succ]
    refine AnyTill.take 2 (v := ?_) rfl (by kernel_rfl) (by kernel_rfl) (by kernel_rfl) (by kernel_rfl) (fun _ _ _ h => h) ?_ rfl (unhide st0).cells ?_
    rotate_left
    · intro Wq hSw
      obtain ⟨s0, s1⟩ := hSw
      go_simp
      all_goals with_reducible rfl
    try simp only [Act.put, List.getElem_toArray, List.getElem_cons_succ, List.getElem_cons_zero, List.setIfInBounds_toArray, List.set_cons_zero, List.set_cons_succ]
    refine AnyTill.take 7 (v := ?_) rfl (by kernel_rfl) (by kernel_rfl) (by kernel_rfl) (by kernel_rfl) (fun _ _ _ h => h) ?_ rfl (unhide st0).cells ?_
    rotate_left
    · intro Wq hSw
      obtain ⟨s0, s1⟩ := hSw
      go_simp
      all_goals with_reducible rfl
    try simp only [Act.put, List.getElem_toArray, List.getElem_cons_succ, List.getElem_cons_zero, List.setIfInBounds_toArray, List.set_cons_zero, List.set_cons_succ]
    refine AnyTill.take 8 (v := ?_) rfl (by kernel_rfl) (by kernel_rfl) (by kernel_rfl) (by kernel_rfl) (fun _ _ _ h => h) ?_ rfl (unhide st0).cells ?_
    rotate_left
    · intro Wq hSw
      obtain ⟨s0, s1⟩ := hSw
      go_simp
      all_goals with_reducible rfl
    try simp only [Act.put, List.getElem_toArray, List.getElem_cons_succ, List.getElem_cons_zero, List.setIfInBounds_toArray, List.set_cons_zero, List.set_cons_succ]
    refine AnyTill.take 9 (v := ?_) rfl (by kernel_rfl) (by kernel_rfl) (by kernel_rfl) (by kernel_rfl) (fun _ _ _ h => h) ?_ rfl (unhide st0).cells ?_
    rotate_left
    · intro Wq hSw
      obtain ⟨s0, s1⟩ := hSw
      go_simp
      all_goals with_reducible rfl
    try simp only [Act.put, List.getElem_toArray, List.getElem_cons_succ, List.getElem_cons_zero, List.setIfInBounds_toArray, List.set_cons_zero, List.set_cons_succ]
    refine AnyTill.two (i := 0) (j := 4) (by kernel_rfl) (AnyTill.op rfl rfl fun K hK => ?_) (AnyTill.op rfl rfl fun K hK => ?_)
    · have st1 := hide (unhide st0).s19
      go_simp
      refine hK _ (W0.alloc (.cells #[] 40)) (fun _ => (unhide st1).cells) ?_
      clear hK K st0
      generalize hV : W0.alloc (.cells #[] 40) = W1 at st1 ⊢
      clear hV
      generalize hG : W0.heap.size = g19 at st1 ⊢
      clear hG
      try simp only [Act.put, List.getElem_toArray, List.getElem_cons_succ, List.getElem_cons_zero, List.setIfInBounds_toArray, List.set_cons_zero, List.set_cons_succ]
      refine AnyTill.two (i := 3) (j := 4) (by kernel_rfl) (AnyTill.op rfl rfl fun K hK => ?_) (AnyTill.op rfl rfl fun K hK => ?_)
      · obtain ⟨a22, c22, W2, r22, st2⟩ := (unhide st1).s22 22 (unhide HSL) (unhide HNN) (unhide HNIL) hbig
        refine op_append (.tmp 19) (.tmp 21) rfl rfl rfl r22 ?_
        refine hK _ _ (fun _ => (unhide st2).cells) ?_
        clear hK K st1 r22
        try simp only [Act.put, List.getElem_toArray, List.getElem_cons_succ, List.getElem_cons_zero, List.setIfInBounds_toArray, List.set_cons_zero, List.set_cons_succ]
        refine AnyTill.one (i := 4) (by kernel_rfl) (AnyTill.op rfl rfl fun K hK => ?_)
        have st3 := hide (unhide st2).s23
        go_simp
        refine hK _ (W2.alloc (.cells #[.int .u8 42] 5)) (fun _ => (unhide st3).cells) ?_
        clear hK K st2
        generalize hV : W2.alloc (.cells #[.int .u8 42] 5) = W3 at st3 ⊢
        clear hV
        generalize hG : W2.heap.size = g23 at st3 ⊢
        clear hG
        try simp only [Act.put, List.getElem_toArray, List.getElem_cons_succ, List.getElem_cons_zero, List.setIfInBounds_toArray, List.set_cons_zero, List.set_cons_succ]
        refine AnyTill.one (i := 5) (by kernel_rfl) (AnyTill.op rfl rfl fun K hK => ?_)
        obtain ⟨W4, r24, st4⟩ := (unhide st3).s24
        go_simp
        refine hK _ _ (fun _ => (unhide st4).cells) ?_
        clear hK K st3 r24
        try simp only [Act.put, List.getElem_toArray, List.getElem_cons_succ, List.getElem_cons_zero, List.setIfInBounds_toArray, List.set_cons_zero, List.set_cons_succ]
        refine AnyTill.take 6 (v := ?_) rfl (by kernel_rfl) (by kernel_rfl) (by kernel_rfl) (by kernel_rfl) (fun _ _ _ h => h) ?_ rfl (unhide st4).cells ?_
        rotate_left
        · intro Wq hSw
          obtain ⟨s0, s1⟩ := hSw
          go_simp
          all_goals with_reducible rfl
        try simp only [Act.put, List.getElem_toArray, List.getElem_cons_succ, List.getElem_cons_zero, List.setIfInBounds_toArray, List.set_cons_zero, List.set_cons_succ]
        refine AnyTill.one (i := 10) (by kernel_rfl) (AnyTill.op rfl rfl fun K hK => ?_)
        have st5 := hide (unhide st4).s29
        go_simp
        refine hK _ (W4.alloc (.cells #[.int .i64 5, .slice (some ⟨g23, 0, none⟩) 1 1, .bool true, .int .i64 2, .slice ca cl ccap, .bool false] 40)) (fun _ => (unhide st5).cells) ?_
        clear hK K st4
        generalize hV : W4.alloc (.cells #[.int .i64 5, .slice (some ⟨g23, 0, none⟩) 1 1, .bool true, .int .i64 2, .slice ca cl ccap, .bool false] 40) = W5 at st5 ⊢
        clear hV
        generalize hG : W4.heap.size = g29 at st5 ⊢
        clear hG
        try simp only [Act.put, List.getElem_toArray, List.getElem_cons_succ, List.getElem_cons_zero, List.setIfInBounds_toArray, List.set_cons_zero, List.set_cons_succ]
        refine AnyTill.one (i := 11) (by kernel_rfl) (AnyTill.op rfl rfl fun K hK => ?_)
        obtain ⟨g30, n30, c30, W6, r30, en⟩ := (unhide st5).s30 22 (unhide HNN) ⟨_, _, _, rfl⟩ hbig
        refine op_append (.tmp 22) (.tmp 29) rfl rfl rfl r30 ?_
        have hSS := (unhide en).cells (unhide HBX)
        refine hK _ _ (fun _ => hSS) ?_
        clear hK K st5 r30
        try simp only [Act.put, List.getElem_toArray, List.getElem_cons_succ, List.getElem_cons_zero, List.setIfInBounds_toArray, List.set_cons_zero, List.set_cons_succ]
        refine AnyTill.one (i := 12) (by kernel_rfl) (AnyTill.op rfl rfl fun K hK => ?_)
        go_simp
        refine hK _ _ (fun _ => hSS) ?_
        clear hK K
        try simp only [Act.put, List.getElem_toArray, List.getElem_cons_succ, List.getElem_cons_zero, List.setIfInBounds_toArray, List.set_cons_zero, List.set_cons_succ]
        refine AnyTill.one (i := 13) (by kernel_rfl) (AnyTill.op rfl rfl fun K hK => ?_)
        have hz4 := (unhide en).unfrozen (unhide HBX)
        obtain ⟨s0, s1⟩ := hSS
        go_simp
        refine hK _ _ (fun h => absurd rfl h) ?_
        clear hK K
        try simp only [Act.put, List.getElem_toArray, List.getElem_cons_succ, List.getElem_cons_zero, List.setIfInBounds_toArray, List.set_cons_zero, List.set_cons_succ]
        refine AnyTill.done (by kernel_rfl) ?_
        go_wp2_with fail
        go_meet
        exact ⟨rfl, hide ⟨g30, n30, c30, _, unhide hcl _ _ _ _ _ (unhide en)⟩⟩
      · have st7 := hide (unhide st1).s23
        go_simp
        refine hK _ (W1.alloc (.cells #[.int .u8 42] 5)) (fun _ => (unhide st7).cells) ?_
        clear hK K st1
        generalize hV : W1.alloc (.cells #[.int .u8 42] 5) = W7 at st7 ⊢
        clear hV
        generalize hG : W1.heap.size = g23 at st7 ⊢
        clear hG
        try simp only [Act.put, List.getElem_toArray, List.getElem_cons_succ, List.getElem_cons_zero, List.setIfInBounds_toArray, List.set_cons_zero, List.set_cons_succ]
        refine AnyTill.two (i := 3) (j := 5) (by kernel_rfl) (AnyTill.op rfl rfl fun K hK => ?_) (AnyTill.op rfl rfl fun K hK => ?_)
        · obtain ⟨a22, c22, W8, r22, st8⟩ := (unhide st7).s22 22 (unhide HSL) (unhide HNN) (unhide HNIL) hbig
          refine op_append (.tmp 19) (.tmp 21) rfl rfl rfl r22 ?_
          refine hK _ _ (fun _ => (unhide st8).cells) ?_
          clear hK K st7 r22
          try simp only [Act.put, List.getElem_toArray, List.getElem_cons_succ, List.getElem_cons_zero, List.setIfInBounds_toArray, List.set_cons_zero, List.set_cons_succ]
          refine AnyTill.one (i := 5) (by kernel_rfl) (AnyTill.op rfl rfl fun K hK => ?_)
          obtain ⟨W9, r24, st9⟩ := (unhide st8).s24
          go_simp
          refine hK _ _ (fun _ => (unhide st9).cells) ?_
          clear hK K st8 r24
          try simp only [Act.put, List.getElem_toArray, List.getElem_cons_succ, List.getElem_cons_zero, List.setIfInBounds_toArray, List.set_cons_zero, List.set_cons_succ]
          refine AnyTill.take 6 (v := ?_) rfl (by kernel_rfl) (by kernel_rfl) (by kernel_rfl) (by kernel_rfl) (fun _ _ _ h => h) ?_ rfl (unhide st9).cells ?_
          rotate_left
          · intro Wq hSw
            obtain ⟨s0, s1⟩ := hSw
            go_simp
            all_goals with_reducible rfl
          try simp only [Act.put, List.getElem_toArray, List.getElem_cons_succ, List.getElem_cons_zero, List.setIfInBounds_toArray, List.set_cons_zero, List.set_cons_succ]
          refine AnyTill.one (i := 10) (by kernel_rfl) (AnyTill.op rfl rfl fun K hK => ?_)
          have st10 := hide (unhide st9).s29
          go_simp
          refine hK _ (W9.alloc (.cells #[.int .i64 5, .slice (some ⟨g23, 0, none⟩) 1 1, .bool true, .int .i64 2, .slice ca cl ccap, .bool false] 40)) (fun _ => (unhide st10).cells) ?_
          clear hK K st9
          generalize hV : W9.alloc (.cells #[.int .i64 5, .slice (some ⟨g23, 0, none⟩) 1 1, .bool true, .int .i64 2, .slice ca cl ccap, .bool false] 40) = W10 at st10 ⊢
          clear hV
          generalize hG : W9.heap.size = g29 at st10 ⊢
          clear hG
          try simp only [Act.put, List.getElem_toArray, List.getElem_cons_succ, List.getElem_cons_zero, List.setIfInBounds_toArray, List.set_cons_zero, List.set_cons_succ]
          refine AnyTill.one (i := 11) (by kernel_rfl) (AnyTill.op rfl rfl fun K hK => ?_)
          obtain ⟨g30, n30, c30, W11, r30, en⟩ := (unhide st10).s30 22 (unhide HNN) ⟨_, _, _, rfl⟩ hbig
          refine op_append (.tmp 22) (.tmp 29) rfl rfl rfl r30 ?_
          have hSS := (unhide en).cells (unhide HBX)
          refine hK _ _ (fun _ => hSS) ?_
          clear hK K st10 r30
          try simp only [Act.put, List.getElem_toArray, List.getElem_cons_succ, List.getElem_cons_zero, List.setIfInBounds_toArray, List.set_cons_zero, List.set_cons_succ]
          refine AnyTill.one (i := 12) (by kernel_rfl) (AnyTill.op rfl rfl fun K hK => ?_)
          go_simp
          refine hK _ _ (fun _ => hSS) ?_
          clear hK K
          try simp only [Act.put, List.getElem_toArray, List.getElem_cons_succ, List.getElem_cons_zero, List.setIfInBounds_toArray, List.set_cons_zero, List.set_cons_succ]
          refine AnyTill.one (i := 13) (by kernel_rfl) (AnyTill.op rfl rfl fun K hK => ?_)
          have hz4 := (unhide en).unfrozen (unhide HBX)
          obtain ⟨s0, s1⟩ := hSS
          go_simp
          refine hK _ _ (fun h => absurd rfl h) ?_
          clear hK K
          try simp only [Act.put, List.getElem_toArray, List.getElem_cons_succ, List.getElem_cons_zero, List.setIfInBounds_toArray, List.set_cons_zero, List.set_cons_succ]
          refine AnyTill.done (by kernel_rfl) ?_
          go_wp2_with fail
          go_meet
          exact ⟨rfl, hide ⟨g30, n30, c30, _, unhide hcl _ _ _ _ _ (unhide en)⟩⟩
        · obtain ⟨W12, r24, st12⟩ := (unhide st7).s24
          go_simp
          refine hK _ _ (fun _ => (unhide st12).cells) ?_
          clear hK K st7 r24
          try simp only [Act.put, List.getElem_toArray, List.getElem_cons_succ, List.getElem_cons_zero, List.setIfInBounds_toArray, List.set_cons_zero, List.set_cons_succ]
          refine AnyTill.take 6 (v := ?_) rfl (by kernel_rfl) (by kernel_rfl) (by kernel_rfl) (by kernel_rfl) (fun _ _ _ h => h) ?_ rfl (unhide st12).cells ?_
          rotate_left
          · intro Wq hSw
            obtain ⟨s0, s1⟩ := hSw
            go_simp
            all_goals with_reducible rfl
          try simp only [Act.put, List.getElem_toArray, List.getElem_cons_succ, List.getElem_cons_zero, List.setIfInBounds_toArray, List.set_cons_zero, List.set_cons_succ]
          refine AnyTill.two (i := 3) (j := 10) (by kernel_rfl) (AnyTill.op rfl rfl fun K hK => ?_) (AnyTill.op rfl rfl fun K hK => ?_)
          · obtain ⟨a22, c22, W13, r22, st13⟩ := (unhide st12).s22 22 (unhide HSL) (unhide HNN) (unhide HNIL) hbig
            refine op_append (.tmp 19) (.tmp 21) rfl rfl rfl r22 ?_
            refine hK _ _ (fun _ => (unhide st13).cells) ?_
            clear hK K st12 r22
            try simp only [Act.put, List.getElem_toArray, List.getElem_cons_succ, List.getElem_cons_zero, List.setIfInBounds_toArray, List.set_cons_zero, List.set_cons_succ]
            refine AnyTill.one (i := 10) (by kernel_rfl) (AnyTill.op rfl rfl fun K hK => ?_)
            have st14 := hide (unhide st13).s29
            go_simp
            refine hK _ (W13.alloc (.cells #[.int .i64 5, .slice (some ⟨g23, 0, none⟩) 1 1, .bool true, .int .i64 2, .slice ca cl ccap, .bool false] 40)) (fun _ => (unhide st14).cells) ?_
            clear hK K st13
            generalize hV : W13.alloc (.cells #[.int .i64 5, .slice (some ⟨g23, 0, none⟩) 1 1, .bool true, .int .i64 2, .slice ca cl ccap, .bool false] 40) = W14 at st14 ⊢
            clear hV
            generalize hG : W13.heap.size = g29 at st14 ⊢
            clear hG
            try simp only [Act.put, List.getElem_toArray, List.getElem_cons_succ, List.getElem_cons_zero, List.setIfInBounds_toArray, List.set_cons_zero, List.set_cons_succ]
            refine AnyTill.one (i := 11) (by kernel_rfl) (AnyTill.op rfl rfl fun K hK => ?_)
            obtain ⟨g30, n30, c30, W15, r30, en⟩ := (unhide st14).s30 22 (unhide HNN) ⟨_, _, _, rfl⟩ hbig
            refine op_append (.tmp 22) (.tmp 29) rfl rfl rfl r30 ?_
            have hSS := (unhide en).cells (unhide HBX)
            refine hK _ _ (fun _ => hSS) ?_
            clear hK K st14 r30
            try simp only [Act.put, List.getElem_toArray, List.getElem_cons_succ, List.getElem_cons_zero, List.setIfInBounds_toArray, List.set_cons_zero, List.set_cons_succ]
            refine AnyTill.one (i := 12) (by kernel_rfl) (AnyTill.op rfl rfl fun K hK => ?_)
            go_simp
            refine hK _ _ (fun _ => hSS) ?_
            clear hK K
            try simp only [Act.put, List.getElem_toArray, List.getElem_cons_succ, List.getElem_cons_zero, List.setIfInBounds_toArray, List.set_cons_zero, List.set_cons_succ]
            refine AnyTill.one (i := 13) (by kernel_rfl) (AnyTill.op rfl rfl fun K hK => ?_)
            have hz4 := (unhide en).unfrozen (unhide HBX)
            obtain ⟨s0, s1⟩ := hSS
            go_simp
            refine hK _ _ (fun h => absurd rfl h) ?_
            clear hK K
            try simp only [Act.put, List.getElem_toArray, List.getElem_cons_succ, List.getElem_cons_zero, List.setIfInBounds_toArray, List.set_cons_zero, List.set_cons_succ]
            refine AnyTill.done (by kernel_rfl) ?_
            go_wp2_with fail
            go_meet
            exact ⟨rfl, hide ⟨g30, n30, c30, _, unhide hcl _ _ _ _ _ (unhide en)⟩⟩
          · have st16 := hide (unhide st12).s29
            go_simp
            refine hK _ (W12.alloc (.cells #[.int .i64 5, .slice (some ⟨g23, 0, none⟩) 1 1, .bool true, .int .i64 2, .slice ca cl ccap, .bool false] 40)) (fun _ => (unhide st16).cells) ?_
            clear hK K st12
            generalize hV : W12.alloc (.cells #[.int .i64 5, .slice (some ⟨g23, 0, none⟩) 1 1, .bool true, .int .i64 2, .slice ca cl ccap, .bool false] 40) = W16 at st16 ⊢
            clear hV
            generalize hG : W12.heap.size = g29 at st16 ⊢
            clear hG
            try simp only [Act.put, List.getElem_toArray, List.getElem_cons_succ, List.getElem_cons_zero, List.setIfInBounds_toArray, List.set_cons_zero, List.set_cons_succ]
            refine AnyTill.one (i := 3) (by kernel_rfl) (AnyTill.op rfl rfl fun K hK => ?_)
            obtain ⟨a22, c22, W17, r22, st17⟩ := (unhide st16).s22 22 (unhide HSL) (unhide HNN) (unhide HNIL) hbig
            refine op_append (.tmp 19) (.tmp 21) rfl rfl rfl r22 ?_
            refine hK _ _ (fun _ => (unhide st17).cells) ?_
            clear hK K st16 r22
            try simp only [Act.put, List.getElem_toArray, List.getElem_cons_succ, List.getElem_cons_zero, List.setIfInBounds_toArray, List.set_cons_zero, List.set_cons_succ]
            refine AnyTill.one (i := 11) (by kernel_rfl) (AnyTill.op rfl rfl fun K hK => ?_)
            obtain ⟨g30, n30, c30, W18, r30, en⟩ := (unhide st17).s30 22 (unhide HNN) ⟨_, _, _, rfl⟩ hbig
            refine op_append (.tmp 22) (.tmp 29) rfl rfl rfl r30 ?_
            have hSS := (unhide en).cells (unhide HBX)
            refine hK _ _ (fun _ => hSS) ?_
            clear hK K st17 r30
            try simp only [Act.put, List.getElem_toArray, List.getElem_cons_succ, List.getElem_cons_zero, List.setIfInBounds_toArray, List.set_cons_zero, List.set_cons_succ]
            refine AnyTill.one (i := 12) (by kernel_rfl) (AnyTill.op rfl rfl fun K hK => ?_)
            go_simp
            refine hK _ _ (fun _ => hSS) ?_
            clear hK K
            try simp only [Act.put, List.getElem_toArray, List.getElem_cons_succ, List.getElem_cons_zero, List.setIfInBounds_toArray, List.set_cons_zero, List.set_cons_succ]
            refine AnyTill.one (i := 13) (by kernel_rfl) (AnyTill.op rfl rfl fun K hK => ?_)
            have hz4 := (unhide en).unfrozen (unhide HBX)
            obtain ⟨s0, s1⟩ := hSS
            go_simp
            refine hK _ _ (fun h => absurd rfl h) ?_
            clear hK K
            try simp only [Act.put, List.getElem_toArray, List.getElem_cons_succ, List.getElem_cons_zero, List.setIfInBounds_toArray, List.set_cons_zero, List.set_cons_succ]
            refine AnyTill.done (by kernel_rfl) ?_
            go_wp2_with fail
            go_meet
            exact ⟨rfl, hide ⟨g30, n30, c30, _, unhide hcl _ _ _ _ _ (unhide en)⟩⟩
    · have st19 := hide (unhide st0).s23
      go_simp
      refine hK _ (W0.alloc (.cells #[.int .u8 42] 5)) (fun _ => (unhide st19).cells) ?_
      clear hK K st0
      generalize hV : W0.alloc (.cells #[.int .u8 42] 5) = W19 at st19 ⊢
      clear hV
      generalize hG : W0.heap.size = g23 at st19 ⊢
      clear hG
      try simp only [Act.put, List.getElem_toArray, List.getElem_cons_succ, List.getElem_cons_zero, List.setIfInBounds_toArray, List.set_cons_zero, List.set_cons_succ]
      refine AnyTill.two (i := 0) (j := 5) (by kernel_rfl) (AnyTill.op rfl rfl fun K hK => ?_) (AnyTill.op rfl rfl fun K hK => ?_)
      · have st20 := hide (unhide st19).s19
        go_simp
        refine hK _ (W19.alloc (.cells #[] 40)) (fun _ => (unhide st20).cells) ?_
        clear hK K st19
        generalize hV : W19.alloc (.cells #[] 40) = W20 at st20 ⊢
        clear hV
        generalize hG : W19.heap.size = g19 at st20 ⊢
        clear hG
        try simp only [Act.put, List.getElem_toArray, List.getElem_cons_succ, List.getElem_cons_zero, List.setIfInBounds_toArray, List.set_cons_zero, List.set_cons_succ]
        refine AnyTill.two (i := 3) (j := 5) (by kernel_rfl) (AnyTill.op rfl rfl fun K hK => ?_) (AnyTill.op rfl rfl fun K hK => ?_)
        · obtain ⟨a22, c22, W21, r22, st21⟩ := (unhide st20).s22 22 (unhide HSL) (unhide HNN) (unhide HNIL) hbig
          refine op_append (.tmp 19) (.tmp 21) rfl rfl rfl r22 ?_
          refine hK _ _ (fun _ => (unhide st21).cells) ?_
          clear hK K st20 r22
          try simp only [Act.put, List.getElem_toArray, List.getElem_cons_succ, List.getElem_cons_zero, List.setIfInBounds_toArray, List.set_cons_zero, List.set_cons_succ]
          refine AnyTill.one (i := 5) (by kernel_rfl) (AnyTill.op rfl rfl fun K hK => ?_)
          obtain ⟨W22, r24, st22⟩ := (unhide st21).s24
          go_simp
          refine hK _ _ (fun _ => (unhide st22).cells) ?_
          clear hK K st21 r24
          try simp only [Act.put, List.getElem_toArray, List.getElem_cons_succ, List.getElem_cons_zero, List.setIfInBounds_toArray, List.set_cons_zero, List.set_cons_succ]
          refine AnyTill.take 6 (v := ?_) rfl (by kernel_rfl) (by kernel_rfl) (by kernel_rfl) (by kernel_rfl) (fun _ _ _ h => h) ?_ rfl (unhide st22).cells ?_
          rotate_left
          · intro Wq hSw
            obtain ⟨s0, s1⟩ := hSw
            go_simp
            all_goals with_reducible rfl
          try simp only [Act.put, List.getElem_toArray, List.getElem_cons_succ, List.getElem_cons_zero, List.setIfInBounds_toArray, List.set_cons_zero, List.set_cons_succ]
          refine AnyTill.one (i := 10) (by kernel_rfl) (AnyTill.op rfl rfl fun K hK => ?_)
          have st23 := hide (unhide st22).s29
          go_simp
          refine hK _ (W22.alloc (.cells #[.int .i64 5, .slice (some ⟨g23, 0, none⟩) 1 1, .bool true, .int .i64 2, .slice ca cl ccap, .bool false] 40)) (fun _ => (unhide st23).cells) ?_
          clear hK K st22
          generalize hV : W22.alloc (.cells #[.int .i64 5, .slice (some ⟨g23, 0, none⟩) 1 1, .bool true, .int .i64 2, .slice ca cl ccap, .bool false] 40) = W23 at st23 ⊢
          clear hV
          generalize hG : W22.heap.size = g29 at st23 ⊢
          clear hG
          try simp only [Act.put, List.getElem_toArray, List.getElem_cons_succ, List.getElem_cons_zero, List.setIfInBounds_toArray, List.set_cons_zero, List.set_cons_succ]
          refine AnyTill.one (i := 11) (by kernel_rfl) (AnyTill.op rfl rfl fun K hK => ?_)
          obtain ⟨g30, n30, c30, W24, r30, en⟩ := (unhide st23).s30 22 (unhide HNN) ⟨_, _, _, rfl⟩ hbig
          refine op_append (.tmp 22) (.tmp 29) rfl rfl rfl r30 ?_
          have hSS := (unhide en).cells (unhide HBX)
          refine hK _ _ (fun _ => hSS) ?_
          clear hK K st23 r30
          try simp only [Act.put, List.getElem_toArray, List.getElem_cons_succ, List.getElem_cons_zero, List.setIfInBounds_toArray, List.set_cons_zero, List.set_cons_succ]
          refine AnyTill.one (i := 12) (by kernel_rfl) (AnyTill.op rfl rfl fun K hK => ?_)
          go_simp
          refine hK _ _ (fun _ => hSS) ?_
          clear hK K
          try simp only [Act.put, List.getElem_toArray, List.getElem_cons_succ, List.getElem_cons_zero, List.setIfInBounds_toArray, List.set_cons_zero, List.set_cons_succ]
          refine AnyTill.one (i := 13) (by kernel_rfl) (AnyTill.op rfl rfl fun K hK => ?_)
          have hz4 := (unhide en).unfrozen (unhide HBX)
          obtain ⟨s0, s1⟩ := hSS
          go_simp
          refine hK _ _ (fun h => absurd rfl h) ?_
          clear hK K
          try simp only [Act.put, List.getElem_toArray, List.getElem_cons_succ, List.getElem_cons_zero, List.setIfInBounds_toArray, List.set_cons_zero, List.set_cons_succ]
          refine AnyTill.done (by kernel_rfl) ?_
          go_wp2_with fail
          go_meet
          exact ⟨rfl, hide ⟨g30, n30, c30, _, unhide hcl _ _ _ _ _ (unhide en)⟩⟩
        · obtain ⟨W25, r24, st25⟩ := (unhide st20).s24
          go_simp
          refine hK _ _ (fun _ => (unhide st25).cells) ?_
          clear hK K st20 r24
          try simp only [Act.put, List.getElem_toArray, List.getElem_cons_succ, List.getElem_cons_zero, List.setIfInBounds_toArray, List.set_cons_zero, List.set_cons_succ]
          refine AnyTill.take 6 (v := ?_) rfl (by kernel_rfl) (by kernel_rfl) (by kernel_rfl) (by kernel_rfl) (fun _ _ _ h => h) ?_ rfl (unhide st25).cells ?_
          rotate_left
          · intro Wq hSw
            obtain ⟨s0, s1⟩ := hSw
            go_simp
            all_goals with_reducible rfl
          try simp only [Act.put, List.getElem_toArray, List.getElem_cons_succ, List.getElem_cons_zero, List.setIfInBounds_toArray, List.set_cons_zero, List.set_cons_succ]
          refine AnyTill.two (i := 3) (j := 10) (by kernel_rfl) (AnyTill.op rfl rfl fun K hK => ?_) (AnyTill.op rfl rfl fun K hK => ?_)
          · obtain ⟨a22, c22, W26, r22, st26⟩ := (unhide st25).s22 22 (unhide HSL) (unhide HNN) (unhide HNIL) hbig
            refine op_append (.tmp 19) (.tmp 21) rfl rfl rfl r22 ?_
            refine hK _ _ (fun _ => (unhide st26).cells) ?_
            clear hK K st25 r22
            try simp only [Act.put, List.getElem_toArray, List.getElem_cons_succ, List.getElem_cons_zero, List.setIfInBounds_toArray, List.set_cons_zero, List.set_cons_succ]
            refine AnyTill.one (i := 10) (by kernel_rfl) (AnyTill.op rfl rfl fun K hK => ?_)
            have st27 := hide (unhide st26).s29
            go_simp
            refine hK _ (W26.alloc (.cells #[.int .i64 5, .slice (some ⟨g23, 0, none⟩) 1 1, .bool true, .int .i64 2, .slice ca cl ccap, .bool false] 40)) (fun _ => (unhide st27).cells) ?_
            clear hK K st26
            generalize hV : W26.alloc (.cells #[.int .i64 5, .slice (some ⟨g23, 0, none⟩) 1 1, .bool true, .int .i64 2, .slice ca cl ccap, .bool false] 40) = W27 at st27 ⊢
            clear hV
            generalize hG : W26.heap.size = g29 at st27 ⊢
            clear hG
            try simp only [Act.put, List.getElem_toArray, List.getElem_cons_succ, List.getElem_cons_zero, List.setIfInBounds_toArray, List.set_cons_zero, List.set_cons_succ]
            refine AnyTill.one (i := 11) (by kernel_rfl) (AnyTill.op rfl rfl fun K hK => ?_)
            obtain ⟨g30, n30, c30, W28, r30, en⟩ := (unhide st27).s30 22 (unhide HNN) ⟨_, _, _, rfl⟩ hbig
            refine op_append (.tmp 22) (.tmp 29) rfl rfl rfl r30 ?_
            have hSS := (unhide en).cells (unhide HBX)
            refine hK _ _ (fun _ => hSS) ?_
            clear hK K st27 r30
            try simp only [Act.put, List.getElem_toArray, List.getElem_cons_succ, List.getElem_cons_zero, List.setIfInBounds_toArray, List.set_cons_zero, List.set_cons_succ]
            refine AnyTill.one (i := 12) (by kernel_rfl) (AnyTill.op rfl rfl fun K hK => ?_)
            go_simp
            refine hK _ _ (fun _ => hSS) ?_
            clear hK K
            try simp only [Act.put, List.getElem_toArray, List.getElem_cons_succ, List.getElem_cons_zero, List.setIfInBounds_toArray, List.set_cons_zero, List.set_cons_succ]
            refine AnyTill.one (i := 13) (by kernel_rfl) (AnyTill.op rfl rfl fun K hK => ?_)
            have hz4 := (unhide en).unfrozen (unhide HBX)
            obtain ⟨s0, s1⟩ := hSS
            go_simp
            refine hK _ _ (fun h => absurd rfl h) ?_
            clear hK K
            try simp only [Act.put, List.getElem_toArray, List.getElem_cons_succ, List.getElem_cons_zero, List.setIfInBounds_toArray, List.set_cons_zero, List.set_cons_succ]
            refine AnyTill.done (by kernel_rfl) ?_
            go_wp2_with fail
            go_meet
            exact ⟨rfl, hide ⟨g30, n30, c30, _, unhide hcl _ _ _ _ _ (unhide en)⟩⟩
          · have st29 := hide (unhide st25).s29
            go_simp
            refine hK _ (W25.alloc (.cells #[.int .i64 5, .slice (some ⟨g23, 0, none⟩) 1 1, .bool true, .int .i64 2, .slice ca cl ccap, .bool false] 40)) (fun _ => (unhide st29).cells) ?_
            clear hK K st25
            generalize hV : W25.alloc (.cells #[.int .i64 5, .slice (some ⟨g23, 0, none⟩) 1 1, .bool true, .int .i64 2, .slice ca cl ccap, .bool false] 40) = W29 at st29 ⊢
            clear hV
            generalize hG : W25.heap.size = g29 at st29 ⊢
            clear hG
            try simp only [Act.put, List.getElem_toArray, List.getElem_cons_succ, List.getElem_cons_zero, List.setIfInBounds_toArray, List.set_cons_zero, List.set_cons_succ]
            refine AnyTill.one (i := 3) (by kernel_rfl) (AnyTill.op rfl rfl fun K hK => ?_)
            obtain ⟨a22, c22, W30, r22, st30⟩ := (unhide st29).s22 22 (unhide HSL) (unhide HNN) (unhide HNIL) hbig
            refine op_append (.tmp 19) (.tmp 21) rfl rfl rfl r22 ?_
            refine hK _ _ (fun _ => (unhide st30).cells) ?_
            clear hK K st29 r22
            try simp only [Act.put, List.getElem_toArray, List.getElem_cons_succ, List.getElem_cons_zero, List.setIfInBounds_toArray, List.set_cons_zero, List.set_cons_succ]
            refine AnyTill.one (i := 11) (by kernel_rfl) (AnyTill.op rfl rfl fun K hK => ?_)
            obtain ⟨g30, n30, c30, W31, r30, en⟩ := (unhide st30).s30 22 (unhide HNN) ⟨_, _, _, rfl⟩ hbig
            refine op_append (.tmp 22) (.tmp 29) rfl rfl rfl r30 ?_
            have hSS := (unhide en).cells (unhide HBX)
            refine hK _ _ (fun _ => hSS) ?_
            clear hK K st30 r30
            try simp only [Act.put, List.getElem_toArray, List.getElem_cons_succ, List.getElem_cons_zero, List.setIfInBounds_toArray, List.set_cons_zero, List.set_cons_succ]
            refine AnyTill.one (i := 12) (by kernel_rfl) (AnyTill.op rfl rfl fun K hK => ?_)
            go_simp
            refine hK _ _ (fun _ => hSS) ?_
            clear hK K
            try simp only [Act.put, List.getElem_toArray, List.getElem_cons_succ, List.getElem_cons_zero, List.setIfInBounds_toArray, List.set_cons_zero, List.set_cons_succ]
            refine AnyTill.one (i := 13) (by kernel_rfl) (AnyTill.op rfl rfl fun K hK => ?_)
            have hz4 := (unhide en).unfrozen (unhide HBX)
            obtain ⟨s0, s1⟩ := hSS
            go_simp
            refine hK _ _ (fun h => absurd rfl h) ?_
            clear hK K
            try simp only [Act.put, List.getElem_toArray, List.getElem_cons_succ, List.getElem_cons_zero, List.setIfInBounds_toArray, List.set_cons_zero, List.set_cons_succ]
            refine AnyTill.done (by kernel_rfl) ?_
            go_wp2_with fail
            go_meet
            exact ⟨rfl, hide ⟨g30, n30, c30, _, unhide hcl _ _ _ _ _ (unhide en)⟩⟩
      · obtain ⟨W32, r24, st32⟩ := (unhide st19).s24
        go_simp
        refine hK _ _ (fun _ => (unhide st32).cells) ?_
        clear hK K st19 r24
        try simp only [Act.put, List.getElem_toArray, List.getElem_cons_succ, List.getElem_cons_zero, List.setIfInBounds_toArray, List.set_cons_zero, List.set_cons_succ]
        refine AnyTill.take 6 (v := ?_) rfl (by kernel_rfl) (by kernel_rfl) (by kernel_rfl) (by kernel_rfl) (fun _ _ _ h => h) ?_ rfl (unhide st32).cells ?_
        rotate_left
        · intro Wq hSw
          obtain ⟨s0, s1⟩ := hSw
          go_simp
          all_goals with_reducible rfl
        try simp only [Act.put, List.getElem_toArray, List.getElem_cons_succ, List.getElem_cons_zero, List.setIfInBounds_toArray, List.set_cons_zero, List.set_cons_succ]
        refine AnyTill.two (i := 0) (j := 10) (by kernel_rfl) (AnyTill.op rfl rfl fun K hK => ?_) (AnyTill.op rfl rfl fun K hK => ?_)
        · have st33 := hide (unhide st32).s19
          go_simp
          refine hK _ (W32.alloc (.cells #[] 40)) (fun _ => (unhide st33).cells) ?_
          clear hK K st32
          generalize hV : W32.alloc (.cells #[] 40) = W33 at st33 ⊢
          clear hV
          generalize hG : W32.heap.size = g19 at st33 ⊢
          clear hG
          try simp only [Act.put, List.getElem_toArray, List.getElem_cons_succ, List.getElem_cons_zero, List.setIfInBounds_toArray, List.set_cons_zero, List.set_cons_succ]
          refine AnyTill.two (i := 3) (j := 10) (by kernel_rfl) (AnyTill.op rfl rfl fun K hK => ?_) (AnyTill.op rfl rfl fun K hK => ?_)
          · obtain ⟨a22, c22, W34, r22, st34⟩ := (unhide st33).s22 22 (unhide HSL) (unhide HNN) (unhide HNIL) hbig
            refine op_append (.tmp 19) (.tmp 21) rfl rfl rfl r22 ?_
            refine hK _ _ (fun _ => (unhide st34).cells) ?_
            clear hK K st33 r22
            try simp only [Act.put, List.getElem_toArray, List.getElem_cons_succ, List.getElem_cons_zero, List.setIfInBounds_toArray, List.set_cons_zero, List.set_cons_succ]
            refine AnyTill.one (i := 10) (by kernel_rfl) (AnyTill.op rfl rfl fun K hK => ?_)
            have st35 := hide (unhide st34).s29
            go_simp
            refine hK _ (W34.alloc (.cells #[.int .i64 5, .slice (some ⟨g23, 0, none⟩) 1 1, .bool true, .int .i64 2, .slice ca cl ccap, .bool false] 40)) (fun _ => (unhide st35).cells) ?_
            clear hK K st34
            generalize hV : W34.alloc (.cells #[.int .i64 5, .slice (some ⟨g23, 0, none⟩) 1 1, .bool true, .int .i64 2, .slice ca cl ccap, .bool false] 40) = W35 at st35 ⊢
            clear hV
            generalize hG : W34.heap.size = g29 at st35 ⊢
            clear hG
            try simp only [Act.put, List.getElem_toArray, List.getElem_cons_succ, List.getElem_cons_zero, List.setIfInBounds_toArray, List.set_cons_zero, List.set_cons_succ]
            refine AnyTill.one (i := 11) (by kernel_rfl) (AnyTill.op rfl rfl fun K hK => ?_)
            obtain ⟨g30, n30, c30, W36, r30, en⟩ := (unhide st35).s30 22 (unhide HNN) ⟨_, _, _, rfl⟩ hbig
            refine op_append (.tmp 22) (.tmp 29) rfl rfl rfl r30 ?_
            have hSS := (unhide en).cells (unhide HBX)
            refine hK _ _ (fun _ => hSS) ?_
            clear hK K st35 r30
            try simp only [Act.put, List.getElem_toArray, List.getElem_cons_succ, List.getElem_cons_zero, List.setIfInBounds_toArray, List.set_cons_zero, List.set_cons_succ]
            refine AnyTill.one (i := 12) (by kernel_rfl) (AnyTill.op rfl rfl fun K hK => ?_)
            go_simp
            refine hK _ _ (fun _ => hSS) ?_
            clear hK K
            try simp only [Act.put, List.getElem_toArray, List.getElem_cons_succ, List.getElem_cons_zero, List.setIfInBounds_toArray, List.set_cons_zero, List.set_cons_succ]
            refine AnyTill.one (i := 13) (by kernel_rfl) (AnyTill.op rfl rfl fun K hK => ?_)
            have hz4 := (unhide en).unfrozen (unhide HBX)
            obtain ⟨s0, s1⟩ := hSS
            go_simp
            refine hK _ _ (fun h => absurd rfl h) ?_
            clear hK K
            try simp only [Act.put, List.getElem_toArray, List.getElem_cons_succ, List.getElem_cons_zero, List.setIfInBounds_toArray, List.set_cons_zero, List.set_cons_succ]
            refine AnyTill.done (by kernel_rfl) ?_
            go_wp2_with fail
            go_meet
            exact ⟨rfl, hide ⟨g30, n30, c30, _, unhide hcl _ _ _ _ _ (unhide en)⟩⟩
          · have st37 := hide (unhide st33).s29
            go_simp
            refine hK _ (W33.alloc (.cells #[.int .i64 5, .slice (some ⟨g23, 0, none⟩) 1 1, .bool true, .int .i64 2, .slice ca cl ccap, .bool false] 40)) (fun _ => (unhide st37).cells) ?_
            clear hK K st33
            generalize hV : W33.alloc (.cells #[.int .i64 5, .slice (some ⟨g23, 0, none⟩) 1 1, .bool true, .int .i64 2, .slice ca cl ccap, .bool false] 40) = W37 at st37 ⊢
            clear hV
            generalize hG : W33.heap.size = g29 at st37 ⊢
            clear hG
            try simp only [Act.put, List.getElem_toArray, List.getElem_cons_succ, List.getElem_cons_zero, List.setIfInBounds_toArray, List.set_cons_zero, List.set_cons_succ]
            refine AnyTill.one (i := 3) (by kernel_rfl) (AnyTill.op rfl rfl fun K hK => ?_)
            obtain ⟨a22, c22, W38, r22, st38⟩ := (unhide st37).s22 22 (unhide HSL) (unhide HNN) (unhide HNIL) hbig
            refine op_append (.tmp 19) (.tmp 21) rfl rfl rfl r22 ?_
            refine hK _ _ (fun _ => (unhide st38).cells) ?_
            clear hK K st37 r22
            try simp only [Act.put, List.getElem_toArray, List.getElem_cons_succ, List.getElem_cons_zero, List.setIfInBounds_toArray, List.set_cons_zero, List.set_cons_succ]
            refine AnyTill.one (i := 11) (by kernel_rfl) (AnyTill.op rfl rfl fun K hK => ?_)
            obtain ⟨g30, n30, c30, W39, r30, en⟩ := (unhide st38).s30 22 (unhide HNN) ⟨_, _, _, rfl⟩ hbig
            refine op_append (.tmp 22) (.tmp 29) rfl rfl rfl r30 ?_
            have hSS := (unhide en).cells (unhide HBX)
            refine hK _ _ (fun _ => hSS) ?_
            clear hK K st38 r30
            try simp only [Act.put, List.getElem_toArray, List.getElem_cons_succ, List.getElem_cons_zero, List.setIfInBounds_toArray, List.set_cons_zero, List.set_cons_succ]
            refine AnyTill.one (i := 12) (by kernel_rfl) (AnyTill.op rfl rfl fun K hK => ?_)
            go_simp
            refine hK _ _ (fun _ => hSS) ?_
            clear hK K
            try simp only [Act.put, List.getElem_toArray, List.getElem_cons_succ, List.getElem_cons_zero, List.setIfInBounds_toArray, List.set_cons_zero, List.set_cons_succ]
            refine AnyTill.one (i := 13) (by kernel_rfl) (AnyTill.op rfl rfl fun K hK => ?_)
            have hz4 := (unhide en).unfrozen (unhide HBX)
            obtain ⟨s0, s1⟩ := hSS
            go_simp
            refine hK _ _ (fun h => absurd rfl h) ?_
            clear hK K
            try simp only [Act.put, List.getElem_toArray, List.getElem_cons_succ, List.getElem_cons_zero, List.setIfInBounds_toArray, List.set_cons_zero, List.set_cons_succ]
            refine AnyTill.done (by kernel_rfl) ?_
            go_wp2_with fail
            go_meet
            exact ⟨rfl, hide ⟨g30, n30, c30, _, unhide hcl _ _ _ _ _ (unhide en)⟩⟩
        · have st40 := hide (unhide st32).s29
          go_simp
          refine hK _ (W32.alloc (.cells #[.int .i64 5, .slice (some ⟨g23, 0, none⟩) 1 1, .bool true, .int .i64 2, .slice ca cl ccap, .bool false] 40)) (fun _ => (unhide st40).cells) ?_
          clear hK K st32
          generalize hV : W32.alloc (.cells #[.int .i64 5, .slice (some ⟨g23, 0, none⟩) 1 1, .bool true, .int .i64 2, .slice ca cl ccap, .bool false] 40) = W40 at st40 ⊢
          clear hV
          generalize hG : W32.heap.size = g29 at st40 ⊢
          clear hG
          try simp only [Act.put, List.getElem_toArray, List.getElem_cons_succ, List.getElem_cons_zero, List.setIfInBounds_toArray, List.set_cons_zero, List.set_cons_succ]
          refine AnyTill.one (i := 0) (by kernel_rfl) (AnyTill.op rfl rfl fun K hK => ?_)
          have st41 := hide (unhide st40).s19
          go_simp
          refine hK _ (W40.alloc (.cells #[] 40)) (fun _ => (unhide st41).cells) ?_
          clear hK K st40
          generalize hV : W40.alloc (.cells #[] 40) = W41 at st41 ⊢
          clear hV
          generalize hG : W40.heap.size = g19 at st41 ⊢
          clear hG
          try simp only [Act.put, List.getElem_toArray, List.getElem_cons_succ, List.getElem_cons_zero, List.setIfInBounds_toArray, List.set_cons_zero, List.set_cons_succ]
          refine AnyTill.one (i := 3) (by kernel_rfl) (AnyTill.op rfl rfl fun K hK => ?_)
          obtain ⟨a22, c22, W42, r22, st42⟩ := (unhide st41).s22 22 (unhide HSL) (unhide HNN) (unhide HNIL) hbig
          refine op_append (.tmp 19) (.tmp 21) rfl rfl rfl r22 ?_
          refine hK _ _ (fun _ => (unhide st42).cells) ?_
          clear hK K st41 r22
          try simp only [Act.put, List.getElem_toArray, List.getElem_cons_succ, List.getElem_cons_zero, List.setIfInBounds_toArray, List.set_cons_zero, List.set_cons_succ]
          refine AnyTill.one (i := 11) (by kernel_rfl) (AnyTill.op rfl rfl fun K hK => ?_)
          obtain ⟨g30, n30, c30, W43, r30, en⟩ := (unhide st42).s30 22 (unhide HNN) ⟨_, _, _, rfl⟩ hbig
          refine op_append (.tmp 22) (.tmp 29) rfl rfl rfl r30 ?_
          have hSS := (unhide en).cells (unhide HBX)
          refine hK _ _ (fun _ => hSS) ?_
          clear hK K st42 r30
          try simp only [Act.put, List.getElem_toArray, List.getElem_cons_succ, List.getElem_cons_zero, List.setIfInBounds_toArray, List.set_cons_zero, List.set_cons_succ]
          refine AnyTill.one (i := 12) (by kernel_rfl) (AnyTill.op rfl rfl fun K hK => ?_)
          go_simp
          refine hK _ _ (fun _ => hSS) ?_
          clear hK K
          try simp only [Act.put, List.getElem_toArray, List.getElem_cons_succ, List.getElem_cons_zero, List.setIfInBounds_toArray, List.set_cons_zero, List.set_cons_succ]
          refine AnyTill.one (i := 13) (by kernel_rfl) (AnyTill.op rfl rfl fun K hK => ?_)
          have hz4 := (unhide en).unfrozen (unhide HBX)
          obtain ⟨s0, s1⟩ := hSS
          go_simp
          refine hK _ _ (fun h => absurd rfl h) ?_
          clear hK K
          try simp only [Act.put, List.getElem_toArray, List.getElem_cons_succ, List.getElem_cons_zero, List.setIfInBounds_toArray, List.set_cons_zero, List.set_cons_succ]
          refine AnyTill.done (by kernel_rfl) ?_
          go_wp2_with fail
          go_meet
          exact ⟨rfl, hide ⟨g30, n30, c30, _, unhide hcl _ _ _ _ _ (unhide en)⟩⟩
  case rest =>
    obtain ⟨rfl, HO⟩ := hcut
    obtain ⟨g0, n1, c1, gs, HO⟩ := unhide HO
    have b0 := HO.c0
    have C17 := hide (seats_in w wc (some ⟨g0, 0, none⟩) n1 c1 _ HO.bel HO.sv HO.len HO.nam HO.bnd)
    have HXB : Hid (∀ W, Below wc.heap.size wc W → w.heap.size < W.heap.size ∧ W.cell? ⟨w.heap.size, 1, none⟩ = some (.slice ca C.length ccap)) := hide fun W hb => ⟨Nat.lt_of_lt_of_le HO.lt hb.size, (hb.cell (p := ⟨w.heap.size, 1, none⟩) HO.lt).trans HO.c1⟩
    have HU : Hid (Unl (unV ((outL l C ca ccap gs).take 1000))) := hide (unV_ok _)
    have HU1 : (unV ((outL l C ca ccap gs).take 1000)).length ≤ 1000 := Nat.le_trans (unV_len _) (by rw [List.length_take]; omega)
    have HBW : Hid (Below w.heap.size w wc) := hide HO.bel
    generalize unV ((outL l C ca ccap gs).take 1000) = U at C17 HU HU1
    clear HO
    have C18 : Hid (∀ wr base v, Hid (LAt w wr base v U) → Calls Try.prog 18 #[v] wr fun e w' => ∃ p b, e = .returned (.pointer (some ⟨p, 0, none⟩)) ∧ Hid ((∃ D, PostAt w' p b D (U.map (·.1)).reverse) ∧ wr.heap.size ≤ b ∧ Below wr.heap.size wr w')) := hide (fun wr base v h => joined_own w wr base v U (unhide h) (unhide HU) HU1)
    obtain ⟨G, hG⟩ := glob_is
    have C14 : Hid (∀ wr p b D, PostAt wr p b D (U.map (·.1)).reverse → Calls Try.prog 14 #[.pointer (some ⟨p, 0, none⟩), .string (bs C)] wr fun e w' => ∃ ha hn hc, e = .returned (.slice ha hn hc) ∧ Hid (OwnH w' wr.heap.size (.slice ha hn hc) (hearL G (keysR U) C) ∧ Below wr.heap.size wr w' ∧ hn = (hearL G (keysR U) C).length)) := hide (fun wr p b D h => by
      refine (heard_any G hG wr p b D _ C h (by rw [List.length_reverse, List.length_map]; omega) (fun k hk => ?_) (by have := unhide HC2; omega)).mono (fun e w' q => q)
      obtain ⟨x, hx, rfl⟩ := List.mem_map.1 (List.mem_reverse.1 hk)
      have := ((unhide HU).ok x hx).2
      omega)
    have HG := hide hG
    clear hG HA0 HBX st0 hcl HSL HNN HNIL
    go_wp2_with (first
      | (go_at_call 17; with_reducible refine (unhide C17).mono ?_; clear C17; rintro e w1 ⟨v1, rfl, k1, b1⟩; obtain ⟨va, vn, vc, rfl, hvn⟩ := (unhide k1).1.own.slice; have k2 := hide (unhide k1).1; have HVN := hide hvn; clear hvn k1 b0)
      | (go_at_call 18; with_reducible refine (unhide C18 _ _ _ k2).mono ?_; clear C18; rintro e w2 ⟨p, bp, rfl, k3⟩; have x1 : w2.cell? ⟨w.heap.size, 1, none⟩ = some (.slice ca C.length ccap) := (unhide HXB _ ((unhide b1).trans ((unhide k3).2.2.mono (unhide b1).size))).2; have R2 := conv_back w2 ca ccap C ((unhide HC).below (((unhide HBW).trans ((unhide b1).mono (unhide HBW).size)).trans ((unhide k3).2.2.mono (Nat.le_trans (unhide HBW).size (unhide b1).size)))))
      | (go_at_call 14; obtain ⟨D, hpd⟩ := (unhide k3).1; with_reducible refine (unhide C14 _ _ _ _ hpd).mono ?_; clear C14; rintro e w4 ⟨ha, hn, hc, rfl, k4⟩))
    obtain ⟨H, hH⟩ : ∃ H, H = hearL G (keysR U) C := ⟨_, rfl⟩
    rw [← hH] at k4
    have E0 : Hid (Env w w4 w.heap.size C ca ccap G va vn vc U p ha hn hc H) := hide (by
      obtain ⟨h1, h2, h3⟩ := unhide k3
      obtain ⟨h4, h5, h6⟩ := unhide k4
      have hb14 : Below w1.heap.size w1 w4 := h3.trans (h5.mono h3.size)
      have hbc4 : Below wc.heap.size wc w4 := (unhide b1).trans (hb14.mono (unhide b1).size)
      obtain ⟨q1, q2⟩ := unhide HXB _ hbc4
      have hpost : ∃ b D, PostAt w4 p b D (keysR U) := ⟨bp, D, hpd.below h5⟩
      exact ⟨(unhide HBW).trans (hbc4.mono (unhide HBW).size), q1, q2, ⟨_, (unhide k2).own.below hb14⟩, unhide HVN, fun x hx => ((unhide k2).nam x hx).below hb14, unhide HU, HU1, hpost, ⟨_, h4⟩, hH, h6, (unhide HC).below ((unhide HBW).trans (hbc4.mono (unhide HBW).size)), unhide HC2⟩)
    have hvn1 : vn ≤ 1000 := by rw [unhide HVN]; exact HU1
    have hhn1 : hn ≤ 1000 := by
      rw [← (unhide E0).count]
      exact Nat.le_trans (List.length_filter_le _ _) HU1
    have HHH := hide hH
    clear hpd k2 k3 k4 b1 x1 R2 HXB HBW hH HU HU1
    go_loopw [7, 8] (fun nv iv wr => ∃ q i : Nat, nv = .int .i64 ((q : Nat) : Int) ∧ iv = .int .i64 ((i : Nat) : Int) ∧ i ≤ vn ∧ q ≤ i ∧ Hid (Env w wr w.heap.size C ca ccap G va vn vc U p ha hn hc H ∧ q = ((U.take i).filter (fun x => heardB G C x.1)).length)) (fun _ iv _ => vn - (intOf iv).toNat)
    case atStart => exact ⟨0, 0, rfl, rfl, Nat.zero_le _, Nat.le_refl _, hide ⟨unhide E0, by simp⟩⟩
    case round =>
      obtain ⟨q, i, rfl, rfl, hi, hqi, HO⟩ := hrel
      clear E0
      by_cases hin : i < vn
      · have f1 : decide ((i : Int) < (vn : Int)) = true := decide_eq_true (by omega)
        have g1 : (0 : Int) ≤ (i : Int) := by omega
        have g2 : (i : Int) < (vn : Int) := by omega
        obtain ⟨x, hx⟩ : ∃ x, U[i]? = some x := ⟨_, List.getElem?_eq_getElem (by have := (unhide HO).1.vlen; omega)⟩
        obtain ⟨sg, rfl, x0, x1, x2⟩ := (unhide HO).1.seat hx
        have C19 := hide ((unhide HO).1.hears (unhide HG) (List.mem_of_getElem? hx))
        have HXs := hide hx
        have HOL := hide (unhide HO).2
        obtain ⟨⟨xc, xT, xp⟩, xa, xcap⟩ := x
        dsimp only at x0 x1 x2 C19
        clear hx
        cases hB : heardB G C (xc, xT, xp) with
        | false =>
          rw [hB] at C19
          have HN : Hid (q = ((U.take (i + 1)).filter (fun x => heardB G C x.1)).length) := hide (by
            rw [List.take_add_one, unhide HXs, List.filter_append, List.length_append, ← unhide HOL]
            simp [hB])
          clear hB HOL
          go_wp2_with (go_at_call 19; refine (unhide C19).mono ?_; clear C19 x0 x1 x2 HO; rintro e w5 ⟨rfl, k5⟩)
          exact ⟨⟨q, i + 1, rfl, congrArg (Value.int .i64) (by omega), by omega, by omega, hide ⟨unhide k5, unhide HN⟩⟩, by simp [intOf]; omega⟩
        | true =>
          rw [hB] at C19
          have HN : Hid (q + 1 = ((U.take (i + 1)).filter (fun x => heardB G C x.1)).length) := hide (by
            rw [List.take_add_one, unhide HXs, List.filter_append, List.length_append, ← unhide HOL]
            simp [hB])
          have HT : Hid (H.any (fun y => decide (y = hitK (xc, xT, xp))) = true) := hide ((unhide HO).1.told (List.mem_of_getElem? (unhide HXs)) hB)
          clear hB HOL
          go_wp2_with (go_at_call 19; refine (unhide C19).mono ?_; clear C19 x0 x1 x2 HO; rintro e w5 ⟨rfl, k5⟩)
          go_loopw [9, 10] (fun fv kv wx => ∃ (f : Bool) (k : Nat), fv = .bool f ∧ kv = .int .i64 ((k : Nat) : Int) ∧ k ≤ hn ∧ Hid (Env w wx w.heap.size C ca ccap G (some ⟨sg, 0, none⟩) vn vc U p ha hn hc H ∧ f = (H.take k).any (fun y => decide (y = hitK (xc, xT, xp))))) (fun _ kv _ => hn - (intOf kv).toNat)
          case atStart => exact ⟨false, 0, rfl, rfl, Nat.zero_le _, hide ⟨unhide k5, by simp⟩⟩
          case round =>
            obtain ⟨f, k, rfl, rfl, hk, HQ⟩ := hrel
            clear k5
            by_cases hkn : k < hn
            · have f2 : decide ((k : Int) < (hn : Int)) = true := decide_eq_true (by omega)
              have g3 : (0 : Int) ≤ (k : Int) := by omega
              have g4 : (k : Int) < (hn : Int) := by omega
              obtain ⟨y, hy⟩ : ∃ y, H[k]? = some y := ⟨_, List.getElem?_eq_getElem (by have := (unhide HQ).1.hlen; omega)⟩
              obtain ⟨hg, rfl, y0, y1, y2⟩ := (unhide HQ).1.hit hy
              obtain ⟨sg', e', x0, x1, x2⟩ := (unhide HQ).1.seat (unhide HXs)
              cases e'
              have hnx : ∀ d : Bool, d = ((H.take k).any (fun y => decide (y = hitK (xc, xT, xp))) || decide (y = hitK (xc, xT, xp))) → d = (H.take (k + 1)).any (fun y => decide (y = hitK (xc, xT, xp))) := fun d hd => by
                rw [List.take_add_one, hy, List.any_append, hd]
                simp
              have HNX := hide hnx
              have HFk := hide (unhide HQ).2
              have HEd := hide (unhide HQ).1.draw
              have R := conv_back wr.drew xa xcap xT ((unhide HQ).1.draw1.nam _ (List.mem_of_getElem? (unhide HXs)))
              obtain ⟨yc, yp, yT⟩ := y
              dsimp only at x0 x1 x2 y0 y1 y2 R
              clear hnx hy
              cases f with
              | true =>
                clear R
                go_wp2_with fail
                go_quiet (fail)
                go_wp2_with fail
                exact ⟨⟨true, k + 1, rfl, congrArg (Value.int .i64) (by omega), by omega, hide ⟨unhide HEd _, unhide HNX true (by rw [← unhide HFk]; rfl)⟩⟩, by simp [intOf]; omega⟩
              | false =>
                by_cases hc1 : yc = xc
                · by_cases hp1 : yp = xp
                  · subst hc1
                    subst hp1
                    have f3 : (yc == yc) = true := beq_self_eq_true _
                    have f4 : (yp == yp) = true := beq_self_eq_true _
                    have f5 := bs_eq yT xT
                    have HD : Hid (decide (yT = xT) = (H.take (k + 1)).any (fun y => decide (y = hitK (yc, xT, yp)))) := hide (unhide HNX _ (by
                      rw [← unhide HFk, Bool.false_or]
                      by_cases e : yT = xT
                      · rw [decide_eq_true e, decide_eq_true (by unfold hitK; rw [e])]
                      · rw [decide_eq_false e, decide_eq_false (fun e2 => e (by unfold hitK at e2; simpa using e2))]))
                    have HE1 := hide (unhide HQ).1.draw1
                    generalize decide (yT = xT) = d at f5 HD
                    generalize hbx : bs xT = bx at f5 R
                    generalize hby : bs yT = by0 at f5 y2
                    clear hbx hby
                    go_wp2_with fail
                    go_region_held3 (fun W => W.cell? ⟨hg, k * 3, none⟩ = some (.int .i64 yc) ∧ W.cell? ⟨hg, k * 3 + 1, none⟩ = some (.bool yp) ∧ W.cell? ⟨hg, k * 3 + 2, none⟩ = some (.string by0) ∧ W.cell? ⟨sg, i * 3, none⟩ = some (.int .i64 yc) ∧ W.cell? ⟨sg, i * 3 + 1, none⟩ = some (.slice xa xT.length xcap) ∧ W.cell? ⟨sg, i * 3 + 2, none⟩ = some (.bool yp) ∧ (convert 23 9 (.slice xa xT.length xcap)).run Try.prog W = .ok (.string bx) W) (go_keep) (fail)
                    all_goals go_wp2_with fail
                    all_goals exact ⟨⟨d, k + 1, rfl, congrArg (Value.int .i64) (by omega), by omega, hide ⟨unhide HE1, unhide HD⟩⟩, by simp [intOf]; omega⟩
                  · have f3 : (yc == xc) = true := by simp [hc1]
                    have f4 : (yp == xp) = false := by simpa using hp1
                    have HD : Hid (false = (H.take (k + 1)).any (fun y => decide (y = hitK (xc, xT, xp)))) := hide (unhide HNX _ (by
                      rw [← unhide HFk, Bool.false_or, decide_eq_false (fun e2 => hp1 (by unfold hitK at e2; simp at e2; exact e2.2.1))]))
                    clear R hp1 hc1
                    go_wp2_with fail
                    go_quiet (fail)
                    go_wp2_with fail
                    exact ⟨⟨false, k + 1, rfl, congrArg (Value.int .i64) (by omega), by omega, hide ⟨unhide HEd _, unhide HD⟩⟩, by simp [intOf]; omega⟩
                · have f3 : (yc == xc) = false := by simpa using hc1
                  have HD : Hid (false = (H.take (k + 1)).any (fun y => decide (y = hitK (xc, xT, xp)))) := hide (unhide HNX _ (by
                    rw [← unhide HFk, Bool.false_or, decide_eq_false (fun e2 => hc1 (by unfold hitK at e2; simp at e2; exact e2.1))]))
                  clear R hc1
                  go_wp2_with fail
                  go_quiet (fail)
                  go_wp2_with fail
                  exact ⟨⟨false, k + 1, rfl, congrArg (Value.int .i64) (by omega), by omega, hide ⟨unhide HEd _, unhide HD⟩⟩, by simp [intOf]; omega⟩
            · obtain rfl : k = hn := by omega
              have f2 : decide ((k : Int) < (k : Int)) = false := decide_eq_false (by omega)
              obtain rfl : f = true := by
                have h1 := (unhide HQ).2
                have h2 := (unhide HQ).1.hlen
                rw [h2, List.take_length] at h1
                rw [h1]; exact unhide HT
              go_wp2_with fail
              exact ⟨⟨q + 1, i + 1, congrArg (Value.int .i64) (by omega), congrArg (Value.int .i64) (by omega), by omega, by omega, hide ⟨(unhide HQ).1, unhide HN⟩⟩, by simp [intOf]; omega⟩
      · obtain rfl : i = vn := by omega
        have hE := (unhide HO).1
        obtain rfl : q = hn := by
          have h2 := (unhide HO).2
          rw [hE.vlen, List.take_length] at h2
          rw [h2]; exact hE.count
        have HE1 := hide hE
        have f1 : decide ((i : Int) < (i : Int)) = false := decide_eq_false (by omega)
        have f2 : ((q : Int) != (q : Int)) = false := bne_self_eq_false _
        clear hE HO hi hqi
        go_wp2_with fail
        go_loopw [11] (fun kv wx => ∃ k : Nat, kv = .int .i64 (((k : Nat) : Int) + 1) ∧ k ≤ q ∧ Hid (Env w wx w.heap.size C ca ccap G va i vc U p ha q hc H)) (fun kv _ => q - (intOf kv).toNat)
        case atStart => exact ⟨0, rfl, Nat.zero_le _, HE1⟩
        case round =>
          obtain ⟨k, rfl, hk, HQ⟩ := hrel
          clear HE1
          by_cases hkq : k + 1 < q
          · have f3 : decide ((k : Int) + 1 < (q : Int)) = true := decide_eq_true (by omega)
            have f4 : decide (k + 1 < q) = true := decide_eq_true hkq
            have g1 : (0 : Int) ≤ (k : Int) := by omega
            have g2 : (k : Int) < (q : Int) := by omega
            have g3 : (0 : Int) ≤ (k : Int) + 1 := by omega
            have g4 : (k : Int) + 1 < (q : Int) := by omega
            have g5 : IntKind.i64.wrap (k : Int) = (k : Int) := by rw [IntKind.wrap_i64]; omega
            have g6 : IntKind.i64.wrap ((k : Int) + 1) = (k : Int) + 1 := by rw [IntKind.wrap_i64]; omega
            obtain ⟨x, hx⟩ : ∃ x, H[k]? = some x := ⟨_, List.getElem?_eq_getElem (by have := (unhide HQ).hlen; omega)⟩
            obtain ⟨y, hy⟩ : ∃ y, H[k + 1]? = some y := ⟨_, List.getElem?_eq_getElem (by have := (unhide HQ).hlen; omega)⟩
            have HLT := hide ((unhide HQ).inc hx hy)
            obtain ⟨hg, rfl, x0, x1, x2⟩ := (unhide HQ).hit hx
            obtain ⟨hg', e', y0, y1, y2⟩ := (unhide HQ).hit hy
            cases e'
            obtain ⟨xc, xp, xT⟩ := x
            obtain ⟨yc, yp, yT⟩ := y
            dsimp only at x0 x1 x2 y0 y1 y2
            have hl1 : hg < wr.heap.size := block_lt_of_cell x0
            have hl2 : hg < wr.heap.size + 1 := by omega
            clear hx hy
            go_upto_region 26 with fail
            go_cut [12, 13] from 118 to 127 (fun xv yv wx => ∃ px py : Nat, xv = .pointer (some ⟨px, 0, none⟩) ∧ yv = .pointer (some ⟨py, 0, none⟩) ∧ Hid (wx.cell? ⟨px, 0, none⟩ = some (.int .i64 xc) ∧ wx.cell? ⟨px, 1, none⟩ = some (.bool xp) ∧ wx.cell? ⟨px, 2, none⟩ = some (.string (bs xT)) ∧ wx.cell? ⟨py, 0, none⟩ = some (.int .i64 yc) ∧ wx.cell? ⟨py, 1, none⟩ = some (.bool yp) ∧ wx.cell? ⟨py, 2, none⟩ = some (.string (bs yT)) ∧ Env w wx w.heap.size C ca ccap G va i vc U p (some ⟨hg, 0, none⟩) q hc H))
            case first =>
              go_region
              all_goals go_wp2_with fail
              all_goals go_meet
              all_goals first
                | (obtain ⟨p1, p2, p3⟩ := box_two wr #[.int .i64 xc, .bool xp, .string (bs xT)] #[.int .i64 yc, .bool yp, .string (bs yT)] 45
                   exact ⟨_, _, rfl, rfl, hide ⟨cell_blk p1 0, cell_blk p1 1, cell_blk p1 2, cell_blk p2 0, cell_blk p2 1, cell_blk p2 2, (unhide HQ).below p3⟩⟩)
                | (obtain ⟨p1, p2, p3⟩ := box_two wr #[.int .i64 yc, .bool yp, .string (bs yT)] #[.int .i64 xc, .bool xp, .string (bs xT)] 45
                   exact ⟨_, _, rfl, rfl, hide ⟨cell_blk p2 0, cell_blk p2 1, cell_blk p2 2, cell_blk p1 0, cell_blk p1 1, cell_blk p1 2, (unhide HQ).below p3⟩⟩)
            case rest =>
              obtain ⟨px, py, rfl, rfl, HP⟩ := hcut
              obtain ⟨z0, z1, z2, z3, z4, z5, hE3⟩ := unhide HP
              have HE3 := hide hE3
              have C20 := hide (ahead_any wc (xc, xp, xT) (yc, yp, yT) (unhide HLT))
              clear hE3 HP
              go_wp2_with (go_at_call 20; refine (unhide C20).mono ?_; rintro e w7 ⟨rfl, hw7⟩; obtain rfl := hw7.symm)
              exact ⟨⟨k + 1, congrArg (Value.int .i64) (by omega), by omega, HE3⟩, by simp [intOf]; omega⟩
          · have f3 : decide ((k : Int) + 1 < (q : Int)) = false := decide_eq_false (by omega)
            have f4 : decide (k + 1 < q) = false := decide_eq_false hkq
            have C21 := hide ((unhide HQ).channels (unhide HG))
            clear hkq
            go_wp2_with (go_at_call 21; refine (unhide C21).mono ?_; clear C21; rintro e w8 ⟨ta, tn, tc, rfl, k8⟩)
            obtain ⟨L, hL⟩ : ∃ L, L = chanL G (keysR U) C := ⟨_, rfl⟩
            rw [← hL] at k8
            have HLc := hide hL
            have htn : tn ≤ 1000 := by
              obtain ⟨k9, -, k10⟩ := unhide k8
              have := k9.chan_few
              rw [← hL] at this
              omega
            clear hL HQ hk
            go_loopw [15] (fun kv wx => ∃ j : Nat, kv = .int .i64 ((j : Nat) : Int) ∧ j ≤ tn ∧ Hid (Env w wx w.heap.size C ca ccap G va i vc U p ha q hc H ∧ TlAt wx ta tn tc L)) (fun kv _ => tn - (intOf kv).toNat)
            case atStart => exact ⟨0, rfl, Nat.zero_le _, k8⟩
            case round =>
              obtain ⟨j, rfl, hj, HQ⟩ := hrel
              clear k8
              by_cases hjn : j < tn
              · have f3 : decide ((j : Int) < (tn : Int)) = true := decide_eq_true (by omega)
                have g1 : (0 : Int) ≤ (j : Int) := by omega
                have g2 : (j : Int) < (tn : Int) := by omega
                have g5 : IntKind.i64.wrap (j : Int) = (j : Int) := by rw [IntKind.wrap_i64]; omega
                obtain ⟨T, hT⟩ : ∃ T, L[j]? = some T := ⟨_, List.getElem?_eq_getElem (by have := (unhide HQ).2.2; omega)⟩
                obtain ⟨tg, rfl, t0⟩ := (unhide HQ).2.at hT
                have hTm := List.mem_of_getElem? hT
                have hTL : T.length ≤ 4096 := (unhide HQ).1.chan_len (by rw [← unhide HLc]; exact hTm)
                have hGT : G C T = true := (mem_chanL.1 (by rw [← unhide HLc]; exact hTm)).2
                have c1 := (unhide HQ).1.c1
                have HQd : Hid (Env w wr.drew w.heap.size C ca ccap G va i vc U p ha q hc H ∧ TlAt wr.drew (some ⟨tg, 0, none⟩) tn tc L) := hide ⟨(unhide HQ).1.draw1, (unhide HQ).2.below ⟨rfl, rfl, rfl, Nat.le_refl _, fun _ _ => rfl⟩⟩
                obtain ⟨cb, w9, r9, k9⟩ := conv_txt wr.drew T
                have HQ9 : Hid (Env w w9 w.heap.size C ca ccap G va i vc U p ha q hc H ∧ TlAt w9 (some ⟨tg, 0, none⟩) tn tc L) := hide ⟨(unhide HQd).1.below (unhide k9).2.1, (unhide HQd).2.below (unhide k9).2.1⟩
                have HTx := hide hT
                have C22 := hide (glob_two G (unhide HG) w9 ca (some ⟨wr.drew.heap.size, 0, none⟩) ccap cb C T (by have := (unhide HQ).1.c20; omega) (by omega) (unhide HQ9).1.cC (bytes_of (by rw [(unhide k9).2.2]; omega) (unhide k9).1))
                rw [hGT] at C22
                have C16 : Hid (∀ W, Hid (Env w W w.heap.size C ca ccap G va i vc U p ha q hc H ∧ TlAt W (some ⟨tg, 0, none⟩) tn tc L) → Calls Try.prog 16 #[.pointer (some ⟨p, 0, none⟩), .string (bs T)] W fun e w' => ∃ q : Nat, e = .returned (.int .i64 (q : Nat)) ∧ 1 ≤ q ∧ q ≤ 1000 ∧ Hid (Below W.heap.size W w')) := hide fun W hW => (unhide hW).1.listeners (by rw [← unhide HLc]; exact hTm)
                have t9 := (unhide HQ9).2.at hT
                obtain ⟨tg', e', t9⟩ := t9
                cases e'
                have c9 := (unhide HQ9).1.c1
                have HCx : Hid (∀ W, Env w W w.heap.size C ca ccap G va i vc U p ha q hc H → TlAt W (some ⟨tg, 0, none⟩) tn tc L → W.cell? ⟨tg, j, none⟩ = some (.string (bs T)) ∧ W.cell? ⟨w.heap.size, 1, none⟩ = some (.slice ca C.length ccap)) := hide fun W q1 q2 => by
                  obtain ⟨tg', e', t9⟩ := q2.at (unhide HTx)
                  cases e'
                  exact ⟨t9, q1.c1⟩
                generalize hbT : bs T = bT at t0 r9 C16 t9 HCx
                cases j with
                | zero =>
                  have D22 : Hid (Calls Try.prog 22 #[.slice ca C.length ccap, .slice (some ⟨wr.drew.heap.size, 0, none⟩) T.length cb] w9 fun e w' => e = .returned (.bool true) ∧ w'.cell? ⟨tg, 0, none⟩ = some (.string bT) ∧ w'.cell? ⟨w.heap.size, 1, none⟩ = some (.slice ca C.length ccap) ∧ Hid (Env w w' w.heap.size C ca ccap G va i vc U p ha q hc H ∧ TlAt w' (some ⟨tg, 0, none⟩) tn tc L)) := hide ((unhide C22).mono (by
                    rintro e w' ⟨rfl, hb⟩
                    have q1 := (unhide HQ9).1.below (unhide hb)
                    have q2 := (unhide HQ9).2.below (unhide hb)
                    exact ⟨rfl, (unhide HCx _ q1 q2).1, (unhide HCx _ q1 q2).2, hide ⟨q1, q2⟩⟩))
                  have D16 : Hid (∀ W, Hid (Env w W w.heap.size C ca ccap G va i vc U p ha q hc H ∧ TlAt W (some ⟨tg, 0, none⟩) tn tc L) → Calls Try.prog 16 #[.pointer (some ⟨p, 0, none⟩), .string bT] W fun e w' => ∃ q1 : Nat, e = .returned (.int .i64 (q1 : Nat)) ∧ decide ((q1 : Int) < 1) = false ∧ decide (q1 < 1) = false ∧ w'.cell? ⟨tg, 0, none⟩ = some (.string bT) ∧ w'.cell? ⟨w.heap.size, 1, none⟩ = some (.slice ca C.length ccap) ∧ Hid (Env w w' w.heap.size C ca ccap G va i vc U p ha q hc H ∧ TlAt w' (some ⟨tg, 0, none⟩) tn tc L)) := hide fun W hW => (unhide C16 W hW).mono (by
                    rintro e w' ⟨q1, rfl, l1, l2, hb⟩
                    have q3 := (unhide hW).1.below (unhide hb)
                    have q2 := (unhide hW).2.below (unhide hb)
                    exact ⟨q1, rfl, decide_eq_false (by omega), decide_eq_false (by omega), (unhide HCx _ q3 q2).1, (unhide HCx _ q3 q2).2, hide ⟨q3, q2⟩⟩)
                  have g6 : (0 : Int) < (tn : Int) := by omega
                  clear C22 C16 hT hTm hGT hbT HQ9 k9 HQd g1 g2 g5
                  rw [show (((0 : Nat)) : Int) = 0 from rfl]
                  go_wp2_with fail
                  refine wp_region_held_drew (S := fun W => W.cell? ⟨tg, 0, none⟩ = some (.string bT) ∧ W.cell? ⟨w.heap.size, 1, none⟩ = some (.slice ca C.length ccap)) (by kernel_rfl) ⟨t0, c1⟩ (fun hHeld => ?_)
                  refine wpAnyH_take (i := 0) (oi := ⟨_, _, _, _, _, _⟩) (v := ?vz0) rfl (by kernel_rfl) (by kernel_rfl) (by kernel_rfl) (fun _ _ _ h => h) (Or.inl ⟨by kernel_rfl, ?hyz0⟩) (by assumption) ?_
                  case hyz0 =>
                    intro w hSw
                    try dsimp only at hSw
                    obtain ⟨s0, s1⟩ := hSw
                    go_simp
                    all_goals with_reducible rfl
                  try simp only [Act.put, List.setIfInBounds_toArray, List.set_cons_zero, List.set_cons_succ]
                  refine wpAnyH_take (i := 1) (oi := ⟨_, _, _, _, _, _⟩) (v := ?vz1) rfl (by kernel_rfl) (by kernel_rfl) (by kernel_rfl) (fun _ _ _ h => h) (Or.inl ⟨by kernel_rfl, ?hyz1⟩) (by assumption) ?_
                  case hyz1 =>
                    intro w hSw
                    try dsimp only at hSw
                    obtain ⟨s0, s1⟩ := hSw
                    go_simp
                    all_goals with_reducible rfl
                  try simp only [Act.put, List.setIfInBounds_toArray, List.set_cons_zero, List.set_cons_succ]
                  refine wpAnyH_take (i := 2) (oi := ⟨_, _, _, _, _, _⟩) (v := ?vz2) rfl (by kernel_rfl) (by kernel_rfl) (by kernel_rfl) (fun _ _ _ h => h) (Or.inl ⟨by kernel_rfl, ?hyz2⟩) (by assumption) ?_
                  case hyz2 =>
                    intro w hSw
                    try dsimp only at hSw
                    obtain ⟨s0, s1⟩ := hSw
                    go_simp
                    all_goals with_reducible rfl
                  try simp only [Act.put, List.setIfInBounds_toArray, List.set_cons_zero, List.set_cons_succ]
                  refine wpAnyH_take (i := 3) (oi := ⟨_, _, _, _, _, _⟩) (v := undef) rfl (by kernel_rfl) (by kernel_rfl) (by kernel_rfl) (fun _ _ _ h => h) (Or.inr ⟨by kernel_rfl, rfl⟩) (by assumption) ?_
                  try simp only [Act.put, List.setIfInBounds_toArray, List.set_cons_zero, List.set_cons_succ]
                  refine wpAnyH_take (i := 4) (oi := ⟨_, _, _, _, _, _⟩) (v := undef) rfl (by kernel_rfl) (by kernel_rfl) (by kernel_rfl) (fun _ _ _ h => h) (Or.inr ⟨by kernel_rfl, rfl⟩) (by assumption) ?_
                  try simp only [Act.put, List.setIfInBounds_toArray, List.set_cons_zero, List.set_cons_succ]
                  refine wpAnyH_take (i := 5) (oi := ⟨_, _, _, _, _, _⟩) (v := undef) rfl (by kernel_rfl) (by kernel_rfl) (by kernel_rfl) (fun _ _ _ h => h) (Or.inr ⟨by kernel_rfl, rfl⟩) (by assumption) ?_
                  try simp only [Act.put, List.setIfInBounds_toArray, List.set_cons_zero, List.set_cons_succ]
                  refine wpAnyH_take (i := 6) (oi := ⟨_, _, _, _, _, _⟩) (v := undef) rfl (by kernel_rfl) (by kernel_rfl) (by kernel_rfl) (fun _ _ _ h => h) (Or.inr ⟨by kernel_rfl, rfl⟩) (by assumption) ?_
                  try simp only [Act.put, List.setIfInBounds_toArray, List.set_cons_zero, List.set_cons_succ]
                  refine wpAnyH_take (i := 7) (oi := ⟨_, _, _, _, _, _⟩) (v := undef) rfl (by kernel_rfl) (by kernel_rfl) (by kernel_rfl) (fun _ _ _ h => h) (Or.inr ⟨by kernel_rfl, rfl⟩) (by assumption) ?_
                  try simp only [Act.put, List.setIfInBounds_toArray, List.set_cons_zero, List.set_cons_succ]
                  refine wpAnyH_take (i := 8) (oi := ⟨_, _, _, _, _, _⟩) (v := undef) rfl (by kernel_rfl) (by kernel_rfl) (by kernel_rfl) (fun _ _ _ h => h) (Or.inr ⟨by kernel_rfl, rfl⟩) (by assumption) ?_
                  try simp only [Act.put, List.setIfInBounds_toArray, List.set_cons_zero, List.set_cons_succ]
                  refine wpAnyH_take (i := 9) (oi := ⟨_, _, _, _, _, _⟩) (v := undef) rfl (by kernel_rfl) (by kernel_rfl) (by kernel_rfl) (fun _ _ _ h => h) (Or.inr ⟨by kernel_rfl, rfl⟩) (by assumption) ?_
                  try simp only [Act.put, List.setIfInBounds_toArray, List.set_cons_zero, List.set_cons_succ]
                  refine wpAnyH_take (i := 10) (oi := ⟨_, _, _, _, _, _⟩) (v := undef) rfl (by kernel_rfl) (by kernel_rfl) (by kernel_rfl) (fun _ _ _ h => h) (Or.inr ⟨by kernel_rfl, rfl⟩) (by assumption) ?_
                  try simp only [Act.put, List.setIfInBounds_toArray, List.set_cons_zero, List.set_cons_succ]
                  refine wpAnyH_take (i := 11) (oi := ⟨_, _, _, _, _, _⟩) (v := undef) rfl (by kernel_rfl) (by kernel_rfl) (by kernel_rfl) (fun _ _ _ h => h) (Or.inr ⟨by kernel_rfl, rfl⟩) (by assumption) ?_
                  try simp only [Act.put, List.setIfInBounds_toArray, List.set_cons_zero, List.set_cons_succ]
                  refine wpAnyH_take (i := 12) (oi := ⟨_, _, _, _, _, _⟩) (v := undef) rfl (by kernel_rfl) (by kernel_rfl) (by kernel_rfl) (fun _ _ _ h => h) (Or.inr ⟨by kernel_rfl, rfl⟩) (by assumption) ?_
                  try simp only [Act.put, List.setIfInBounds_toArray, List.set_cons_zero, List.set_cons_succ]
                  refine wpAnyH_take (i := 13) (oi := ⟨_, _, _, _, _, _⟩) (v := ?vz13) rfl (by kernel_rfl) (by kernel_rfl) (by kernel_rfl) (fun _ _ _ h => h) (Or.inl ⟨by kernel_rfl, ?hyz13⟩) (by assumption) ?_
                  case hyz13 =>
                    intro w hSw
                    try dsimp only at hSw
                    obtain ⟨s0, s1⟩ := hSw
                    go_simp
                    all_goals with_reducible rfl
                  try simp only [Act.put, List.setIfInBounds_toArray, List.set_cons_zero, List.set_cons_succ]
                  refine wpAnyH_take (i := 14) (oi := ⟨_, _, _, _, _, _⟩) (v := ?vz14) rfl (by kernel_rfl) (by kernel_rfl) (by kernel_rfl) (fun _ _ _ h => h) (Or.inl ⟨by kernel_rfl, ?hyz14⟩) (by assumption) ?_
                  case hyz14 =>
                    intro w hSw
                    try dsimp only at hSw
                    obtain ⟨s0, s1⟩ := hSw
                    go_simp
                    all_goals with_reducible rfl
                  try simp only [Act.put, List.setIfInBounds_toArray, List.set_cons_zero, List.set_cons_succ]
                  refine wpAnyH_take (i := 15) (oi := ⟨_, _, _, _, _, _⟩) (v := ?vz15) rfl (by kernel_rfl) (by kernel_rfl) (by kernel_rfl) (fun _ _ _ h => h) (Or.inl ⟨by kernel_rfl, ?hyz15⟩) (by assumption) ?_
                  case hyz15 =>
                    intro w hSw
                    try dsimp only at hSw
                    obtain ⟨s0, s1⟩ := hSw
                    go_simp
                    all_goals with_reducible rfl
                  try simp only [Act.put, List.setIfInBounds_toArray, List.set_cons_zero, List.set_cons_succ]
                  refine wpAnyH_take (i := 16) (oi := ⟨_, _, _, _, _, _⟩) (v := ?vz16) rfl (by kernel_rfl) (by kernel_rfl) (by kernel_rfl) (fun _ _ _ h => h) (Or.inl ⟨by kernel_rfl, ?hyz16⟩) (by assumption) ?_
                  case hyz16 =>
                    intro w hSw
                    try dsimp only at hSw
                    obtain ⟨s0, s1⟩ := hSw
                    go_simp
                    all_goals with_reducible rfl
                  try simp only [Act.put, List.setIfInBounds_toArray, List.set_cons_zero, List.set_cons_succ]
                  refine wpAnyH_take (i := 17) (oi := ⟨_, _, _, _, _, _⟩) (v := ?vz17) rfl (by kernel_rfl) (by kernel_rfl) (by kernel_rfl) (fun _ _ _ h => h) (Or.inl ⟨by kernel_rfl, ?hyz17⟩) (by assumption) ?_
                  case hyz17 =>
                    intro w hSw
                    try dsimp only at hSw
                    obtain ⟨s0, s1⟩ := hSw
                    go_simp
                    all_goals with_reducible rfl
                  try simp only [Act.put, List.setIfInBounds_toArray, List.set_cons_zero, List.set_cons_succ]
                  refine wpAnyH_take (i := 18) (oi := ⟨_, _, _, _, _, _⟩) (v := ?vz18) rfl (by kernel_rfl) (by kernel_rfl) (by kernel_rfl) (fun _ _ _ h => h) (Or.inl ⟨by kernel_rfl, ?hyz18⟩) (by assumption) ?_
                  case hyz18 =>
                    intro w hSw
                    try dsimp only at hSw
                    obtain ⟨s0, s1⟩ := hSw
                    go_simp
                    all_goals with_reducible rfl
                  try simp only [Act.put, List.setIfInBounds_toArray, List.set_cons_zero, List.set_cons_succ]
                  refine wpAnyH_take (i := 19) (oi := ⟨_, _, _, _, _, _⟩) (v := ?vz19) rfl (by kernel_rfl) (by kernel_rfl) (by kernel_rfl) (fun _ _ _ h => h) (Or.inl ⟨by kernel_rfl, ?hyz19⟩) (by assumption) ?_
                  case hyz19 =>
                    intro w hSw
                    try dsimp only at hSw
                    obtain ⟨s0, s1⟩ := hSw
                    go_simp
                    all_goals with_reducible rfl
                  try simp only [Act.put, List.setIfInBounds_toArray, List.set_cons_zero, List.set_cons_succ]
                  refine wpAnyH_take (i := 20) (oi := ⟨_, _, _, _, _, _⟩) (v := ?vz20) rfl (by kernel_rfl) (by kernel_rfl) (by kernel_rfl) (fun _ _ _ h => h) (Or.inl ⟨by kernel_rfl, ?hyz20⟩) (by assumption) ?_
                  case hyz20 =>
                    intro w hSw
                    try dsimp only at hSw
                    obtain ⟨s0, s1⟩ := hSw
                    go_simp
                    all_goals with_reducible rfl
                  try simp only [Act.put, List.setIfInBounds_toArray, List.set_cons_zero, List.set_cons_succ]
                  refine wpAnyH_ready (rs := [21]) (by kernel_rfl) (by simp) ?_
                  refine AllReadyH.cons (o := ⟨_, _, _, _, _, _⟩) rfl (fun K hK => ?_) AllReadyH.nil
                  go_simp
                  refine hK.out _ _ ⟨t9, c9⟩ (fun hHeld => ?_)
                  clear hK K
                  try simp only [Act.put, List.setIfInBounds_toArray, List.set_cons_zero, List.set_cons_succ]
                  refine wpAnyH_ready (rs := [22]) (by kernel_rfl) (by simp) ?_
                  refine AllReadyH.cons (o := ⟨_, _, _, _, _, _⟩) rfl (fun K hK => ?_) AllReadyH.nil
                  go_simp
                  go_at_call 22
                  refine (unhide D22).mono ?_
                  rintro e w10 ⟨rfl, m1, m2, k10⟩
                  refine hK.out _ _ ⟨m1, m2⟩ (fun hHeld => ?_)
                  clear hK K
                  try simp only [Act.put, List.setIfInBounds_toArray, List.set_cons_zero, List.set_cons_succ]
                  refine wpAnyH_take (i := 23) (oi := ⟨_, _, _, _, _, _⟩) (v := ?vz23) rfl (by kernel_rfl) (by kernel_rfl) (by kernel_rfl) (fun _ _ _ h => h) (Or.inl ⟨by kernel_rfl, ?hyz23⟩) (by assumption) ?_
                  case hyz23 =>
                    intro w hSw
                    try dsimp only at hSw
                    obtain ⟨s0, s1⟩ := hSw
                    go_simp
                    all_goals with_reducible rfl
                  try simp only [Act.put, List.setIfInBounds_toArray, List.set_cons_zero, List.set_cons_succ]
                  refine wpAnyH_take (i := 24) (oi := ⟨_, _, _, _, _, _⟩) (v := ?vz24) rfl (by kernel_rfl) (by kernel_rfl) (by kernel_rfl) (fun _ _ _ h => h) (Or.inl ⟨by kernel_rfl, ?hyz24⟩) (by assumption) ?_
                  case hyz24 =>
                    intro w hSw
                    try dsimp only at hSw
                    obtain ⟨s0, s1⟩ := hSw
                    go_simp
                    all_goals with_reducible rfl
                  try simp only [Act.put, List.setIfInBounds_toArray, List.set_cons_zero, List.set_cons_succ]
                  refine wpAnyH_take (i := 25) (oi := ⟨_, _, _, _, _, _⟩) (v := ?vz25) rfl (by kernel_rfl) (by kernel_rfl) (by kernel_rfl) (fun _ _ _ h => h) (Or.inl ⟨by kernel_rfl, ?hyz25⟩) (by assumption) ?_
                  case hyz25 =>
                    intro w hSw
                    try dsimp only at hSw
                    obtain ⟨s0, s1⟩ := hSw
                    go_simp
                    all_goals with_reducible rfl
                  try simp only [Act.put, List.setIfInBounds_toArray, List.set_cons_zero, List.set_cons_succ]
                  refine wpAnyH_take (i := 26) (oi := ⟨_, _, _, _, _, _⟩) (v := ?vz26) rfl (by kernel_rfl) (by kernel_rfl) (by kernel_rfl) (fun _ _ _ h => h) (Or.inl ⟨by kernel_rfl, ?hyz26⟩) (by assumption) ?_
                  case hyz26 =>
                    intro w hSw
                    try dsimp only at hSw
                    obtain ⟨s0, s1⟩ := hSw
                    go_simp
                    all_goals with_reducible rfl
                  try simp only [Act.put, List.setIfInBounds_toArray, List.set_cons_zero, List.set_cons_succ]
                  refine wpAnyH_take (i := 27) (oi := ⟨_, _, _, _, _, _⟩) (v := ?vz27) rfl (by kernel_rfl) (by kernel_rfl) (by kernel_rfl) (fun _ _ _ h => h) (Or.inl ⟨by kernel_rfl, ?hyz27⟩) (by assumption) ?_
                  case hyz27 =>
                    intro w hSw
                    try dsimp only at hSw
                    obtain ⟨s0, s1⟩ := hSw
                    go_simp
                    all_goals with_reducible rfl
                  try simp only [Act.put, List.setIfInBounds_toArray, List.set_cons_zero, List.set_cons_succ]
                  refine wpAnyH_take (i := 28) (oi := ⟨_, _, _, _, _, _⟩) (v := ?vz28) rfl (by kernel_rfl) (by kernel_rfl) (by kernel_rfl) (fun _ _ _ h => h) (Or.inl ⟨by kernel_rfl, ?hyz28⟩) (by assumption) ?_
                  case hyz28 =>
                    intro w hSw
                    try dsimp only at hSw
                    obtain ⟨s0, s1⟩ := hSw
                    go_simp
                    all_goals with_reducible rfl
                  try simp only [Act.put, List.setIfInBounds_toArray, List.set_cons_zero, List.set_cons_succ]
                  refine wpAnyH_take (i := 29) (oi := ⟨_, _, _, _, _, _⟩) (v := ?vz29) rfl (by kernel_rfl) (by kernel_rfl) (by kernel_rfl) (fun _ _ _ h => h) (Or.inl ⟨by kernel_rfl, ?hyz29⟩) (by assumption) ?_
                  case hyz29 =>
                    intro w hSw
                    try dsimp only at hSw
                    obtain ⟨s0, s1⟩ := hSw
                    go_simp
                    all_goals with_reducible rfl
                  try simp only [Act.put, List.setIfInBounds_toArray, List.set_cons_zero, List.set_cons_succ]
                  refine wpAnyH_take (i := 30) (oi := ⟨_, _, _, _, _, _⟩) (v := ?vz30) rfl (by kernel_rfl) (by kernel_rfl) (by kernel_rfl) (fun _ _ _ h => h) (Or.inl ⟨by kernel_rfl, ?hyz30⟩) (by assumption) ?_
                  case hyz30 =>
                    intro w hSw
                    try dsimp only at hSw
                    obtain ⟨s0, s1⟩ := hSw
                    go_simp
                    all_goals with_reducible rfl
                  try simp only [Act.put, List.setIfInBounds_toArray, List.set_cons_zero, List.set_cons_succ]
                  refine wpAnyH_ready (rs := [31]) (by kernel_rfl) (by simp) ?_
                  refine AllReadyH.cons (o := ⟨_, _, _, _, _, _⟩) rfl (fun K hK => ?_) AllReadyH.nil
                  go_simp
                  go_at_call 16
                  refine (unhide D16 _ k10).mono ?_
                  rintro e w11 ⟨q1, rfl, f7, f8, m4, m5, k11⟩
                  refine hK.out _ _ ⟨m4, m5⟩ (fun hHeld => ?_)
                  clear hK K
                  try simp only [Act.put, List.setIfInBounds_toArray, List.set_cons_zero, List.set_cons_succ]
                  refine wpAnyH_take (i := 32) (oi := ⟨_, _, _, _, _, _⟩) (v := ?vz32) rfl (by kernel_rfl) (by kernel_rfl) (by kernel_rfl) (fun _ _ _ h => h) (Or.inl ⟨by kernel_rfl, ?hyz32⟩) (by assumption) ?_
                  case hyz32 =>
                    intro w hSw
                    try dsimp only at hSw
                    obtain ⟨s0, s1⟩ := hSw
                    go_simp
                    all_goals with_reducible rfl
                  try simp only [Act.put, List.setIfInBounds_toArray, List.set_cons_zero, List.set_cons_succ]
                  refine wpAnyH_take (i := 33) (oi := ⟨_, _, _, _, _, _⟩) (v := ?vz33) rfl (by kernel_rfl) (by kernel_rfl) (by kernel_rfl) (fun _ _ _ h => h) (Or.inl ⟨by kernel_rfl, ?hyz33⟩) (by assumption) ?_
                  case hyz33 =>
                    intro w hSw
                    try dsimp only at hSw
                    obtain ⟨s0, s1⟩ := hSw
                    go_simp
                    all_goals with_reducible rfl
                  try simp only [Act.put, List.setIfInBounds_toArray, List.set_cons_zero, List.set_cons_succ]
                  refine wpAnyH_done (by kernel_rfl) ?_ _
                  all_goals go_wp2_with fail
                  all_goals exact ⟨⟨1, rfl, by omega, k11⟩, by simp [intOf]; omega⟩
                | succ j =>
                  obtain ⟨T', hT'⟩ : ∃ T', L[j]? = some T' := ⟨_, List.getElem?_eq_getElem (by have := (unhide HQ).2.2; omega)⟩
                  have hless : Op.bytesLess T' T = true := chan_less (by rw [← unhide HLc]; exact hT') (by rw [← unhide HLc]; exact hT)
                  have hless2 : Op.bytesLess (bs T').toList bT.toList = true := by
                    rw [← hbT]
                    have e3 : ∀ T : List UInt8, (bs T).toList = T := fun T => by unfold bs; rw [ByteArray.toList_mk]
                    rw [e3, e3]; exact hless
                  obtain ⟨tg1, e1, s0⟩ := (unhide HQ).2.at hT'
                  cases e1
                  obtain ⟨tg1, e1, s9⟩ := (unhide HQ9).2.at hT'
                  cases e1
                  have HCy : Hid (∀ W, TlAt W (some ⟨tg, 0, none⟩) tn tc L → W.cell? ⟨tg, j, none⟩ = some (.string (bs T'))) := hide fun W q2 => by
                    obtain ⟨tg', e', t9⟩ := q2.at hT'
                    cases e'
                    exact t9
                  generalize bs T' = bT' at s0 s9 hless2 HCy
                  have g6 : IntKind.i64.wrap ((j : Int) + 1) = (j : Int) + 1 := by rw [IntKind.wrap_i64]; omega
                  have g7 : (0 : Int) ≤ (j : Int) + 1 := by omega
                  have g8 : (j : Int) + 1 < (tn : Int) := by omega
                  have g9 : (0 : Int) ≤ (j : Int) := by omega
                  have g10 : (j : Int) < (tn : Int) := by omega
                  have g11 : IntKind.i64.wrap (j : Int) = (j : Int) := by rw [IntKind.wrap_i64]; omega
                  have f6 : decide ((0 : Int) < (j : Int) + 1) = true := decide_eq_true (by omega)
                  have D22 : Hid (Calls Try.prog 22 #[.slice ca C.length ccap, .slice (some ⟨wr.drew.heap.size, 0, none⟩) T.length cb] w9 fun e w' => e = .returned (.bool true) ∧ w'.cell? ⟨tg, j, none⟩ = some (.string bT') ∧ w'.cell? ⟨tg, j + 1, none⟩ = some (.string bT) ∧ w'.cell? ⟨w.heap.size, 1, none⟩ = some (.slice ca C.length ccap) ∧ Hid (Env w w' w.heap.size C ca ccap G va i vc U p ha q hc H ∧ TlAt w' (some ⟨tg, 0, none⟩) tn tc L)) := hide ((unhide C22).mono (by
                    rintro e w' ⟨rfl, hb⟩
                    have q1 := (unhide HQ9).1.below (unhide hb)
                    have q2 := (unhide HQ9).2.below (unhide hb)
                    exact ⟨rfl, unhide HCy _ q2, (unhide HCx _ q1 q2).1, (unhide HCx _ q1 q2).2, hide ⟨q1, q2⟩⟩))
                  have D16 : Hid (∀ W, Hid (Env w W w.heap.size C ca ccap G va i vc U p ha q hc H ∧ TlAt W (some ⟨tg, 0, none⟩) tn tc L) → Calls Try.prog 16 #[.pointer (some ⟨p, 0, none⟩), .string bT] W fun e w' => ∃ q1 : Nat, e = .returned (.int .i64 (q1 : Nat)) ∧ decide ((q1 : Int) < 1) = false ∧ decide (q1 < 1) = false ∧ w'.cell? ⟨tg, j, none⟩ = some (.string bT') ∧ w'.cell? ⟨tg, j + 1, none⟩ = some (.string bT) ∧ w'.cell? ⟨w.heap.size, 1, none⟩ = some (.slice ca C.length ccap) ∧ Hid (Env w w' w.heap.size C ca ccap G va i vc U p ha q hc H ∧ TlAt w' (some ⟨tg, 0, none⟩) tn tc L)) := hide fun W hW => (unhide C16 W hW).mono (by
                    rintro e w' ⟨q1, rfl, l1, l2, hb⟩
                    have q3 := (unhide hW).1.below (unhide hb)
                    have q2 := (unhide hW).2.below (unhide hb)
                    exact ⟨q1, rfl, decide_eq_false (by omega), decide_eq_false (by omega), unhide HCy _ q2, (unhide HCx _ q3 q2).1, (unhide HCx _ q3 q2).2, hide ⟨q3, q2⟩⟩)
                  clear C22 C16 hT hT' hTm hless hGT hbT HQ9 k9 HQd g1 g2 g5
                  go_wp2_with fail
                  refine wp_region_held_drew (S := fun W => W.cell? ⟨tg, j, none⟩ = some (.string bT') ∧ W.cell? ⟨tg, j + 1, none⟩ = some (.string bT) ∧ W.cell? ⟨w.heap.size, 1, none⟩ = some (.slice ca C.length ccap)) (by kernel_rfl) ⟨s0, t0, c1⟩ (fun hHeld => ?_)
                  refine wpAnyH_take (i := 0) (oi := ⟨_, _, _, _, _, _⟩) (v := ?vs0) rfl (by kernel_rfl) (by kernel_rfl) (by kernel_rfl) (fun _ _ _ h => h) (Or.inl ⟨by kernel_rfl, ?hys0⟩) (by assumption) ?_
                  case hys0 =>
                    intro w hSw
                    try dsimp only at hSw
                    obtain ⟨s0, s1, s2⟩ := hSw
                    go_simp
                    all_goals with_reducible rfl
                  try simp only [Act.put, List.setIfInBounds_toArray, List.set_cons_zero, List.set_cons_succ]
                  refine wpAnyH_take (i := 1) (oi := ⟨_, _, _, _, _, _⟩) (v := ?vs1) rfl (by kernel_rfl) (by kernel_rfl) (by kernel_rfl) (fun _ _ _ h => h) (Or.inl ⟨by kernel_rfl, ?hys1⟩) (by assumption) ?_
                  case hys1 =>
                    intro w hSw
                    try dsimp only at hSw
                    obtain ⟨s0, s1, s2⟩ := hSw
                    go_simp
                    all_goals with_reducible rfl
                  try simp only [Act.put, List.setIfInBounds_toArray, List.set_cons_zero, List.set_cons_succ]
                  refine wpAnyH_take (i := 2) (oi := ⟨_, _, _, _, _, _⟩) (v := ?vs2) rfl (by kernel_rfl) (by kernel_rfl) (by kernel_rfl) (fun _ _ _ h => h) (Or.inl ⟨by kernel_rfl, ?hys2⟩) (by assumption) ?_
                  case hys2 =>
                    intro w hSw
                    try dsimp only at hSw
                    obtain ⟨s0, s1, s2⟩ := hSw
                    go_simp
                    all_goals with_reducible rfl
                  try simp only [Act.put, List.setIfInBounds_toArray, List.set_cons_zero, List.set_cons_succ]
                  refine wpAnyH_take (i := 3) (oi := ⟨_, _, _, _, _, _⟩) (v := ?vs3) rfl (by kernel_rfl) (by kernel_rfl) (by kernel_rfl) (fun _ _ _ h => h) (Or.inl ⟨by kernel_rfl, ?hys3⟩) (by assumption) ?_
                  case hys3 =>
                    intro w hSw
                    try dsimp only at hSw
                    obtain ⟨s0, s1, s2⟩ := hSw
                    go_simp
                    all_goals with_reducible rfl
                  try simp only [Act.put, List.setIfInBounds_toArray, List.set_cons_zero, List.set_cons_succ]
                  refine wpAnyH_take (i := 4) (oi := ⟨_, _, _, _, _, _⟩) (v := ?vs4) rfl (by kernel_rfl) (by kernel_rfl) (by kernel_rfl) (fun _ _ _ h => h) (Or.inl ⟨by kernel_rfl, ?hys4⟩) (by assumption) ?_
                  case hys4 =>
                    intro w hSw
                    try dsimp only at hSw
                    obtain ⟨s0, s1, s2⟩ := hSw
                    go_simp
                    all_goals with_reducible rfl
                  try simp only [Act.put, List.setIfInBounds_toArray, List.set_cons_zero, List.set_cons_succ]
                  refine wpAnyH_take (i := 5) (oi := ⟨_, _, _, _, _, _⟩) (v := ?vs5) rfl (by kernel_rfl) (by kernel_rfl) (by kernel_rfl) (fun _ _ _ h => h) (Or.inl ⟨by kernel_rfl, ?hys5⟩) (by assumption) ?_
                  case hys5 =>
                    intro w hSw
                    try dsimp only at hSw
                    obtain ⟨s0, s1, s2⟩ := hSw
                    go_simp
                    all_goals with_reducible rfl
                  try simp only [Act.put, List.setIfInBounds_toArray, List.set_cons_zero, List.set_cons_succ]
                  refine wpAnyH_take (i := 6) (oi := ⟨_, _, _, _, _, _⟩) (v := ?vs6) rfl (by kernel_rfl) (by kernel_rfl) (by kernel_rfl) (fun _ _ _ h => h) (Or.inl ⟨by kernel_rfl, ?hys6⟩) (by assumption) ?_
                  case hys6 =>
                    intro w hSw
                    try dsimp only at hSw
                    obtain ⟨s0, s1, s2⟩ := hSw
                    go_simp
                    all_goals with_reducible rfl
                  try simp only [Act.put, List.setIfInBounds_toArray, List.set_cons_zero, List.set_cons_succ]
                  refine wpAnyH_take (i := 7) (oi := ⟨_, _, _, _, _, _⟩) (v := ?vs7) rfl (by kernel_rfl) (by kernel_rfl) (by kernel_rfl) (fun _ _ _ h => h) (Or.inl ⟨by kernel_rfl, ?hys7⟩) (by assumption) ?_
                  case hys7 =>
                    intro w hSw
                    try dsimp only at hSw
                    obtain ⟨s0, s1, s2⟩ := hSw
                    go_simp
                    all_goals with_reducible rfl
                  try simp only [Act.put, List.setIfInBounds_toArray, List.set_cons_zero, List.set_cons_succ]
                  refine wpAnyH_take (i := 8) (oi := ⟨_, _, _, _, _, _⟩) (v := ?vs8) rfl (by kernel_rfl) (by kernel_rfl) (by kernel_rfl) (fun _ _ _ h => h) (Or.inl ⟨by kernel_rfl, ?hys8⟩) (by assumption) ?_
                  case hys8 =>
                    intro w hSw
                    try dsimp only at hSw
                    obtain ⟨s0, s1, s2⟩ := hSw
                    go_simp
                    all_goals with_reducible rfl
                  try simp only [Act.put, List.setIfInBounds_toArray, List.set_cons_zero, List.set_cons_succ]
                  refine wpAnyH_take (i := 9) (oi := ⟨_, _, _, _, _, _⟩) (v := ?vs9) rfl (by kernel_rfl) (by kernel_rfl) (by kernel_rfl) (fun _ _ _ h => h) (Or.inl ⟨by kernel_rfl, ?hys9⟩) (by assumption) ?_
                  case hys9 =>
                    intro w hSw
                    try dsimp only at hSw
                    obtain ⟨s0, s1, s2⟩ := hSw
                    go_simp
                    all_goals with_reducible rfl
                  try simp only [Act.put, List.setIfInBounds_toArray, List.set_cons_zero, List.set_cons_succ]
                  refine wpAnyH_take (i := 10) (oi := ⟨_, _, _, _, _, _⟩) (v := ?vs10) rfl (by kernel_rfl) (by kernel_rfl) (by kernel_rfl) (fun _ _ _ h => h) (Or.inl ⟨by kernel_rfl, ?hys10⟩) (by assumption) ?_
                  case hys10 =>
                    intro w hSw
                    try dsimp only at hSw
                    obtain ⟨s0, s1, s2⟩ := hSw
                    go_simp
                    all_goals with_reducible rfl
                  try simp only [Act.put, List.setIfInBounds_toArray, List.set_cons_zero, List.set_cons_succ]
                  refine wpAnyH_take (i := 11) (oi := ⟨_, _, _, _, _, _⟩) (v := ?vs11) rfl (by kernel_rfl) (by kernel_rfl) (by kernel_rfl) (fun _ _ _ h => h) (Or.inl ⟨by kernel_rfl, ?hys11⟩) (by assumption) ?_
                  case hys11 =>
                    intro w hSw
                    try dsimp only at hSw
                    obtain ⟨s0, s1, s2⟩ := hSw
                    go_simp
                    all_goals with_reducible rfl
                  try simp only [Act.put, List.setIfInBounds_toArray, List.set_cons_zero, List.set_cons_succ]
                  refine wpAnyH_take (i := 12) (oi := ⟨_, _, _, _, _, _⟩) (v := ?vs12) rfl (by kernel_rfl) (by kernel_rfl) (by kernel_rfl) (fun _ _ _ h => h) (Or.inl ⟨by kernel_rfl, ?hys12⟩) (by assumption) ?_
                  case hys12 =>
                    intro w hSw
                    try dsimp only at hSw
                    obtain ⟨s0, s1, s2⟩ := hSw
                    go_simp
                    all_goals with_reducible rfl
                  try simp only [Act.put, List.setIfInBounds_toArray, List.set_cons_zero, List.set_cons_succ]
                  refine wpAnyH_take (i := 13) (oi := ⟨_, _, _, _, _, _⟩) (v := ?vs13) rfl (by kernel_rfl) (by kernel_rfl) (by kernel_rfl) (fun _ _ _ h => h) (Or.inl ⟨by kernel_rfl, ?hys13⟩) (by assumption) ?_
                  case hys13 =>
                    intro w hSw
                    try dsimp only at hSw
                    obtain ⟨s0, s1, s2⟩ := hSw
                    go_simp
                    all_goals with_reducible rfl
                  try simp only [Act.put, List.setIfInBounds_toArray, List.set_cons_zero, List.set_cons_succ]
                  refine wpAnyH_take (i := 14) (oi := ⟨_, _, _, _, _, _⟩) (v := ?vs14) rfl (by kernel_rfl) (by kernel_rfl) (by kernel_rfl) (fun _ _ _ h => h) (Or.inl ⟨by kernel_rfl, ?hys14⟩) (by assumption) ?_
                  case hys14 =>
                    intro w hSw
                    try dsimp only at hSw
                    obtain ⟨s0, s1, s2⟩ := hSw
                    go_simp
                    all_goals with_reducible rfl
                  try simp only [Act.put, List.setIfInBounds_toArray, List.set_cons_zero, List.set_cons_succ]
                  refine wpAnyH_take (i := 15) (oi := ⟨_, _, _, _, _, _⟩) (v := ?vs15) rfl (by kernel_rfl) (by kernel_rfl) (by kernel_rfl) (fun _ _ _ h => h) (Or.inl ⟨by kernel_rfl, ?hys15⟩) (by assumption) ?_
                  case hys15 =>
                    intro w hSw
                    try dsimp only at hSw
                    obtain ⟨s0, s1, s2⟩ := hSw
                    go_simp
                    all_goals with_reducible rfl
                  try simp only [Act.put, List.setIfInBounds_toArray, List.set_cons_zero, List.set_cons_succ]
                  refine wpAnyH_take (i := 16) (oi := ⟨_, _, _, _, _, _⟩) (v := ?vs16) rfl (by kernel_rfl) (by kernel_rfl) (by kernel_rfl) (fun _ _ _ h => h) (Or.inl ⟨by kernel_rfl, ?hys16⟩) (by assumption) ?_
                  case hys16 =>
                    intro w hSw
                    try dsimp only at hSw
                    obtain ⟨s0, s1, s2⟩ := hSw
                    go_simp
                    all_goals with_reducible rfl
                  try simp only [Act.put, List.setIfInBounds_toArray, List.set_cons_zero, List.set_cons_succ]
                  refine wpAnyH_take (i := 17) (oi := ⟨_, _, _, _, _, _⟩) (v := ?vs17) rfl (by kernel_rfl) (by kernel_rfl) (by kernel_rfl) (fun _ _ _ h => h) (Or.inl ⟨by kernel_rfl, ?hys17⟩) (by assumption) ?_
                  case hys17 =>
                    intro w hSw
                    try dsimp only at hSw
                    obtain ⟨s0, s1, s2⟩ := hSw
                    go_simp
                    all_goals with_reducible rfl
                  try simp only [Act.put, List.setIfInBounds_toArray, List.set_cons_zero, List.set_cons_succ]
                  refine wpAnyH_take (i := 18) (oi := ⟨_, _, _, _, _, _⟩) (v := ?vs18) rfl (by kernel_rfl) (by kernel_rfl) (by kernel_rfl) (fun _ _ _ h => h) (Or.inl ⟨by kernel_rfl, ?hys18⟩) (by assumption) ?_
                  case hys18 =>
                    intro w hSw
                    try dsimp only at hSw
                    obtain ⟨s0, s1, s2⟩ := hSw
                    go_simp
                    all_goals with_reducible rfl
                  try simp only [Act.put, List.setIfInBounds_toArray, List.set_cons_zero, List.set_cons_succ]
                  refine wpAnyH_take (i := 19) (oi := ⟨_, _, _, _, _, _⟩) (v := ?vs19) rfl (by kernel_rfl) (by kernel_rfl) (by kernel_rfl) (fun _ _ _ h => h) (Or.inl ⟨by kernel_rfl, ?hys19⟩) (by assumption) ?_
                  case hys19 =>
                    intro w hSw
                    try dsimp only at hSw
                    obtain ⟨s0, s1, s2⟩ := hSw
                    go_simp
                    all_goals with_reducible rfl
                  try simp only [Act.put, List.setIfInBounds_toArray, List.set_cons_zero, List.set_cons_succ]
                  refine wpAnyH_take (i := 20) (oi := ⟨_, _, _, _, _, _⟩) (v := ?vs20) rfl (by kernel_rfl) (by kernel_rfl) (by kernel_rfl) (fun _ _ _ h => h) (Or.inl ⟨by kernel_rfl, ?hys20⟩) (by assumption) ?_
                  case hys20 =>
                    intro w hSw
                    try dsimp only at hSw
                    obtain ⟨s0, s1, s2⟩ := hSw
                    go_simp
                    all_goals with_reducible rfl
                  try simp only [Act.put, List.setIfInBounds_toArray, List.set_cons_zero, List.set_cons_succ]
                  refine wpAnyH_ready (rs := [21]) (by kernel_rfl) (by simp) ?_
                  refine AllReadyH.cons (o := ⟨_, _, _, _, _, _⟩) rfl (fun K hK => ?_) AllReadyH.nil
                  go_simp
                  refine hK.out _ _ ⟨s9, t9, c9⟩ (fun hHeld => ?_)
                  clear hK K
                  try simp only [Act.put, List.setIfInBounds_toArray, List.set_cons_zero, List.set_cons_succ]
                  refine wpAnyH_ready (rs := [22]) (by kernel_rfl) (by simp) ?_
                  refine AllReadyH.cons (o := ⟨_, _, _, _, _, _⟩) rfl (fun K hK => ?_) AllReadyH.nil
                  go_simp
                  go_at_call 22
                  refine (unhide D22).mono ?_
                  rintro e w10 ⟨rfl, m0, m1, m2, k10⟩
                  refine hK.out _ _ ⟨m0, m1, m2⟩ (fun hHeld => ?_)
                  clear hK K
                  try simp only [Act.put, List.setIfInBounds_toArray, List.set_cons_zero, List.set_cons_succ]
                  refine wpAnyH_take (i := 23) (oi := ⟨_, _, _, _, _, _⟩) (v := ?vs23) rfl (by kernel_rfl) (by kernel_rfl) (by kernel_rfl) (fun _ _ _ h => h) (Or.inl ⟨by kernel_rfl, ?hys23⟩) (by assumption) ?_
                  case hys23 =>
                    intro w hSw
                    try dsimp only at hSw
                    obtain ⟨s0, s1, s2⟩ := hSw
                    go_simp
                    all_goals with_reducible rfl
                  try simp only [Act.put, List.setIfInBounds_toArray, List.set_cons_zero, List.set_cons_succ]
                  refine wpAnyH_take (i := 24) (oi := ⟨_, _, _, _, _, _⟩) (v := ?vs24) rfl (by kernel_rfl) (by kernel_rfl) (by kernel_rfl) (fun _ _ _ h => h) (Or.inl ⟨by kernel_rfl, ?hys24⟩) (by assumption) ?_
                  case hys24 =>
                    intro w hSw
                    try dsimp only at hSw
                    obtain ⟨s0, s1, s2⟩ := hSw
                    go_simp
                    all_goals with_reducible rfl
                  try simp only [Act.put, List.setIfInBounds_toArray, List.set_cons_zero, List.set_cons_succ]
                  refine wpAnyH_take (i := 25) (oi := ⟨_, _, _, _, _, _⟩) (v := ?vs25) rfl (by kernel_rfl) (by kernel_rfl) (by kernel_rfl) (fun _ _ _ h => h) (Or.inl ⟨by kernel_rfl, ?hys25⟩) (by assumption) ?_
                  case hys25 =>
                    intro w hSw
                    try dsimp only at hSw
                    obtain ⟨s0, s1, s2⟩ := hSw
                    go_simp
                    all_goals with_reducible rfl
                  try simp only [Act.put, List.setIfInBounds_toArray, List.set_cons_zero, List.set_cons_succ]
                  refine wpAnyH_take (i := 26) (oi := ⟨_, _, _, _, _, _⟩) (v := ?vs26) rfl (by kernel_rfl) (by kernel_rfl) (by kernel_rfl) (fun _ _ _ h => h) (Or.inl ⟨by kernel_rfl, ?hys26⟩) (by assumption) ?_
                  case hys26 =>
                    intro w hSw
                    try dsimp only at hSw
                    obtain ⟨s0, s1, s2⟩ := hSw
                    go_simp
                    all_goals with_reducible rfl
                  try simp only [Act.put, List.setIfInBounds_toArray, List.set_cons_zero, List.set_cons_succ]
                  refine wpAnyH_take (i := 27) (oi := ⟨_, _, _, _, _, _⟩) (v := ?vs27) rfl (by kernel_rfl) (by kernel_rfl) (by kernel_rfl) (fun _ _ _ h => h) (Or.inl ⟨by kernel_rfl, ?hys27⟩) (by assumption) ?_
                  case hys27 =>
                    intro w hSw
                    try dsimp only at hSw
                    obtain ⟨s0, s1, s2⟩ := hSw
                    go_simp
                    all_goals with_reducible rfl
                  try simp only [Act.put, List.setIfInBounds_toArray, List.set_cons_zero, List.set_cons_succ]
                  refine wpAnyH_take (i := 28) (oi := ⟨_, _, _, _, _, _⟩) (v := ?vs28) rfl (by kernel_rfl) (by kernel_rfl) (by kernel_rfl) (fun _ _ _ h => h) (Or.inl ⟨by kernel_rfl, ?hys28⟩) (by assumption) ?_
                  case hys28 =>
                    intro w hSw
                    try dsimp only at hSw
                    obtain ⟨s0, s1, s2⟩ := hSw
                    go_simp
                    all_goals with_reducible rfl
                  try simp only [Act.put, List.setIfInBounds_toArray, List.set_cons_zero, List.set_cons_succ]
                  refine wpAnyH_take (i := 29) (oi := ⟨_, _, _, _, _, _⟩) (v := ?vs29) rfl (by kernel_rfl) (by kernel_rfl) (by kernel_rfl) (fun _ _ _ h => h) (Or.inl ⟨by kernel_rfl, ?hys29⟩) (by assumption) ?_
                  case hys29 =>
                    intro w hSw
                    try dsimp only at hSw
                    obtain ⟨s0, s1, s2⟩ := hSw
                    go_simp
                    all_goals with_reducible rfl
                  try simp only [Act.put, List.setIfInBounds_toArray, List.set_cons_zero, List.set_cons_succ]
                  refine wpAnyH_take (i := 30) (oi := ⟨_, _, _, _, _, _⟩) (v := ?vs30) rfl (by kernel_rfl) (by kernel_rfl) (by kernel_rfl) (fun _ _ _ h => h) (Or.inl ⟨by kernel_rfl, ?hys30⟩) (by assumption) ?_
                  case hys30 =>
                    intro w hSw
                    try dsimp only at hSw
                    obtain ⟨s0, s1, s2⟩ := hSw
                    go_simp
                    all_goals with_reducible rfl
                  try simp only [Act.put, List.setIfInBounds_toArray, List.set_cons_zero, List.set_cons_succ]
                  refine wpAnyH_ready (rs := [31]) (by kernel_rfl) (by simp) ?_
                  refine AllReadyH.cons (o := ⟨_, _, _, _, _, _⟩) rfl (fun K hK => ?_) AllReadyH.nil
                  go_simp
                  go_at_call 16
                  refine (unhide D16 _ k10).mono ?_
                  rintro e w11 ⟨q1, rfl, f7, f8, m3, m4, m5, k11⟩
                  refine hK.out _ _ ⟨m3, m4, m5⟩ (fun hHeld => ?_)
                  clear hK K
                  try simp only [Act.put, List.setIfInBounds_toArray, List.set_cons_zero, List.set_cons_succ]
                  refine wpAnyH_take (i := 32) (oi := ⟨_, _, _, _, _, _⟩) (v := ?vs32) rfl (by kernel_rfl) (by kernel_rfl) (by kernel_rfl) (fun _ _ _ h => h) (Or.inl ⟨by kernel_rfl, ?hys32⟩) (by assumption) ?_
                  case hys32 =>
                    intro w hSw
                    try dsimp only at hSw
                    obtain ⟨s0, s1, s2⟩ := hSw
                    go_simp
                    all_goals with_reducible rfl
                  try simp only [Act.put, List.setIfInBounds_toArray, List.set_cons_zero, List.set_cons_succ]
                  refine wpAnyH_take (i := 33) (oi := ⟨_, _, _, _, _, _⟩) (v := ?vs33) rfl (by kernel_rfl) (by kernel_rfl) (by kernel_rfl) (fun _ _ _ h => h) (Or.inl ⟨by kernel_rfl, ?hys33⟩) (by assumption) ?_
                  case hys33 =>
                    intro w hSw
                    try dsimp only at hSw
                    obtain ⟨s0, s1, s2⟩ := hSw
                    go_simp
                    all_goals with_reducible rfl
                  try simp only [Act.put, List.setIfInBounds_toArray, List.set_cons_zero, List.set_cons_succ]
                  refine wpAnyH_done (by kernel_rfl) ?_ _
                  all_goals go_wp2_with fail
                  all_goals exact ⟨⟨j + 2, congrArg (Value.int .i64) (by omega), by omega, k11⟩, by simp [intOf]; omega⟩
              · obtain rfl : j = tn := by omega
                have f3 : decide ((j : Int) < (j : Int)) = false := decide_eq_false (by omega)
                clear hj hjn
                go_wp2_with fail
                go_loopw [16] (fun kv wx => ∃ m : Nat, kv = .int .i64 ((m : Nat) : Int) ∧ m ≤ i ∧ Hid (Env w wx w.heap.size C ca ccap G va i vc U p ha q hc H ∧ TlAt wx ta j tc L)) (fun kv _ => i - (intOf kv).toNat)
                case atStart => exact ⟨0, rfl, Nat.zero_le _, HQ⟩
                case round =>
                  obtain ⟨m, rfl, hm, HR⟩ := hrel
                  clear HQ
                  by_cases hmi : m < i
                  · have f4 : decide ((m : Int) < (i : Int)) = true := decide_eq_true (by omega)
                    have g1 : (0 : Int) ≤ (m : Int) := by omega
                    have g2 : (m : Int) < (i : Int) := by omega
                    obtain ⟨x, hx⟩ : ∃ x, U[m]? = some x := ⟨_, List.getElem?_eq_getElem (by have := (unhide HR).1.vlen; omega)⟩
                    obtain ⟨sg, rfl, x0, x1, x2⟩ := (unhide HR).1.seat hx
                    have c1 := (unhide HR).1.c1
                    have HXs := hide hx
                    have HRd : Hid (∀ nn, Env w (wr.drewN nn) w.heap.size C ca ccap G (some ⟨sg, 0, none⟩) i vc U p ha q hc H ∧ TlAt (wr.drewN nn) ta j tc L) := hide fun nn => ⟨(unhide HR).1.draw nn, (unhide HR).2.below ⟨rfl, rfl, rfl, Nat.le_refl _, fun _ _ => rfl⟩⟩
                    obtain ⟨⟨xc, xT, xp⟩, xa, xcap⟩ := x
                    dsimp only at x0 x1 x2
                    clear hx
                    cases xp with
                    | true =>
                      go_wp2_with fail
                      go_quiet (fail)
                      go_wp2_with fail
                      exact ⟨⟨m + 1, congrArg (Value.int .i64) (by omega), by omega, hide (unhide HRd _)⟩, by simp [intOf]; omega⟩
                    | false =>
                      have hxl : xT.length ≤ 64 := ((unhide HR).1.ok (List.mem_of_getElem? (unhide HXs))).2
                      have E1 : Env w wr.drew w.heap.size C ca ccap G (some ⟨sg, 0, none⟩) i vc U p ha q hc H := (unhide HR).1.draw1
                      have T1 : TlAt wr.drew ta j tc L := (unhide HR).2.below ⟨rfl, rfl, rfl, Nat.le_refl _, fun _ _ => rfl⟩
                      have C22 := hide ((glob_two G (unhide HG) wr.drew ca xa ccap xcap C xT (by have := E1.c20; omega) (by omega) E1.cC (E1.nam _ (List.mem_of_getElem? (unhide HXs)))).mono (R' := fun e w' => e = .returned (.bool (G C xT)) ∧ w'.cell? ⟨sg, m * 3 + 1, none⟩ = some (.slice xa xT.length xcap) ∧ w'.cell? ⟨sg, m * 3 + 2, none⟩ = some (.bool false) ∧ w'.cell? ⟨w.heap.size, 1, none⟩ = some (.slice ca C.length ccap) ∧ Hid (Env w w' w.heap.size C ca ccap G (some ⟨sg, 0, none⟩) i vc U p ha q hc H ∧ TlAt w' ta j tc L)) (by
                        rintro e w' ⟨rfl, hb⟩
                        have q1 := E1.below (unhide hb)
                        have q2 := T1.below (unhide hb)
                        obtain ⟨sg', e', d0, d1, d2⟩ := q1.seat (unhide HXs)
                        cases e'
                        exact ⟨rfl, d1, d2, q1.c1, hide ⟨q1, q2⟩⟩))
                      clear E1 T1
                      cases hGx : G C xT with
                      | false =>
                        rw [hGx] at C22
                        clear hGx
                        go_wp2_with fail
                        go_region_held3 (fun W => W.cell? ⟨sg, m * 3 + 1, none⟩ = some (.slice xa xT.length xcap) ∧ W.cell? ⟨sg, m * 3 + 2, none⟩ = some (.bool false) ∧ W.cell? ⟨w.heap.size, 1, none⟩ = some (.slice ca C.length ccap)) (go_keep) (first | (go_at_call 22; refine (unhide C22).mono ?_; rintro e w9 ⟨rfl, d1, d2, d3, k9⟩))
                        all_goals go_wp2_with fail
                        all_goals exact ⟨⟨m + 1, congrArg (Value.int .i64) (by omega), by omega, k9⟩, by simp [intOf]; omega⟩
                      | true =>
                        rw [hGx] at C22
                        have HT : Hid (L.any (fun T => decide (T = xT)) = true) := hide (by
                          rw [unhide HLc]
                          exact (unhide HR).1.chan_in (List.mem_of_getElem? (unhide HXs)) rfl hGx)
                        clear hGx
                        go_wp2_with fail
                        go_region_held3 (fun W => W.cell? ⟨sg, m * 3 + 1, none⟩ = some (.slice xa xT.length xcap) ∧ W.cell? ⟨sg, m * 3 + 2, none⟩ = some (.bool false) ∧ W.cell? ⟨w.heap.size, 1, none⟩ = some (.slice ca C.length ccap)) (go_keep) (first | (go_at_call 22; refine (unhide C22).mono ?_; rintro e w9 ⟨rfl, d1, d2, d3, k9⟩))
                        all_goals
                          go_wp2_with fail
                          go_loopw [17, 18] (fun fv kv wx => ∃ (f : Bool) (k2 : Nat), fv = .bool f ∧ kv = .int .i64 ((k2 : Nat) : Int) ∧ k2 ≤ j ∧ Hid ((Env w wx w.heap.size C ca ccap G (some ⟨sg, 0, none⟩) i vc U p ha q hc H ∧ TlAt wx ta j tc L) ∧ f = (L.take k2).any (fun T => decide (T = xT)))) (fun _ kv _ => j - (intOf kv).toNat)
                          case atStart => exact ⟨false, 0, rfl, rfl, Nat.zero_le _, hide ⟨unhide k9, by simp⟩⟩
                          case round =>
                            obtain ⟨f, k2, rfl, rfl, hk2, HS⟩ := hrel
                            clear k9
                            by_cases hkn : k2 < j
                            · have f5 : decide ((k2 : Int) < (j : Int)) = true := decide_eq_true (by omega)
                              have g3 : (0 : Int) ≤ (k2 : Int) := by omega
                              have g4 : (k2 : Int) < (j : Int) := by omega
                              obtain ⟨T, hT⟩ : ∃ T, L[k2]? = some T := ⟨_, List.getElem?_eq_getElem (by have := (unhide HS).1.2.2; omega)⟩
                              obtain ⟨tg, rfl, t0⟩ := (unhide HS).1.2.at hT
                              obtain ⟨sg', e', x0, x1, x2⟩ := (unhide HS).1.1.seat (unhide HXs)
                              cases e'
                              dsimp only at x0 x1 x2
                              have hnx : ∀ d : Bool, d = ((L.take k2).any (fun T => decide (T = xT)) || decide (T = xT)) → d = (L.take (k2 + 1)).any (fun T => decide (T = xT)) := fun d hd => by
                                rw [List.take_add_one, hT, List.any_append, hd]
                                simp
                              have HNX := hide hnx
                              have HFk := hide (unhide HS).2
                              have HEd : Hid (∀ nn, Env w (wr.drewN nn) w.heap.size C ca ccap G (some ⟨sg, 0, none⟩) i vc U p ha q hc H ∧ TlAt (wr.drewN nn) (some ⟨tg, 0, none⟩) j tc L) := hide fun nn => ⟨(unhide HS).1.1.draw nn, (unhide HS).1.2.below ⟨rfl, rfl, rfl, Nat.le_refl _, fun _ _ => rfl⟩⟩
                              have HE1 : Hid (Env w wr.drew w.heap.size C ca ccap G (some ⟨sg, 0, none⟩) i vc U p ha q hc H ∧ TlAt wr.drew (some ⟨tg, 0, none⟩) j tc L) := hide ⟨(unhide HS).1.1.draw1, (unhide HS).1.2.below ⟨rfl, rfl, rfl, Nat.le_refl _, fun _ _ => rfl⟩⟩
                              have R := conv_back wr.drew xa xcap xT ((unhide HE1).1.nam _ (List.mem_of_getElem? (unhide HXs)))
                              clear hnx hT
                              cases f with
                              | true =>
                                clear R
                                go_wp2_with fail
                                go_quiet (fail)
                                go_wp2_with fail
                                exact ⟨⟨true, k2 + 1, rfl, congrArg (Value.int .i64) (by omega), by omega, hide ⟨unhide HEd _, unhide HNX true (by rw [← unhide HFk]; rfl)⟩⟩, by simp [intOf]; omega⟩
                              | false =>
                                have f6 := bs_eq T xT
                                have HD : Hid (decide (T = xT) = (L.take (k2 + 1)).any (fun T => decide (T = xT))) := hide (unhide HNX _ (by rw [← unhide HFk, Bool.false_or]))
                                generalize decide (T = xT) = d at f6 HD
                                generalize hbx : bs xT = bx at f6 R
                                generalize hby : bs T = by0 at f6 t0
                                clear hbx hby
                                go_wp2_with fail
                                go_region_held3 (fun W => W.cell? ⟨tg, k2, none⟩ = some (.string by0) ∧ W.cell? ⟨sg, m * 3 + 1, none⟩ = some (.slice xa xT.length xcap) ∧ (convert 23 9 (.slice xa xT.length xcap)).run Try.prog W = .ok (.string bx) W) (go_keep) (fail)
                                all_goals go_wp2_with fail
                                all_goals exact ⟨⟨d, k2 + 1, rfl, congrArg (Value.int .i64) (by omega), by omega, hide ⟨unhide HE1, unhide HD⟩⟩, by simp [intOf]; omega⟩
                            · obtain rfl : k2 = j := by omega
                              have f5 : decide ((k2 : Int) < (k2 : Int)) = false := decide_eq_false (by omega)
                              obtain rfl : f = true := by
                                have h1 := (unhide HS).2
                                have h2 := (unhide HS).1.2.2
                                rw [h2, List.take_length] at h1
                                rw [h1]; exact unhide HT
                              go_wp2_with fail
                              exact ⟨⟨m + 1, congrArg (Value.int .i64) (by omega), by omega, hide (unhide HS).1⟩, by simp [intOf]; omega⟩
                  · obtain rfl : m = i := by omega
                    have f4 : decide ((m : Int) < (m : Int)) = false := decide_eq_false (by omega)
                    go_wp2_with fail
                    go_ret
                    exact ⟨rfl, hide (unhide HR).1.bel⟩
end Go.Proofs.Ytjmnddcombepaaa
