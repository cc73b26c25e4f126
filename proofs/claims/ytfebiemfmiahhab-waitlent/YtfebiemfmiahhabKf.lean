/- A Wait while it is being changed. -/
import Derived.Test.YtfebiemfmiahhabKe
namespace Go.Proofs.Ytfebiemfmiahhab
open Go.ChangeShapes Go.WideShapes Go.ChangeAt Go.RowKit Go.Maps
set_option linter.unusedVariables false
set_option linter.unusedSimpArgs false
set_option maxRecDepth 100000
set_option maxHeartbeats 4000000
/-- a Wait whose lines are L -/
structure WL (O : Nat → Prop) (w : World) (p bw bl T n : Nat) (E : List En) (L : Pl → List Nat) : Prop where
  cell : w.heap[p]? = some (.cells #[.int .u64 (T : Nat), .map (some bw), .map (some bl)] 66 (0, 0))
  mw : MapV KI w bw T (fun c => (lookE E c).map enV)
  ln : Lines O w bl n L
  rows : ∀ e ∈ E, RowP w e.g e.x.places
  op : O p
  ow : O bw
  ol : O bl
  oe : ∀ e ∈ E, O e.g
  lt : ∀ b, O b → b < w.heap.size
  ne : bw ≠ bl
  nd : (E.map (·.x.conn)).Nodup
  ok : ∀ e ∈ E, WOk e.x
  le : ∀ e ∈ E, e.turn ≤ T
  inc : E.Pairwise (fun a b => a.turn < b.turn)
  few : T ≤ 1099511627776
theorem WAt.wl {O : Nat → Prop} {w : World} {p bw bl T : Nat} {E : List En} (h : WAt O w p bw bl T E) : WL O w p bw bl T (64 * T) E (conns E) :=
  ⟨h.cell, h.mw, h.ln, h.rows, h.op, h.ow, h.ol, h.oe, h.lt, h.ne, h.nd, h.ok, h.le, h.inc, h.few⟩
theorem WL.at {O : Nat → Prop} {w : World} {p bw bl T n : Nat} {E : List En} {L : Pl → List Nat} (h : WL O w p bw bl T n E L) (hL : ∀ q, POk q → conns E q = L q) (hn : n ≤ 64 * T) : WAt O w p bw bl T E :=
  ⟨h.cell, h.mw, (h.ln.eq hL).mono hn, h.rows, h.op, h.ow, h.ol, h.oe, h.lt, h.ne, h.nd, h.ok, h.le, h.inc, h.few⟩
theorem Lines.wide {O O' : Nat → Prop} {w : World} {bl n : Nat} {L : Pl → List Nat} (h : Lines O w bl n L) (hs : ∀ x, O x → O' x) : Lines O' w bl n L := by
  obtain ⟨G, h1, h2, h4⟩ := h.ex
  refine ⟨G, h1, fun p hp => ⟨(h2 p hp).1, fun hne => ?_⟩, h4⟩
  obtain ⟨v, g, e, og, hl⟩ := (h2 p hp).2 hne
  exact ⟨v, g, e, hs g og, hl⟩
theorem WL.below {O : Nat → Prop} {w w' : World} {p bw bl T n : Nat} {E : List En} {L : Pl → List Nat} (h : WL O w p bw bl T n E L) (hb : Below w.heap.size w w') : WL O w' p bw bl T n E L := by
  have hO : ∀ b, O b → w'.heap[b]? = w.heap[b]? := fun b ob => hb.block b (h.lt b ob)
  exact ⟨(hO p h.op).trans h.cell, h.mw.same (hO bw h.ow), h.ln.same (hO bl h.ol) hO (fun _ h => h), fun e he => (hO e.g (h.oe e he)).trans (h.rows e he), h.op, h.ow, h.ol, h.oe, fun b ob => Nat.lt_of_lt_of_le (h.lt b ob) hb.size, h.ne, h.nd, h.ok, h.le, h.inc, h.few⟩
theorem WL.wide {O O' : Nat → Prop} {w : World} {p bw bl T n : Nat} {E : List En} {L : Pl → List Nat} (h : WL O w p bw bl T n E L) (hs : ∀ x, O x → O' x) (hl : ∀ b, O' b → b < w.heap.size) : WL O' w p bw bl T n E L :=
  ⟨h.cell, h.mw, h.ln.wide hs, h.rows, hs _ h.op, hs _ h.ow, hs _ h.ol, fun e he => hs _ (h.oe e he), hl, h.ne, h.nd, h.ok, h.le, h.inc, h.few⟩
theorem WL.c0 {O : Nat → Prop} {w : World} {p bw bl T n : Nat} {E : List En} {L : Pl → List Nat} (h : WL O w p bw bl T n E L) : w.cell? ⟨p, 0, none⟩ = some (.int .u64 (T : Nat)) ∧ w.cell? ⟨p, 1, none⟩ = some (.map (some bw)) ∧ w.cell? ⟨p, 2, none⟩ = some (.map (some bl)) := ⟨cell_blk h.cell 0, cell_blk h.cell 1, cell_blk h.cell 2⟩
theorem no3_p {O : Nat → Prop} {w : World} {p bw bl T n : Nat} {E : List En} {L : Pl → List Nat} (h : WL O w p bw bl T n E L) : No3 w p ∧ p ≠ bl ∧ p ≠ bw := by
  obtain ⟨es, cl, hm⟩ := h.mw.blk
  obtain ⟨G, h1, -⟩ := h.ln.ex
  obtain ⟨es', cl', hm'⟩ := h1.blk
  refine ⟨fun cur hc => ?_, fun e => ?_, fun e => ?_⟩
  · rw [h.cell] at hc; cases hc
  · have := h.cell; rw [e, hm'] at this; cases this
  · have := h.cell; rw [e, hm] at this; cases this
theorem no3_bw {O : Nat → Prop} {w : World} {p bw bl T n : Nat} {E : List En} {L : Pl → List Nat} (h : WL O w p bw bl T n E L) : No3 w bw := by
  obtain ⟨es, cl, hm⟩ := h.mw.blk
  intro cur hc
  rw [hm] at hc
  cases hc
theorem no3_row {O : Nat → Prop} {w : World} {p bw bl T n : Nat} {E : List En} {L : Pl → List Nat} (h : WL O w p bw bl T n E L) {e : En} (he : e ∈ E) : No3 w e.g ∧ e.g ≠ bl ∧ e.g ≠ bw ∧ e.g ≠ p := by
  have hr := h.rows e he
  unfold RowP at hr
  obtain ⟨es, cl, hm⟩ := h.mw.blk
  obtain ⟨G, h1, -⟩ := h.ln.ex
  obtain ⟨es', cl', hm'⟩ := h1.blk
  refine ⟨fun cur hc => ?_, fun e2 => ?_, fun e2 => ?_, fun e2 => ?_⟩
  · rw [hr] at hc; cases hc
  · rw [e2, hm'] at hr; cases hr
  · rw [e2, hm] at hr; cases hr
  · rw [e2, h.cell] at hr
    injection hr with hr
    injection hr with _ ht
    exact absurd ht (by decide)
/-- what a call leaves of what is not ours -/
structure Fr (O : Nat → Prop) (w w' : World) : Prop where
  os : w'.os = w.os
  tape : w'.tape = w.tape
  output : w'.output = w.output
  size : w.heap.size ≤ w'.heap.size
  own : Own O w w'
theorem Fr.below {O : Nat → Prop} {w w' w'' : World} (h : Fr O w w') (hb : Below w'.heap.size w' w'') : Fr O w w'' :=
  ⟨hb.os.trans h.os, hb.tape.trans h.tape, hb.output.trans h.output, Nat.le_trans h.size hb.size, fun i hi hno => (hb.block i (Nat.lt_of_lt_of_le hi h.size)).trans (h.own i hi hno)⟩
theorem Fr.of {O : Nat → Prop} {w w' : World} (hb : Below w.heap.size w w') : Fr O w w' := ⟨hb.os, hb.tape, hb.output, hb.size, fun i hi _ => hb.block i hi⟩
theorem Fr.kept {O : Nat → Prop} {w w' w'' : World} {b : Nat} (h : Fr O w w') (k : KeptB b w' w'') (hb : O b ∨ w.heap.size ≤ b) : Fr O w w'' :=
  ⟨k.os.trans h.os, k.tape.trans h.tape, k.output.trans h.output, Nat.le_trans h.size k.size, fun i hi hno => (k.blk i (Nat.lt_of_lt_of_le hi h.size) (fun e => by
    subst e
    rcases hb with hb | hb
    · exact hno hb
    · omega)).trans (h.own i hi hno)⟩
theorem lookE_append (E : List En) (e : En) (c : Int) : lookE (E ++ [e]) c = (lookE E c).or (if (e.x.conn : Int) = c then some e else none) := by
  unfold lookE
  rw [List.find?_append]
  congr 1
  rw [List.find?_singleton]
  simp
theorem lookE_none {E : List En} {c : Nat} (h : lookE E (c : Nat) = none) : ∀ e ∈ E, e.x.conn ≠ c := by
  intro e he e2
  have := List.find?_eq_none.1 h e he
  simp at this
  exact this (by rw [e2])
/-- the new one stands in the map -/
theorem WAt.begin {O : Nat → Prop} {w w1 : World} {p bw bl T : Nat} {E : List En} (h : WAt O w p bw bl T E) (hb : Below w.heap.size w w1) (x : Wt) (hx : WOk x) (hr : RowP w1 w.heap.size x.places) (hnew : lookE E (x.conn : Nat) = none) (hT : T < 1099511627776) :
    ∃ w3, (Instr.mapUpdate 63 (.map (some bw)) (.int .i64 (x.conn : Nat)) (enV ⟨x, T + 1, w.heap.size⟩)).run Try.prog (w1.setCell ⟨p, 0, none⟩ (.int .u64 ((T + 1 : Nat) : Int))).drew = .ok () w3 ∧ WL (ext O w w3) w3 p bw bl (T + 1) (64 * T) (E ++ [⟨x, T + 1, w.heap.size⟩]) (conns E) ∧ Fr O w w3 := by
  have h1 := (h.below hb).wl
  obtain ⟨n3, npl, npw⟩ := no3_p h1
  have hp1 := h1.cell
  have s2 := heap_setCell_same w1 p 0 _ 66 (.int .u64 ((T + 1 : Nat) : Int)) hp1
  have k2 := KeptB.set w1 p 0 (.int .u64 ((T + 1 : Nat) : Int))
  generalize hw2 : w1.setCell ⟨p, 0, none⟩ (.int .u64 ((T + 1 : Nat) : Int)) = w2 at *
  have hsz2 : w2.heap.size = w1.heap.size := by rw [← hw2]; simp
  have hdr : Below w2.heap.size w2 w2.drew := (Below.refl _ _).drew
  have hm2 : MapV KI w2.drew bw T (fun c => (lookE E c).map enV) := (h1.mw.same (k2.blk bw h1.mw.lt npw.symm)).same rfl
  have hok : KI.ok (x.conn : Nat) := by
    have := hx.conn
    exact WalkArith.wf_i64 (by omega)
  obtain ⟨w3, hrun, hm3, ht3⟩ := hm2.put (t := 63) (e := 73) Try.underlying63 (by unfold maxLen; omega) hok (enV ⟨x, T + 1, w.heap.size⟩)
  obtain ⟨k3, s3⟩ := KeptB.turned ht3
  have hsd : w2.drew.heap.size = w2.heap.size := rfl
  have hb23 : ∀ i, i < w1.heap.size → i ≠ p → i ≠ bw → w3.heap[i]? = w1.heap[i]? := fun i hi hip hiw => (k3.blk i (by omega) hiw).trans (k2.blk i hi hip)
  have hbl : bl < w1.heap.size := by
    obtain ⟨G, g1, -⟩ := h1.ln.ex
    exact g1.lt
  have hgw : w.heap.size ≠ p ∧ w.heap.size ≠ bw := ⟨fun e => by have := h.lt p h.op; omega, fun e => by have := h.lt bw h.ow; omega⟩
  have hrw : RowP w3 w.heap.size x.places := (hb23 _ (blk_lt hr) hgw.1 hgw.2).trans hr
  have hfr : Fr O w w3 := ((Fr.of hb).kept k2 (.inl h.op)).kept (b := bw) ⟨k3.os, k3.tape, k3.output, k3.size, k3.blk⟩ (.inl h.ow)
  refine ⟨w3, hrun, ?_, hfr⟩
  have hlw : ∀ b, ext O w w3 b → b < w3.heap.size := fun b hb' => by
    rcases hb' with ob | hb'
    · have := h.lt b ob; have := hb.size; omega
    · exact hb'.2
  have hin : ext O w w3 w.heap.size := .inr ⟨Nat.le_refl _, by have := blk_lt hr; omega⟩
  refine ⟨?_, ?_, ?_, fun e he => ?_, .inl h.op, .inl h.ow, .inl h.ol, fun e he => ?_, hlw, h.ne, ?_, fun e he => ?_, fun e he => ?_, ?_, by omega⟩
  · rw [k3.blk p (by have := blk_lt hp1; omega) npw]
    show w2.heap[p]? = _
    rw [s2]
    rfl
  · have : (fun c => (lookE (E ++ [⟨x, T + 1, w.heap.size⟩]) c).map enV) = upd (fun c => (lookE E c).map enV) ((x.conn : Nat) : Int) (some (enV ⟨x, T + 1, w.heap.size⟩)) := by
      funext c
      unfold upd
      rw [lookE_append]
      by_cases e : c = (x.conn : Nat)
      · subst e
        rw [if_pos rfl, hnew, if_pos rfl]
        rfl
      · rw [if_neg e, if_neg (fun e2 => e e2.symm)]
        simp
    rw [this]
    obtain ⟨D, d1, d2⟩ := hm3.ex
    exact ⟨D, d1.mono (by split <;> omega), d2⟩
  · have hl2 : Lines O w2 bl (64 * T) (conns E) := h1.ln.keep k2 npl n3 (fun _ h => h)
    have hl2' : Lines O w2.drew bl (64 * T) (conns E) := hl2.same rfl (fun b _ => rfl) (fun _ h => h)
    refine hl2'.keep k3 h.ne ?_ (fun _ h => .inl h)
    obtain ⟨es, cl, hmm⟩ := hm2.blk
    intro cur hc
    rw [hmm] at hc
    cases hc
  · rcases List.mem_append.1 he with he | he
    · obtain ⟨-, -, nw, np⟩ := no3_row h1 he
      exact (hb23 e.g (blk_lt (h1.rows e he)) np nw).trans (h1.rows e he)
    · rw [List.mem_singleton.1 he]
      exact hrw
  · rcases List.mem_append.1 he with he | he
    · exact .inl (h.oe e he)
    · rw [List.mem_singleton.1 he]
      exact hin
  · rw [List.map_append, List.nodup_append]
    refine ⟨h.nd, by simp, fun a ha b hb e => ?_⟩
    simp at hb
    obtain ⟨y, hy, rfl⟩ := List.mem_map.1 ha
    exact lookE_none hnew y hy (by rw [e, hb])
  · rcases List.mem_append.1 he with he | he
    · exact h.ok e he
    · rw [List.mem_singleton.1 he]
      exact hx
  · rcases List.mem_append.1 he with he | he
    · have := h.le e he; omega
    · rw [List.mem_singleton.1 he]
      exact Nat.le_refl _
  · rw [List.pairwise_append]
    refine ⟨h.inc, by simp, fun a ha b hb => ?_⟩
    rw [List.mem_singleton.1 hb]
    have := h.le a ha
    show a.turn < T + 1
    omega
/-- a change of the lines at one place -/
theorem WL.line {O : Nat → Prop} {w W w4 : World} {p bw bl T n n' : Nat} {E : List En} {L L' : Pl → List Nat} (h : WL (ext O w W) W p bw bl T n E L) (hf : Fr O w W) (hl : Lines (ext (ext O w W) W w4) w4 bl n' L') (hc : Chg W w4 bl) (ho : Own (ext O w W) W w4) : WL (ext O w w4) w4 p bw bl T n' E L' ∧ Fr O w w4 := by
  have hs := hf.size
  have hs4 := hc.size
  have hsub : ∀ b, ext (ext O w W) W w4 b → ext O w w4 b := fun b hb => by
    rcases hb with (ob | hb) | hb
    · exact .inl ob
    · exact .inr ⟨hb.1, by omega⟩
    · exact .inr ⟨by omega, hb.2⟩
  have hsub1 : ∀ b, ext O w W b → ext O w w4 b := fun b hb => hsub b (.inl hb)
  obtain ⟨n3, npl, npw⟩ := no3_p h
  refine ⟨⟨(hc.blk p (h.lt p h.op) npl n3).trans h.cell, h.mw.same (hc.blk bw (h.lt bw h.ow) h.ne (no3_bw h)), hl.wide hsub, fun e he => ?_, hsub1 _ h.op, hsub1 _ h.ow, hsub1 _ h.ol, fun e he => hsub1 _ (h.oe e he), fun b hb => ?_, h.ne, h.nd, h.ok, h.le, h.inc, h.few⟩, ⟨hc.os.trans hf.os, hc.tape.trans hf.tape, hc.output.trans hf.output, by omega, fun i hi hno => ?_⟩⟩
  · obtain ⟨a1, a2, -⟩ := no3_row h he
    exact (hc.blk e.g (h.lt e.g (h.oe e he)) a2 a1).trans (h.rows e he)
  · rcases hb with ob | hb
    · have := h.lt b (.inl ob); omega
    · exact hb.2
  · exact (ho i (by omega) (fun hx => by
      rcases hx with ob | hx
      · exact hno ob
      · omega)).trans (hf.own i hi hno)
end Go.Proofs.Ytfebiemfmiahhab
