/- PostOrder: what lies in memory while the law runs, and its calls. -/
import Derived.Test.YtjmnddcombepaaaPoz
namespace Go.Proofs.Ytjmnddcombepaaa
open Go.ChangeShapes Go.WideShapes Go.ChangeAt Go.RowKit Go.Maps Go.Sort
set_option linter.unusedVariables false
set_option linter.unusedSimpArgs false
set_option maxRecDepth 100000
set_option maxHeartbeats 8000000
theorem addV_ne {o : List Sv} {x : Sv} (h : o ≠ []) : addV o x ≠ [] := by
  unfold addV
  split
  · exact h
  · simp
theorem unV_ne {l : List Sv} (h : l ≠ []) : unV l ≠ [] := by
  cases l with
  | nil => exact absurd rfl h
  | cons x r =>
    unfold unV
    rw [List.foldl_cons]
    have h0 : addV [] (fitV x) ≠ [] := by simp [addV, cnts, cntC]
    generalize addV [] (fitV x) = o at h0
    clear h
    induction r generalizing o with
    | nil => exact h0
    | cons y r ih => exact ih _ (addV_ne h0)
/-- what unlike gives of a list that is not empty -/
structure SL (W wr w' : World) (g n cp : Nat) (L : List Sv) : Prop where
  la : LAt W w' (wr.heap.size + 1) (.slice (some ⟨g, 0, none⟩) n cp) L
  near : ∀ x ∈ L, Near wr.heap.size x
  unl : Unl L
  len : n = L.length
  bel : Below wr.heap.size wr w'
theorem seats_some (W wr : World) (base : Nat) (v : Value) (M : List Sv) (h : LAt W wr base v M) (hM : M ≠ []) :
    Calls Try.prog 17 #[v] wr fun e w' => ∃ g n cp L, e = .returned (.slice (some ⟨g, 0, none⟩) n cp) ∧ (1 ≤ n ∧ n ≤ 1000) ∧ Hid (SL W wr w' g n cp L) := by
  refine (seats_own W wr base v M h).mono (fun e w' ⟨v', e1, h2, h3⟩ => ?_)
  obtain ⟨h4, h5⟩ := unhide h2
  obtain ⟨a, n, cp, rfl, hn⟩ := h4.own.slice
  have hne : unV (M.take 1000) ≠ [] := unV_ne (by cases M with | nil => exact absurd rfl hM | cons x r => simp)
  have hlen : (unV (M.take 1000)).length ≤ 1000 := Nat.le_trans (unV_len _) (by rw [List.length_take]; omega)
  have h1 : 1 ≤ (unV (M.take 1000)).length := List.length_pos_iff.2 hne
  obtain ⟨g, rfl, -⟩ := h4.own.cell (i := 0) (List.getElem?_eq_getElem h1)
  exact ⟨g, n, cp, _, e1, ⟨by omega, by omega⟩, hide ⟨h4, h5, unV_ok _, hn, unhide h3⟩⟩
/-- the list l and the Post p -/
structure OL (w0 W : World) (g n cp base : Nat) (L : List Sv) (p bp : Nat) : Prop where
  la : LAt w0 W base (.slice (some ⟨g, 0, none⟩) n cp) L
  pp : ∃ D, PostAt W p bp D (L.map (·.1)).reverse
  unl : Unl L
  len : n = L.length
  few : n ≤ 1000
theorem OL.below {w0 W W' : World} {g n cp base : Nat} {L : List Sv} {p bp : Nat} (h : OL w0 W g n cp base L p bp) (hb : Below W.heap.size W W') : OL w0 W' g n cp base L p bp := by
  obtain ⟨D, hD⟩ := h.pp
  exact ⟨h.la.below hb, ⟨D, hD.below hb⟩, h.unl, h.len, h.few⟩
theorem OL.list {w0 W : World} {g n cp base : Nat} {L : List Sv} {p bp : Nat} (h : OL w0 W g n cp base L p bp) {k : Nat} {x : Sv} (hx : L[k]? = some x) : W.cell? ⟨g, k * 3, none⟩ = some (.int .i64 x.1.1) ∧ W.cell? ⟨g, k * 3 + 1, none⟩ = some (.slice x.2.1 x.1.2.1.length x.2.2) ∧ W.cell? ⟨g, k * 3 + 2, none⟩ = some (.bool x.1.2.2) := by
  obtain ⟨g', e, -, -, h0, h1, h2⟩ := h.la.own.cell hx
  cases e
  exact ⟨h0, h1, h2⟩
theorem OL.conv {w0 W : World} {g n cp base : Nat} {L : List Sv} {p bp : Nat} (h : OL w0 W g n cp base L p bp) {k : Nat} {x : Sv} (hx : L[k]? = some x) : (convert 23 9 (.slice x.2.1 x.1.2.1.length x.2.2)).run Try.prog W = .ok (.string (bs x.1.2.1)) W := conv_back W _ _ _ (h.la.nam x (List.mem_of_getElem? hx))
/-- the struct that came in -/
theorem OL.box {w0 W : World} {g n cp base : Nat} {L : List Sv} {p bp : Nat} (h : OL w0 W g n cp base L p bp) {bx : Nat} {s0 s1 s2 s3 : Value} (hb : w0.heap[bx]? = some (.cells #[s0, s1, s2, s3] 25 (0, 0))) : W.cell? ⟨bx, 1, none⟩ = some s1 ∧ W.cell? ⟨bx, 2, none⟩ = some s2 ∧ W.cell? ⟨bx, 3, none⟩ = some s3 := by
  have hh := (h.la.bel.block bx (blk_lt hb)).trans hb
  exact ⟨cell_blk hh 1, cell_blk hh 2, cell_blk hh 3⟩
theorem OL.chan {w0 W : World} {g n cp base : Nat} {L : List Sv} {p bp : Nat} (h : OL w0 W g n cp base L p bp) {ca : Option Addr} {ccap : Nat} {C : List UInt8} (hb : Bytes w0 ca (nb C)) : (convert 23 9 (.slice ca C.length ccap)).run Try.prog W = .ok (.string (bs C)) W := conv_back W _ _ _ (hb.below h.la.bel)
theorem OL.count {w0 W : World} {g n cp base : Nat} {L : List Sv} {p bp : Nat} (h : OL w0 W g n cp base L p bp) (c : Int) : Calls Try.prog 13 #[.pointer (some ⟨p, 0, none⟩), .int .i64 c] W fun e w' => e = .returned (.int .i64 (cntC (L.map (·.1)) c : Nat)) ∧ Hid (Below W.heap.size W w') := by
  obtain ⟨D, hD⟩ := h.pp
  have := count_any W p bp D _ c hD (by have := h.len; have := h.few; simp; omega)
  rwa [cntC_perm (List.reverse_perm _)] at this
/-- the other Post beside them -/
structure OQ (w0 w6 W : World) (g n cp base : Nat) (L : List Sv) (p bp q bq : Nat) (K : List Key) : Prop where
  ol : OL w0 w6 g n cp base L p bp
  bel : Below w6.heap.size w6 W
  hb : w6.heap.size ≤ bq
  qq : ∃ D S, PostAt W q bq D S ∧ S.Perm K
  few : K.length ≤ 1000
theorem OQ.l {w0 w6 W : World} {g n cp base : Nat} {L : List Sv} {p bp q bq : Nat} {K : List Key} (h : OQ w0 w6 W g n cp base L p bp q bq K) : OL w0 W g n cp base L p bp := h.ol.below h.bel
theorem OQ.below {w0 w6 W W' : World} {g n cp base : Nat} {L : List Sv} {p bp q bq : Nat} {K : List Key} (h : OQ w0 w6 W g n cp base L p bp q bq K) (hb : Below W.heap.size W W') : OQ w0 w6 W' g n cp base L p bp q bq K := by
  obtain ⟨D, S, h1, h2⟩ := h.qq
  exact ⟨h.ol, h.bel.trans (hb.mono h.bel.size), h.hb, ⟨D, S, h1.below hb, h2⟩, h.few⟩
theorem OQ.keep {w0 w6 W W' : World} {g n cp base : Nat} {L : List Sv} {p bp q bq : Nat} {K K' : List Key} (h : OQ w0 w6 W g n cp base L p bp q bq K) (k : KeptB bq W W') (hq : ∃ D S, PostAt W' q bq D S ∧ S.Perm K') (hK : K'.length ≤ 1000) : OQ w0 w6 W' g n cp base L p bp q bq K' :=
  ⟨h.ol, ⟨k.os.trans h.bel.os, k.tape.trans h.bel.tape, k.output.trans h.bel.output, Nat.le_trans h.bel.size k.size, fun j hj => (k.blk j (Nat.lt_of_lt_of_le hj h.bel.size) (by have := h.hb; omega)).trans (h.bel.block j hj)⟩, h.hb, hq, hK⟩
theorem OQ.leave {w0 w6 W : World} {g n cp base : Nat} {L : List Sv} {p bp q bq : Nat} {K : List Key} (h : OQ w0 w6 W g n cp base L p bp q bq K) (k : Key) (hk : (0 ≤ k.1 ∧ k.1 < 8) ∧ k.2.1.length ≤ 64) :
    Calls Try.prog 15 #[.pointer (some ⟨q, 0, none⟩), .int .i64 k.1, .string (bs k.2.1), .bool k.2.2] W fun e w' => e = .returned (.tuple #[.int .i64 (cntC (K.erase k) k.1 : Nat), .bool (decide (k ∈ K)), .int .i64 0]) ∧ Hid (OQ w0 w6 w' g n cp base L p bp q bq (K.erase k) ∧ KeptB bq W w') := by
  obtain ⟨D, S, h1, h2⟩ := h.qq
  have hl := h2.length_eq
  have hf := h.few
  refine (leave_any W q bq D S k.1 k.2.1 k.2.2 h1 hk.1 (by omega) (by omega)).mono (fun e w' ⟨e1, e2⟩ => ?_)
  obtain ⟨D', h3, h4⟩ := unhide e2
  have hp : (S.erase k).Perm (K.erase k) := h2.erase k
  refine ⟨?_, hide ⟨h.keep h4 ⟨D', _, h3, hp⟩ (Nat.le_trans List.length_erase_le hf), h4⟩⟩
  rw [e1]
  have e3 : cntC (S.erase k) k.1 = cntC (K.erase k) k.1 := cntC_perm hp _
  have e4 : decide (k ∈ S) = decide (k ∈ K) := decide_eq_decide.2 h2.mem_iff
  show Ending.returned (.tuple #[.int .i64 ((cntC (S.erase k) k.1 : Nat) : Int), .bool (decide (k ∈ S)), .int .i64 0]) = _
  rw [e3, e4]
theorem OQ.join {w0 w6 W : World} {g n cp base : Nat} {L : List Sv} {p bp q bq : Nat} {K : List Key} (h : OQ w0 w6 W g n cp base L p bp q bq K) (k : Key) (hk : (0 ≤ k.1 ∧ k.1 < 8) ∧ k.2.1.length ≤ 64) (hn : k ∉ K) (hc : cntC K k.1 < 64) (hK : K.length < 1000) :
    Calls Try.prog 10 #[.pointer (some ⟨q, 0, none⟩), .int .i64 k.1, .string (bs k.2.1), .bool k.2.2] W fun e w' => e = .returned (.tuple #[.int .i64 (cntC K k.1 + 1 : Nat), .bool true, .int .i64 0]) ∧ Hid (OQ w0 w6 w' g n cp base L p bp q bq (k :: K) ∧ KeptB bq W w') := by
  obtain ⟨D, S, h1, h2⟩ := h.qq
  have hl := h2.length_eq
  have hj := join_any W q bq D S k.1 k.2.1 k.2.2 h1 hk.1 (by omega) (by omega)
  have e3 : cntC S k.1 = cntC K k.1 := cntC_perm h2 _
  have hr : joinR S (k.1, k.2.1, k.2.2) = (k :: S, cntC K k.1 + 1, true, 0) := by
    show joinR S k = _
    unfold joinR
    rw [if_neg (fun hm => hn (h2.mem_iff.1 hm)), e3, if_neg (by omega)]
  rw [hr] at hj
  refine hj.mono (fun e w' ⟨e1, e2⟩ => ?_)
  obtain ⟨D', h3, h4⟩ := unhide e2
  exact ⟨e1, hide ⟨h.keep h4 ⟨D', _, h3, h2.cons k⟩ (by simp; omega), h4⟩⟩
theorem OQ.drop {w0 w6 W : World} {g n cp base : Nat} {L : List Sv} {p bp q bq : Nat} {K : List Key} (h : OQ w0 w6 W g n cp base L p bp q bq K) (c : Int) :
    Calls Try.prog 24 #[.pointer (some ⟨q, 0, none⟩), .int .i64 c] W fun e w' => e = .returned (.tuple #[]) ∧ Hid (OQ w0 w6 w' g n cp base L p bp q bq (restC K c) ∧ KeptB bq W w') := by
  obtain ⟨D, S, h1, h2⟩ := h.qq
  have hl := h2.length_eq
  have hf := h.few
  refine (drop_any W q bq D S c h1 (by omega)).mono (fun e w' ⟨e1, e2⟩ => ?_)
  obtain ⟨D', S', h3, h4, h5⟩ := unhide e2
  exact ⟨e1, hide ⟨h.keep h5 ⟨D', S', h3, h4.trans (h2.filter _)⟩ (Nat.le_trans (List.length_filter_le _ _) hf), h5⟩⟩
theorem OQ.count {w0 w6 W : World} {g n cp base : Nat} {L : List Sv} {p bp q bq : Nat} {K : List Key} (h : OQ w0 w6 W g n cp base L p bp q bq K) (c : Int) :
    Calls Try.prog 13 #[.pointer (some ⟨q, 0, none⟩), .int .i64 c] W fun e w' => e = .returned (.int .i64 (cntC K c : Nat)) ∧ Hid (Below W.heap.size W w') := by
  obtain ⟨D, S, h1, h2⟩ := h.qq
  have hl := h2.length_eq
  have hf := h.few
  have := count_any W q bq D S c h1 (by omega)
  rwa [cntC_perm h2] at this
theorem rest_cnt (K : List Key) (c : Int) : cntC (restC K c) c = 0 := by
  unfold cntC restC
  rw [List.filter_filter, List.length_eq_zero_iff, List.filter_eq_nil_iff]
  intro k _
  simp
theorem rest_names (K : List Key) (c : Int) (b : Bool) : namesL (restC K c) c b = [] := by
  refine List.eq_nil_iff_forall_not_mem.2 (fun T hT => ?_)
  obtain ⟨k, hk, hp, -⟩ := (mem_textsL _ _ _).1 hT
  have h1 := (List.mem_filter.1 hk).2
  simp at h1 hp
  exact h1 hp.1
theorem OQ.names {w0 w6 W : World} {g n cp base : Nat} {L : List Sv} {p bp q bq : Nat} {K : List Key} {c : Int} (h : OQ w0 w6 W g n cp base L p bp q bq (restC K c)) (b : Bool) (hk : ∀ k ∈ K, k.2.1.length ≤ 64) :
    Calls Try.prog 25 #[.pointer (some ⟨q, 0, none⟩), .int .i64 c, .bool b] W fun e w' => ∃ (a : Option Addr) (cap : Nat), e = .returned (.slice a 0 cap) ∧ Hid (Below W.heap.size W w') := by
  obtain ⟨D, S, h1, h2⟩ := h.qq
  have hl := h2.length_eq
  have hf := h.few
  refine (names_any W q bq D S c b h1 (by omega) (fun k hm => by have := hk k (List.mem_filter.1 (h2.mem_iff.1 hm)).1; omega)).mono (fun e w' ⟨a, m, cap, e1, e2⟩ => ?_)
  obtain ⟨h3, h4, h5⟩ := unhide e2
  rw [namesL_perm h2 c b, rest_names] at h5
  obtain rfl : m = 0 := h5
  exact ⟨a, cap, e1, hide h4⟩
theorem OQ.alike {w0 w6 W : World} {g n cp base : Nat} {L : List Sv} {p bp q bq : Nat} {K : List Key} (h : OQ w0 w6 W g n cp base L p bp q bq K) (hK : K.Perm (L.map (·.1))) (C : List UInt8) (hC : C.length ≤ 140737488355328) :
    Calls Try.prog 23 #[.pointer (some ⟨p, 0, none⟩), .pointer (some ⟨q, 0, none⟩), .slice (some ⟨g, 0, none⟩) n cp, .string (bs C)] W fun e w' => e = .returned (.bool true) ∧ Hid (Below W.heap.size W w') := by
  obtain ⟨G, hG⟩ := glob_is
  obtain ⟨D, S, h1, h2⟩ := h.qq
  have hl := h.l
  exact alike_own G hG w0 W base p q bp bq _ L _ _ C hl.la hl.unl (by have := hl.len; have := hl.few; omega) hl.pp ⟨D, h1⟩ (List.reverse_perm _) (h2.trans hK) hC
/-- and the seat x beside them -/
structure OX (w0 w6 W : World) (g n cp base : Nat) (L : List Sv) (p bp q bq : Nat) (K : List Key) (X : Nat) (x : Sv) : Prop where
  oq : OQ w0 w6 W g n cp base L p bp q bq K
  xc : W.heap[X]? = some (.cells #[.int .i64 x.1.1, .slice x.2.1 x.1.2.1.length x.2.2, .bool x.1.2.2] 40 (0, 0))
  ne : X ≠ bq
  inl : ∃ k : Nat, L[k]? = some x
theorem OX.keep {w0 w6 W W' : World} {g n cp base : Nat} {L : List Sv} {p bp q bq : Nat} {K K' : List Key} {X : Nat} {x : Sv} (h : OX w0 w6 W g n cp base L p bp q bq K X x) (k : KeptB bq W W') (h' : OQ w0 w6 W' g n cp base L p bp q bq K') : OX w0 w6 W' g n cp base L p bp q bq K' X x :=
  ⟨h', (k.blk X (blk_lt h.xc) h.ne).trans h.xc, h.ne, h.inl⟩
theorem OX.below {w0 w6 W W' : World} {g n cp base : Nat} {L : List Sv} {p bp q bq : Nat} {K : List Key} {X : Nat} {x : Sv} (h : OX w0 w6 W g n cp base L p bp q bq K X x) (hb : Below W.heap.size W W') : OX w0 w6 W' g n cp base L p bp q bq K X x :=
  ⟨h.oq.below hb, (hb.block X (blk_lt h.xc)).trans h.xc, h.ne, h.inl⟩
theorem OX.x {w0 w6 W : World} {g n cp base : Nat} {L : List Sv} {p bp q bq : Nat} {K : List Key} {X : Nat} {x : Sv} (h : OX w0 w6 W g n cp base L p bp q bq K X x) : W.cell? ⟨X, 0, none⟩ = some (.int .i64 x.1.1) ∧ W.cell? ⟨X, 1, none⟩ = some (.slice x.2.1 x.1.2.1.length x.2.2) ∧ W.cell? ⟨X, 2, none⟩ = some (.bool x.1.2.2) ∧ (convert 23 9 (.slice x.2.1 x.1.2.1.length x.2.2)).run Try.prog W = .ok (.string (bs x.1.2.1)) W := by
  obtain ⟨k, hk⟩ := h.inl
  exact ⟨cell_blk h.xc 0, cell_blk h.xc 1, cell_blk h.xc 2, h.oq.l.conv hk⟩
theorem OX.leave {w0 w6 W : World} {g n cp base : Nat} {L : List Sv} {p bp q bq : Nat} {K : List Key} {X : Nat} {x : Sv} (h : OX w0 w6 W g n cp base L p bp q bq K X x) :
    Calls Try.prog 15 #[.pointer (some ⟨q, 0, none⟩), .int .i64 x.1.1, .string (bs x.1.2.1), .bool x.1.2.2] W fun e w' => e = .returned (.tuple #[.int .i64 (cntC (K.erase x.1) x.1.1 : Nat), .bool (decide (x.1 ∈ K)), .int .i64 0]) ∧ Hid (OX w0 w6 w' g n cp base L p bp q bq (K.erase x.1) X x) := by
  obtain ⟨k, hk⟩ := h.inl
  refine (h.oq.leave x.1 (h.oq.ol.unl.ok x (List.mem_of_getElem? hk))).mono (fun e w' ⟨e1, e2⟩ => ⟨e1, hide ?_⟩)
  exact h.keep (unhide e2).2 (unhide e2).1
theorem OX.join {w0 w6 W : World} {g n cp base : Nat} {L : List Sv} {p bp q bq : Nat} {K : List Key} {X : Nat} {x : Sv} (h : OX w0 w6 W g n cp base L p bp q bq K X x) (hn : x.1 ∉ K) (hc : cntC K x.1.1 < 64) (hK : K.length < 1000) :
    Calls Try.prog 10 #[.pointer (some ⟨q, 0, none⟩), .int .i64 x.1.1, .string (bs x.1.2.1), .bool x.1.2.2] W fun e w' => e = .returned (.tuple #[.int .i64 (cntC K x.1.1 + 1 : Nat), .bool true, .int .i64 0]) ∧ Hid (OX w0 w6 w' g n cp base L p bp q bq (x.1 :: K) X x) := by
  obtain ⟨k, hk⟩ := h.inl
  refine (h.oq.join x.1 (h.oq.ol.unl.ok x (List.mem_of_getElem? hk)) hn hc hK).mono (fun e w' ⟨e1, e2⟩ => ⟨e1, hide ?_⟩)
  exact h.keep (unhide e2).2 (unhide e2).1
theorem OQ.perm {w0 w6 W : World} {g n cp base : Nat} {L : List Sv} {p bp q bq : Nat} {K K' : List Key} (h : OQ w0 w6 W g n cp base L p bp q bq K) (hp : K.Perm K') : OQ w0 w6 W g n cp base L p bp q bq K' := by
  obtain ⟨D, S, h1, h2⟩ := h.qq
  exact ⟨h.ol, h.bel, h.hb, ⟨D, S, h1, h2.trans hp⟩, by rw [← hp.length_eq]; exact h.few⟩
/-- x is laid -/
theorem OQ.lay {w0 w6 W : World} {g n cp base : Nat} {L : List Sv} {p bp q bq : Nat} {K : List Key} (h : OQ w0 w6 W g n cp base L p bp q bq K) {k : Nat} {x : Sv} (hx : L[k]? = some x) : OX w0 w6 (W.alloc (.cells #[.int .i64 x.1.1, .slice x.2.1 x.1.2.1.length x.2.2, .bool x.1.2.2] 40)) g n cp base L p bp q bq K W.heap.size x := by
  obtain ⟨D, S, h1, h2⟩ := h.qq
  exact ⟨h.below ((Below.refl _ _).alloc (Nat.le_refl _) _), heap_alloc_new _ _, by have := h1.lt.2; omega, ⟨k, hx⟩⟩
/-- joined again, one by one -/
def backK (K : List Key) (c : Int) (i : Nat) : List Key := restC K c ++ (K.take i).filter (fun k => decide (k.1 = c))
theorem backK_zero (K : List Key) (c : Int) : backK K c 0 = restC K c := by simp [backK]
theorem backK_all (K : List Key) (c : Int) (n : Nat) (hn : K.length ≤ n) : (backK K c n).Perm K := by
  unfold backK restC
  rw [List.take_of_length_le hn]
  exact List.perm_append_comm.trans (List.filter_append_perm _ _)
theorem backK_skip (K : List Key) (c : Int) (i : Nat) (k : Key) (hk : K[i]? = some k) (hc : k.1 ≠ c) : backK K c (i + 1) = backK K c i := by
  unfold backK
  rw [List.take_add_one, hk]
  simp [hc]
theorem backK_next (K : List Key) (c : Int) (i : Nat) (k : Key) (hk : K[i]? = some k) (hc : k.1 = c) : (k :: backK K c i).Perm (backK K c (i + 1)) := by
  unfold backK
  rw [List.take_add_one, hk, List.filter_append]
  simp [hc]
  rw [← List.append_assoc]
  exact List.perm_append_comm (l₁ := [k])
theorem backK_new (K : List Key) (c : Int) (i : Nat) (k : Key) (hn : K.Nodup) (hk : K[i]? = some k) (hc : k.1 = c) : k ∉ backK K c i := by
  intro hm
  rcases List.mem_append.1 hm with h | h
  · have := (List.mem_filter.1 h).2
    simp [hc] at this
  · have h1 : (K.take (i + 1)).Nodup := hn.sublist (List.take_sublist _ _)
    rw [List.take_add_one, hk, List.nodup_append] at h1
    exact h1.2.2 k (List.mem_filter.1 h).1 k (by simp) rfl
theorem backK_cnt (K : List Key) (c : Int) (i : Nat) (k : Key) (hk : K[i]? = some k) (hc : k.1 = c) (h64 : cntC K c ≤ 64) : cntC (backK K c i) c < 64 := by
  have h1 : cntC (backK K c i) c = cntC (K.take i) c := by
    unfold backK
    have := rest_cnt K c
    unfold cntC at *
    rw [List.filter_append, List.length_append, this, List.filter_filter]
    simp
  have h2 : cntC (K.take (i + 1)) c ≤ cntC K c := ((List.take_sublist _ _).filter _).length_le
  rw [List.take_add_one, hk] at h2
  have h3 := cntC_snoc (K.take i) k c
  rw [if_pos hc] at h3
  change cntC (K.take i ++ [k]) c ≤ _ at h2
  omega
theorem backK_len (K : List Key) (c : Int) (i : Nat) (hi : i < K.length) (k : Key) (hk : K[i]? = some k) (hc : k.1 = c) : (backK K c i).length < K.length := by
  have h1 := (backK_next K c i k hk hc).length_eq
  have h2 : (backK K c (i + 1)).length ≤ (backK K c K.length).length := by
    unfold backK
    rw [List.length_append, List.length_append]
    have : ((K.take (i + 1)).filter (fun k => decide (k.1 = c))).length ≤ ((K.take K.length).filter (fun k => decide (k.1 = c))).length := by
      rw [List.take_length]
      exact ((List.take_sublist _ _).filter _).length_le
    omega
  have h3 := (backK_all K c K.length (Nat.le_refl _)).length_eq
  simp only [List.length_cons] at h1
  omega
end Go.Proofs.Ytjmnddcombepaaa
