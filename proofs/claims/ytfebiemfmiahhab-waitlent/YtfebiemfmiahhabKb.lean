/- Those who wait, in plain words and in memory. -/
import Derived.Test.YtfebiemfmiahhabKa
namespace Go.Proofs.Ytfebiemfmiahhab
open Go.ChangeShapes Go.WideShapes Go.ChangeAt Go.RowKit Go.Maps
set_option linter.unusedVariables false
set_option linter.unusedSimpArgs false
set_option maxRecDepth 20000
set_option maxHeartbeats 4000000
/-- one who waits -/
structure Wt where
  conn : Nat
  kind : Int
  places : List Pl
  till : Nat
/-- a place that may be -/
def PGood (p : Pl) : Prop := (0 ≤ p.1 ∧ p.1 < 4) ∧ p.2.length ≤ 4096
theorem PGood.ok {p : Pl} (h : PGood p) : POk p := by
  obtain ⟨⟨h1, h2⟩, h3⟩ := h
  have : -9223372036854775808 ≤ p.1 ∧ p.1 ≤ 9223372036854775807 := by omega
  exact ⟨WalkArith.wf_i64 this, by unfold maxLen; omega⟩
structure WOk (x : Wt) : Prop where
  conn : x.conn < 8
  kind : x.kind = 2 ∨ x.kind = 5
  many : 1 ≤ x.places.length ∧ x.places.length ≤ 64
  places : ∀ p ∈ x.places, PGood p
  till : x.till ≤ 4503599627370496
/-- with his turn, and where his places lie -/
structure En where
  x : Wt
  turn : Nat
  g : Nat
def enV (e : En) : Value := .agg #[.int .i64 (e.x.conn : Nat), .int .u64 (e.turn : Nat), .int .i64 e.x.kind, .slice (some ⟨e.g, 0, none⟩) e.x.places.length e.x.places.length, .int .u64 (e.x.till : Nat)]
def en0 : Value := .agg #[.int .i64 0, .int .u64 0, .int .i64 0, .slice none 0 0, .int .u64 0]
def plC (p : Pl) : List Value := [.int .i64 p.1, .string (bs p.2)]
/-- places in memory -/
def PlsAt (W : World) (a : Option Addr) (l : List Pl) : Prop := l = [] ∨ ∃ b off, a = some ⟨b, off, none⟩ ∧ b < W.heap.size ∧ ∀ (i : Nat) (x : Pl), l[i]? = some x → W.cell? ⟨b, off + i * 2, none⟩ = some (.int .i64 x.1) ∧ W.cell? ⟨b, off + i * 2 + 1, none⟩ = some (.string (bs x.2))
theorem PlsAt.below {W W' : World} {a : Option Addr} {l : List Pl} (h : PlsAt W a l) (hb : Below W.heap.size W W') : PlsAt W' a l := by
  rcases h with h | ⟨b, off, e, hlt, hc⟩
  · exact .inl h
  · refine .inr ⟨b, off, e, Nat.lt_of_lt_of_le hlt hb.size, fun i x hx => ?_⟩
    obtain ⟨h0, h1⟩ := hc i x hx
    exact ⟨(hb.cell (p := ⟨b, off + i * 2, none⟩) hlt).trans h0, (hb.cell (p := ⟨b, off + i * 2 + 1, none⟩) hlt).trans h1⟩
/-- a row of places that fills its block -/
def RowP (W : World) (g : Nat) (l : List Pl) : Prop := W.heap[g]? = some (.cells (l.flatMap plC).toArray 46 (0, 0))
theorem flatP_get (l : List Pl) (i : Nat) (x : Pl) (hi : l[i]? = some x) (j : Nat) (hj : j < 2) : (l.flatMap plC)[i * 2 + j]? = (plC x)[j]? := by
  induction l generalizing i with
  | nil => simp at hi
  | cons y r ih =>
    rw [List.flatMap_cons]
    cases i with
    | zero =>
      simp at hi
      subst hi
      rw [List.getElem?_append_left (by simp [plC]; omega)]
      simp
    | succ i =>
      rw [List.getElem?_append_right (by simp [plC]; omega)]
      have : (i + 1) * 2 + j - (plC y).length = i * 2 + j := by simp [plC]; omega
      rw [this]
      exact ih i (by simpa using hi)
theorem flatP_len (l : List Pl) : (l.flatMap plC).length = l.length * 2 := by
  induction l with
  | nil => rfl
  | cons y r ih => rw [List.flatMap_cons, List.length_append, ih]; simp [plC]; omega
theorem RowP.at {W : World} {g : Nat} {l : List Pl} (h : RowP W g l) : PlsAt W (some ⟨g, 0, none⟩) l := by
  refine .inr ⟨g, 0, rfl, blk_lt h, fun i x hx => ?_⟩
  have h0 := flatP_get l i x hx 0 (by omega)
  have h1 := flatP_get l i x hx 1 (by omega)
  constructor
  · rw [cell_blk h, List.getElem?_toArray, Nat.zero_add]
    simpa [plC] using h0
  · rw [cell_blk h, List.getElem?_toArray, Nat.zero_add]
    simpa [plC] using h1
/-- a line in memory: a row of numbers that begins its block -/
structure LineAt (w : World) (v : Value) (g : Nat) (l : List Nat) : Prop where
  ex : ∃ (cap : Nat) (cur : Array Value), v = .slice (some ⟨g, 0, none⟩) l.length cap ∧ w.heap[g]? = some (.cells cur 3 (0, 0)) ∧ l.length ≤ cap ∧ cur.size = cap ∧ cap ≤ maxLen ∧ ∀ (i c : Nat), l[i]? = some c → cur[i]? = some (Value.int .i64 (c : Nat))
theorem LineAt.same {w w' : World} {v : Value} {g : Nat} {l : List Nat} (h : LineAt w v g l) (hb : w'.heap[g]? = w.heap[g]?) : LineAt w' v g l := by
  obtain ⟨cap, cur, h1, h2, r⟩ := h.ex
  exact ⟨cap, cur, h1, hb.trans h2, r⟩
theorem LineAt.blk {w : World} {v : Value} {g : Nat} {l : List Nat} (h : LineAt w v g l) : ∃ cur, w.heap[g]? = some (.cells cur 3 (0, 0)) := by
  obtain ⟨cap, cur, h1, h2, r⟩ := h.ex
  exact ⟨cur, h2⟩
/-- the lines in block bl: at each place those who wait there -/
structure Lines (O : Nat → Prop) (w : World) (bl n : Nat) (L : Pl → List Nat) : Prop where
  ex : ∃ G : Pl → Option (Value × Nat), MapV KP w bl n (fun p => (G p).map (·.1)) ∧ (∀ p, POk p → (L p = [] → G p = none) ∧ (L p ≠ [] → ∃ v g, G p = some (v, g) ∧ O g ∧ LineAt w v g (L p))) ∧ ∀ p q v v' g, POk p → POk q → G p = some (v, g) → G q = some (v', g) → p = q
/-- who of those waits at a place -/
def conns (E : List En) (p : Pl) : List Nat := (E.filter (fun e => decide (p ∈ e.x.places))).map (·.x.conn)
def lookE (E : List En) (c : Int) : Option En := E.find? (fun e => decide ((e.x.conn : Int) = c))
/-- a Wait in memory -/
structure WAt (O : Nat → Prop) (w : World) (p bw bl T : Nat) (E : List En) : Prop where
  cell : w.heap[p]? = some (.cells #[.int .u64 (T : Nat), .map (some bw), .map (some bl)] 66 (0, 0))
  mw : MapV KI w bw T (fun c => (lookE E c).map enV)
  ln : Lines O w bl (64 * T) (conns E)
  rows : ∀ e ∈ E, RowP w e.g e.x.places
  op : O p
  ow : O bw
  ol : O bl
  oe : ∀ e ∈ E, O e.g
  lt : ∀ b, O b → b < w.heap.size
  ne : bw ≠ bl
  nd : (E.map (·.x.conn)).Nodup
  ok : ∀ e ∈ E, WOk e.x
  le : ∀ e ∈ E, e.turn ≤ T
  inc : E.Pairwise (fun a b => a.turn < b.turn)
  few : T ≤ 1099511627776
theorem WAt.c0 {O : Nat → Prop} {w : World} {p bw bl T : Nat} {E : List En} (h : WAt O w p bw bl T E) : w.cell? ⟨p, 0, none⟩ = some (.int .u64 (T : Nat)) ∧ w.cell? ⟨p, 1, none⟩ = some (.map (some bw)) ∧ w.cell? ⟨p, 2, none⟩ = some (.map (some bl)) := ⟨cell_blk h.cell 0, cell_blk h.cell 1, cell_blk h.cell 2⟩
theorem Lines.same {O O' : Nat → Prop} {w w' : World} {bl n : Nat} {L : Pl → List Nat} (h : Lines O w bl n L) (hb : w'.heap[bl]? = w.heap[bl]?) (hO : ∀ b, O b → w'.heap[b]? = w.heap[b]?) (hs : ∀ b, O b → O' b) : Lines O' w' bl n L := by
  obtain ⟨G, h1, h2, h3⟩ := h.ex
  refine ⟨G, h1.same hb, fun p hp => ⟨(h2 p hp).1, fun hne => ?_⟩, h3⟩
  obtain ⟨v, g, e, og, hl⟩ := (h2 p hp).2 hne
  exact ⟨v, g, e, hs g og, hl.same (hO g og)⟩
/-- all own blocks as they were -/
theorem WAt.same {O O' : Nat → Prop} {w w' : World} {p bw bl T : Nat} {E : List En} (h : WAt O w p bw bl T E) (hO : ∀ b, O b → w'.heap[b]? = w.heap[b]?) (hs : ∀ b, O b → O' b) (hl : ∀ b, O' b → b < w'.heap.size) : WAt O' w' p bw bl T E :=
  ⟨(hO p h.op).trans h.cell, h.mw.same (hO bw h.ow), h.ln.same (hO bl h.ol) hO hs, fun e he => (hO e.g (h.oe e he)).trans (h.rows e he), hs _ h.op, hs _ h.ow, hs _ h.ol, fun e he => hs _ (h.oe e he), hl, h.ne, h.nd, h.ok, h.le, h.inc, h.few⟩
theorem WAt.below {O : Nat → Prop} {w w' : World} {p bw bl T : Nat} {E : List En} (h : WAt O w p bw bl T E) (hb : Below w.heap.size w w') : WAt O w' p bw bl T E :=
  h.same (fun b ob => hb.block b (h.lt b ob)) (fun b ob => ob) (fun b ob => Nat.lt_of_lt_of_le (h.lt b ob) hb.size)
/-- a new Wait -/
def newO (w : World) (b : Nat) : Prop := w.heap.size ≤ b ∧ b < w.heap.size + 3
theorem new_any (w : World) : Calls Try.prog 9 #[] w fun e w' => e = .returned (.pointer (some ⟨w.heap.size + 2, 0, none⟩)) ∧ Hid (WAt (newO w) w' (w.heap.size + 2) w.heap.size (w.heap.size + 1) 0 [] ∧ Below w.heap.size w w' ∧ w'.heap.size = w.heap.size + 3) := by
  have HB := hide ((((Below.refl w.heap.size w).alloc (Nat.le_refl _) (.map #[] 0)).alloc (by simp) (.map #[] 0)).alloc (by simp; omega) (.cells #[.int .u64 0, .map (some w.heap.size), .map (some (w.heap.size + 1))] 66))
  have H1 := hide (MapV.new KI w)
  have H2 := hide (MapV.new KP (w.alloc (.map #[] 0)))
  have H3 := hide (heap_alloc_new ((w.alloc (.map #[] 0)).alloc (.map #[] 0)) (.cells #[.int .u64 0, .map (some w.heap.size), .map (some (w.heap.size + 1))] 66))
  have hmm := @run_makeMap Try.prog
  go_enter Try.func9, Try.ntmps9
  go_wp2
  go_ret
  refine ⟨rfl, hide ⟨?_, unhide HB, by simp⟩⟩
  have h3 := unhide H3
  have s1 : ((w.alloc (.map #[] 0)).alloc (.map #[] 0)).heap.size = w.heap.size + 2 := by simp
  rw [s1] at h3
  have a1 : Below (w.alloc (.map #[] 0)).heap.size (w.alloc (.map #[] 0)) (((w.alloc (.map #[] 0)).alloc (.map #[] 0)).alloc (.cells #[.int .u64 0, .map (some w.heap.size), .map (some (w.heap.size + 1))] 66)) := ((Below.refl _ _).alloc (Nat.le_refl _) _).alloc (by simp) _
  have a2 : Below ((w.alloc (.map #[] 0)).alloc (.map #[] 0)).heap.size ((w.alloc (.map #[] 0)).alloc (.map #[] 0)) (((w.alloc (.map #[] 0)).alloc (.map #[] 0)).alloc (.cells #[.int .u64 0, .map (some w.heap.size), .map (some (w.heap.size + 1))] 66)) := (Below.refl _ _).alloc (Nat.le_refl _) _
  have h2 := unhide H2
  have s2 : (w.alloc (.map #[] 0)).heap.size = w.heap.size + 1 := by simp
  rw [s2] at h2
  exact ⟨h3, (unhide H1).same (a1.block _ (by simp)), ⟨fun _ => none, h2.same (a2.block _ (by simp)), fun p _ => ⟨fun _ => rfl, fun h => absurd rfl h⟩, fun p q v v' g _ _ h => by cases h⟩, by simp, ⟨by omega, by omega⟩, ⟨by omega, by omega⟩, ⟨by omega, by omega⟩, by simp, fun b hb => by simp; unfold newO at hb; omega, by omega, by simp, by simp, by simp, by simp, by omega⟩
theorem zero68 (w : World) : (zeroValue 73).run Try.prog w = .ok en0 w := Try.zeroValue73 w
/-- waits -/
theorem waits_any (O : Nat → Prop) (w : World) (p bw bl T : Nat) (E : List En) (c : Int) (h : WAt O w p bw bl T E) (hc : IOk c) :
    Calls Try.prog 49 #[.pointer (some ⟨p, 0, none⟩), .int .i64 c] w fun e w' => e = .returned (.bool (lookE E c).isSome) ∧ Hid (Below w.heap.size w w') := by
  obtain ⟨-, c1, -⟩ := h.c0
  have hr := h.mw.look_ok (t := 63) (e := 73) Try.underlying63 (zero68 w) (x := c) hc
  change (Instr.lookup 63 (.map (some bw)) (.int .i64 c) true).run Try.prog w = _ at hr
  have hs : ((lookE E c).map enV).isSome = (lookE E c).isSome := by cases lookE E c <;> rfl
  rw [hs] at hr
  obtain ⟨v0, v1, v2, v3, v4, v5, v6, hv⟩ : ∃ (v0 v1 v2 v6 : Int) (v3 : Option Addr) (v4 v5 : Nat), ((lookE E c).map enV).getD en0 = .agg #[.int .i64 v0, .int .u64 v1, .int .i64 v2, .slice v3 v4 v5, .int .u64 v6] := by
    cases lookE E c with
    | none => exact ⟨_, _, _, _, _, _, _, rfl⟩
    | some e => exact ⟨_, _, _, _, _, _, _, rfl⟩
  rw [hv] at hr
  generalize (lookE E c).isSome = r at hr ⊢
  clear hv hs h
  go_enter Try.func49, Try.ntmps49
  go_wp2
  go_ret
  exact ⟨rfl, hide ((Below.refl _ _).alloc (Nat.le_refl _) _)⟩
/-- Until -/
theorem until_any (O : Nat → Prop) (w : World) (p bw bl T : Nat) (E : List En) (c : Int) (h : WAt O w p bw bl T E) (hc : IOk c) :
    Calls Try.prog 34 #[.pointer (some ⟨p, 0, none⟩), .int .i64 c] w fun e w' => e = .returned (.tuple #[.int .u64 (((lookE E c).map (·.x.till)).getD 0 : Nat), .bool (lookE E c).isSome]) ∧ Hid (Below w.heap.size w w') := by
  obtain ⟨-, c1, -⟩ := h.c0
  have hr := h.mw.look_ok (t := 63) (e := 73) Try.underlying63 (zero68 w) (x := c) hc
  change (Instr.lookup 63 (.map (some bw)) (.int .i64 c) true).run Try.prog w = _ at hr
  have hs : ((lookE E c).map enV).isSome = (lookE E c).isSome := by cases lookE E c <;> rfl
  rw [hs] at hr
  obtain ⟨v0, v1, v2, v3, v4, v5, hv⟩ : ∃ (v0 v1 v2 : Int) (v3 : Option Addr) (v4 v5 : Nat), ((lookE E c).map enV).getD en0 = .agg #[.int .i64 v0, .int .u64 v1, .int .i64 v2, .slice v3 v4 v5, .int .u64 (((lookE E c).map (·.x.till)).getD 0 : Nat)] := by
    cases lookE E c with
    | none => exact ⟨_, _, _, _, _, _, rfl⟩
    | some e => exact ⟨_, _, _, _, _, _, rfl⟩
  rw [hv] at hr
  generalize (lookE E c).isSome = r at hr ⊢
  generalize (((lookE E c).map (·.x.till)).getD 0) = tl at hr ⊢
  clear hv hs h
  go_enter Try.func34, Try.ntmps34
  go_wp2
  go_ret2
  exact ⟨rfl, hide ((Below.refl _ _).alloc (Nat.le_refl _) _)⟩
end Go.Proofs.Ytfebiemfmiahhab
