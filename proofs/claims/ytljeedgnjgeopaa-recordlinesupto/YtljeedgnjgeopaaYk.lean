/- record: firstRecord. -/
import Derived.Test.YtljeedgnjgeopaaYj
namespace Go.Proofs.Ytljeedgnjgeopaa
open Go.ChangeShapes Go.WideShapes Go.ChangeAt Go.RowKit
set_option linter.unusedVariables false
set_option linter.unusedSimpArgs false
set_option maxRecDepth 100000
set_option maxHeartbeats 4000000
theorem results_box {P : Program} {fn : Func} {p q : Tmp} {ty : TypeId} (h : fn.results = #[.cell p ty, .tmp q]) (tmps : Array Value) (w : World) (g : Nat) (t : TypeId) (cs : Array Value) (fr : Nat × Nat) (d : TypeDesc)
    (hp : tmps.getD p undef = .pointer (some ⟨g, 0, none⟩)) (hg : w.heap[g]? = some (.cells cs t fr))
    (hu : P.underlying ty = some d) (hd : (match d with | .struct _ | .array _ _ => true | _ => false) = true) (hi : (P.info? ty).map (·.size) = some cs.size) (v : Value) (hv : tmps.getD q undef = v) :
    (results fn tmps).run P w = .ok (.tuple #[.agg cs, v]) w := by
  have hp' : tmps[p]?.getD undef = .pointer (some ⟨g, 0, none⟩) := by simpa using hp
  have hv' : tmps[q]?.getD undef = v := by simpa using hv
  simp [results, h, hp', hv', asAddr, run_loadVar_row w g t ty cs fr d hg hu hd hi]
theorem TL.bl {w : World} {a : Option Addr} {n c : Nat} {xs : List (List Nat)} (h : TL w (.slice a n c) xs) : BL w a xs := by
  obtain ⟨f, h1, h2⟩ := h
  rcases h1 with ⟨e, e0⟩ | ⟨g, cap, cur, e, hg, q1, q2, q3, q4⟩
  · exact .inl (List.length_eq_zero_iff.1 e0)
  · cases e
    refine .inr ⟨g, 0, rfl, blk_lt hg, fun i T hT => ?_⟩
    obtain ⟨ai, ci, z1, z2⟩ := h2 i T hT
    have hi : i < xs.length := (List.getElem?_eq_some_iff.1 hT).1
    refine ⟨ai, ci, ?_, z2.bytes.1⟩
    rw [cell_blk hg, Nat.zero_add, q4 i (by omega), z1]
theorem AL.grp {w : World} {a : Option Addr} {n c : Nat} {xs : List Larder.ActP} (h : AL w (.slice a n c) xs) : GrpAt w a xs := by
  obtain ⟨f, h1, h2⟩ := h
  rcases h1 with ⟨e, e0⟩ | ⟨g, cap, cur, e, hg, q1, q2, q3, q4⟩
  · exact .inl (List.length_eq_zero_iff.1 e0)
  · cases e
    refine .inr ⟨g, 0, rfl, blk_lt hg, fun i x hx => ?_⟩
    obtain ⟨ai, ci, z1, z2, z3⟩ := h2 i x hx
    have hi : i < xs.length := (List.getElem?_eq_some_iff.1 hx).1
    refine ⟨?_, ai, ci, ?_, z3.bl⟩
    · rw [cell_blk hg, Nat.zero_add, q4 (i * 2) (by omega), z1]
    · rw [cell_blk hg, Nat.zero_add, q4 (i * 2 + 1) (by omega), z2]
theorem AL.grpI {w : World} {a : Option Addr} {n c : Nat} {xs : List Larder.ActP} (h : AL w (.slice a n c) xs) : GrpI w a (xs.map fun x => ((x.1 : Int), x.2)) := by
  rcases h.grp with h | ⟨b, off, e, hl, hc⟩
  · exact .inl (by rw [h]; rfl)
  · refine .inr ⟨b, off, e, hl, fun i x hx => ?_⟩
    rw [List.getElem?_map] at hx
    obtain ⟨y, hy, rfl⟩ := Option.map_eq_some_iff.1 hx
    exact hc i y hy
theorem rdE_small {l r : List Nat} {e : Larder.EntP} (h : Larder.rdE l = some (e, r)) (hs : ∀ c ∈ l, c < 256) : ∀ a ∈ e.group, ∀ t ∈ a.2, ∀ c ∈ t, c < 256 := by
  have h2 := Larder.rdE_tk (some l)
  rw [Option.bind_some, h] at h2
  have hS : SmS (Larder.tkS (Larder.tkS (some l) 8) 8) := SmS.tkS (SmS.tkS (s := some l) hs 8) 8
  cases h3 : Larder.tkS (Larder.tkS (some l) 8) 8 with
  | none => rw [h3] at h2; cases h2
  | some r1 =>
    rw [h3] at h2 hS
    rw [Option.bind_some] at h2
    cases h4 : Larder.rdLst Larder.rdA r1 with
    | none => rw [h4] at h2; cases h2
    | some p =>
      rw [h4] at h2
      cases h2
      obtain ⟨z1, -⟩ := Larder.rdLst_mem (Q := fun l (x : Larder.ActP) => ∀ t ∈ x.2, ∀ c ∈ t, c ∈ l) (fun l l' x h h' t ht c hc => h' c (h t ht c hc)) (fun l x r h => Larder.rdA_mem h) (r := p.2) (xs := p.1) h4
      exact fun a ha t ht c hc => hS c (z1 a ha t ht c hc)
abbrev w64i : Int → Int := fun z => IntKind.i64.wrap z
/-- what firstRecord answers -/
def FrEnd (w : World) (b : List Nat) (e : Ending) (w' : World) : Prop :=
  (Larder.fstR w64i b = none ∧ e = .returned (.tuple #[.agg #[.int .i64 0, .int .u64 0, .slice none 0 0], .int .i64 0]) ∧ Hid (Below w.heap.size w w')) ∨
  ∃ (E : Larder.EntP) (ga : Option Addr) (gn gc : Nat), Larder.fstR w64i b = some E ∧ e = .returned (.tuple #[.agg #[.int .i64 (E.seq : Nat), .int .u64 (E.now : Nat), .slice ga gn gc], .int .i64 ((Larder.recE E).length : Nat)]) ∧ gn = E.group.length ∧ Hid (Below w.heap.size w w' ∧ AL w' (.slice ga gn gc) E.group ∧ ∀ q, (Value.slice ga gn gc).ownBlock = some q → w.heap.size ≤ q)
theorem wrap_le (v : Nat) (h : v < 18446744073709551616) (h1 : 1 ≤ IntKind.i64.wrap (v : Int)) : IntKind.i64.wrap (v : Int) = (v : Int) ∧ v < 9223372036854775808 := by
  rw [IntKind.wrap_i64] at h1 ⊢
  omega
theorem box3 {W : World} {A : Nat} {u0 u1 u2 : Value} (v0 v1 v2 : Value) (h : W.heap[A]? = some (.cells #[u0, u1, u2] 41 (0, 0))) : W.cell? ⟨A, 0, none⟩ = some u0 ∧ W.frozen? ⟨A, 0, none⟩ = false ∧ (W.setCell ⟨A, 0, none⟩ v0).cell? ⟨A, 1, none⟩ = some u1 ∧ (W.setCell ⟨A, 0, none⟩ v0).frozen? ⟨A, 1, none⟩ = false ∧ ((W.setCell ⟨A, 0, none⟩ v0).setCell ⟨A, 1, none⟩ v1).cell? ⟨A, 2, none⟩ = some u2 ∧ ((W.setCell ⟨A, 0, none⟩ v0).setCell ⟨A, 1, none⟩ v1).frozen? ⟨A, 2, none⟩ = false ∧ Hid ((((W.setCell ⟨A, 0, none⟩ v0).setCell ⟨A, 1, none⟩ v1).setCell ⟨A, 2, none⟩ v2).heap[A]? = some (.cells #[v0, v1, v2] 41 (0, 0))) := by
  have r0 := set_block W A 0 v0 _ _ _ h
  have r1 := set_block _ A 1 v1 _ _ _ r0
  have r2 := set_block _ A 2 v2 _ _ _ r1
  exact ⟨cell_blk h 0, frz h 0, cell_blk r0 1, frz r0 1, cell_blk r1 2, frz r1 2, hide r2⟩
/-- where firstRecord stands behind its reader -/
structure FrAt (w W : World) : Prop where
  bel : Below w.heap.size w W
  lt : w.heap.size < W.heap.size
  box : W.heap[w.heap.size]? = some (.cells #[.int .i64 0, .int .u64 0, .slice none 0 0] 41 (0, 0))
theorem FrAt.below {w W W' : World} (h : FrAt w W) (hb : Below W.heap.size W W') : FrAt w W' := ⟨h.bel.trans (hb.mono h.bel.size), Nat.lt_of_lt_of_le h.lt hb.size, (hb.block _ h.lt).trans h.box⟩
theorem FrAt.end {w W : World} (h : FrAt w W) (v0 v1 v2 : Value) : Below w.heap.size w (((W.setCell ⟨w.heap.size, 0, none⟩ v0).setCell ⟨w.heap.size, 1, none⟩ v1).setCell ⟨w.heap.size, 2, none⟩ v2) :=
  ⟨h.bel.os, h.bel.tape, h.bel.output, by simpa using h.bel.size, fun k hk => by
    rw [set_else _ _ _ _ _ (by omega), set_else _ _ _ _ _ (by omega), set_else _ _ _ _ _ (by omega)]
    exact h.bel.block k hk⟩
theorem FrAt.kx {w w2 W : World} (h : FrAt w w2) (hk : Kx (w.heap.size + 1) w2 W) : FrAt w W := ⟨⟨hk.os.trans h.bel.os, hk.tape.trans h.bel.tape, hk.output.trans h.bel.output, Nat.le_trans h.bel.size hk.size, fun k hk2 => (hk.blk k (by have := h.lt; omega) (by omega)).trans (h.bel.block k hk2)⟩, Nat.lt_of_lt_of_le h.lt hk.size, (hk.blk _ h.lt (by omega)).trans h.box⟩
theorem start48 (w : World) (a : Option Addr) (n c : Nat) (b : List Nat) (h : Rst w w.heap.size a n c b) (w1 w2 : World) (h1 : w.alloc (.cells #[.int .i64 0, .int .u64 0, .slice none 0 0] 41) = w1) (h2 : w1.alloc (.cells #[.slice a n c, .bool false] 94) = w2) : FrAt w w2 ∧ RdAt w2 (w.heap.size + 1) (some b) ∧ w1.heap.size = w.heap.size + 1 := by
  have hb1 := (Below.refl w.heap.size w).alloc (Nat.le_refl _) (.cells #[.int .i64 0, .int .u64 0, .slice none 0 0] 41)
  have hn1 := heap_alloc_new w (.cells #[.int .i64 0, .int .u64 0, .slice none 0 0] 41)
  rw [h1] at hb1 hn1
  have hs1 : w1.heap.size = w.heap.size + 1 := by rw [← h1]; simp
  have hb2 := (Below.refl w1.heap.size w1).alloc (Nat.le_refl _) (.cells #[.slice a n c, .bool false] 94)
  have hn2 := heap_alloc_new w1 (.cells #[.slice a n c, .bool false] 94)
  rw [h2] at hb2 hn2
  rw [hs1] at hn2
  have hb : Below w.heap.size w w2 := hb1.trans (hb2.mono hb1.size)
  refine ⟨⟨hb, by have := hb2.size; omega, (hb2.block _ (by omega)).trans hn1⟩, ⟨a, n, c, hn2, ?_⟩, hs1⟩
  rcases h.kx (Nat.le_refl _) (.below hb) with h | ⟨b', off, e, q1, q2⟩
  · exact .inl h
  · exact .inr ⟨b', off, e, by omega, q2⟩
theorem first_none (w : World) (a : Option Addr) (n c : Nat) (b : List Nat) (h : Rst w w.heap.size a n c b) (hs : ∀ x ∈ b, x < 256) (hl : b.length ≤ 1099511627776) (hR : (Larder.tkS (some b) 17).bind Larder.rdE = none) :
    Calls Try.prog 48 #[.slice a n c] w (FrEnd w b) := by
  obtain ⟨w1, hw1⟩ : ∃ w1, w.alloc (.cells #[.int .i64 0, .int .u64 0, .slice none 0 0] 41) = w1 := ⟨_, rfl⟩
  obtain ⟨hF, hr, hs1⟩ := start48 w a n c b h w1 _ hw1 rfl
  have HQ : Hid (Larder.fstR w64i b = none) := hide (by unfold Larder.fstR; rw [hR])
  have C57 : Calls Try.prog 57 #[.pointer (some ⟨w.heap.size + 1, 0, none⟩), .int .i64 17] (w1.alloc (.cells #[.slice a n c, .bool false] 94)) (TkEnd (w1.alloc (.cells #[.slice a n c, .bool false] 94)) (w.heap.size + 1) (Larder.tkV (some b) 17) (Larder.tkS (some b) 17)) := take_any (w1.alloc (.cells #[.slice a n c, .bool false] 94)) (w.heap.size + 1) 17 (some b) hr
  have hS := SmS.tkS (s := some b) hs 17
  have hL := rest_len (s := some b) 17 hl
  generalize Larder.tkS (some b) 17 = S at C57 hS hL hR
  generalize Larder.tkV (some b) 17 = V at C57
  unfold TkEnd at C57
  have C58 : Hid (∀ w3, Kx (w.heap.size + 1) (w1.alloc (.cells #[.slice a n c, .bool false] 94)) w3 ∧ RdAt w3 (w.heap.size + 1) S → Calls Try.prog 58 #[.pointer (some ⟨w.heap.size + 1, 0, none⟩)] w3 fun e w4 => ∃ (sq : Int) (nw : Nat) (ga : Option Addr) (gn gc : Nat), e = .returned (.agg #[.int .i64 sq, .int .u64 (nw : Nat), .slice ga gn gc]) ∧ (w4.alloc (.cells #[.int .i64 sq, .int .u64 (nw : Nat), .slice ga gn gc] 41)).cell? ⟨w.heap.size + 1, 1, none⟩ = some (.bool true) ∧ Hid (FrAt w (w4.alloc (.cells #[.int .i64 sq, .int .u64 (nw : Nat), .slice ga gn gc] 41)))) := hide (by
    rintro w3 ⟨z1, z2⟩
    refine (entry_any w3 _ S z2 hS hL).mono ?_
    rw [hR]
    rintro e w4 ⟨sq, nw, ga, gn, gc, rfl, H⟩
    obtain ⟨u1, u2, u3⟩ := unhide H
    have hal := (Below.refl w4.heap.size w4).alloc (Nat.le_refl _) (.cells #[.int .i64 sq, .int .u64 (nw : Nat), .slice ga gn gc] 41)
    rcases u3 with ⟨-, e2⟩ | ⟨v, xs, r, e1, -⟩
    · exact ⟨sq, nw, ga, gn, gc, rfl, (e2.below hal).flag, hide ((hF.kx (z1.trans u1)).below hal)⟩
    · cases e1)
  clear h hs hl hF hr hS hL hR
  unfold FrEnd
  go_enter Try.func48, Try.ntmps48
  go_wp2_with (first
    | (go_at_call 58; refine ((unhide C58) w3 ⟨(unhide k3).1, (unhide k3).2.1⟩).mono ?_; clear C58; rintro e w4 ⟨sq, nw, ga, gn, gc, rfl, y1, k4⟩; obtain ⟨x1, x2, x3, x4, x5, x6, x7⟩ := box3 (.int .i64 0) (.int .u64 0) (.slice none 0 0) (unhide k4).box)
    | (go_at_call 57; refine C57.mono ?_; clear C57; rintro e w3 ⟨a3, n3, c3, rfl, e3, k3⟩; replace e3 := hide e3))
  refine bodyPost_ret (results_box (p := 2) (q := 3) (ty := 41) rfl _ _ w.heap.size 41 _ (0, 0) _ rfl (unhide x7) Try.underlying41 rfl (by kernel_rfl) _ rfl) rfl ?_
  exact .inl ⟨unhide HQ, rfl, hide ((unhide k4).end _ _ _)⟩
end Go.Proofs.Ytljeedgnjgeopaa
