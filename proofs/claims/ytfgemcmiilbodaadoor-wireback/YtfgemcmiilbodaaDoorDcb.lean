/- Decode: texts of any bytes. -/
import Derived.Test.YtfgemcmiilbodaaDoorDci
import Derived.Test.YtfgemcmiilbodaaDoorCln
import Derived.Laws.ResultCell
namespace Go.Proofs.YtfgemcmiilbodaaDoor
open Go.ChangeShapes Go.WideShapes Go.ChangeAt Go.RowKit
set_option linter.unusedVariables false
set_option linter.unusedSimpArgs false
set_option maxRecDepth 20000
set_option maxHeartbeats 4000000

theorem results_box {P : Program} {fn : Func} {p q : Tmp} {ty : TypeId} (h : fn.results = #[.cell p ty, .tmp q]) (tmps : Array Value) (w : World) (g : Nat) (t : TypeId) (cs : Array Value) (fr : Nat × Nat) (d : TypeDesc)
    (hp : tmps.getD p undef = .pointer (some ⟨g, 0, none⟩)) (hg : w.heap[g]? = some (.cells cs t fr))
    (hu : P.underlying ty = some d) (hd : (match d with | .struct _ | .array _ _ => true | _ => false) = true) (hi : (P.info? ty).map (·.size) = some cs.size) (v : Value) (hv : tmps.getD q undef = v) :
    (results fn tmps).run P w = .ok (.tuple #[.agg cs, v]) w := by
  have hp' : tmps[p]?.getD undef = .pointer (some ⟨g, 0, none⟩) := by simpa using hp
  have hv' : tmps[q]?.getD undef = v := by simpa using hv
  simp [results, h, hp', hv', asAddr, run_loadVar_row w g t ty cs fr d hg hu hd hi]
/-- four cells of a reply are stored -/
theorem store4 {W : World} {g : Nat} {C : Array Value} (h : W.heap[g]? = some (.cells C 27 (0, 0))) (hC : C.size = 4) (v0 v1 v2 v3 : Value) : ((((W.setCell ⟨g, 0, none⟩ v0).setCell ⟨g, 1, none⟩ v1).setCell ⟨g, 2, none⟩ v2).setCell ⟨g, 3, none⟩ v3).heap[g]? = some (.cells #[v0, v1, v2, v3] 27 (0, 0)) := by
  have e1 := Bk.setCell_block W g 0 v0 _ _ _ h
  have e2 := Bk.setCell_block _ g 1 v1 _ _ _ e1
  have e3 := Bk.setCell_block _ g 2 v2 _ _ _ e2
  have e4 := Bk.setCell_block _ g 3 v3 _ _ _ e3
  rw [e4]
  match C, hC with
  | ⟨[c0, c1, c2, c3]⟩, _ => rfl
def BlkEnd (w : World) (pd : Nat) (P : Larder8.St (Option (List Nat))) (e : Ending) (w' : World) : Prop := ∃ (k : Int) (ta : Option Addr) (tn tc : Nat), e = .returned (.tuple #[.agg #[.int .i64 k, .int .i64 0, .slice ta tn tc, .slice none 0 0], .int .i64 P.err]) ∧ Hid (DcK pd w w' ∧ ∀ o r, P = .ok o r → ((o = none → k = 5 ∧ ta = none ∧ tn = 0 ∧ tc = 0) ∧ (∀ t, o = some t → k = 4 ∧ OwnB w' w.heap.size (.slice ta tn tc) t)) ∧ ∃ a' n' cp', DcAt w' pd a' n' cp' r)
/-- the box of the answer -/
structure Bx (w W : World) (pd : Nat) : Prop where
  lt : pd < w.heap.size
  k : DcK pd w W
  box : W.heap[w.heap.size]? = some (.cells #[.int .i64 0, .int .i64 0, .slice none 0 0, .slice none 0 0] 27 (0, 0))
theorem Bx.cell {w W : World} {pd : Nat} (h : Bx w W pd) (j : Nat) (v : Value) (hv : (#[.int .i64 0, .int .i64 0, .slice none 0 0, .slice none 0 0] : Array Value)[j]? = some v) : W.cell? ⟨w.heap.size, j, none⟩ = some v := by rw [cell_of_row _ _ _ _ _ _ h.box]; exact hv
theorem Bx.froz {w W : World} {pd : Nat} (h : Bx w W pd) (j : Nat) : W.frozen? ⟨w.heap.size, j, none⟩ = false := by simp only [World.frozen?, h.box]; simp
theorem Bx.next {w W W' : World} {pd : Nat} (h : Bx w W pd) (k : DcK pd W W') : Bx w W' pd := ⟨h.lt, h.k.trans k, (k.blk _ (block_lt h.box) (by have := h.lt; omega)).trans h.box⟩
/-- what the answer's stores leave -/
theorem DcK.boxed {w W : World} {pd : Nat} (h : Bx w W pd) (v0 v1 v2 v3 : Value) : DcK pd w ((((W.setCell ⟨w.heap.size, 0, none⟩ v0).setCell ⟨w.heap.size, 1, none⟩ v1).setCell ⟨w.heap.size, 2, none⟩ v2).setCell ⟨w.heap.size, 3, none⟩ v3) := by
  refine ⟨h.k.os, h.k.tape, h.k.output, by simpa using h.k.size, fun k hk hn => ?_⟩
  rw [Bk.setCell_else _ _ _ _ _ (by omega), Bk.setCell_else _ _ _ _ _ (by omega), Bk.setCell_else _ _ _ _ _ (by omega), Bk.setCell_else _ _ _ _ _ (by omega)]
  exact h.k.blk k hk hn
theorem DcAt.boxed {W : World} {pd g : Nat} {a : Option Addr} {n cp : Nat} {T : List Nat} (h : DcAt W pd a n cp T) (hg : g ≠ pd) (hb : ∀ b off, a = some ⟨b, off, none⟩ → 0 < n → b ≠ g) (v0 v1 v2 v3 : Value) : DcAt ((((W.setCell ⟨g, 0, none⟩ v0).setCell ⟨g, 1, none⟩ v1).setCell ⟨g, 2, none⟩ v2).setCell ⟨g, 3, none⟩ v3) pd a n cp T := by
  have hbl : ∀ k, k ≠ g → ((((W.setCell ⟨g, 0, none⟩ v0).setCell ⟨g, 1, none⟩ v1).setCell ⟨g, 2, none⟩ v2).setCell ⟨g, 3, none⟩ v3).heap[k]? = W.heap[k]? := fun k hk => by
    rw [Bk.setCell_else _ _ _ _ _ hk, Bk.setCell_else _ _ _ _ _ hk, Bk.setCell_else _ _ _ _ _ hk, Bk.setCell_else _ _ _ _ _ hk]
  refine ⟨(hbl pd (fun e => hg e.symm)).trans h.box, ⟨?_, h.rst.len, h.rst.le, h.rst.top⟩, h.ap, h.sm, h.so⟩
  rcases h.rst.bytes with e | ⟨b, off, e, h1, h2⟩
  · exact .inl e
  · rcases Nat.eq_zero_or_pos n with q | q
    · exact .inl (List.eq_nil_of_length_eq_zero (by have := h.rst.len; omega))
    · refine .inr ⟨b, off, e, by simpa using h1, fun i hi => ?_⟩
      rw [← h2 i hi]
      unfold World.cell?
      rw [hbl b (hb b off e q)]
theorem DcAt.below {w W : World} {pd : Nat} {a : Option Addr} {n cp : Nat} {T : List Nat} (h : DcAt w pd a n cp T) (hb : Below w.heap.size w W) : DcAt W pd a n cp T := ⟨(hb.block pd (block_lt h.box)).trans h.box, h.rst.below hb, h.ap, h.sm, h.so⟩
theorem Bx.new (w : World) (pd : Nat) (h : pd < w.heap.size) : Bx w (w.alloc (.cells #[.int .i64 0, .int .i64 0, .slice none 0 0, .slice none 0 0] 27)) pd := ⟨h, DcK.below ((Below.refl _ _).alloc (Nat.le_refl _) _), heap_alloc_new _ _⟩
/-- the rest does not lie in the box: its cells are bytes -/
theorem Bx.apart {w W : World} {pd : Nat} {a : Option Addr} {n cp : Nat} {T : List Nat} (h : Bx w W pd) (d : DcAt W pd a n cp T) : ∀ b off, a = some ⟨b, off, none⟩ → 0 < n → b ≠ w.heap.size := by
  intro b off ha h0 hb
  obtain ⟨b', off', e, h1, h2⟩ := d.rst.at h0
  rw [ha] at e
  cases e
  have := h2 0 h0
  subst hb
  rw [cell_of_row _ _ _ _ _ _ h.box] at this
  rcases (show off + 0 = 0 ∨ off + 0 = 1 ∨ off + 0 = 2 ∨ off + 0 = 3 ∨ 4 ≤ off + 0 by omega) with q | q | q | q | q
  · rw [q] at this; simp at this
  · rw [q] at this; simp at this
  · rw [q] at this; simp at this
  · rw [q] at this; simp at this
  · rw [Array.getElem?_eq_none (by simpa using q)] at this; cases this
theorem DcAt.cell0 {W : World} {pd : Nat} {a : Option Addr} {n cp : Nat} {T : List Nat} (h : DcAt W pd a n cp T) : W.cell? ⟨pd, 0, none⟩ = some (.slice a n cp) := by rw [cell_of_row _ _ _ _ _ _ h.box]; rfl
theorem DcAt.froz0 {W : World} {pd : Nat} {a : Option Addr} {n cp : Nat} {T : List Nat} (h : DcAt W pd a n cp T) : W.frozen? ⟨pd, 0, none⟩ = false := by simp only [World.frozen?, h.box]; simp
theorem OwnB.dck {w w' : World} {pd base : Nat} {v : Value} {l : List Nat} (h : OwnB w base v l) (k : DcK pd w w') (hp : pd < base) : OwnB w' base v l := by
  refine ⟨h.1, ?_⟩
  rcases h.2 with hn | ⟨g', cap, cur, rfl, hbb, hg', rest⟩
  · exact .inl hn
  · exact .inr ⟨g', cap, cur, rfl, hbb, (k.blk g' (block_lt hg') (by omega)).trans hg', rest⟩
end Go.Proofs.YtfgemcmiilbodaaDoor
namespace Larder8
theorem numP_in {lo hi : Int} {b : List Nat} {v : Int} {r : List Nat} (h : numP lo hi b = .ok v r) : lo ≤ v ∧ v ≤ hi := by
  unfold numP at h
  split at h
  · split at h <;> cases h
  · split at h
    · cases h
    · rename_i m hm
      unfold numV at hm
      split at hm
      · rename_i hc
        cases hm
        revert h
        cases endP (b.drop _) with
        | ok u r' => intro h; cases h; exact hc.2
        | short => intro h; cases h
        | wrong => intro h; cases h
      · cases hm
end Larder8
