/- The statements' place, same. -/
import Derived.Test.YtfebiemfmiahhaaMe
namespace Go.Proofs.Ytfebiemfmiahhaa
open Go.ChangeShapes Go.WideShapes Go.ChangeAt Go.RowKit Go.Maps
set_option linter.unusedVariables false
set_option linter.unusedSimpArgs false
set_option maxRecDepth 100000
set_option maxHeartbeats 8000000
def firstP (l : List Pl) : Pl := (l[0]?).getD (0, [])
theorem results_box1 {P : Program} {fn : Func} {p : Tmp} {ty : TypeId} (h : fn.results = #[.cell p ty]) (tmps : Array Value) (w : World) (g : Nat) (t : TypeId) (cs : Array Value) (fr : Nat × Nat) (d : TypeDesc)
    (hp : tmps.getD p undef = .pointer (some ⟨g, 0, none⟩)) (hg : w.heap[g]? = some (.cells cs t fr))
    (hu : P.underlying ty = some d) (hd : (match d with | .struct _ | .array _ _ => true | _ => false) = true) (hi : (P.info? ty).map (·.size) = some cs.size) :
    (results fn tmps).run P w = .ok (.agg cs) w := by
  have hp' : tmps[p]?.getD undef = .pointer (some ⟨g, 0, none⟩) := by simpa using hp
  simp [results, h, hp', asAddr, run_loadVar_row w g t ty cs fr d hg hu hd hi]
theorem place_any (w : World) (o : Ol) (n : Nat) (hn : n = o.pl.length) (h : PlsAt w o.a o.pl) :
    Calls Try.prog 49 #[.agg #[.int .i64 o.on, .int .i64 o.act, .int .i64 o.conn, .int .i64 o.kind, .slice o.a n o.cap, .int .u64 (o.time : Nat)]] w fun e w' => e = .returned (.agg #[.int .i64 (firstP o.pl).1, .string (bs (firstP o.pl).2)]) ∧ Hid (Below w.heap.size w w') := by
  obtain ⟨w1, hw1⟩ : ∃ w1, w.alloc (.cells #[.int .i64 o.on, .int .i64 o.act, .int .i64 o.conn, .int .i64 o.kind, .slice o.a n o.cap, .int .u64 (o.time : Nat)] 31) = w1 := ⟨_, rfl⟩
  have hb1 : Below w.heap.size w w1 := by rw [← hw1]; exact (Below.refl _ _).alloc (Nat.le_refl _) _
  have hb2 : Below w1.heap.size w1 (w1.alloc (.cells #[.int .i64 0, .string { data := #[] }] 40)) := (Below.refl _ _).alloc (Nat.le_refl _) _
  have q0 : w1.heap[w.heap.size]? = some (.cells #[.int .i64 o.on, .int .i64 o.act, .int .i64 o.conn, .int .i64 o.kind, .slice o.a n o.cap, .int .u64 (o.time : Nat)] 31 (0, 0)) := by rw [← hw1]; exact heap_alloc_new _ _
  have q1 : (w1.alloc (.cells #[.int .i64 0, .string { data := #[] }] 40)).cell? ⟨w.heap.size, 4, none⟩ = some (.slice o.a n o.cap) := (hb2.cell (p := ⟨w.heap.size, 4, none⟩) (blk_lt q0)).trans (cell_blk q0 4)
  have HB1 := hide hb1
  have HB2 : Hid (∀ x, Below w.heap.size w (w1.alloc (.cells x 40))) := hide fun x => hb1.alloc hb1.size _
  by_cases h0 : o.pl = []
  · have hf : firstP o.pl = (0, []) := by rw [h0]; rfl
    rw [hf]
    obtain rfl : n = 0 := by rw [hn, h0]; rfl
    clear hn h h0 hf hb1 hb2 q0
    go_enter Try.func49, Try.ntmps49
    go_wp2_with fail
    refine bodyPost_ret (results_box1 (p := 2) (ty := 40) rfl _ _ w1.heap.size 40 _ (0, 0) _ rfl (heap_alloc_new _ _) Try.underlying40 rfl (by kernel_rfl)) rfl ?_
    exact ⟨rfl, hide (unhide HB2 _)⟩
  · obtain ⟨x, hx⟩ : ∃ x, o.pl[0]? = some x := ⟨_, List.getElem?_eq_getElem (List.length_pos_iff.2 h0)⟩
    have hf : firstP o.pl = x := by unfold firstP; rw [hx]; rfl
    rw [hf]
    have hpos : 0 < n := by rw [hn]; exact List.length_pos_iff.2 h0
    obtain ⟨b, off, ha, y0, y1⟩ : ∃ b off, o.a = some ⟨b, off, none⟩ ∧ (w1.alloc (.cells #[.int .i64 0, .string { data := #[] }] 40)).cell? ⟨b, off, none⟩ = some (.int .i64 x.1) ∧ (w1.alloc (.cells #[.int .i64 0, .string { data := #[] }] 40)).cell? ⟨b, off + 1, none⟩ = some (.string (bs x.2)) := by
      rcases (h.below hb1).below hb2 with h0 | ⟨pb, po, e, hlt, hc⟩
      · rw [h0] at hx; simp at hx
      · have := hc 0 x hx
        exact ⟨pb, po, e, by simpa using this.1, by simpa using this.2⟩
    rw [ha] at q1 hw1 ⊢
    have e0 : ((n : Int) == 0) = false := by simp; omega
    have g2 : (0 : Int) < (n : Int) := by omega
    clear hn h h0 hf hb1 hx ha hb2 q0
    go_enter Try.func49, Try.ntmps49
    go_wp2_with fail
    refine bodyPost_ret (results_box1 (p := 2) (ty := 40) rfl _ _ w1.heap.size 40 _ (0, 0) _ rfl (heap_alloc_new _ _) Try.underlying40 rfl (by kernel_rfl)) rfl ?_
    exact ⟨rfl, hide (unhide HB2 _)⟩
/-- the same places -/
theorem same_any (W : World) (a a' : Option Addr) (n c c' : Nat) (l : List Pl) (h : PlsAt W a l) (h' : PlsAt W a' l) (hn : n = l.length) (hn2 : n ≤ 1000000) :
    Calls Try.prog 33 #[.slice a n c, .slice a' n c'] W fun e w' => e = .returned (.bool true) ∧ Hid (Below W.heap.size W w') := by
  have HN := hide hn
  clear hn
  go_enter Try.func33, Try.ntmps33
  go_wp2_with fail
  go_loopw [5] (fun iv wr => ∃ i : Nat, iv = .int .i64 ((i : Nat) : Int) ∧ i ≤ n ∧ Hid (Below W.heap.size W wr)) (fun iv _ => n - (intOf iv).toNat)
  case atStart => exact ⟨0, rfl, Nat.zero_le _, hide (Below.refl _ _)⟩
  case round =>
    obtain ⟨i, rfl, hi, HB⟩ := hrel
    by_cases hin : i < n
    · have f1 : decide ((i : Int) < (n : Int)) = true := decide_eq_true (by omega)
      have g1 : (0 : Int) ≤ (i : Int) := by omega
      have g2 : (i : Int) < (n : Int) := by omega
      obtain ⟨x, hx⟩ : ∃ x, l[i]? = some x := ⟨_, List.getElem?_eq_getElem (by have := unhide HN; omega)⟩
      obtain ⟨b, off, rfl, c0, c1⟩ : ∃ b off, a = some ⟨b, off, none⟩ ∧ wr.cell? ⟨b, off + i * 2, none⟩ = some (.int .i64 x.1) ∧ wr.cell? ⟨b, off + i * 2 + 1, none⟩ = some (.string (bs x.2)) := by
        rcases h.below (unhide HB) with h0 | ⟨pb, po, e, hlt, hc⟩
        · rw [h0] at hx; simp at hx
        · exact ⟨pb, po, e, hc i x hx⟩
      obtain ⟨b', off', rfl, d0, d1⟩ : ∃ b off, a' = some ⟨b, off, none⟩ ∧ wr.cell? ⟨b, off + i * 2, none⟩ = some (.int .i64 x.1) ∧ wr.cell? ⟨b, off + i * 2 + 1, none⟩ = some (.string (bs x.2)) := by
        rcases h'.below (unhide HB) with h0 | ⟨pb, po, e, hlt, hc⟩
        · rw [h0] at hx; simp at hx
        · exact ⟨pb, po, e, hc i x hx⟩
      have f2 : (x.1 != x.1) = false := by simp
      have f3 : ((bs x.2).toList != (bs x.2).toList) = false := by simp
      have f4 : ((bs x.2).toList == (bs x.2).toList) = true := by simp
      clear hx h h'
      go_wp2_with fail
      go_quiet (fail)
      go_wp2_with fail
      refine ⟨⟨i + 1, congrArg (Value.int .i64) (by omega), by omega, hide (below_drewN (unhide HB) _)⟩, by simp [intOf]; omega⟩
    · obtain rfl : i = n := by omega
      have f1 : decide ((i : Int) < (i : Int)) = false := decide_eq_false (by omega)
      clear h h'
      go_wp2_with fail
      go_ret
      exact ⟨rfl, HB⟩
end Go.Proofs.Ytfebiemfmiahhaa
