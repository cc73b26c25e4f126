/- RowsTable: the law. -/
import Derived.Test.YtbbmhipkelpmlaaDoorLw
import Derived.Test.YtbbmhipkelpmlaaDoorRx
namespace Go.Proofs.YtbbmhipkelpmlaaDoor
open Go.ChangeShapes Go.WideShapes Go.ChangeAt Go.RowKit
set_option linter.unusedVariables false
set_option maxRecDepth 20000
set_option maxHeartbeats 4000000

/-- the first k rows have come -/
structure Wn (w1 wr : World) (v : Value) (k : Nat) : Prop where
  bel : Below w1.heap.size w1 wr
  row : Rws wr 26 7 v k (fun q => tabL.getD q undef)
  own : ∀ g, v.ownBlock = some g → w1.heap.size ≤ g
theorem Wn.below {w1 wr w2 : World} {v : Value} {k : Nat} (h : Wn w1 wr v k) (hb : Below wr.heap.size wr w2) : Wn w1 w2 v k := ⟨bel_chain h.bel hb h.bel.size, h.row.below hb, h.own⟩
theorem row_one (c : Cm) : ∀ x ∈ c.row, x.oneCell' = true := by
  intro x hx
  simp only [Cm.row, List.mem_cons, List.not_mem_nil, or_false] at hx
  rcases hx with rfl | rfl | rfl | rfl | rfl | rfl | rfl <;> rfl
theorem Wn.more {w1 wr w2 : World} {v v' : Value} {k : Nat} {c : Cm} (h : Wn w1 wr v k) (hc : ∀ j, j < 7 → tabA[7 * k + j]? = c.row[j]?) (hL : Rws w2 26 7 v' (k + 1) (fun q => if q < k * 7 then tabL.getD q undef else c.row.getD (q - k * 7) undef)) (hG : Gr 26 (k * 7) c.row.length wr w2 v v') : Wn w1 w2 v' (k + 1) := by
  refine ⟨h.bel.trans (hG.below _ h.bel.size h.own), hL.congr (fun q hq => ?_), hG.own _ h.bel.size h.own⟩
  split
  · rfl
  · rename_i e
    have e1 := hc (q - k * 7) (by omega)
    rw [show 7 * k + (q - k * 7) = q by omega, show tabA[q]? = tabL[q]? from by show tabL.toArray[q]? = _; rw [List.getElem?_toArray]] at e1
    rw [List.getD_eq_getElem?_getD, List.getD_eq_getElem?_getD, e1]
theorem name_at (k : Nat) (c : Cm) (hc : tabC[k]? = some c) : nameA[k]? = some (.string ⟨c.n.toArray⟩) := by
  unfold nameA
  rw [List.getElem?_toArray, List.getElem?_map, hc]
  rfl
theorem law_any (w : World) (ht : Tab w) (n : Int) : Calls Tryd.prog 3 #[.int .i64 n] w fun e w' => e = .returned (.bool true) ∧ Below w.heap.size w w' := by
  have HT := hide ht
  have hp := hide ht.pos
  clear ht
  obtain ⟨i6, hi6, hz6, hs6, hb6⟩ := info_parts Tryd.info26
  have CN : Hid (Calls Tryd.prog 4 #[] w fun e w' => e = .returned (.slice (some ⟨w.heap.size, 0, none⟩) 17 17) ∧ Hid (w'.heap[w.heap.size]? = some (.cells nameA 9 (0, 0)) ∧ Below w.heap.size w w')) := hide (names_any w)
  go_enter Tryd.func3, Tryd.ntmps3
  go_wp2_with (go_at_call 4; refine (unhide CN).mono ?_; rintro e w1 ⟨rfl, k1⟩)
  have hn1 : Hid (w.heap.size < w1.heap.size) := hide (block_lt (unhide k1).1)
  go_loopw [4, 5, 6, 7] (fun v iv _ _ wr => ∃ k : Nat, iv = .int .i64 (k : Nat) ∧ k ≤ 17 ∧ Hid (Wn w1 wr v k)) (fun _ iv _ _ _ => 17 - (intOf iv).toNat)
  case atStart => exact ⟨0, rfl, Nat.zero_le _, hide ⟨Below.refl _ _, .inl ⟨rfl, rfl⟩, fun g hg => by simp [Value.ownBlock] at hg⟩⟩
  case round =>
    obtain ⟨k, rfl, hk, p⟩ := hrel
    obtain ⟨va, vc, rfl⟩ := (unhide p).row.shape
    rcases Nat.lt_or_ge k 17 with hlt | hge
    · have f1 : decide ((k : Int) < 17) = true := decide_eq_true (by omega)
      obtain ⟨c, hc, hrow⟩ := tab_at k hlt
      have CR := row_any c (List.mem_of_getElem? hc)
      have c1 : wr.cell? ⟨w.heap.size, k, none⟩ = some (.string ⟨c.n.toArray⟩) := by
        rw [(unhide p).bel.cell (unhide hn1), cell_of_row _ _ _ _ _ _ (unhide k1).1, name_at k c hc]
      have HROW := hide hrow
      clear hc hrow
      obtain ⟨cn, ca, cb, cf, cl, cs, ck⟩ := c
      have CR : Hid (∀ W, Calls Tryd.prog 5 #[.string ⟨cn.toArray⟩] W fun e w' => e = .returned (.tuple #[.agg #[.string ⟨cn.toArray⟩, .int .i64 ca, .bool cb, .int .i64 cf, .int .i64 cl, .int .i64 cs, .int .i64 ck], .bool true]) ∧ Hid (Below W.heap.size W w')) := hide (fun W => (CR W).mono (fun e w' h => ⟨h.1, hide h.2⟩))
      go_wp2_with (first
        | (go_at_call 5; refine (unhide CR _).mono ?_; rintro e w2 ⟨rfl, k2⟩; have p2 := hide ((((unhide p).below (unhide k2)).below ((Below.refl _ _).alloc (Nat.le_refl _) (.cells #[.string ⟨cn.toArray⟩, .int .i64 ca, .bool cb, .int .i64 cf, .int .i64 cl, .int .i64 cs, .int .i64 ck] 26))).below ((Below.refl _ _).alloc (Nat.le_refl _) (.cells #[.string ⟨cn.toArray⟩, .int .i64 ca, .bool cb, .int .i64 cf, .int .i64 cl, .int .i64 cs, .int .i64 ck] 26))))
        | (at_builtin; refine append_rws rfl _ _ 24 rfl 26 i6 _ 7 64 Tryd.underlying24 hi6 hz6 hs6 hb6 rfl 26 (.slice va k vc) k _ rfl (unhide p2).row (.inl rfl) (w2.heap.size + 1) 1 rfl (Cm.row ⟨cn, ca, cb, cf, cl, cs, ck⟩) (by decide) rfl (by have := made_cells (w2.alloc (.cells #[.string ⟨cn.toArray⟩, .int .i64 ca, .bool cb, .int .i64 cf, .int .i64 cl, .int .i64 cs, .int .i64 ck] 26)) (Cm.row ⟨cn, ca, cb, cf, cl, cs, ck⟩) 26; rw [show (w2.alloc (.cells #[.string ⟨cn.toArray⟩, .int .i64 ca, .bool cb, .int .i64 cf, .int .i64 cl, .int .i64 cs, .int .i64 ck] 26)).heap.size = w2.heap.size + 1 by simp] at this; exact this) (row_one _) (by omega) (by omega) ?_; intro v' w3 hL hG; have p3 := hide ((unhide p2).more (unhide HROW) hL hG); obtain ⟨a3, c3, rfl⟩ := hL.shape; clear hL hG))
      all_goals go_roundw
      all_goals first | exact ⟨k + 1, by simp, by omega, p3⟩ | (simp only [intOf]; omega)
    · obtain rfl : k = 17 := by omega
      rw [show ((17 : Nat) : Int) = 17 from rfl]
      have f1 : decide ((17 : Int) < 17) = false := decide_eq_false (by omega)
      obtain ⟨wb, wc, hv, -, hlt, hat⟩ := (unhide p).row.at (by decide)
      cases hv
      have CT : Hid (Calls Tryd.prog 6 #[.func (.func 7) #[] #[], .slice (some ⟨wb, 0, none⟩) 17 vc, .int .i64 n] wr fun e w' => e = .returned (.bool true) ∧ Hid (Below w.heap.size w w')) := hide (by
        have b1 : Below w.heap.size w wr := bel_chain (unhide k1).2 (unhide p).bel (unhide k1).2.size
        refine (table_any wr ((unhide HT).below (unhide hp) b1) wb vc hlt (fun k hk => ?_) n).mono ?_
        · rw [hat k (by omega), show tabA[k]? = tabL[k]? from by show tabL.toArray[k]? = _; rw [List.getElem?_toArray]]
          have hl := tabL_len
          rw [List.getD_eq_getElem?_getD, List.getElem?_eq_getElem (by omega)]
          rfl
        · rintro e w' ⟨rfl, h⟩
          exact ⟨rfl, hide (bel_chain b1 h b1.size)⟩)
      clear hat hlt
      go_wp2_with (go_at_call 6; refine (unhide CT).mono ?_; rintro e w5 ⟨rfl, k5⟩)
      all_goals go_ret
      all_goals exact ⟨rfl, unhide k5⟩
end Go.Proofs.YtbbmhipkelpmlaaDoor
