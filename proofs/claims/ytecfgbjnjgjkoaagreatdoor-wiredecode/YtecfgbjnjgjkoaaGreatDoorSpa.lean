/- spare. -/
import Derived.Test.YtecfgbjnjgjkoaaGreatDoorWra
namespace Go.Proofs.YtecfgbjnjgjkoaaGreatDoor
open Go.ChangeShapes Go.WideShapes Go.ChangeAt Go.RowKit
set_option linter.unusedVariables false
set_option linter.unusedSimpArgs false
set_option maxRecDepth 20000
set_option maxHeartbeats 4000000

/-- the row while the marks are laid behind it -/
def spF (l : List Nat) (i k : Nat) : Value := if k < l.length then byV l k else if k < i then .int .u8 7 else .int .u8 0
def SpR (w W : World) (l : List Nat) (n i : Nat) : Prop := Rws W 5 1 (.slice (some ⟨w.heap.size, 0, none⟩) (n + 3) (n + 3)) (n + 3) (spF l i) ∧ Below w.heap.size w W
theorem made_zero (N k : Nat) (h : k < N) : (madeCells #[.int .u8 0] N)[k]? = some (.int .u8 0) := by
  unfold madeCells
  simp [h, Nat.mod_one]
theorem spare_copy (w : World) (a : Option Addr) (c : Nat) (l : List Nat) (hB : Bytes w a l) (hl : l.length ≤ 1073741824) :
    ∃ w2, (Builtin.copy_ #[25, 25] 3 #[.slice (some ⟨w.heap.size, 0, none⟩) (l.length + 3) (l.length + 3), .slice a l.length c]).run Tryz.prog (w.alloc (.cells (madeCells #[.int .u8 0] (l.length + 3)) 5)) = .ok (goInt l.length) w2 ∧ SpR w w2 l l.length l.length := by
  obtain ⟨i0, hi, hy0, hy1, hy2⟩ := info_parts Tryz.info5
  have HB := (Below.refl w.heap.size w).alloc (Nat.le_refl _) (.cells (madeCells #[.int .u8 0] (l.length + 3)) 5)
  have HG := heap_alloc_new w (.cells (madeCells #[.int .u8 0] (l.length + 3)) 5)
  cases a with
  | none =>
    have : l = [] := by
      rcases hB with h | ⟨_, _, h, _⟩
      · exact h
      · cases h
    subst this
    have hcp := run_copy_none (P := Tryz.prog) (w.alloc (.cells (madeCells #[.int .u8 0] (0 + 3)) 5)) 25 25 3 5 (some ⟨w.heap.size, 0, none⟩) none (0 + 3) (0 + 3) 0 c Tryz.underlying25 (by rw [hi]; simp [hy1]) (by rfl)
    refine ⟨_, hcp, .inr ⟨w.heap.size, 0 + 3, _, rfl, HG, Nat.le_refl _, by decide, by simp [madeCells], fun k hk => ?_⟩, HB⟩
    unfold spF
    rw [if_neg (by simp), if_neg (by simp)]
    exact made_zero _ k (by simpa using hk)
  | some x =>
    obtain ⟨cs, hcs⟩ : ∃ cs, cs = (List.range l.length).map (byV l) := ⟨_, rfl⟩
    have hlen : cs.length = l.length := by rw [hcs]; simp
    have hw : ∀ j v, cs[j]? = some v → (w.alloc (.cells (madeCells #[.int .u8 0] (l.length + 3)) 5)).cell? (x.add j) = some v := fun j v hj => by
      have hjl : j < l.length := by have := (List.getElem?_eq_some_iff.1 hj).1; omega
      rw [hcs, List.getElem?_map, List.getElem?_range hjl] at hj
      rcases hB with h | ⟨b, off, h, hb, hc⟩
      · subst h; simp at hjl
      · cases h
        rw [add_plain, HB.cell (p := ⟨b, off + j, none⟩) hb, hc j hjl]
        exact hj
    have hcp := run_copy_row (P := Tryz.prog) (w.alloc (.cells (madeCells #[.int .u8 0] (l.length + 3)) 5)) 25 25 3 5 w.heap.size 0 (l.length + 3) (l.length + 3) x l.length c (madeCells #[.int .u8 0] (l.length + 3)) 5 cs Tryz.underlying25 (by rw [hi]; simp [hy1]) HG (by rw [hlen]; show l.length = min _ _; omega) hw (by rw [hlen]; simp [madeCells]) (fun v hv => by rw [hcs] at hv; obtain ⟨k, _, rfl⟩ := List.mem_map.1 hv; rfl)
    rw [hlen] at hcp
    have hrow := setRow_heap (w.alloc (.cells (madeCells #[.int .u8 0] (l.length + 3)) 5)) w.heap.size _ ((madeCells #[.int .u8 0] (l.length + 3)).toList.take 0 ++ cs ++ (madeCells #[.int .u8 0] (l.length + 3)).toList.drop (0 + l.length)).toArray 5 (0, 0) HG
    refine ⟨_, hcp, .inr ⟨w.heap.size, l.length + 3, _, rfl, hrow, Nat.le_refl _, by simp only [maxLen]; omega, by simp [madeCells, hlen], fun k hk => ?_⟩, below_setRow HB (Nat.le_refl _) _⟩
    rw [List.take_zero, List.nil_append, List.getElem?_toArray]
    unfold spF
    by_cases q : k < l.length
    · rw [if_pos q, List.getElem?_append_left (by omega), hcs, List.getElem?_map, List.getElem?_range q]; rfl
    · rw [if_neg q, if_neg q, List.getElem?_append_right (by omega), List.getElem?_drop]
      have := made_zero (l.length + 3) (0 + l.length + (k - cs.length)) (by omega)
      rw [← this]
      simp
theorem spare_any (a : Option Addr) (c : Nat) (l : List Nat) (w : World) (hB : Bytes w a l) (hl : l.length ≤ 1073741824) :
    Calls Tryz.prog 14 #[.slice a l.length c] w fun e w' => e = .returned (.slice (some ⟨w.heap.size, 0, none⟩) (l.length + 3) (l.length + 3)) ∧ Hid (Rws w' 5 1 (.slice (some ⟨w.heap.size, 0, none⟩) (l.length + 3) (l.length + 3)) (l.length + 3) (byV (l ++ [7, 7, 7])) ∧ Below w.heap.size w w') := by
  obtain ⟨w2, hcp, hsp⟩ := spare_copy w a c l hB hl
  obtain ⟨n, hn⟩ : ∃ n, n = l.length := ⟨_, rfl⟩
  rw [← hn] at hcp hsp hl ⊢
  have m1 := fun w' => run_make_row' (P := Tryz.prog) 25 5 (.int .u8 0) 1 Tryz.underlying25 Tryz.info5 rfl .i64 .i64 (n + 3) (by omega) (by omega) w'
  rw [show ((n + 3 : Nat) : Int) = (n : Int) + 3 by omega] at m1
  have HSP := hide hsp
  have HN := hide hn
  clear hB hsp hn
  go_enter Tryz.func14, Tryz.ntmps14
  go_wp2
  go_loopw [4] (fun iv wr => ∃ i : Nat, iv = .int .i64 (i : Nat) ∧ n ≤ i ∧ i ≤ n + 3 ∧ Hid (SpR w wr l n i)) (fun iv _ => n + 3 - (intOf iv).toNat)
  case atStart => exact ⟨n, rfl, Nat.le_refl _, by omega, HSP⟩
  case round =>
    obtain ⟨i, rfl, hi1, hi2, p⟩ := hrel
    rcases Nat.lt_or_ge i (n + 3) with hlt | hge
    · have f1 : decide ((i : Int) < (n : Int) + 3) = true := decide_eq_true (by omega)
      have g1 : (0 : Int) ≤ (i : Int) := by omega
      have g2 : (i : Int) < (n : Int) + 3 := by omega
      have c1 : wr.cell? ⟨w.heap.size, i, none⟩ = some (spF l i i) := by
        obtain ⟨g, cap, e1, e2, e3, e4⟩ := (unhide p).1.at (by omega)
        cases e1
        exact e4 i (by omega)
      have c2 : wr.frozen? ⟨w.heap.size, i, none⟩ = false := by
        rcases (unhide p).1 with ⟨e, _⟩ | ⟨g, cap, cur, e, hg, _⟩
        · cases e
        · cases e
          simp only [World.frozen?, hg]
          simp
      have P2 : Hid (SpR w (wr.setCell ⟨w.heap.size, i, none⟩ (.int .u8 7)) l n (i + 1)) := hide ⟨((unhide p).1.put (g := w.heap.size) rfl i (.int .u8 7)).congr (fun k hk => by
        unfold spF
        have := unhide HN
        by_cases q : k = i
        · subst q; rw [if_pos rfl, if_neg (by omega), if_pos (by omega)]
        · rw [if_neg q]
          by_cases r : k < l.length
          · rw [if_pos r, if_pos r]
          · rw [if_neg r, if_neg r]
            by_cases t : k < i
            · rw [if_pos t, if_pos (by omega)]
            · rw [if_neg t, if_neg (by omega)]), (unhide p).2.trans ⟨rfl, rfl, rfl, by simp, fun b hb => Bk.setCell_else wr _ _ b _ (by omega)⟩⟩
      go_wp2
      go_roundw
      case rel => exact ⟨i + 1, by go_num, by omega, by omega, P2⟩
      case measure => simp [intOf]; omega
    · obtain rfl : i = n + 3 := by omega
      have f1 : decide (((n + 3 : Nat) : Int) < (n : Int) + 3) = false := decide_eq_false (by omega)
      go_wp2
      go_ret
      refine ⟨rfl, hide ⟨(unhide p).1.congr (fun k hk => ?_), (unhide p).2⟩⟩
      have := unhide HN
      unfold spF byV
      by_cases r : k < l.length
      · rw [if_pos r, List.getD_eq_getElem?_getD, List.getD_eq_getElem?_getD, List.getElem?_append_left r]
      · rw [if_neg r, if_pos (by omega), List.getD_eq_getElem?_getD, List.getElem?_append_right (by omega)]
        have hk3 : k - l.length < 3 := by omega
        match k - l.length, hk3 with
        | 0, _ => rfl | 1, _ => rfl | 2, _ => rfl
end Go.Proofs.YtecfgbjnjgjkoaaGreatDoor
