/- Copy, Twin, Cmp, Eq, Is, bytes.Compare. -/
import Derived.Test.YtecfgbjnjgjkoaaGreatDoorSame
import Derived.Lib.SliceRun
import Derived.Lib.BytesEntry
import Derived.Laws.Externs
import Derived.Deep.OwnRows
import Derived.Laws.CopyOwn
namespace Go.Proofs.YtecfgbjnjgjkoaaGreatDoor
open Go.ChangeShapes Go.WideShapes Go.ChangeAt Go.RowKit
set_option linter.unusedVariables false
set_option maxRecDepth 20000

theorem Bytes.at {w : World} {a : Option Addr} {l : List Nat} (h : Bytes w a l) (h0 : 0 < l.length) : ∃ b off, a = some ⟨b, off, none⟩ ∧ b < w.heap.size ∧ ∀ i, i < l.length → w.cell? ⟨b, off + i, none⟩ = some (.int .u8 (l.getD i 0 : Nat)) := by
  rcases h with rfl | h
  · simp at h0
  · exact h
theorem OwnB.mono {w : World} {base base' : Nat} {v : Value} {l : List Nat} (h : OwnB w base v l) (hb : base' ≤ base) : OwnB w base' v l := by
  refine ⟨h.1, ?_⟩
  rcases h.2 with hn | ⟨g, cap, cur, rfl, hbb, hg, rest⟩
  · exact .inl hn
  · exact .inr ⟨g, cap, cur, rfl, Nat.le_trans hb hbb, hg, rest⟩
theorem OwnB.set {w : World} {base g j : Nat} {v x : Value} {l : List Nat} (h : OwnB w base v l) (hg : g < base) : OwnB (w.setCell ⟨g, j, none⟩ x) base v l := by
  refine ⟨h.1, ?_⟩
  rcases h.2 with hn | ⟨g', cap, cur, rfl, hbb, hg', rest⟩
  · exact .inl hn
  · exact .inr ⟨g', cap, cur, rfl, hbb, (Below.heap_setCell w ⟨g, j, none⟩ x g' (by show g' ≠ g; omega)).trans hg', rest⟩
theorem OwnB.nil (w : World) (base : Nat) : OwnB w base (.slice none 0 0) [] := World.ownsRow_nil w base 5 1
theorem OwnB.drew {w : World} {base : Nat} {v : Value} {l : List Nat} (h : OwnB w base v l) : OwnB w.drew base v l := h

theorem clone_nil (w : World) (cap : Nat) : Calls Tryz.prog 88 #[.slice none 0 cap] w fun e w' => e = .returned (.slice none 0 0) ∧ w' = w := by
  have q22 : ∀ (w : World) (a : Option Addr) (n c n' c' : Nat), (binOp .eql 25 (.slice a n c) (.slice none n' c')).run Tryz.prog w = .ok (.bool a.isNone) w := fun w a n c n' c' => Lib.run_eql_slice_nil w _ _ a n c n' c' Tryz.underlying25
  go_enter Tryz.func88, Tryz.ntmps88
  go_wp2
  go_ret
  exact ⟨rfl, rfl⟩
theorem clone_some (x : Addr) (cap : Nat) (w : World) (l : List Nat) (hl : l.length ≤ 140737488355328) (hB : Bytes w (some x) l) :
    Calls Tryz.prog 88 #[.slice (some x) l.length cap] w fun e w' => ∃ v, e = .returned v ∧ OwnB w' w.heap.size v l ∧ Below w.heap.size w w' := by
  have q22 : ∀ (w : World) (a : Option Addr) (n c n' c' : Nat), (binOp .eql 25 (.slice a n c) (.slice none n' c')).run Tryz.prog w = .ok (.bool a.isNone) w := fun w a n c n' c' => Lib.run_eql_slice_nil w _ _ a n c n' c' Tryz.underlying25
  obtain ⟨i0, hi, hz0, hz1, hz2⟩ := info_parts Tryz.info5
  have hnews : ∀ j u, (cellsOf l)[j]? = some u → (w.alloc (.cells #[] 5)).cell? (x.add j) = some u := by
    intro j u hu
    obtain ⟨hj, rfl⟩ := cellsOf_get l j u hu
    rcases hB.below ((Below.refl _ _).alloc (Nat.le_refl _) (.cells #[] 5)) with rfl | ⟨b, off, h, hb, hc⟩
    · simp at hj
    · cases h
      rw [add_plain]; exact hc j hj
  have hown : (w.alloc (.cells #[] 5)).ownsRow w.heap.size 5 1 (.slice (some ⟨w.heap.size, 0, none⟩) 0 0) 0 [] := ⟨rfl, .inr ⟨w.heap.size, 0, #[], rfl, Nat.le_refl _, heap_alloc_new _ _, Nat.le_refl _, by simp [maxLen], rfl, rfl⟩⟩
  have q0 : (cellsOf l).length = l.length * 1 := by simp [cellsOf]
  have q1 := cellsOf_one l
  have q2 : 0 + l.length ≤ maxLen := by simp [maxLen]; omega
  have q3 : (0 + l.length) * 1 ≤ 140737488355328 := by omega
  have q4 : w.heap.size ≤ (w.alloc (.cells #[] 5)).heap.size := by simp
  have H0 := hide hnews
  have H1 := hide hown
  have H2 := hide q1
  clear hB hnews hown q1
  go_enter Tryz.func88, Tryz.ntmps88
  go_wp2_with (at_builtin; refine wpList_append_own _ rfl _ _ 25 rfl w.heap.size 5 i0 (.int .u8 0) 1 1 Tryz.underlying25 hi hz0 hz1 hz2 rfl (by decide) _ 0 [] rfl (unhide H1) x l.length cap (cellsOf l) rfl q0 (unhide H0) (unhide H2) q2 q3 q4 ?_)
  intro v' w1 hown hgrow _
  go_wp2
  go_ret
  refine ⟨_, rfl, ?_, ((Below.refl _ _).alloc (Nat.le_refl _) _).grown hgrow (by simp) (fun k h => by simp [Value.ownBlock] at h; omega)⟩
  simpa [OwnB] using hown
theorem clone_any (a : Option Addr) (cap : Nat) (w : World) (l : List Nat) (hl : l.length ≤ 140737488355328) (hB : Bytes w a l) :
    Calls Tryz.prog 88 #[.slice a l.length cap] w fun e w' => ∃ v, e = .returned v ∧ OwnB w' w.heap.size v l ∧ Below w.heap.size w w' := by
  cases a with
  | none =>
    have hl0 : l = [] := by
      rcases hB with h | ⟨b, off, h, _⟩
      · exact h
      · cases h
    subst hl0
    exact (clone_nil w cap).mono (fun e w' ⟨h1, h2⟩ => ⟨_, h1, OwnB.nil _ _, by rw [h2]; exact Below.refl _ _⟩)
  | some x => exact clone_some x cap w l hl hB
end Go.Proofs.YtecfgbjnjgjkoaaGreatDoor
namespace Larder
/-- the order of bytes -/
def cmpL : List Nat → List Nat → Int
  | [], [] => 0
  | [], _ :: _ => -1
  | _ :: _, [] => 1
  | a :: l, b :: m => if a < b then -1 else if b < a then 1 else cmpL l m
theorem cmpL_self : ∀ l, cmpL l l = 0
  | [] => rfl
  | a :: l => by unfold cmpL; rw [if_neg (Nat.lt_irrefl _), if_neg (Nat.lt_irrefl _), cmpL_self l]
theorem cmpL_zero : ∀ l m, cmpL l m = 0 → l = m
  | [], [], _ => rfl
  | [], _ :: _, h => by simp [cmpL] at h
  | _ :: _, [], h => by simp [cmpL] at h
  | a :: l, b :: m, h => by
    unfold cmpL at h
    split at h
    · simp at h
    · split at h
      · simp at h
      · have : a = b := by omega
        rw [this, cmpL_zero l m h]
theorem cmpL_range : ∀ l m, cmpL l m = -1 ∨ cmpL l m = 0 ∨ cmpL l m = 1
  | [], [] => .inr (.inl rfl)
  | [], _ :: _ => .inl rfl
  | _ :: _, [] => .inr (.inr rfl)
  | a :: l, b :: m => by
    unfold cmpL
    split
    · exact .inl rfl
    · split
      · exact .inr (.inr rfl)
      · exact cmpL_range l m
theorem cmpL_neg : ∀ l m, cmpL m l = - cmpL l m
  | [], [] => rfl
  | [], _ :: _ => rfl
  | _ :: _, [] => rfl
  | a :: l, b :: m => by
    unfold cmpL
    by_cases h : a < b
    · rw [if_pos h, if_neg (by omega), if_pos h]; rfl
    · by_cases h2 : b < a
      · rw [if_pos h2, if_neg h, if_pos h2]
      · rw [if_neg h, if_neg h2, if_neg h2, if_neg h, cmpL_neg l m]
theorem cmpL_drop (l m : List Nat) (i : Nat) (h1 : i < l.length) (h2 : i < m.length) : cmpL (l.drop i) (m.drop i) = if l.getD i 0 < m.getD i 0 then -1 else if m.getD i 0 < l.getD i 0 then 1 else cmpL (l.drop (i + 1)) (m.drop (i + 1)) := by
  rw [List.drop_eq_getElem_cons h1, List.drop_eq_getElem_cons h2, List.getD_eq_getElem?_getD, List.getD_eq_getElem?_getD, List.getElem?_eq_getElem h1, List.getElem?_eq_getElem h2]
  rfl
end Larder
namespace Go.Proofs.YtecfgbjnjgjkoaaGreatDoor
open Go.ChangeShapes Go.WideShapes Go.ChangeAt Go.RowKit
set_option linter.unusedVariables false
set_option maxRecDepth 100000
set_option maxHeartbeats 1000000

theorem copy0_any {w : World} {x : Addr} {cap : Nat} (l : List Nat) (hl : l.length ≤ 140737488355328) (hB : Bytes w (some x) l) :
    Calls Tryz.prog 60 #[.slice (some x) l.length cap] w fun e w' => e = .returned (.slice (some ⟨w.heap.size, 0, none⟩) l.length l.length) ∧ Bytes w' (some ⟨w.heap.size, 0, none⟩) l ∧ Below w.heap.size w w' := by
  obtain ⟨n, hn⟩ : ∃ n, n = l.length := ⟨_, rfl⟩
  have m1 := fun w' => run_make_row' (P := Tryz.prog) 25 5 (.int .u8 0) 1 Tryz.underlying25 Tryz.info5 rfl .i64 .i64 n (by omega) (by omega) w'
  have HB := hide ((Below.refl w.heap.size w).alloc (Nat.le_refl _) (.cells (madeCells #[.int .u8 0] n) 5))
  have HG := hide (heap_alloc_new w (.cells (madeCells #[.int .u8 0] n) 5))
  have HW : Hid (∀ j v, ((List.range n).map fun k => Value.int .u8 (l.getD k 0 : Nat))[j]? = some v → (w.alloc (.cells (madeCells #[.int .u8 0] n) 5)).cell? (x.add j) = some v) := hide (fun j v hj => by
    have hjl : j < n := by
      have := (List.getElem?_eq_some_iff.1 hj).1
      simpa using this
    rw [List.getElem?_map, List.getElem?_range hjl] at hj
    rcases hB with h | ⟨b, off, h, hb, hc⟩
    · subst h; simp at hn; omega
    · cases h
      have e : (⟨b, off, none⟩ : Addr).add j = ⟨b, off + j, none⟩ := by unfold Addr.add; split <;> simp_all
      rw [e, (unhide HB).cell (p := ⟨b, off + j, none⟩) hb, hc j (by omega)]
      exact hj)
  obtain ⟨i0, hi, hy0, hy1, hy2⟩ := info_parts Tryz.info5
  have hcopy : ∃ w2, (Builtin.copy_ #[25, 25] 3 #[.slice (some ⟨w.heap.size, 0, none⟩) n n, .slice (some x) n cap]).run Tryz.prog (w.alloc (.cells (madeCells #[.int .u8 0] n) 5)) = .ok (goInt n) w2 ∧ Hid (∀ j, j < n → w2.cell? ⟨w.heap.size, j, none⟩ = some (.int .u8 (l.getD j 0 : Nat))) ∧ Below w.heap.size w w2 ∧ w2.heap.size = w.heap.size + 1 := by
    obtain ⟨cs, hcs⟩ : ∃ cs, cs = (List.range n).map fun k => Value.int .u8 (l.getD k 0 : Nat) := ⟨_, rfl⟩
    have hlen : cs.length = n := by rw [hcs]; simp
    rw [← hcs] at HW
    have hcp := run_copy_row (P := Tryz.prog) (w.alloc (.cells (madeCells #[.int .u8 0] n) 5)) 25 25 3 5 w.heap.size 0 n n x n cap (madeCells #[.int .u8 0] n) 5 cs Tryz.underlying25 (by rw [hi]; simp [hy1]) (unhide HG) (by rw [hlen]; show n = min _ _; omega) (unhide HW) (by rw [hlen]; simp [madeCells]) (fun v hv => by rw [hcs] at hv; obtain ⟨k, _, rfl⟩ := List.mem_map.1 hv; rfl)
    rw [hlen] at hcp
    refine ⟨_, hcp, hide (fun j hj => ?_), below_setRow (unhide HB) (Nat.le_refl _) _, by simp [World.setRow]⟩
    have hrow := setRow_heap (w.alloc (.cells (madeCells #[.int .u8 0] n) 5)) w.heap.size _ ((madeCells #[.int .u8 0] n).toList.take 0 ++ cs ++ (madeCells #[.int .u8 0] n).toList.drop (0 + n)).toArray 5 (0, 0) (unhide HG)
    simp only [World.cell?, hrow]
    rw [List.take_zero, List.nil_append]
    simp [List.getElem?_append, hj, hcs]
  obtain ⟨w2, hcp, HR, hbr, hsz⟩ := hcopy
  clear hB
  rw [← hn]
  have HN := hide hn
  clear hn hl
  go_enter Tryz.func60, Tryz.ntmps60
  go_wp2
  go_ret
  refine ⟨rfl, .inr ⟨w.heap.size, 0, rfl, by omega, fun i hi' => ?_⟩, hbr⟩
  rw [Nat.zero_add]
  exact unhide HR i (by rw [unhide HN]; exact hi')

/-- nothing but the count of draws has turned -/
structure Still (w w' : World) : Prop where
  os : w'.os = w.os
  tape : w'.tape = w.tape
  output : w'.output = w.output
  heap : w'.heap = w.heap
theorem Still.refl (w : World) : Still w w := ⟨rfl, rfl, rfl, rfl⟩
theorem Still.cell {w w' : World} (h : Still w w') (p : Addr) : w'.cell? p = w.cell? p := World.cell?_of_block (w := w) (by rw [h.heap])
theorem Still.drew {w w' : World} (h : Still w w') (_ : Unit := ()) : Still w w'.drew := ⟨h.os, h.tape, h.output, h.heap⟩
theorem Still.below {w w' : World} (h : Still w w') : Below w.heap.size w w' := ⟨h.os, h.tape, h.output, by rw [h.heap]; exact Nat.le_refl _, fun k _ => by rw [h.heap]⟩
theorem Still.trans {a b c : World} (h : Still a b) (h' : Still b c) : Still a c := ⟨h'.os.trans h.os, h'.tape.trans h.tape, h'.output.trans h.output, h'.heap.trans h.heap⟩
/-- a copy has been made -/
def TwinEnd (l : List Nat) (w : World) (e : Ending) (w' : World) : Prop := ∃ a' cap', e = .returned (.slice a' l.length cap') ∧ Bytes w' a' l ∧ (l.length ≤ cap' ∧ cap' ≤ 140737488355328) ∧ (a' = none → cap' = 0) ∧ Below w.heap.size w w'
set_option maxHeartbeats 2000000 in
theorem cmp_any {w : World} {a b : Option Addr} {c1 c2 : Nat} {la lb : List Nat} (hA : la.length ≤ 140737488355328) (hB : lb.length ≤ 140737488355328) (h1 : Bytes w a la) (h2 : Bytes w b lb) :
    Calls Tryz.prog 38 #[.slice a la.length c1, .slice b lb.length c2] w fun e w' => e = .returned (.int .i64 (Larder.cmpL la lb)) ∧ Still w w' := by
  have H1 := hide h1
  have H2 := hide h2
  obtain ⟨R, hR⟩ : ∃ R, R = Larder.cmpL la lb := ⟨_, rfl⟩
  have HD : Hid (∀ i, i < la.length → i < lb.length → Larder.cmpL (la.drop i) (lb.drop i) = if la.getD i 0 < lb.getD i 0 then -1 else if lb.getD i 0 < la.getD i 0 then 1 else Larder.cmpL (la.drop (i + 1)) (lb.drop (i + 1))) := hide (fun i q1 q2 => Larder.cmpL_drop la lb i q1 q2)
  have HE : Hid (∀ i, i = la.length → i = lb.length → Larder.cmpL (la.drop i) (lb.drop i) = 0) := hide (fun i q1 q2 => by rw [List.drop_eq_nil_of_le (by omega), List.drop_eq_nil_of_le (by omega)]; rfl)
  have HL : Hid (∀ i, i = la.length → i < lb.length → Larder.cmpL (la.drop i) (lb.drop i) = -1) := hide (fun i q1 q2 => by rw [List.drop_eq_nil_of_le (by omega), List.drop_eq_getElem_cons q2]; rfl)
  have HG : Hid (∀ i, i < la.length → i = lb.length → Larder.cmpL (la.drop i) (lb.drop i) = 1) := hide (fun i q1 q2 => by rw [List.drop_eq_getElem_cons q1, List.drop_eq_nil_of_le (show lb.length ≤ i by omega)]; rfl)
  have H0 : Hid (Larder.cmpL (la.drop 0) (lb.drop 0) = R) := hide hR.symm
  rw [← hR]
  clear h1 h2 hR
  go_enter Tryz.func38, Tryz.ntmps38
  go_wp2_with fail
  go_loopw [5] (fun iv wr => ∃ i : Nat, iv = .int .i64 (i : Nat) ∧ i ≤ la.length ∧ i ≤ lb.length ∧ Larder.cmpL (la.drop i) (lb.drop i) = R ∧ Still w wr) (fun iv _ => la.length - (intOf iv).toNat)
  case atStart => exact ⟨0, rfl, Nat.zero_le _, Nat.zero_le _, unhide H0, Still.refl _⟩
  case round =>
    obtain ⟨i, rfl, hi, hi2, hr, hk⟩ := hrel
    have HK := hide hk
    by_cases hin : i < la.length
    · by_cases hin2 : i < lb.length
      · obtain ⟨ga, oa, rfl, hga, ea⟩ := (unhide H1).at (by omega)
        obtain ⟨gb, ob, rfl, hgb, eb⟩ := (unhide H2).at (by omega)
        have e1 := (hk.cell _).trans (ea i hin)
        have e2 := (hk.cell _).trans (eb i hin2)
        have hd := unhide HD i hin hin2
        rw [hr] at hd
        clear ea eb hk hr
        generalize la.getD i 0 = x at *
        generalize lb.getD i 0 = y at *
        generalize hn : Larder.cmpL (la.drop (i + 1)) (lb.drop (i + 1)) = R' at *
        have HNX := hide hn
        clear hn
        rcases Nat.lt_trichotomy x y with q | q | q
        · rw [if_pos q] at hd
          have HDD := hide hd
          clear hd
          go_wp2
          try go_region
          all_goals go_wp2
          all_goals go_ret
          all_goals first | exact ⟨ret_int (unhide HDD).symm, (unhide HK).drew⟩ | exact ⟨ret_int (unhide HDD).symm, unhide HK⟩
        · subst q
          rw [if_neg (Nat.lt_irrefl _), if_neg (Nat.lt_irrefl _)] at hd
          have HDD := hide hd
          clear hd
          go_wp2
          try go_region
          all_goals go_wp2
          all_goals try go_region
          all_goals go_wp2
          all_goals go_roundw
          all_goals first | exact ⟨i + 1, by simp, by omega, by omega, by rw [unhide HNX]; exact (unhide HDD).symm, ((unhide HK).drew).drew⟩ | exact ⟨i + 1, by simp, by omega, by omega, by rw [unhide HNX]; exact (unhide HDD).symm, (unhide HK).drew⟩ | exact ⟨i + 1, by simp, by omega, by omega, by rw [unhide HNX]; exact (unhide HDD).symm, unhide HK⟩ | (simp [intOf]; omega)
        · rw [if_neg (by omega), if_pos q] at hd
          have HDD := hide hd
          have q' : ¬ x < y := by omega
          clear hd
          go_wp2
          try go_region
          all_goals go_wp2
          all_goals try go_region
          all_goals go_wp2
          all_goals go_ret
          all_goals first | exact ⟨ret_int (unhide HDD).symm, ((unhide HK).drew).drew⟩ | exact ⟨ret_int (unhide HDD).symm, (unhide HK).drew⟩ | exact ⟨ret_int (unhide HDD).symm, unhide HK⟩
      · have hg := (unhide HG i hin (by omega)).symm.trans hr
        have HGG := hide hg
        have f2 : decide ((i : Int) < (lb.length : Int)) = false := decide_eq_false (by omega)
        have y1 : ¬ la.length < lb.length := by omega
        have y2 : lb.length < la.length := by omega
        clear hr hg hk
        go_wp2
        all_goals go_ret
        all_goals exact ⟨ret_int (unhide HGG), unhide HK⟩
    · have f1 : decide ((i : Int) < (la.length : Int)) = false := decide_eq_false (by omega)
      by_cases hin2 : la.length < lb.length
      · have hg := (unhide HL i (by omega) (by omega)).symm.trans hr
        have HGG := hide hg
        clear hr hg hk
        go_wp2
        all_goals go_ret
        all_goals exact ⟨ret_int (unhide HGG), unhide HK⟩
      · have hg := (unhide HE i (by omega) (by omega)).symm.trans hr
        have HGG := hide hg
        have y2 : ¬ lb.length < la.length := by omega
        clear hr hg hk
        go_wp2
        all_goals go_ret
        all_goals exact ⟨ret_int (unhide HGG), unhide HK⟩
end Go.Proofs.YtecfgbjnjgjkoaaGreatDoor
