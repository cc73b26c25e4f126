/- Copy, Twin, Cmp, Eq, Is, bytes.Compare. -/
import Derived.Test.YtidfbelckdlbhaaDoorCln
import Derived.Lib.BytesEntry
import Derived.Laws.Externs
import Derived.Deep.OwnRows
import Derived.Laws.CopyOwn
namespace Larder
/-- the order of bytes -/
def cmpL : List Nat → List Nat → Int
  | [], [] => 0
  | [], _ :: _ => -1
  | _ :: _, [] => 1
  | a :: l, b :: m => if a < b then -1 else if b < a then 1 else cmpL l m
theorem cmpL_self : ∀ l, cmpL l l = 0
  | [] => rfl
  | a :: l => by unfold cmpL; rw [if_neg (Nat.lt_irrefl _), if_neg (Nat.lt_irrefl _), cmpL_self l]
theorem cmpL_zero : ∀ l m, cmpL l m = 0 → l = m
  | [], [], _ => rfl
  | [], _ :: _, h => by simp [cmpL] at h
  | _ :: _, [], h => by simp [cmpL] at h
  | a :: l, b :: m, h => by
    unfold cmpL at h
    split at h
    · simp at h
    · split at h
      · simp at h
      · have : a = b := by omega
        rw [this, cmpL_zero l m h]
theorem cmpL_range : ∀ l m, cmpL l m = -1 ∨ cmpL l m = 0 ∨ cmpL l m = 1
  | [], [] => .inr (.inl rfl)
  | [], _ :: _ => .inl rfl
  | _ :: _, [] => .inr (.inr rfl)
  | a :: l, b :: m => by
    unfold cmpL
    split
    · exact .inl rfl
    · split
      · exact .inr (.inr rfl)
      · exact cmpL_range l m
theorem cmpL_neg : ∀ l m, cmpL m l = - cmpL l m
  | [], [] => rfl
  | [], _ :: _ => rfl
  | _ :: _, [] => rfl
  | a :: l, b :: m => by
    unfold cmpL
    by_cases h : a < b
    · rw [if_pos h, if_neg (by omega), if_pos h]; rfl
    · by_cases h2 : b < a
      · rw [if_pos h2, if_neg h, if_pos h2]
      · rw [if_neg h, if_neg h2, if_neg h2, if_neg h, cmpL_neg l m]
theorem cmpL_drop (l m : List Nat) (i : Nat) (h1 : i < l.length) (h2 : i < m.length) : cmpL (l.drop i) (m.drop i) = if l.getD i 0 < m.getD i 0 then -1 else if m.getD i 0 < l.getD i 0 then 1 else cmpL (l.drop (i + 1)) (m.drop (i + 1)) := by
  rw [List.drop_eq_getElem_cons h1, List.drop_eq_getElem_cons h2, List.getD_eq_getElem?_getD, List.getD_eq_getElem?_getD, List.getElem?_eq_getElem h1, List.getElem?_eq_getElem h2]
  rfl
end Larder
namespace Go.Proofs.YtidfbelckdlbhaaDoor
open Go.ChangeShapes Go.WideShapes Go.ChangeAt Go.RowKit
set_option linter.unusedVariables false
set_option maxRecDepth 100000
set_option maxHeartbeats 1000000

/-- nothing but the count of draws has turned -/
structure Still (w w' : World) : Prop where
  os : w'.os = w.os
  tape : w'.tape = w.tape
  output : w'.output = w.output
  heap : w'.heap = w.heap
theorem Still.refl (w : World) : Still w w := ⟨rfl, rfl, rfl, rfl⟩
theorem Still.cell {w w' : World} (h : Still w w') (p : Addr) : w'.cell? p = w.cell? p := World.cell?_of_block (w := w) (by rw [h.heap])
theorem Still.drew {w w' : World} (h : Still w w') (_ : Unit := ()) : Still w w'.drew := ⟨h.os, h.tape, h.output, h.heap⟩
theorem Still.below {w w' : World} (h : Still w w') : Below w.heap.size w w' := ⟨h.os, h.tape, h.output, by rw [h.heap]; exact Nat.le_refl _, fun k _ => by rw [h.heap]⟩
theorem Still.trans {a b c : World} (h : Still a b) (h' : Still b c) : Still a c := ⟨h'.os.trans h.os, h'.tape.trans h.tape, h'.output.trans h.output, h'.heap.trans h.heap⟩
/-- a copy has been made -/
def TwinEnd (l : List Nat) (w : World) (e : Ending) (w' : World) : Prop := ∃ a' cap', e = .returned (.slice a' l.length cap') ∧ Bytes w' a' l ∧ (l.length ≤ cap' ∧ cap' ≤ 140737488355328) ∧ (a' = none → cap' = 0) ∧ Below w.heap.size w w'
set_option maxHeartbeats 2000000 in
theorem cmp_any {w : World} {a b : Option Addr} {c1 c2 : Nat} {la lb : List Nat} (hA : la.length ≤ 140737488355328) (hB : lb.length ≤ 140737488355328) (h1 : Bytes w a la) (h2 : Bytes w b lb) :
    Calls Tryd.prog 8 #[.slice a la.length c1, .slice b lb.length c2] w fun e w' => e = .returned (.int .i64 (Larder.cmpL la lb)) ∧ Still w w' := by
  have H1 := hide h1
  have H2 := hide h2
  obtain ⟨R, hR⟩ : ∃ R, R = Larder.cmpL la lb := ⟨_, rfl⟩
  have HD : Hid (∀ i, i < la.length → i < lb.length → Larder.cmpL (la.drop i) (lb.drop i) = if la.getD i 0 < lb.getD i 0 then -1 else if lb.getD i 0 < la.getD i 0 then 1 else Larder.cmpL (la.drop (i + 1)) (lb.drop (i + 1))) := hide (fun i q1 q2 => Larder.cmpL_drop la lb i q1 q2)
  have HE : Hid (∀ i, i = la.length → i = lb.length → Larder.cmpL (la.drop i) (lb.drop i) = 0) := hide (fun i q1 q2 => by rw [List.drop_eq_nil_of_le (by omega), List.drop_eq_nil_of_le (by omega)]; rfl)
  have HL : Hid (∀ i, i = la.length → i < lb.length → Larder.cmpL (la.drop i) (lb.drop i) = -1) := hide (fun i q1 q2 => by rw [List.drop_eq_nil_of_le (by omega), List.drop_eq_getElem_cons q2]; rfl)
  have HG : Hid (∀ i, i < la.length → i = lb.length → Larder.cmpL (la.drop i) (lb.drop i) = 1) := hide (fun i q1 q2 => by rw [List.drop_eq_getElem_cons q1, List.drop_eq_nil_of_le (show lb.length ≤ i by omega)]; rfl)
  have H0 : Hid (Larder.cmpL (la.drop 0) (lb.drop 0) = R) := hide hR.symm
  rw [← hR]
  clear h1 h2 hR
  go_enter Tryd.func8, Tryd.ntmps8
  go_wp2_with fail
  go_loopw [5] (fun iv wr => ∃ i : Nat, iv = .int .i64 (i : Nat) ∧ i ≤ la.length ∧ i ≤ lb.length ∧ Larder.cmpL (la.drop i) (lb.drop i) = R ∧ Still w wr) (fun iv _ => la.length - (intOf iv).toNat)
  case atStart => exact ⟨0, rfl, Nat.zero_le _, Nat.zero_le _, unhide H0, Still.refl _⟩
  case round =>
    obtain ⟨i, rfl, hi, hi2, hr, hk⟩ := hrel
    have HK := hide hk
    by_cases hin : i < la.length
    · by_cases hin2 : i < lb.length
      · obtain ⟨ga, oa, rfl, hga, ea⟩ := (unhide H1).at (by omega)
        obtain ⟨gb, ob, rfl, hgb, eb⟩ := (unhide H2).at (by omega)
        have e1 := (hk.cell _).trans (ea i hin)
        have e2 := (hk.cell _).trans (eb i hin2)
        have hd := unhide HD i hin hin2
        rw [hr] at hd
        clear ea eb hk hr
        generalize la.getD i 0 = x at *
        generalize lb.getD i 0 = y at *
        generalize hn : Larder.cmpL (la.drop (i + 1)) (lb.drop (i + 1)) = R' at *
        have HNX := hide hn
        clear hn
        rcases Nat.lt_trichotomy x y with q | q | q
        · rw [if_pos q] at hd
          have HDD := hide hd
          clear hd
          go_wp2
          try go_region
          all_goals go_wp2
          all_goals go_ret
          all_goals first | exact ⟨ret_int (unhide HDD).symm, (unhide HK).drew⟩ | exact ⟨ret_int (unhide HDD).symm, unhide HK⟩
        · subst q
          rw [if_neg (Nat.lt_irrefl _), if_neg (Nat.lt_irrefl _)] at hd
          have HDD := hide hd
          clear hd
          go_wp2
          try go_region
          all_goals go_wp2
          all_goals try go_region
          all_goals go_wp2
          all_goals go_roundw
          all_goals first | exact ⟨i + 1, by simp, by omega, by omega, by rw [unhide HNX]; exact (unhide HDD).symm, ((unhide HK).drew).drew⟩ | exact ⟨i + 1, by simp, by omega, by omega, by rw [unhide HNX]; exact (unhide HDD).symm, (unhide HK).drew⟩ | exact ⟨i + 1, by simp, by omega, by omega, by rw [unhide HNX]; exact (unhide HDD).symm, unhide HK⟩ | (simp [intOf]; omega)
        · rw [if_neg (by omega), if_pos q] at hd
          have HDD := hide hd
          have q' : ¬ x < y := by omega
          clear hd
          go_wp2
          try go_region
          all_goals go_wp2
          all_goals try go_region
          all_goals go_wp2
          all_goals go_ret
          all_goals first | exact ⟨ret_int (unhide HDD).symm, ((unhide HK).drew).drew⟩ | exact ⟨ret_int (unhide HDD).symm, (unhide HK).drew⟩ | exact ⟨ret_int (unhide HDD).symm, unhide HK⟩
      · have hg := (unhide HG i hin (by omega)).symm.trans hr
        have HGG := hide hg
        have f2 : decide ((i : Int) < (lb.length : Int)) = false := decide_eq_false (by omega)
        have y1 : ¬ la.length < lb.length := by omega
        have y2 : lb.length < la.length := by omega
        clear hr hg hk
        go_wp2
        all_goals go_ret
        all_goals exact ⟨ret_int (unhide HGG), unhide HK⟩
    · have f1 : decide ((i : Int) < (la.length : Int)) = false := decide_eq_false (by omega)
      by_cases hin2 : la.length < lb.length
      · have hg := (unhide HL i (by omega) (by omega)).symm.trans hr
        have HGG := hide hg
        clear hr hg hk
        go_wp2
        all_goals go_ret
        all_goals exact ⟨ret_int (unhide HGG), unhide HK⟩
      · have hg := (unhide HE i (by omega) (by omega)).symm.trans hr
        have HGG := hide hg
        have y2 : ¬ lb.length < la.length := by omega
        clear hr hg hk
        go_wp2
        all_goals go_ret
        all_goals exact ⟨ret_int (unhide HGG), unhide HK⟩
end Go.Proofs.YtidfbelckdlbhaaDoor
