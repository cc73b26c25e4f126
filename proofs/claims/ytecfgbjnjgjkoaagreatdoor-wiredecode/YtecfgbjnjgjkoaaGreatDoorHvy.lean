/- much, heavy. -/
import Derived.Test.YtecfgbjnjgjkoaaGreatDoorSpa
import Derived.Deep.RegionHeld3
import Derived.Deep.Cut
import Derived.Deep.CutRange
import Derived.Test.YtecfgbjnjgjkoaaGreatDoorWrb
namespace Go.Proofs.YtecfgbjnjgjkoaaGreatDoor
open Go.ChangeShapes Go.WideShapes Go.ChangeAt Go.RowKit
set_option linter.unusedVariables false
set_option linter.unusedSimpArgs false
set_option maxRecDepth 20000
set_option maxHeartbeats 4000000

/-- all but one block is as it was -/
structure Kept1 (g : Nat) (w w' : World) : Prop where
  os : w'.os = w.os
  tape : w'.tape = w.tape
  output : w'.output = w.output
  size : w'.heap.size = w.heap.size
  blk : ∀ k, k ≠ g → w'.heap[k]? = w.heap[k]?
theorem Kept1.refl (g : Nat) (w : World) : Kept1 g w w := ⟨rfl, rfl, rfl, rfl, fun _ _ => rfl⟩
theorem Kept1.set {g : Nat} {w w' : World} (h : Kept1 g w w') (i : Nat) (u : Value) : Kept1 g w (w'.drew.setCell ⟨g, i, none⟩ u) := ⟨h.os, h.tape, h.output, by simp [h.size], fun k hk => (Bk.setCell_else w'.drew g i k u hk).trans (h.blk k hk)⟩
theorem Kept1.cell {g : Nat} {w w' : World} (h : Kept1 g w w') {b o : Nat} (hb : b ≠ g) (hlt : b < w.heap.size) : w'.cell? ⟨b, o, none⟩ = w.cell? ⟨b, o, none⟩ := by
  unfold World.cell?
  rw [h.blk b hb]
/-- while it is looked at: what was seen is written over -/
def saF (l : List Nat) (i k : Nat) : Value := if k < i then .int .u8 238 else byV (l ++ [7, 7, 7]) k
theorem same_any' (g b off c : Nat) (a : Option Addr) (l : List Nat) (n : Nat) (w : World) (hn : n = l.length) (hR : Rws w 5 1 (.slice (some ⟨g, 0, none⟩) (n + 3) (n + 3)) (n + 3) (byV (l ++ [7, 7, 7]))) (hA : 0 < n → a = some ⟨b, off, none⟩) (hb : 0 < n → b < w.heap.size) (hbg : 0 < n → b ≠ g) (hc : ∀ k, k < n → w.cell? ⟨b, off + k, none⟩ = some (byV l k)) (hs : Small l) (hl : n ≤ 1073741824) :
    Calls Tryz.prog 17 #[.slice (some ⟨g, 0, none⟩) (n + 3) (n + 3), .slice a n c] w fun e w' => e = .returned (.bool true) ∧ Kept1 g w w' := by
  have HN := hide hn
  have HR := hide hR
  have HC := hide hc
  have HB := hide hb
  have HA := hide hA
  have HG := hide hbg
  clear hn hR hc hb hA hbg
  go_enter Tryz.func17, Tryz.ntmps17
  go_wp2
  go_loopw [5, 6] (fun ov iv wr => ov = .bool true ∧ ∃ i : Nat, iv = .int .i64 (i : Nat) ∧ i ≤ n + 3 ∧ Hid (Rws wr 5 1 (.slice (some ⟨g, 0, none⟩) (n + 3) (n + 3)) (n + 3) (saF l i) ∧ Kept1 g w wr)) (fun _ iv _ => n + 3 - (intOf iv).toNat)
  case atStart => exact ⟨rfl, 0, rfl, by omega, hide ⟨(unhide HR).congr (fun k hk => by unfold saF; rw [if_neg (by omega)]), Kept1.refl _ _⟩⟩
  case round =>
    obtain ⟨rfl, i, rfl, hi, p⟩ := hrel
    rcases Nat.lt_or_ge i (n + 3) with hlt | hge
    rotate_left
    · obtain rfl : i = n + 3 := by omega
      have f1 : decide (((n + 3 : Nat) : Int) < (n : Int) + 3) = false := decide_eq_false (by omega)
      have f1' : decide (((n + 3 : Nat) : Int) < ((n + 3 : Nat) : Int)) = false := decide_eq_false (by omega)
      go_wp2
      go_ret
      exact ⟨rfl, (unhide p).2⟩
    have f1 : decide ((i : Int) < (n : Int) + 3) = true := decide_eq_true (by omega)
    have g1 : (0 : Int) ≤ (i : Int) := by omega
    have g2 : (i : Int) < (n : Int) + 3 := by omega
    have c1 : wr.cell? ⟨g, i, none⟩ = some (byV (l ++ [7, 7, 7]) i) := by
      obtain ⟨g', cap, e1, e2, e3, e4⟩ := (unhide p).1.at (by omega)
      cases e1
      rw [e4 i (by omega)]
      unfold saF
      rw [if_neg (by omega)]
    have c2 : wr.frozen? ⟨g, i, none⟩ = false := by
      rcases (unhide p).1 with ⟨e, _⟩ | ⟨g', cap, cur, e, hg, _⟩
      · cases e
      · cases e
        simp only [World.frozen?, hg]
        simp
    have P2 : Hid (Rws (wr.drew.setCell ⟨g, i, none⟩ (.int .u8 238)) 5 1 (.slice (some ⟨g, 0, none⟩) (n + 3) (n + 3)) (n + 3) (saF l (i + 1)) ∧ Kept1 g w (wr.drew.setCell ⟨g, i, none⟩ (.int .u8 238))) := hide ⟨(((unhide p).1.below (Below.refl _ _).drew).put (g := g) rfl i (.int .u8 238)).congr (fun k hk => by
      unfold saF
      by_cases q : k = i
      · subst q; rw [if_pos rfl, if_pos (by omega)]
      · rw [if_neg q]
        by_cases t : k < i
        · rw [if_pos t, if_pos (by omega)]
        · rw [if_neg t, if_neg (by omega)]), (unhide p).2.set i _⟩
    rcases Nat.lt_or_ge i n with hin | hin
    · obtain rfl : a = some ⟨b, off, none⟩ := unhide HA (by omega)
      have f2 : decide ((i : Int) < (n : Int)) = true := decide_eq_true (by omega)
      have f3 : decide ((n : Int) ≤ (i : Int)) = false := decide_eq_false (by omega)
      have f3n : decide (n ≤ i) = false := decide_eq_false (by omega)
      have f3g : decide ((i : Int) ≥ (n : Int)) = false := decide_eq_false (by omega)
      have f2n : decide (i < n) = true := decide_eq_true (by omega)
      have g3 : (i : Int) < (n : Int) := by omega
      obtain ⟨x, hx⟩ : ∃ x, x = l.getD i 0 := ⟨_, rfl⟩
      have hxn := unhide HN
      have s1 : wr.cell? ⟨g, i, none⟩ = some (.int .u8 (x : Nat)) := by
        rw [c1, hx]
        unfold byV
        rw [List.getD_eq_getElem?_getD, List.getD_eq_getElem?_getD, List.getElem?_append_left (by omega)]
      have s2 : wr.cell? ⟨b, off + i, none⟩ = some (.int .u8 (x : Nat)) := by
        rw [(unhide p).2.cell (unhide HG (by omega)) (unhide HB (by omega)), unhide HC i hin, hx]; rfl
      clear c1 hx hxn
      go_upto_region 5 with fail
      go_cut [40] from 7 to 43 (fun cv wx => cv = .bool false ∧ wx = wr.drew)
      case first =>
        refine wp_region_held_drew (S := (fun w' => w'.cell? ⟨g, i, none⟩ = some (.int .u8 (x : Nat)) ∧ w'.cell? ⟨b, off + i, none⟩ = some (.int .u8 (x : Nat)))) (by kernel_rfl) ⟨s1, s2⟩ (fun hHeld => ?_)
        refine wpAnyH_take (i := 0) (oi := ⟨_, _, _, _, _, _⟩) (v := ?va0) rfl (by kernel_rfl) (by kernel_rfl) (by kernel_rfl) (fun _ _ _ h => h) (Or.inl ⟨by kernel_rfl, ?hya0⟩) (by assumption) ?_
        case hya0 =>
          intro w hSw
          try dsimp only at hSw
          go_simp
          all_goals with_reducible rfl
        try simp only [Act.put, List.setIfInBounds_toArray, List.set_cons_zero, List.set_cons_succ]
        refine wpAnyH_take (i := 1) (oi := ⟨_, _, _, _, _, _⟩) (v := ?va1) rfl (by kernel_rfl) (by kernel_rfl) (by kernel_rfl) (fun _ _ _ h => h) (Or.inl ⟨by kernel_rfl, ?hya1⟩) (by assumption) ?_
        case hya1 =>
          intro w hSw
          try dsimp only at hSw
          go_simp
          all_goals with_reducible rfl
        try simp only [Act.put, List.setIfInBounds_toArray, List.set_cons_zero, List.set_cons_succ]
        refine wpAnyH_take (i := 2) (oi := ⟨_, _, _, _, _, _⟩) (v := ?va2) rfl (by kernel_rfl) (by kernel_rfl) (by kernel_rfl) (fun _ _ _ h => h) (Or.inl ⟨by kernel_rfl, ?hya2⟩) (by assumption) ?_
        case hya2 =>
          intro w hSw
          try dsimp only at hSw
          go_simp
          all_goals with_reducible rfl
        try simp only [Act.put, List.setIfInBounds_toArray, List.set_cons_zero, List.set_cons_succ]
        refine wpAnyH_take (i := 3) (oi := ⟨_, _, _, _, _, _⟩) (v := ?va3) rfl (by kernel_rfl) (by kernel_rfl) (by kernel_rfl) (fun _ _ _ h => h) (Or.inl ⟨by kernel_rfl, ?hya3⟩) (by assumption) ?_
        case hya3 =>
          intro w hSw
          try dsimp only at hSw
          go_simp
          all_goals with_reducible rfl
        try simp only [Act.put, List.setIfInBounds_toArray, List.set_cons_zero, List.set_cons_succ]
        refine wpAnyH_take (i := 4) (oi := ⟨_, _, _, _, _, _⟩) (v := ?va4) rfl (by kernel_rfl) (by kernel_rfl) (by kernel_rfl) (fun _ _ _ h => h) (Or.inl ⟨by kernel_rfl, ?hya4⟩) (by assumption) ?_
        case hya4 =>
          intro w hSw
          try dsimp only at hSw
          go_simp
          all_goals with_reducible rfl
        try simp only [Act.put, List.setIfInBounds_toArray, List.set_cons_zero, List.set_cons_succ]
        refine wpAnyH_take (i := 5) (oi := ⟨_, _, _, _, _, _⟩) (v := ?va5) rfl (by kernel_rfl) (by kernel_rfl) (by kernel_rfl) (fun _ _ _ h => h) (Or.inl ⟨by kernel_rfl, ?hya5⟩) (by assumption) ?_
        case hya5 =>
          intro w hSw
          try dsimp only at hSw
          go_simp
          all_goals with_reducible rfl
        try simp only [Act.put, List.setIfInBounds_toArray, List.set_cons_zero, List.set_cons_succ]
        refine wpAnyH_take (i := 6) (oi := ⟨_, _, _, _, _, _⟩) (v := ?va6) rfl (by kernel_rfl) (by kernel_rfl) (by kernel_rfl) (fun _ _ _ h => h) (Or.inl ⟨by kernel_rfl, ?hya6⟩) (by assumption) ?_
        case hya6 =>
          intro w hSw
          try dsimp only at hSw
          go_simp
          all_goals with_reducible rfl
        try simp only [Act.put, List.setIfInBounds_toArray, List.set_cons_zero, List.set_cons_succ]
        refine wpAnyH_take (i := 7) (oi := ⟨_, _, _, _, _, _⟩) (v := ?va7) rfl (by kernel_rfl) (by kernel_rfl) (by kernel_rfl) (fun _ _ _ h => h) (Or.inl ⟨by kernel_rfl, ?hya7⟩) (by assumption) ?_
        case hya7 =>
          intro w hSw
          try dsimp only at hSw
          go_simp
          all_goals with_reducible rfl
        try simp only [Act.put, List.setIfInBounds_toArray, List.set_cons_zero, List.set_cons_succ]
        refine wpAnyH_take (i := 8) (oi := ⟨_, _, _, _, _, _⟩) (v := ?va8) rfl (by kernel_rfl) (by kernel_rfl) (by kernel_rfl) (fun _ _ _ h => h) (Or.inl ⟨by kernel_rfl, ?hya8⟩) (by assumption) ?_
        case hya8 =>
          intro w hSw
          try dsimp only at hSw
          go_simp
          all_goals with_reducible rfl
        try simp only [Act.put, List.setIfInBounds_toArray, List.set_cons_zero, List.set_cons_succ]
        refine wpAnyH_take (i := 9) (oi := ⟨_, _, _, _, _, _⟩) (v := ?va9) rfl (by kernel_rfl) (by kernel_rfl) (by kernel_rfl) (fun _ _ _ h => h) (Or.inl ⟨by kernel_rfl, ?hya9⟩) (by assumption) ?_
        case hya9 =>
          intro w hSw
          try dsimp only at hSw
          go_simp
          all_goals with_reducible rfl
        try simp only [Act.put, List.setIfInBounds_toArray, List.set_cons_zero, List.set_cons_succ]
        refine wpAnyH_take (i := 10) (oi := ⟨_, _, _, _, _, _⟩) (v := ?va10) rfl (by kernel_rfl) (by kernel_rfl) (by kernel_rfl) (fun _ _ _ h => h) (Or.inl ⟨by kernel_rfl, ?hya10⟩) (by assumption) ?_
        case hya10 =>
          intro w hSw
          try dsimp only at hSw
          go_simp
          all_goals with_reducible rfl
        try simp only [Act.put, List.setIfInBounds_toArray, List.set_cons_zero, List.set_cons_succ]
        refine wpAnyH_take (i := 11) (oi := ⟨_, _, _, _, _, _⟩) (v := ?va11) rfl (by kernel_rfl) (by kernel_rfl) (by kernel_rfl) (fun _ _ _ h => h) (Or.inl ⟨by kernel_rfl, ?hya11⟩) (by assumption) ?_
        case hya11 =>
          intro w hSw
          try dsimp only at hSw
          go_simp
          all_goals with_reducible rfl
        try simp only [Act.put, List.setIfInBounds_toArray, List.set_cons_zero, List.set_cons_succ]
        refine wpAnyH_take (i := 12) (oi := ⟨_, _, _, _, _, _⟩) (v := ?va12) rfl (by kernel_rfl) (by kernel_rfl) (by kernel_rfl) (fun _ _ _ h => h) (Or.inl ⟨by kernel_rfl, ?hya12⟩) (by assumption) ?_
        case hya12 =>
          intro w hSw
          try dsimp only at hSw
          go_simp
          all_goals with_reducible rfl
        try simp only [Act.put, List.setIfInBounds_toArray, List.set_cons_zero, List.set_cons_succ]
        refine wpAnyH_take (i := 13) (oi := ⟨_, _, _, _, _, _⟩) (v := ?va13) rfl (by kernel_rfl) (by kernel_rfl) (by kernel_rfl) (fun _ _ _ h => h) (Or.inl ⟨by kernel_rfl, ?hya13⟩) (by assumption) ?_
        case hya13 =>
          intro w hSw
          try dsimp only at hSw
          go_simp
          all_goals with_reducible rfl
        try simp only [Act.put, List.setIfInBounds_toArray, List.set_cons_zero, List.set_cons_succ]
        refine wpAnyH_take (i := 14) (oi := ⟨_, _, _, _, _, _⟩) (v := ?va14) rfl (by kernel_rfl) (by kernel_rfl) (by kernel_rfl) (fun _ _ _ h => h) (Or.inl ⟨by kernel_rfl, ?hya14⟩) (by assumption) ?_
        case hya14 =>
          intro w hSw
          try dsimp only at hSw
          go_simp
          all_goals with_reducible rfl
        try simp only [Act.put, List.setIfInBounds_toArray, List.set_cons_zero, List.set_cons_succ]
        refine wpAnyH_take (i := 15) (oi := ⟨_, _, _, _, _, _⟩) (v := ?va15) rfl (by kernel_rfl) (by kernel_rfl) (by kernel_rfl) (fun _ _ _ h => h) (Or.inl ⟨by kernel_rfl, ?hya15⟩) (by assumption) ?_
        case hya15 =>
          intro w hSw
          try dsimp only at hSw
          go_simp
          all_goals with_reducible rfl
        try simp only [Act.put, List.setIfInBounds_toArray, List.set_cons_zero, List.set_cons_succ]
        refine wpAnyH_take (i := 16) (oi := ⟨_, _, _, _, _, _⟩) (v := ?va16) rfl (by kernel_rfl) (by kernel_rfl) (by kernel_rfl) (fun _ _ _ h => h) (Or.inl ⟨by kernel_rfl, ?hya16⟩) (by assumption) ?_
        case hya16 =>
          intro w hSw
          try dsimp only at hSw
          go_simp
          all_goals with_reducible rfl
        try simp only [Act.put, List.setIfInBounds_toArray, List.set_cons_zero, List.set_cons_succ]
        refine wpAnyH_take (i := 17) (oi := ⟨_, _, _, _, _, _⟩) (v := ?va17) rfl (by kernel_rfl) (by kernel_rfl) (by kernel_rfl) (fun _ _ _ h => h) (Or.inl ⟨by kernel_rfl, ?hya17⟩) (by assumption) ?_
        case hya17 =>
          intro w hSw
          try dsimp only at hSw
          go_simp
          all_goals with_reducible rfl
        try simp only [Act.put, List.setIfInBounds_toArray, List.set_cons_zero, List.set_cons_succ]
        refine wpAnyH_take (i := 18) (oi := ⟨_, _, _, _, _, _⟩) (v := ?va18) rfl (by kernel_rfl) (by kernel_rfl) (by kernel_rfl) (fun _ _ _ h => h) (Or.inl ⟨by kernel_rfl, ?hya18⟩) (by assumption) ?_
        case hya18 =>
          intro w hSw
          try dsimp only at hSw
          go_simp
          all_goals with_reducible rfl
        try simp only [Act.put, List.setIfInBounds_toArray, List.set_cons_zero, List.set_cons_succ]
        refine wpAnyH_take (i := 19) (oi := ⟨_, _, _, _, _, _⟩) (v := ?va19) rfl (by kernel_rfl) (by kernel_rfl) (by kernel_rfl) (fun _ _ _ h => h) (Or.inl ⟨by kernel_rfl, ?hya19⟩) (by assumption) ?_
        case hya19 =>
          intro w hSw
          try dsimp only at hSw
          go_simp
          all_goals with_reducible rfl
        try simp only [Act.put, List.setIfInBounds_toArray, List.set_cons_zero, List.set_cons_succ]
        refine wpAnyH_take (i := 20) (oi := ⟨_, _, _, _, _, _⟩) (v := ?va20) rfl (by kernel_rfl) (by kernel_rfl) (by kernel_rfl) (fun _ _ _ h => h) (Or.inl ⟨by kernel_rfl, ?hya20⟩) (by assumption) ?_
        case hya20 =>
          intro w hSw
          try dsimp only at hSw
          go_simp
          all_goals with_reducible rfl
        try simp only [Act.put, List.setIfInBounds_toArray, List.set_cons_zero, List.set_cons_succ]
        refine wpAnyH_take (i := 21) (oi := ⟨_, _, _, _, _, _⟩) (v := undef) rfl (by kernel_rfl) (by kernel_rfl) (by kernel_rfl) (fun _ _ _ h => h) (Or.inr ⟨by kernel_rfl, rfl⟩) (by assumption) ?_
        try simp only [Act.put, List.setIfInBounds_toArray, List.set_cons_zero, List.set_cons_succ]
        refine wpAnyH_take (i := 22) (oi := ⟨_, _, _, _, _, _⟩) (v := undef) rfl (by kernel_rfl) (by kernel_rfl) (by kernel_rfl) (fun _ _ _ h => h) (Or.inr ⟨by kernel_rfl, rfl⟩) (by assumption) ?_
        try simp only [Act.put, List.setIfInBounds_toArray, List.set_cons_zero, List.set_cons_succ]
        refine wpAnyH_take (i := 23) (oi := ⟨_, _, _, _, _, _⟩) (v := undef) rfl (by kernel_rfl) (by kernel_rfl) (by kernel_rfl) (fun _ _ _ h => h) (Or.inr ⟨by kernel_rfl, rfl⟩) (by assumption) ?_
        try simp only [Act.put, List.setIfInBounds_toArray, List.set_cons_zero, List.set_cons_succ]
        refine wpAnyH_take (i := 24) (oi := ⟨_, _, _, _, _, _⟩) (v := undef) rfl (by kernel_rfl) (by kernel_rfl) (by kernel_rfl) (fun _ _ _ h => h) (Or.inr ⟨by kernel_rfl, rfl⟩) (by assumption) ?_
        try simp only [Act.put, List.setIfInBounds_toArray, List.set_cons_zero, List.set_cons_succ]
        refine wpAnyH_take (i := 25) (oi := ⟨_, _, _, _, _, _⟩) (v := undef) rfl (by kernel_rfl) (by kernel_rfl) (by kernel_rfl) (fun _ _ _ h => h) (Or.inr ⟨by kernel_rfl, rfl⟩) (by assumption) ?_
        try simp only [Act.put, List.setIfInBounds_toArray, List.set_cons_zero, List.set_cons_succ]
        refine wpAnyH_take (i := 26) (oi := ⟨_, _, _, _, _, _⟩) (v := ?va26) rfl (by kernel_rfl) (by kernel_rfl) (by kernel_rfl) (fun _ _ _ h => h) (Or.inl ⟨by kernel_rfl, ?hya26⟩) (by assumption) ?_
        case hya26 =>
          intro w hSw
          try dsimp only at hSw
          go_simp
          all_goals with_reducible rfl
        try simp only [Act.put, List.setIfInBounds_toArray, List.set_cons_zero, List.set_cons_succ]
        refine wpAnyH_take (i := 27) (oi := ⟨_, _, _, _, _, _⟩) (v := ?va27) rfl (by kernel_rfl) (by kernel_rfl) (by kernel_rfl) (fun _ _ _ h => h) (Or.inl ⟨by kernel_rfl, ?hya27⟩) (by assumption) ?_
        case hya27 =>
          intro w hSw
          try dsimp only at hSw
          go_simp
          all_goals with_reducible rfl
        try simp only [Act.put, List.setIfInBounds_toArray, List.set_cons_zero, List.set_cons_succ]
        refine wpAnyH_done (by kernel_rfl) ?_ _
        go_wp2_with fail
        go_meet
        exact ⟨rfl, rfl⟩
      case rest =>
        obtain ⟨rfl, rfl⟩ := hcut
        have s3 : wr.drew.cell? ⟨g, i, none⟩ = some (.int .u8 (x : Nat)) := s1
        have s4 : wr.drew.frozen? ⟨g, i, none⟩ = false := c2
        go_wp2
        go_roundw
        all_goals first | exact ⟨rfl, i + 1, by go_num, by omega, P2⟩ | (simp [intOf]; omega)
    · have f2 : decide ((i : Int) < (n : Int)) = false := decide_eq_false (by omega)
      have f3 : decide ((n : Int) ≤ (i : Int)) = true := decide_eq_true (by omega)
      have f3n : decide (n ≤ i) = true := decide_eq_true (by omega)
      have f3g : decide ((i : Int) ≥ (n : Int)) = true := decide_eq_true (by omega)
      have f2n : decide (i < n) = false := decide_eq_false (by omega)
      have hxn := unhide HN
      have s1 : wr.cell? ⟨g, i, none⟩ = some (.int .u8 7) := by
        rw [c1]
        unfold byV
        rw [List.getD_eq_getElem?_getD, List.getElem?_append_right (by omega)]
        have hk3 : i - l.length < 3 := by omega
        match i - l.length, hk3 with
        | 0, _ => rfl | 1, _ => rfl | 2, _ => rfl
      clear c1 hxn
      go_upto_region 5 with fail
      go_cut [40] from 7 to 43 (fun cv wx => cv = .bool false ∧ wx = wr.drew)
      case first =>
        refine wp_region_held_drew (S := (fun w' => w'.cell? ⟨g, i, none⟩ = some (.int .u8 7))) (by kernel_rfl) s1 (fun hHeld => ?_)
        refine wpAnyH_take (i := 0) (oi := ⟨_, _, _, _, _, _⟩) (v := ?vb0) rfl (by kernel_rfl) (by kernel_rfl) (by kernel_rfl) (fun _ _ _ h => h) (Or.inl ⟨by kernel_rfl, ?hyb0⟩) (by assumption) ?_
        case hyb0 =>
          intro w hSw
          try dsimp only at hSw
          go_simp
          all_goals with_reducible rfl
        try simp only [Act.put, List.setIfInBounds_toArray, List.set_cons_zero, List.set_cons_succ]
        refine wpAnyH_take (i := 1) (oi := ⟨_, _, _, _, _, _⟩) (v := ?vb1) rfl (by kernel_rfl) (by kernel_rfl) (by kernel_rfl) (fun _ _ _ h => h) (Or.inl ⟨by kernel_rfl, ?hyb1⟩) (by assumption) ?_
        case hyb1 =>
          intro w hSw
          try dsimp only at hSw
          go_simp
          all_goals with_reducible rfl
        try simp only [Act.put, List.setIfInBounds_toArray, List.set_cons_zero, List.set_cons_succ]
        refine wpAnyH_take (i := 2) (oi := ⟨_, _, _, _, _, _⟩) (v := ?vb2) rfl (by kernel_rfl) (by kernel_rfl) (by kernel_rfl) (fun _ _ _ h => h) (Or.inl ⟨by kernel_rfl, ?hyb2⟩) (by assumption) ?_
        case hyb2 =>
          intro w hSw
          try dsimp only at hSw
          go_simp
          all_goals with_reducible rfl
        try simp only [Act.put, List.setIfInBounds_toArray, List.set_cons_zero, List.set_cons_succ]
        refine wpAnyH_take (i := 3) (oi := ⟨_, _, _, _, _, _⟩) (v := ?vb3) rfl (by kernel_rfl) (by kernel_rfl) (by kernel_rfl) (fun _ _ _ h => h) (Or.inl ⟨by kernel_rfl, ?hyb3⟩) (by assumption) ?_
        case hyb3 =>
          intro w hSw
          try dsimp only at hSw
          go_simp
          all_goals with_reducible rfl
        try simp only [Act.put, List.setIfInBounds_toArray, List.set_cons_zero, List.set_cons_succ]
        refine wpAnyH_take (i := 4) (oi := ⟨_, _, _, _, _, _⟩) (v := ?vb4) rfl (by kernel_rfl) (by kernel_rfl) (by kernel_rfl) (fun _ _ _ h => h) (Or.inl ⟨by kernel_rfl, ?hyb4⟩) (by assumption) ?_
        case hyb4 =>
          intro w hSw
          try dsimp only at hSw
          go_simp
          all_goals with_reducible rfl
        try simp only [Act.put, List.setIfInBounds_toArray, List.set_cons_zero, List.set_cons_succ]
        refine wpAnyH_take (i := 5) (oi := ⟨_, _, _, _, _, _⟩) (v := undef) rfl (by kernel_rfl) (by kernel_rfl) (by kernel_rfl) (fun _ _ _ h => h) (Or.inr ⟨by kernel_rfl, rfl⟩) (by assumption) ?_
        try simp only [Act.put, List.setIfInBounds_toArray, List.set_cons_zero, List.set_cons_succ]
        refine wpAnyH_take (i := 6) (oi := ⟨_, _, _, _, _, _⟩) (v := undef) rfl (by kernel_rfl) (by kernel_rfl) (by kernel_rfl) (fun _ _ _ h => h) (Or.inr ⟨by kernel_rfl, rfl⟩) (by assumption) ?_
        try simp only [Act.put, List.setIfInBounds_toArray, List.set_cons_zero, List.set_cons_succ]
        refine wpAnyH_take (i := 7) (oi := ⟨_, _, _, _, _, _⟩) (v := undef) rfl (by kernel_rfl) (by kernel_rfl) (by kernel_rfl) (fun _ _ _ h => h) (Or.inr ⟨by kernel_rfl, rfl⟩) (by assumption) ?_
        try simp only [Act.put, List.setIfInBounds_toArray, List.set_cons_zero, List.set_cons_succ]
        refine wpAnyH_take (i := 8) (oi := ⟨_, _, _, _, _, _⟩) (v := undef) rfl (by kernel_rfl) (by kernel_rfl) (by kernel_rfl) (fun _ _ _ h => h) (Or.inr ⟨by kernel_rfl, rfl⟩) (by assumption) ?_
        try simp only [Act.put, List.setIfInBounds_toArray, List.set_cons_zero, List.set_cons_succ]
        refine wpAnyH_take (i := 9) (oi := ⟨_, _, _, _, _, _⟩) (v := undef) rfl (by kernel_rfl) (by kernel_rfl) (by kernel_rfl) (fun _ _ _ h => h) (Or.inr ⟨by kernel_rfl, rfl⟩) (by assumption) ?_
        try simp only [Act.put, List.setIfInBounds_toArray, List.set_cons_zero, List.set_cons_succ]
        refine wpAnyH_take (i := 10) (oi := ⟨_, _, _, _, _, _⟩) (v := undef) rfl (by kernel_rfl) (by kernel_rfl) (by kernel_rfl) (fun _ _ _ h => h) (Or.inr ⟨by kernel_rfl, rfl⟩) (by assumption) ?_
        try simp only [Act.put, List.setIfInBounds_toArray, List.set_cons_zero, List.set_cons_succ]
        refine wpAnyH_take (i := 11) (oi := ⟨_, _, _, _, _, _⟩) (v := undef) rfl (by kernel_rfl) (by kernel_rfl) (by kernel_rfl) (fun _ _ _ h => h) (Or.inr ⟨by kernel_rfl, rfl⟩) (by assumption) ?_
        try simp only [Act.put, List.setIfInBounds_toArray, List.set_cons_zero, List.set_cons_succ]
        refine wpAnyH_take (i := 12) (oi := ⟨_, _, _, _, _, _⟩) (v := undef) rfl (by kernel_rfl) (by kernel_rfl) (by kernel_rfl) (fun _ _ _ h => h) (Or.inr ⟨by kernel_rfl, rfl⟩) (by assumption) ?_
        try simp only [Act.put, List.setIfInBounds_toArray, List.set_cons_zero, List.set_cons_succ]
        refine wpAnyH_take (i := 13) (oi := ⟨_, _, _, _, _, _⟩) (v := undef) rfl (by kernel_rfl) (by kernel_rfl) (by kernel_rfl) (fun _ _ _ h => h) (Or.inr ⟨by kernel_rfl, rfl⟩) (by assumption) ?_
        try simp only [Act.put, List.setIfInBounds_toArray, List.set_cons_zero, List.set_cons_succ]
        refine wpAnyH_take (i := 14) (oi := ⟨_, _, _, _, _, _⟩) (v := ?vb14) rfl (by kernel_rfl) (by kernel_rfl) (by kernel_rfl) (fun _ _ _ h => h) (Or.inl ⟨by kernel_rfl, ?hyb14⟩) (by assumption) ?_
        case hyb14 =>
          intro w hSw
          try dsimp only at hSw
          go_simp
          all_goals with_reducible rfl
        try simp only [Act.put, List.setIfInBounds_toArray, List.set_cons_zero, List.set_cons_succ]
        refine wpAnyH_take (i := 15) (oi := ⟨_, _, _, _, _, _⟩) (v := ?vb15) rfl (by kernel_rfl) (by kernel_rfl) (by kernel_rfl) (fun _ _ _ h => h) (Or.inl ⟨by kernel_rfl, ?hyb15⟩) (by assumption) ?_
        case hyb15 =>
          intro w hSw
          try dsimp only at hSw
          go_simp
          all_goals with_reducible rfl
        try simp only [Act.put, List.setIfInBounds_toArray, List.set_cons_zero, List.set_cons_succ]
        refine wpAnyH_take (i := 16) (oi := ⟨_, _, _, _, _, _⟩) (v := ?vb16) rfl (by kernel_rfl) (by kernel_rfl) (by kernel_rfl) (fun _ _ _ h => h) (Or.inl ⟨by kernel_rfl, ?hyb16⟩) (by assumption) ?_
        case hyb16 =>
          intro w hSw
          try dsimp only at hSw
          go_simp
          all_goals with_reducible rfl
        try simp only [Act.put, List.setIfInBounds_toArray, List.set_cons_zero, List.set_cons_succ]
        refine wpAnyH_take (i := 17) (oi := ⟨_, _, _, _, _, _⟩) (v := ?vb17) rfl (by kernel_rfl) (by kernel_rfl) (by kernel_rfl) (fun _ _ _ h => h) (Or.inl ⟨by kernel_rfl, ?hyb17⟩) (by assumption) ?_
        case hyb17 =>
          intro w hSw
          try dsimp only at hSw
          go_simp
          all_goals with_reducible rfl
        try simp only [Act.put, List.setIfInBounds_toArray, List.set_cons_zero, List.set_cons_succ]
        refine wpAnyH_take (i := 18) (oi := ⟨_, _, _, _, _, _⟩) (v := ?vb18) rfl (by kernel_rfl) (by kernel_rfl) (by kernel_rfl) (fun _ _ _ h => h) (Or.inl ⟨by kernel_rfl, ?hyb18⟩) (by assumption) ?_
        case hyb18 =>
          intro w hSw
          try dsimp only at hSw
          go_simp
          all_goals with_reducible rfl
        try simp only [Act.put, List.setIfInBounds_toArray, List.set_cons_zero, List.set_cons_succ]
        refine wpAnyH_take (i := 19) (oi := ⟨_, _, _, _, _, _⟩) (v := ?vb19) rfl (by kernel_rfl) (by kernel_rfl) (by kernel_rfl) (fun _ _ _ h => h) (Or.inl ⟨by kernel_rfl, ?hyb19⟩) (by assumption) ?_
        case hyb19 =>
          intro w hSw
          try dsimp only at hSw
          go_simp
          all_goals with_reducible rfl
        try simp only [Act.put, List.setIfInBounds_toArray, List.set_cons_zero, List.set_cons_succ]
        refine wpAnyH_take (i := 20) (oi := ⟨_, _, _, _, _, _⟩) (v := ?vb20) rfl (by kernel_rfl) (by kernel_rfl) (by kernel_rfl) (fun _ _ _ h => h) (Or.inl ⟨by kernel_rfl, ?hyb20⟩) (by assumption) ?_
        case hyb20 =>
          intro w hSw
          try dsimp only at hSw
          go_simp
          all_goals with_reducible rfl
        try simp only [Act.put, List.setIfInBounds_toArray, List.set_cons_zero, List.set_cons_succ]
        refine wpAnyH_take (i := 21) (oi := ⟨_, _, _, _, _, _⟩) (v := ?vb21) rfl (by kernel_rfl) (by kernel_rfl) (by kernel_rfl) (fun _ _ _ h => h) (Or.inl ⟨by kernel_rfl, ?hyb21⟩) (by assumption) ?_
        case hyb21 =>
          intro w hSw
          try dsimp only at hSw
          go_simp
          all_goals with_reducible rfl
        try simp only [Act.put, List.setIfInBounds_toArray, List.set_cons_zero, List.set_cons_succ]
        refine wpAnyH_take (i := 22) (oi := ⟨_, _, _, _, _, _⟩) (v := ?vb22) rfl (by kernel_rfl) (by kernel_rfl) (by kernel_rfl) (fun _ _ _ h => h) (Or.inl ⟨by kernel_rfl, ?hyb22⟩) (by assumption) ?_
        case hyb22 =>
          intro w hSw
          try dsimp only at hSw
          go_simp
          all_goals with_reducible rfl
        try simp only [Act.put, List.setIfInBounds_toArray, List.set_cons_zero, List.set_cons_succ]
        refine wpAnyH_take (i := 23) (oi := ⟨_, _, _, _, _, _⟩) (v := ?vb23) rfl (by kernel_rfl) (by kernel_rfl) (by kernel_rfl) (fun _ _ _ h => h) (Or.inl ⟨by kernel_rfl, ?hyb23⟩) (by assumption) ?_
        case hyb23 =>
          intro w hSw
          try dsimp only at hSw
          go_simp
          all_goals with_reducible rfl
        try simp only [Act.put, List.setIfInBounds_toArray, List.set_cons_zero, List.set_cons_succ]
        refine wpAnyH_take (i := 24) (oi := ⟨_, _, _, _, _, _⟩) (v := ?vb24) rfl (by kernel_rfl) (by kernel_rfl) (by kernel_rfl) (fun _ _ _ h => h) (Or.inl ⟨by kernel_rfl, ?hyb24⟩) (by assumption) ?_
        case hyb24 =>
          intro w hSw
          try dsimp only at hSw
          go_simp
          all_goals with_reducible rfl
        try simp only [Act.put, List.setIfInBounds_toArray, List.set_cons_zero, List.set_cons_succ]
        refine wpAnyH_take (i := 25) (oi := ⟨_, _, _, _, _, _⟩) (v := ?vb25) rfl (by kernel_rfl) (by kernel_rfl) (by kernel_rfl) (fun _ _ _ h => h) (Or.inl ⟨by kernel_rfl, ?hyb25⟩) (by assumption) ?_
        case hyb25 =>
          intro w hSw
          try dsimp only at hSw
          go_simp
          all_goals with_reducible rfl
        try simp only [Act.put, List.setIfInBounds_toArray, List.set_cons_zero, List.set_cons_succ]
        refine wpAnyH_take (i := 26) (oi := ⟨_, _, _, _, _, _⟩) (v := ?vb26) rfl (by kernel_rfl) (by kernel_rfl) (by kernel_rfl) (fun _ _ _ h => h) (Or.inl ⟨by kernel_rfl, ?hyb26⟩) (by assumption) ?_
        case hyb26 =>
          intro w hSw
          try dsimp only at hSw
          go_simp
          all_goals with_reducible rfl
        try simp only [Act.put, List.setIfInBounds_toArray, List.set_cons_zero, List.set_cons_succ]
        refine wpAnyH_take (i := 27) (oi := ⟨_, _, _, _, _, _⟩) (v := ?vb27) rfl (by kernel_rfl) (by kernel_rfl) (by kernel_rfl) (fun _ _ _ h => h) (Or.inl ⟨by kernel_rfl, ?hyb27⟩) (by assumption) ?_
        case hyb27 =>
          intro w hSw
          try dsimp only at hSw
          go_simp
          all_goals with_reducible rfl
        try simp only [Act.put, List.setIfInBounds_toArray, List.set_cons_zero, List.set_cons_succ]
        refine wpAnyH_done (by kernel_rfl) ?_ _
        go_wp2_with fail
        go_meet
        exact ⟨rfl, rfl⟩
      case rest =>
        obtain ⟨rfl, rfl⟩ := hcut
        have s3 : wr.drew.cell? ⟨g, i, none⟩ = some (.int .u8 7) := s1
        have s4 : wr.drew.frozen? ⟨g, i, none⟩ = false := c2
        go_wp2
        go_roundw
        all_goals first | exact ⟨rfl, i + 1, by go_num, by omega, P2⟩ | (simp [intOf]; omega)
end Go.Proofs.YtecfgbjnjgjkoaaGreatDoor
namespace Go.Proofs.YtecfgbjnjgjkoaaGreatDoor
open Go.ChangeShapes Go.WideShapes Go.ChangeAt Go.RowKit
set_option linter.unusedVariables false
set_option linter.unusedSimpArgs false
set_option maxRecDepth 20000
set_option maxHeartbeats 4000000

/-- arguments that lie in memory, or none -/
def ArgsO (w : World) (a : Option Addr) (L : List (List Nat)) : Prop := L = [] ∨ ∃ b off, a = some ⟨b, off, none⟩ ∧ ArgsAt w b off L
theorem ArgsAt.below {w w' : World} {b off : Nat} {L : List (List Nat)} (h : ArgsAt w b off L) (hb : Below w.heap.size w w') : ArgsAt w' b off L :=
  ⟨Nat.lt_of_lt_of_le h.1 hb.size, fun k T hT => by
    obtain ⟨a, c, h1, h2, h3⟩ := h.2 k T hT
    exact ⟨a, c, (hb.cell (p := ⟨b, off + k, none⟩) h.1).trans h1, h2.below hb, h3⟩⟩
theorem ArgsO.below {w w' : World} {a : Option Addr} {L : List (List Nat)} (h : ArgsO w a L) (hb : Below w.heap.size w w') : ArgsO w' a L := by
  rcases h with h | ⟨b, off, rfl, h⟩
  · exact .inl h
  · exact .inr ⟨b, off, rfl, h.below hb⟩
def tn (L : List (List Nat)) (k : Nat) : Nat := (L.getD k []).length
/-- a text with its room: list k of the full ones, and what stands in m -/
abbrev fuV (L : List (List Nat)) (G : Nat → Nat) (k : Nat) : Value := .slice (some ⟨G k, 0, none⟩) (tn L k + 3) (tn L k + 3)
abbrev inV (L : List (List Nat)) (G : Nat → Nat) (k : Nat) : Value := .slice (some ⟨G k, 0, none⟩) (tn L k) (tn L k + 3)
/-- while the lists are made: i of them stand -/
structure Spr (w wr : World) (gm n : Nat) (fv : Value) (L : List (List Nat)) (i : Nat) (G : Nat → Nat) : Prop where
  bel : Below w.heap.size w wr
  gmb : w.heap.size ≤ gm
  m : Rws wr 25 1 (.slice (some ⟨gm, 0, none⟩) (n + 1) (n + 1)) (n + 1) (fun k => if k < i then inV L G k else .slice none 0 0)
  full : Rws wr 25 1 fv i (fun k => fuV L G k)
  own : ∀ g, fv.ownBlock = some g → w.heap.size ≤ g ∧ g ≠ gm
  row : ∀ k, k < i → w.heap.size ≤ G k ∧ Rws wr 5 1 (fuV L G k) (tn L k + 3) (byV (L.getD k [] ++ [7, 7, 7]))
  one : ∀ j k, j < i → k < i → G j = G k → j = k
theorem Spr.below {w wr wr' : World} {gm n : Nat} {fv : Value} {L : List (List Nat)} {i : Nat} {G : Nat → Nat} (h : Spr w wr gm n fv L i G) (hb : Below wr.heap.size wr wr') : Spr w wr' gm n fv L i G :=
  ⟨h.bel.trans (hb.mono h.bel.size), h.gmb, h.m.below hb, h.full.below hb, h.own, fun k hk => ⟨(h.row k hk).1, (h.row k hk).2.below hb⟩, h.one⟩
theorem made_row (z : Value) (N k : Nat) (h : k < N) : (madeCells #[z] N)[k]? = some z := by
  unfold madeCells
  simp [h, Nat.mod_one]
theorem Spr.start (w : World) (n : Nat) (L : List (List Nat)) (hn : n + 1 ≤ maxLen) : Spr w (w.alloc (.cells (madeCells #[.slice none 0 0] (n + 1)) 25)) w.heap.size n (.slice none 0 0) L 0 (fun _ => 0) := by
  refine ⟨(Below.refl _ _).alloc (Nat.le_refl _) _, Nat.le_refl _, .inr ⟨w.heap.size, n + 1, _, rfl, heap_alloc_new w _, Nat.le_refl _, hn, by simp [madeCells], fun k hk => ?_⟩, .inl ⟨rfl, rfl⟩, fun g hg => by simp [Value.ownBlock] at hg, fun k hk => by omega, fun j k hj => by omega⟩
  show _ = some (if k < 0 then inV L (fun _ => 0) k else Value.slice none 0 0)
  rw [if_neg (by omega)]
  exact made_row _ _ k (by omega)
/-- the next list is made and stands among the full ones, not yet in m -/
structure Spm (w wr : World) (gm n : Nat) (fv : Value) (L : List (List Nat)) (i : Nat) (G : Nat → Nat) : Prop where
  bel : Below w.heap.size w wr
  gmb : w.heap.size ≤ gm
  m : Rws wr 25 1 (.slice (some ⟨gm, 0, none⟩) (n + 1) (n + 1)) (n + 1) (fun k => if k < i then inV L G k else .slice none 0 0)
  full : Rws wr 25 1 fv (i + 1) (fun k => fuV L G k)
  own : ∀ g, fv.ownBlock = some g → w.heap.size ≤ g ∧ g ≠ gm
  row : ∀ k, k < i + 1 → w.heap.size ≤ G k ∧ Rws wr 5 1 (fuV L G k) (tn L k + 3) (byV (L.getD k [] ++ [7, 7, 7]))
  one : ∀ j k, j < i + 1 → k < i + 1 → G j = G k → j = k
theorem Spr.mid {w wr w1 w3 : World} {gm n : Nat} {fv v' : Value} {L : List (List Nat)} {i : Nat} {G : Nat → Nat} (h : Spr w wr gm n fv L i G)
    (h1 : Rws w1 5 1 (.slice (some ⟨wr.heap.size, 0, none⟩) (tn L i + 3) (tn L i + 3)) (tn L i + 3) (byV (L.getD i [] ++ [7, 7, 7])) ∧ Below wr.heap.size wr w1)
    (h3 : Rws w3 25 1 v' (i + 1) (fun k => if k < i * 1 then fuV L G k else [Value.slice (some ⟨wr.heap.size, 0, none⟩) (tn L i + 3) (tn L i + 3)].getD (k - i * 1) undef))
    (hG : Gr 25 (i * 1) 1 (w1.alloc (.cells #[.slice (some ⟨wr.heap.size, 0, none⟩) (tn L i + 3) (tn L i + 3)] 25)) w3 fv v') :
    Spm w w3 gm n v' L i (fun k => if k < i then G k else wr.heap.size) := by
  have hb0 := h.below h1.2
  have hw1 : wr.heap.size < w1.heap.size := h1.1.lt wr.heap.size rfl
  obtain ⟨w2, hw2⟩ : ∃ w2, w2 = w1.alloc (.cells #[.slice (some ⟨wr.heap.size, 0, none⟩) (tn L i + 3) (tn L i + 3)] 25) := ⟨_, rfl⟩
  have b12 : Below w1.heap.size w1 w2 := by rw [hw2]; exact (Below.refl _ _).alloc (Nat.le_refl _) _
  rw [← hw2] at hG
  have hb2 := hb0.below b12
  have r2 := h1.1.below b12
  have hbs := h.bel.size
  have h12 := h1.2.size
  have h23 := b12.size
  have c1 : ∀ k, k < i → (fun k => if k < i then G k else wr.heap.size) k = G k := fun k hk => if_pos hk
  have keep : ∀ {v : Value} {t : TypeId} {s n : Nat} {f : Nat → Value}, Rws w2 t s v n f → (∀ g, v.ownBlock = some g → fv.ownBlock ≠ some g) → Rws w3 t s v n f := fun {v t s n f} hr hn => hr.same (fun g hg => hG.other g (hr.lt g hg) (hn g hg))
  have apart5 : ∀ {v : Value} {n : Nat} {f : Nat → Value}, Rws w2 5 1 v n f → ∀ g, v.ownBlock = some g → fv.ownBlock ≠ some g := fun hr g hg => hr.apart hb2.full (by decide) g hg
  refine ⟨?_, h.gmb, ?_, h3.congr (fun k hk => ?_), ?_, fun k hk => ?_, fun j k hj hk e => ?_⟩
  · exact hb2.bel.trans (hG.below _ hb2.bel.size (fun g hg => (h.own g hg).1))
  · refine (keep hb2.m (fun g hg e => ?_)).congr (fun k hk => ?_)
    · have := (h.own g e).2
      simp [Value.ownBlock] at hg
      omega
    · by_cases q : k < i
      · simp only [if_pos q, inV]
      · simp only [if_neg q]
  · by_cases q : k < i
    · simp only [show k < i * 1 by omega, if_true, q, fuV]
    · have hki : k = i := by omega
      subst hki
      simp
  · intro g hg
    rcases hG.how with ⟨g', cur, cur', a1, a2, _⟩ | ⟨a2, _⟩
    · rw [hg] at a2; cases a2; exact h.own g a1
    · rw [hg] at a2; cases a2
      have := h.m.lt gm rfl
      exact ⟨by omega, by omega⟩
  · by_cases q : k < i
    · simp only [fuV, if_pos q]
      exact ⟨(hb2.row k q).1, keep (hb2.row k q).2 (apart5 (hb2.row k q).2)⟩
    · have hki : k = i := by omega
      subst hki
      simp only [fuV, if_neg q]
      exact ⟨hbs, keep r2 (apart5 r2)⟩
  · by_cases q1 : j < i <;> by_cases q2 : k < i <;> simp only [q1, q2, if_true, if_false] at e
    · exact h.one j k q1 q2 e
    · have := (h.row j q1).2.lt (G j) rfl; omega
    · have := (h.row k q2).2.lt (G k) rfl; omega
    · omega
/-- and it is laid into m -/
theorem Spm.put {w wr : World} {gm n : Nat} {fv : Value} {L : List (List Nat)} {i : Nat} {G : Nat → Nat} (h : Spm w wr gm n fv L i G) (hi : i < n) : Spr w (wr.drew.setCell ⟨gm, i, none⟩ (inV L G i)) gm n fv L (i + 1) G := by
  have bd : Below wr.heap.size wr wr.drew := (Below.refl _ _).drew
  have oth : ∀ g, g ≠ gm → (wr.drew.setCell ⟨gm, i, none⟩ (inV L G i)).heap[g]? = wr.heap[g]? := fun g hg => Bk.setCell_else wr.drew gm i g _ hg
  have hgm := h.gmb
  refine ⟨?_, h.gmb, ((h.m.below bd).put (g := gm) rfl i (inV L G i)).congr (fun k hk => ?_), h.full.same (fun g hg => oth g (h.own g hg).2), h.own, fun k hk => ⟨(h.row k hk).1, (h.row k hk).2.same (fun g hg => oth g (fun e => ?_))⟩, h.one⟩
  · exact h.bel.trans ⟨rfl, rfl, rfl, by simp, fun b hb => oth b (by omega)⟩
  · by_cases q : k = i
    · subst q; rw [if_pos rfl, if_pos (by omega)]
    · rw [if_neg q]
      by_cases t : k < i
      · rw [if_pos t, if_pos (by omega)]
      · rw [if_neg t, if_neg (by omega)]
  · exact (h.row k hk).2.apart h.m (by decide) g hg (by rw [e]; rfl)
/-- all is made; a last list stands in m behind them -/
structure Spd (w wr : World) (gm n g9 : Nat) (fv : Value) (L : List (List Nat)) (G : Nat → Nat) : Prop where
  bel : Below w.heap.size w wr
  gmb : w.heap.size ≤ gm
  m : Rws wr 25 1 (.slice (some ⟨gm, 0, none⟩) (n + 1) (n + 1)) (n + 1) (fun k => if k < n then inV L G k else .slice (some ⟨g9, 0, none⟩) 1 1)
  full : Rws wr 25 1 fv n (fun k => fuV L G k)
  row : ∀ k, k < n → w.heap.size ≤ G k ∧ Rws wr 5 1 (fuV L G k) (tn L k + 3) (byV (L.getD k [] ++ [7, 7, 7]))
  one : ∀ j k, j < n → k < n → G j = G k → j = k
  nine : Bytes wr (some ⟨g9, 0, none⟩) [9]
  nin : ∀ k, k < n → G k ≠ g9
theorem Spr.done {w wr : World} {gm n : Nat} {fv : Value} {L : List (List Nat)} {G : Nat → Nat} (h : Spr w wr gm n fv L n G) : Spd w ((wr.alloc (.cells #[.int .u8 9] 5)).setCell ⟨gm, n, none⟩ (.slice (some ⟨wr.heap.size, 0, none⟩) 1 1)) gm n wr.heap.size fv L G := by
  have b1 : Below wr.heap.size wr (wr.alloc (.cells #[.int .u8 9] 5)) := (Below.refl _ _).alloc (Nat.le_refl _) _
  have h1 := h.below b1
  have g9 := heap_alloc_new wr (.cells #[.int .u8 9] 5)
  have hgm := h.gmb
  have hgl := h.m.lt gm rfl
  have oth : ∀ g, g ≠ gm → ((wr.alloc (.cells #[.int .u8 9] 5)).setCell ⟨gm, n, none⟩ (.slice (some ⟨wr.heap.size, 0, none⟩) 1 1)).heap[g]? = (wr.alloc (.cells #[.int .u8 9] 5)).heap[g]? := fun g hg => Bk.setCell_else _ gm n g _ hg
  refine ⟨?_, h.gmb, (h1.m.put (g := gm) rfl n _).congr (fun k hk => ?_), h1.full.same (fun g hg => oth g (h.own g hg).2), fun k hk => ⟨(h1.row k hk).1, (h1.row k hk).2.same (fun g hg => oth g (fun e => ?_))⟩, h.one, ?_, fun k hk e => ?_⟩
  · exact h1.bel.trans ⟨rfl, rfl, rfl, by simp, fun b hb => oth b (by omega)⟩
  · by_cases q : k = n
    · subst q; rw [if_pos rfl, if_neg (by omega)]
    · rw [if_neg q]
      rw [if_pos (by omega), if_pos (by omega)]
  · exact (h1.row k hk).2.apart h1.m (by decide) g hg (by rw [e]; rfl)
  · refine .inr ⟨wr.heap.size, 0, rfl, by simp, fun i hi => ?_⟩
    have hi0 : i = 0 := by simpa using hi
    subst hi0
    rw [cell_of_row _ _ _ _ _ _ ((oth wr.heap.size (by omega)).trans g9)]
    rfl
  · have := (h.row k hk).2.lt (G k) rfl
    omega
end Go.Proofs.YtecfgbjnjgjkoaaGreatDoor
namespace Go.Proofs.YtecfgbjnjgjkoaaGreatDoor
open Go.ChangeShapes Go.WideShapes Go.ChangeAt Go.RowKit
set_option linter.unusedVariables false
set_option linter.unusedSimpArgs false
set_option maxRecDepth 20000
set_option maxHeartbeats 4000000

/-- a reply that lies in memory, of a depth below d -/
def RepAt (w : World) : Nat → Value → Value → Value → Value → Prop
  | 0, _, _, _, _ => False
  | d + 1, v0, v1, v2, v3 => (∃ k : Int, v0 = .int .i64 k) ∧ (∃ k : Int, v1 = .int .i64 k) ∧ (∃ a n c, v2 = .slice a n c ∧ n ≤ 140737488351232) ∧ ∃ a n c, v3 = .slice a n c ∧ n ≤ 140737488351232 ∧
      (n = 0 ∨ ∃ b off, a = some ⟨b, off, none⟩ ∧ b < w.heap.size ∧ ∀ i, i < n → ∃ u0 u1 u2 u3, w.cell? ⟨b, off + i * 4, none⟩ = some u0 ∧ w.cell? ⟨b, off + i * 4 + 1, none⟩ = some u1 ∧ w.cell? ⟨b, off + i * 4 + 2, none⟩ = some u2 ∧ w.cell? ⟨b, off + i * 4 + 3, none⟩ = some u3 ∧ RepAt w d u0 u1 u2 u3)
theorem RepAt.below {w w' : World} (hb : Below w.heap.size w w') : ∀ {d : Nat} {v0 v1 v2 v3 : Value}, RepAt w d v0 v1 v2 v3 → RepAt w' d v0 v1 v2 v3
  | 0, _, _, _, _, h => h
  | d + 1, v0, v1, v2, v3, ⟨h0, h1, h2, a, n, c, h3, h4, h5⟩ => by
    refine ⟨h0, h1, h2, a, n, c, h3, h4, ?_⟩
    rcases h5 with h | ⟨b, off, e, hlt, hc⟩
    · exact .inl h
    · refine .inr ⟨b, off, e, Nat.lt_of_lt_of_le hlt hb.size, fun i hi => ?_⟩
      obtain ⟨u0, u1, u2, u3, c0, c1, c2, c3, r⟩ := hc i hi
      exact ⟨u0, u1, u2, u3, by rw [hb.cell hlt]; exact c0, by rw [hb.cell hlt]; exact c1, by rw [hb.cell hlt]; exact c2, by rw [hb.cell hlt]; exact c3, RepAt.below hb r⟩
theorem much_any : ∀ (d : Nat) (w : World) (v0 v1 v2 v3 : Value) (m : Int), RepAt w d v0 v1 v2 v3 → 0 ≤ m → m ≤ 16777216 → Calls Tryz.prog 39 #[.agg #[v0, v1, v2, v3], .int .i64 m] w fun e w' => ∃ k : Int, e = .returned (.int .i64 k) ∧ m ≤ k ∧ k ≤ 140737505132544 ∧ Hid (Below w.heap.size w w')
  | 0, w, v0, v1, v2, v3, m, h, _, _ => absurd h id
  | d + 1, w, v0, v1, v2, v3, m, h, hm0, hm1 => by
    have IH := much_any d
    obtain ⟨⟨k0, rfl⟩, ⟨k1, rfl⟩, ⟨ta, tn', tc, rfl, htn⟩, la, ln, lc, rfl, hln, hat⟩ := h
    have HI := hide IH
    have HT := hide hat
    clear IH hat
    have B0 : Hid (∀ o, Below (w.heap.size + 1) (w.alloc o) (w.alloc o)) := hide (fun o => Below.refl _ _)
    go_enter Tryz.func39, Tryz.ntmps39
    go_wp2
    go_loopw [1, 5] (fun nv iv wr => ∃ (i : Nat) (k : Int), nv = .int .i64 k ∧ iv = .int .i64 (i : Nat) ∧ i ≤ ln ∧ m ≤ k ∧ k ≤ 140737505132544 ∧ Hid (Below (w.heap.size + 1) (w.alloc (.cells #[.int .i64 k0, .int .i64 k1, .slice ta tn' tc, .slice la ln lc] 31)) wr)) (fun _ iv _ => ln - (intOf iv).toNat)
    case atStart => exact ⟨0, m + 10 + (tn' : Int), rfl, rfl, Nat.zero_le _, by omega, by omega, hide (unhide B0 _)⟩
    case round =>
      obtain ⟨i, k, rfl, rfl, hi, hk0, hk1, p⟩ := hrel
      have cl : wr.cell? ⟨w.heap.size, 3, none⟩ = some (.slice la ln lc) := by
        rw [(unhide p).cell (Nat.lt_succ_self _), cell_of_row _ _ _ _ _ _ (heap_alloc_new w _)]; rfl
      have bw : Hid (Below w.heap.size w wr) := hide (((Below.refl w.heap.size w).alloc (Nat.le_refl _) _).trans ((unhide p).mono (Nat.le_succ _)))
      rcases Nat.lt_or_ge i ln with hlt | hge
      · have f1 : decide ((i : Int) < (ln : Int)) = true := decide_eq_true (by omega)
        have g1 : (0 : Int) ≤ (i : Int) := by omega
        have g2 : (i : Int) < (ln : Int) := by omega
        by_cases hk : k ≤ 16777216
        · have f2 : decide (k ≤ 16777216) = true := decide_eq_true hk
          obtain ⟨b, off, rfl, hb, hc⟩ : ∃ b off, la = some ⟨b, off, none⟩ ∧ b < w.heap.size ∧ ∀ i, i < ln → ∃ u0 u1 u2 u3, w.cell? ⟨b, off + i * 4, none⟩ = some u0 ∧ w.cell? ⟨b, off + i * 4 + 1, none⟩ = some u1 ∧ w.cell? ⟨b, off + i * 4 + 2, none⟩ = some u2 ∧ w.cell? ⟨b, off + i * 4 + 3, none⟩ = some u3 ∧ RepAt w d u0 u1 u2 u3 := by
            rcases unhide HT with h | h
            · omega
            · exact h
          obtain ⟨u0, u1, u2, u3, c0, c1, c2, c3, r⟩ := hc i hlt
          have d0 : wr.cell? ⟨b, off + i * 4, none⟩ = some u0 := by rw [(unhide bw).cell hb]; exact c0
          have d1 : wr.cell? ⟨b, off + i * 4 + 1, none⟩ = some u1 := by rw [(unhide bw).cell hb]; exact c1
          have d2 : wr.cell? ⟨b, off + i * 4 + 2, none⟩ = some u2 := by rw [(unhide bw).cell hb]; exact c2
          have d3 : wr.cell? ⟨b, off + i * 4 + 3, none⟩ = some u3 := by rw [(unhide bw).cell hb]; exact c3
          have CM : Hid (Calls Tryz.prog 39 #[.agg #[u0, u1, u2, u3], .int .i64 k] wr fun e w' => ∃ k' : Int, e = .returned (.int .i64 k') ∧ k ≤ k' ∧ k' ≤ 140737505132544 ∧ Hid (Below (w.heap.size + 1) (w.alloc (.cells #[.int .i64 k0, .int .i64 k1, .slice ta tn' tc, .slice (some ⟨b, off, none⟩) ln lc] 31)) w')) := hide ((unhide HI wr u0 u1 u2 u3 k (r.below (unhide bw)) (by omega) hk).mono (fun e w' ⟨k', h1, h2, h3, h4⟩ => ⟨k', h1, h2, h3, hide ((unhide p).trans ((unhide h4).mono (by have := (unhide p).size; simp at this; omega)))⟩))
          clear c0 c1 c2 c3 r hc
          go_wp2_with (go_at_call 39; refine (unhide CM).mono ?_; rintro e w5 ⟨k', rfl, hk2, hk3, k5⟩)
          all_goals go_roundw
          all_goals first | exact ⟨i + 1, k', rfl, by go_num, by omega, by omega, by omega, k5⟩ | (simp [intOf]; omega)
        · have f2 : decide (k ≤ 16777216) = false := decide_eq_false hk
          go_wp2
          go_ret
          exact ⟨k, rfl, hk0, hk1, bw⟩
      · obtain rfl : i = ln := by omega
        have f1 : decide ((i : Int) < (i : Int)) = false := decide_eq_false (by omega)
        go_wp2
        go_ret
        exact ⟨k, rfl, hk0, hk1, bw⟩
/-- arguments that came in, of whatever length -/
def ArgsW (w : World) (a : Option Addr) (L : List (List Nat)) : Prop := L = [] ∨ ∃ b off, a = some ⟨b, off, none⟩ ∧ b < w.heap.size ∧ ∀ k T, L[k]? = some T → ∃ a c, w.cell? ⟨b, off + k, none⟩ = some (.slice a T.length c) ∧ Bytes w a T ∧ T.length ≤ 140737488351232
def hvS (L : List (List Nat)) : Nat := (L.map (fun T => T.length + 10)).sum
theorem hvS_step {L : List (List Nat)} {i : Nat} {T : List Nat} (h : L[i]? = some T) : hvS (L.take (i + 1)) = hvS (L.take i) + T.length + 10 := by
  unfold hvS
  rw [List.take_add_one, h]
  simp
  omega
theorem hvS_mem : ∀ {L : List (List Nat)} {T : List Nat}, T ∈ L → T.length + 10 ≤ hvS L
  | x :: L, T, h => by
    unfold hvS
    simp only [List.map_cons, List.sum_cons]
    rcases List.mem_cons.1 h with rfl | h
    · omega
    · have := hvS_mem h
      unfold hvS at this
      omega
theorem hvS_len : ∀ (L : List (List Nat)), 10 * L.length ≤ hvS L
  | [] => by simp [hvS]
  | x :: L => by
    have := hvS_len L
    unfold hvS at this ⊢
    simp only [List.map_cons, List.sum_cons, List.length_cons]
    omega
theorem heavy_any (w : World) (K : Int) (da la : Option Addr) (dn dc n lc d : Nat) (L : List (List Nat)) (r0 r1 r2 r3 : Value) (hn : n = L.length) (hA : ArgsW w la L) (hR : RepAt w d r0 r1 r2 r3) (hd : dn ≤ 140737488351232) (hl : n ≤ 140737488351232) :
    Calls Tryz.prog 13 #[.agg #[.int .i64 K, .slice da dn dc, .slice la n lc, r0, r1, r2, r3]] w fun e w' => ∃ h : Bool, e = .returned (.bool h) ∧ Hid (Below w.heap.size w w') ∧ (h = false → dn + hvS L ≤ 16777216) := by
  have HR := hide hR
  have HA := hide hA
  have HN := hide hn
  clear hA hn
  obtain ⟨d, rfl⟩ : ∃ d', d = d' + 1 := by
    cases d with
    | zero => exact absurd hR id
    | succ d => exact ⟨d, rfl⟩
  obtain ⟨⟨k0, rfl⟩, ⟨k1, rfl⟩, ⟨ta, tn', tc, rfl, htn⟩, qa, qn, qc, rfl, hln, -⟩ := hR
  have B0 : Hid (∀ o, Below (w.heap.size + 1) (w.alloc o) (w.alloc o)) := hide (fun o => Below.refl _ _)
  go_enter Tryz.func13, Tryz.ntmps13
  go_wp2
  go_loopw [3, 4] (fun nv iv wr => ∃ (i : Nat) (k : Nat), nv = .int .i64 (k : Nat) ∧ iv = .int .i64 (i : Nat) ∧ i ≤ n ∧ k ≤ 140737505132544 ∧ Hid (k = dn + hvS (L.take i)) ∧ Hid (Below (w.heap.size + 1) (w.alloc (.cells #[.int .i64 K, .slice da dn dc, .slice la n lc, .int .i64 k0, .int .i64 k1, .slice ta tn' tc, .slice qa qn qc] 52)) wr)) (fun _ iv _ => n - (intOf iv).toNat)
  case atStart => exact ⟨0, dn, rfl, rfl, Nat.zero_le _, by omega, hide (by simp [hvS]), hide (unhide B0 _)⟩
  case round =>
    obtain ⟨i, k, rfl, rfl, hi, hk1, hk, p⟩ := hrel
    have cw : ∀ j v, #[.int .i64 K, .slice da dn dc, .slice la n lc, .int .i64 k0, .int .i64 k1, .slice ta tn' tc, .slice qa qn qc][j]? = some v → wr.cell? ⟨w.heap.size, j, none⟩ = some v := fun j v h => by
      rw [(unhide p).cell (Nat.lt_succ_self _), cell_of_row _ _ _ _ _ _ (heap_alloc_new w _)]; exact h
    have cl : wr.cell? ⟨w.heap.size, 2, none⟩ = some (.slice la n lc) := cw 2 _ rfl
    have bw : Hid (Below w.heap.size w wr) := hide (((Below.refl w.heap.size w).alloc (Nat.le_refl _) _).trans ((unhide p).mono (Nat.le_succ _)))
    -- behind the loop
    have CM : Hid (k ≤ 16777216 → Calls Tryz.prog 39 #[.agg #[.int .i64 k0, .int .i64 k1, .slice ta tn' tc, .slice qa qn qc], .int .i64 (k : Nat)] wr fun e w' => ∃ k' : Int, e = .returned (.int .i64 k') ∧ (k : Int) ≤ k' ∧ k' ≤ 140737505132544 ∧ Hid (Below w.heap.size w w')) := hide (fun hk16 => (much_any (d + 1) wr _ _ _ _ k ((unhide HR).below (unhide bw)) (by omega) (by omega)).mono (fun e w' ⟨k', h1, h2, h3, h4⟩ => ⟨k', h1, h2, h3, hide ((unhide bw).trans ((unhide h4).mono (unhide bw).size))⟩))
    have s3 : wr.cell? ⟨w.heap.size, 3, none⟩ = some (.int .i64 k0) := cw 3 _ rfl
    have s4 : wr.cell? ⟨w.heap.size, 4, none⟩ = some (.int .i64 k1) := cw 4 _ rfl
    have s5 : wr.cell? ⟨w.heap.size, 5, none⟩ = some (.slice ta tn' tc) := cw 5 _ rfl
    have s6 : wr.cell? ⟨w.heap.size, 6, none⟩ = some (.slice qa qn qc) := cw 6 _ rfl
    clear cw
    by_cases hk16 : k ≤ 16777216
    · have f2 : decide ((k : Int) ≤ 16777216) = true := decide_eq_true (by omega)
      have f2n : decide (k ≤ 16777216) = true := decide_eq_true hk16
      rcases Nat.lt_or_ge i n with hlt | hge
      · have f1 : decide ((i : Int) < (n : Int)) = true := decide_eq_true (by omega)
        have g1 : (0 : Int) ≤ (i : Int) := by omega
        have g2 : (i : Int) < (n : Int) := by omega
        obtain ⟨b, off, rfl, hb, hc⟩ : ∃ b off, la = some ⟨b, off, none⟩ ∧ b < w.heap.size ∧ ∀ k T, L[k]? = some T → ∃ a c, w.cell? ⟨b, off + k, none⟩ = some (.slice a T.length c) ∧ Bytes w a T ∧ T.length ≤ 140737488351232 := by
          rcases unhide HA with h | h
          · rw [h] at HN; have := unhide HN; simp at this; omega
          · exact h
        obtain ⟨T, hT⟩ : ∃ T, L[i]? = some T := ⟨_, List.getElem?_eq_getElem (by have := unhide HN; omega)⟩
        obtain ⟨a', c', x1, -, x3⟩ := hc i T hT
        obtain ⟨t, ht⟩ : ∃ t, t = T.length := ⟨_, rfl⟩
        have c1 : wr.cell? ⟨b, off + i, none⟩ = some (.slice a' t c') := by rw [(unhide bw).cell hb, x1, ht]
        have hk' : Hid (k + 10 + t = dn + hvS (L.take (i + 1))) := hide (by rw [hvS_step hT, unhide hk, ht]; omega)
        have ht2 : t ≤ 140737488351232 := by omega
        clear hc x1 x3 hT ht CM
        go_wp2
        go_roundw
        all_goals first | exact ⟨i + 1, k + 10 + t, by go_num, by go_num, by omega, by omega, hk', p⟩ | (simp [intOf]; omega)
      · obtain rfl : i = n := by omega
        have f1 : decide ((i : Int) < (i : Int)) = false := decide_eq_false (by omega)
        have EN : Hid (k = dn + hvS L) := hide (by rw [unhide hk, unhide HN, List.take_length])
        go_wp2_with (go_at_call 39; refine (unhide CM hk16).mono ?_; rintro e w5 ⟨k', rfl, hk2, hk3, k5⟩)
        all_goals go_ret
        all_goals exact ⟨_, rfl, k5, fun h => by have := of_decide_eq_false h; have := unhide EN; omega⟩
    · have f2 : decide ((k : Int) ≤ 16777216) = false := decide_eq_false (by omega)
      have f2n : decide (k ≤ 16777216) = false := decide_eq_false hk16
      have f3 : decide ((k : Int) > 16777216) = true := decide_eq_true (by omega)
      have f4 : decide ((16777216 : Int) < (k : Int)) = true := decide_eq_true (by omega)
      have f5 : decide (16777216 < k) = true := decide_eq_true (by omega)
      rcases Nat.lt_or_ge i n with hlt | hge
      · have f1 : decide ((i : Int) < (n : Int)) = true := decide_eq_true (by omega)
        go_wp2
        all_goals go_ret
        all_goals exact ⟨_, rfl, bw, fun h => by simp at h⟩
      · obtain rfl : i = n := by omega
        have f1 : decide ((i : Int) < (i : Int)) = false := decide_eq_false (by omega)
        go_wp2
        all_goals go_ret
        all_goals exact ⟨_, rfl, bw, fun h => by simp at h⟩
end Go.Proofs.YtecfgbjnjgjkoaaGreatDoor
