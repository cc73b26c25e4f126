/- Contracts of Uint and Int. -/
import Derived.Test.YtfgemcmiilbodaaDoorNum
import Derived.Test.YtfgemcmiilbodaaDoorSame
namespace Go.Proofs.YtfgemcmiilbodaaDoor
open Go.ChangeShapes Go.WideShapes Go.ChangeAt Go.RowKit
set_option linter.unusedVariables false

theorem ret_two {k k' : IntKind} {a b a' b' : Int} (h : a = b) (h' : a' = b') : Ending.returned (.tuple #[.int k a, .int k' a']) = .returned (.tuple #[.int k b, .int k' b']) := by rw [h, h']
theorem wrap64_small (n : Nat) (h : n < 9223372036854775808) : wrap64 (n : Int) = (n : Int) := by
  unfold wrap64; omega
theorem plain_yes (a : Option Addr) (cap : Nat) (w : World) (l : List Nat) (hl : l.length ≤ 140737488355328) (h256 : Small l) (hB : Bytes w a l) (hp : Larder.Plain l) :
    Calls Tryd.prog 49 #[.slice a l.length cap] w fun e w' => e = .returned (.bool true) ∧ w' = w := by
  have h := plain_any a cap w l hl h256 hB
  rwa [Larder.plainB_yes hp] at h
theorem plain_no (a : Option Addr) (cap : Nat) (w : World) (l : List Nat) (hl : l.length ≤ 140737488355328) (h256 : Small l) (hB : Bytes w a l) (hp : ¬ Larder.Plain l) :
    Calls Tryd.prog 49 #[.slice a l.length cap] w fun e w' => e = .returned (.bool false) ∧ w' = w := by
  have h := plain_any a cap w l hl h256 hB
  rwa [Larder.plainB_no hp] at h
theorem read_yes (a : Option Addr) (cap : Nat) (w : World) (l : List Nat) (hl : l.length ≤ 140737488355328) (hd : Larder.Digs l) (hB : Bytes w a l) (hn : Larder.numOf l < 18446744073709551616) :
    Calls Tryd.prog 50 #[.slice a l.length cap] w fun e w' => e = .returned (.tuple #[.int .u64 (Larder.numOf l : Nat), .bool true]) ∧ w' = w := by
  have h := read_any a cap w l hl hd hB
  rwa [if_pos hn] at h
theorem read_no (a : Option Addr) (cap : Nat) (w : World) (l : List Nat) (hl : l.length ≤ 140737488355328) (hd : Larder.Digs l) (hB : Bytes w a l) (hn : ¬ Larder.numOf l < 18446744073709551616) :
    Calls Tryd.prog 50 #[.slice a l.length cap] w fun e w' => e = .returned (.tuple #[.int .u64 0, .bool false]) ∧ w' = w := by
  have h := read_any a cap w l hl hd hB
  rwa [if_neg hn] at h

/-- the part of Int behind the sign: not negative -/
theorem int_pos (a : Option Addr) (cap : Nat) (w : World) (l : List Nat) (hl : l.length ≤ 140737488355328) (h256 : Small l) (hB : Bytes w a l) (hneg : l.getD 0 0 ≠ 45) :
    Calls Tryd.prog 42 #[.slice a l.length cap] w fun e w' => e = .returned (.tuple #[.int .i64 (Larder.intRes l).1, .int .i64 ((Larder.intRes l).2 : Nat)]) ∧ w' = w := by
  classical
  rw [Larder.intRes_def]
  rw [if_neg hneg]
  by_cases h0 : l.length = 0
  · obtain rfl := List.eq_nil_of_length_eq_zero h0
    have H1 := hide (plain_no a cap w [] hl h256 hB Larder.not_plain_nil)
    clear hB h256 hneg
    rw [if_neg Larder.not_plain_nil]
    go_enter Tryd.func42, Tryd.ntmps42
    go_wp2_with fail
    refine (unhide H1).mono ?_
    rintro e w' ⟨rfl, h⟩; obtain rfl := h.symm
    go_wp2
    go_ret2
    exact ⟨rfl, rfl⟩
  · have hsh : ∃ b off, a = some ⟨b, off, none⟩ ∧ w.cell? ⟨b, off, none⟩ = some (.int .u8 (l.getD 0 0 : Nat)) := by
      rcases hB with rfl | ⟨b, off, rfl, hb, hc⟩
      · simp at h0
      · exact ⟨b, off, rfl, hc 0 (by omega)⟩
    obtain ⟨b, off, rfl, hc0⟩ := hsh
    have hpos : 0 < l.length := by omega
    have hc00 := h256 0 hpos
    generalize hg : l.getD 0 0 = c0 at hc0 hneg hc00
    have e1 : ((c0 : Int) == 45) = false := by rw [beq_eq_false_iff_ne]; omega
    have e2 : decide (0 < (l.length : Int)) = true := by simp; omega
    clear hg
    by_cases hp : Larder.Plain l
    · rw [if_pos hp]
      have hd := hp.2.2
      have H1 := hide (plain_yes _ cap w l hl h256 hB hp)
      by_cases hn : Larder.numOf l < 18446744073709551616
      · have H2 := hide (read_yes _ cap w l hl hd hB hn)
        clear hB h256 hp hd
        generalize Larder.numOf l = n at *
        by_cases hn2 : n < 9223372036854775808
        · rw [if_pos hn2]
          go_enter Tryd.func42, Tryd.ntmps42
          go_wp2_with fail
          refine (unhide H1).mono ?_
          rintro e w' ⟨rfl, h⟩; obtain rfl := h.symm
          go_wp2_with fail
          refine (unhide H2).mono ?_
          rintro e w' ⟨rfl, h⟩; obtain rfl := h.symm
          go_wp2
          go_ret2
          exact ⟨rfl, rfl⟩
        · rw [if_neg hn2]
          go_enter Tryd.func42, Tryd.ntmps42
          go_wp2_with fail
          refine (unhide H1).mono ?_
          rintro e w' ⟨rfl, h⟩; obtain rfl := h.symm
          go_wp2_with fail
          refine (unhide H2).mono ?_
          rintro e w' ⟨rfl, h⟩; obtain rfl := h.symm
          go_wp2
          go_ret2
          exact ⟨rfl, rfl⟩
      · rw [if_neg (show ¬ Larder.numOf l < 9223372036854775808 by omega)]
        have H2 := hide (read_no _ cap w l hl hd hB hn)
        clear hB h256 hp hd hn
        go_enter Tryd.func42, Tryd.ntmps42
        go_wp2_with fail
        refine (unhide H1).mono ?_
        rintro e w' ⟨rfl, h⟩; obtain rfl := h.symm
        go_wp2_with fail
        refine (unhide H2).mono ?_
        rintro e w' ⟨rfl, h⟩; obtain rfl := h.symm
        go_wp2
        go_ret2
        exact ⟨rfl, rfl⟩
    · rw [if_neg hp]
      have H1 := hide (plain_no _ cap w l hl h256 hB hp)
      clear hB h256 hp
      go_enter Tryd.func42, Tryd.ntmps42
      go_wp2_with fail
      refine (unhide H1).mono ?_
      rintro e w' ⟨rfl, h⟩; obtain rfl := h.symm
      go_wp2
      go_ret2
      exact ⟨rfl, rfl⟩
/-- Int, behind a sign -/
theorem int_neg (a : Option Addr) (cap : Nat) (w : World) (l : List Nat) (hl : l.length ≤ 140737488355328) (h256 : Small l) (hcap : l.length ≤ cap) (hcap2 : cap ≤ 9223372036854775807) (hB : Bytes w a l) (hneg : l.getD 0 0 = 45) :
    Calls Tryd.prog 42 #[.slice a l.length cap] w fun e w' => e = .returned (.tuple #[.int .i64 (Larder.intRes l).1, .int .i64 ((Larder.intRes l).2 : Nat)]) ∧ w' = w := by
  have hpos : 0 < l.length := by
    cases l with
    | nil => simp at hneg
    | cons _ _ => simp
  have hsh : ∃ b off, a = some ⟨b, off, none⟩ ∧ b < w.heap.size ∧ ∀ i, i < l.length → w.cell? ⟨b, off + i, none⟩ = some (.int .u8 (l.getD i 0 : Nat)) := by
    rcases hB with rfl | ⟨b, off, e, hb, hc⟩
    · simp at hpos
    · exact ⟨b, off, e, hb, hc⟩
  obtain ⟨b, off, rfl, hb, hc⟩ := hsh
  have hc0 : w.cell? ⟨b, off, none⟩ = some (.int .u8 45) := by
    have := hc 0 hpos; rw [hneg] at this; exact this
  have e2 : decide (0 < (l.length : Int)) = true := by simp; omega
  have hml : (l.drop 1).length = l.length - 1 := List.length_drop
  have hms : Small (l.drop 1) := fun i hi => by rw [Larder.getD_tail]; exact h256 (i + 1) (by omega)
  classical
  rw [Larder.intRes_def]
  rw [if_pos hneg]
  by_cases hcap1 : cap = 1
  · have hl1 : l.length = 1 := by omega
    have hm0 : l.drop 1 = [] := List.eq_nil_of_length_eq_zero (by omega)
    rw [hm0, if_neg (fun h => absurd h.1 Larder.not_plain_nil)]
    have H1 : Hid (Calls Tryd.prog 49 #[.slice (some ⟨b, off, none⟩) 0 0] w fun e w' => e = .returned (.bool false) ∧ w' = w) := hide (plain_no (some ⟨b, off, none⟩) 0 w [] (by decide) (fun i hi => absurd hi (Nat.not_lt_zero _)) (.inl rfl) Larder.not_plain_nil)
    rw [hl1, hcap1]
    clear hms hml hm0 hc hneg h256 hB e2 hcap hcap1 hcap2 hpos hl hl1
    go_enter Tryd.func42, Tryd.ntmps42
    go_wp2_with fail
    refine (unhide H1).mono ?_
    rintro e w' ⟨rfl, h⟩; obtain rfl := h.symm
    go_wp2
    go_ret2
    exact ⟨rfl, rfl⟩
  · have hc1 : 0 < (l.drop 1).length → w.cell? ⟨b, off + 1, none⟩ = some (.int .u8 ((l.drop 1).getD 0 0 : Nat)) := fun h => by
      rw [Larder.getD_tail]; exact hc 1 (by omega)
    have hmB : Bytes w (some ⟨b, off + 1, none⟩) (l.drop 1) := .inr ⟨b, off + 1, rfl, hb, fun i hi => by
      rw [Larder.getD_tail, Nat.add_assoc, Nat.add_comm 1 i]; exact hc (i + 1) (by omega)⟩
    have hm4 : (l.drop 1).length ≤ 140737488355328 := by omega
    clear hc h256 hB hneg
    generalize l.drop 1 = m at *
    by_cases hp : Larder.Plain m
    · have hm0 : 0 < m.length := hp.1
      have hd := hp.2.2
      have hcm := hc1 hm0
      have hm25 := hms 0 hm0
      have H1 := hide (plain_yes _ (cap - 1) w m hm4 hms hmB hp)
      rw [hml] at H1
      by_cases hz : m.getD 0 0 = 48
      · rw [if_neg (fun h => h.2 hz)]
        rw [hz] at hcm
        clear hmB hms hd hp hc1 hm25 hz
        go_enter Tryd.func42, Tryd.ntmps42
        go_wp2_with fail
        refine (unhide H1).mono ?_
        rintro e w' ⟨rfl, h⟩; obtain rfl := h.symm
        go_wp2
        go_ret2
        exact ⟨rfl, rfl⟩
      · rw [if_pos ⟨hp, hz⟩]
        have e3 : (((m.getD 0 0 : Nat) : Int) == 48) = false := by rw [beq_eq_false_iff_ne]; omega
        generalize m.getD 0 0 = c1 at hcm hm25 e3 hz
        by_cases hn : Larder.numOf m < 18446744073709551616
        · have H2 := hide (read_yes _ (cap - 1) w m hm4 hd hmB hn)
          rw [hml] at H2
          clear hmB hms hp hd hc1
          generalize Larder.numOf m = n at *
          by_cases hn2 : n ≤ 9223372036854775808
          · rw [if_pos hn2]
            have HR : Hid (wrap64 (IntKind.u64.wrap (-(n : Int))) = -(n : Int)) := hide (by rw [IntKind.wrap_u64]; unfold wrap64; omega)
            go_enter Tryd.func42, Tryd.ntmps42
            go_wp2_with fail
            refine (unhide H1).mono ?_
            rintro e w' ⟨rfl, h⟩; obtain rfl := h.symm
            go_wp2_with fail
            refine (unhide H2).mono ?_
            rintro e w' ⟨rfl, h⟩; obtain rfl := h.symm
            go_wp2
            go_ret2
            exact ⟨ret_two (unhide HR) rfl, rfl⟩
          · rw [if_neg hn2]
            go_enter Tryd.func42, Tryd.ntmps42
            go_wp2_with fail
            refine (unhide H1).mono ?_
            rintro e w' ⟨rfl, h⟩; obtain rfl := h.symm
            go_wp2_with fail
            refine (unhide H2).mono ?_
            rintro e w' ⟨rfl, h⟩; obtain rfl := h.symm
            go_wp2
            go_ret2
            exact ⟨rfl, rfl⟩
        · rw [if_neg (show ¬ Larder.numOf m ≤ 9223372036854775808 by omega)]
          have H2 := hide (read_no _ (cap - 1) w m hm4 hd hmB hn)
          rw [hml] at H2
          clear hmB hms hp hd hc1 hn
          go_enter Tryd.func42, Tryd.ntmps42
          go_wp2_with fail
          refine (unhide H1).mono ?_
          rintro e w' ⟨rfl, h⟩; obtain rfl := h.symm
          go_wp2_with fail
          refine (unhide H2).mono ?_
          rintro e w' ⟨rfl, h⟩; obtain rfl := h.symm
          go_wp2
          go_ret2
          exact ⟨rfl, rfl⟩
    · rw [if_neg (fun h => hp h.1)]
      have H1 := hide (plain_no _ (cap - 1) w m hm4 hms hmB hp)
      rw [hml] at H1
      clear hmB hms hp hc1
      go_enter Tryd.func42, Tryd.ntmps42
      go_wp2_with fail
      refine (unhide H1).mono ?_
      rintro e w' ⟨rfl, h⟩; obtain rfl := h.symm
      go_wp2
      go_ret2
      exact ⟨rfl, rfl⟩

theorem int_any (a : Option Addr) (cap : Nat) (w : World) (l : List Nat) (hl : l.length ≤ 140737488355328) (h256 : Small l) (hcap : l.length ≤ cap) (hcap2 : cap ≤ 9223372036854775807) (hB : Bytes w a l) :
    Calls Tryd.prog 42 #[.slice a l.length cap] w fun e w' => e = .returned (.tuple #[.int .i64 (Larder.intRes l).1, .int .i64 ((Larder.intRes l).2 : Nat)]) ∧ w' = w := by
  by_cases h : l.getD 0 0 = 45
  · exact int_neg a cap w l hl h256 hcap hcap2 hB h
  · exact int_pos a cap w l hl h256 hB h
end Go.Proofs.YtfgemcmiilbodaaDoor
