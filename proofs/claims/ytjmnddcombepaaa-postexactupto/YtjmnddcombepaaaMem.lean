/- meant, member, members. -/
import Derived.Test.YtjmnddcombepaaaPat
namespace Go.Proofs.Ytjmnddcombepaaa
open Go.ChangeShapes Go.WideShapes Go.ChangeAt Go.RowKit
set_option linter.unusedVariables false
set_option maxRecDepth 20000

theorem Bytes.at {w : World} {a : Option Addr} {l : List Nat} (h : Bytes w a l) (h0 : 0 < l.length) : ∃ b off, a = some ⟨b, off, none⟩ ∧ b < w.heap.size ∧ ∀ i, i < l.length → w.cell? ⟨b, off + i, none⟩ = some (.int .u8 (l.getD i 0 : Nat)) := by
  rcases h with rfl | h
  · simp at h0
  · exact h
theorem ret_two {k k' : IntKind} {a b a' b' : Int} (h : a = b) (h' : a' = b') : Ending.returned (.tuple #[.int k a, .int k' a']) = .returned (.tuple #[.int k b, .int k' b']) := by rw [h, h']
theorem wrap64_small (n : Nat) (h : n < 9223372036854775808) : wrap64 (n : Int) = (n : Int) := by
  unfold wrap64; omega
theorem ret_three {k k' k'' : IntKind} {a b a' b' a'' b'' : Int} (h : a = b) (h' : a' = b') (h'' : a'' = b'') : Ending.returned (.tuple #[.int k a, .int k' a', .int k'' a'']) = .returned (.tuple #[.int k b, .int k' b', .int k'' b'']) := by rw [h, h', h'']

theorem meant_any (a : Option Addr) (cap : Nat) (w : World) (p : List Nat) (i : Nat) (hl : p.length ≤ 140737488355328) (hs : Small p) (hB : Bytes w a p) (hi : i < p.length) :
    Calls Try.prog 77 #[.slice a p.length cap, .int .i64 i] w fun e w' => e = .returned (.tuple #[.int .u8 ((Larder.byteAt p i).1 : Nat), .int .i64 ((Larder.byteAt p i).2 : Nat)]) ∧ w' = w := by
  obtain ⟨b, off, rfl, hb, hc⟩ := hB.at (by omega)
  have c0 := hc i hi
  have k0 := hs i hi
  by_cases h1 : i + 1 < p.length
  · have c1 := hc (i + 1) h1
    have k1 := hs (i + 1) h1
    by_cases h92 : p.getD i 0 = 92
    · have HE : Hid (Larder.byteAt p i = (p.getD (i + 1) 0, i + 2)) := hide (by unfold Larder.byteAt; rw [if_pos ⟨h92, h1⟩])
      rw [unhide HE]
      rw [h92] at c0
      clear hc hs h92 HE
      generalize p.getD (i + 1) 0 = d at *
      go_enter Try.func77, Try.ntmps77
      go_wp2
      go_ret2
      exact ⟨ret_two rfl (by omega), rfl⟩
    · have HE : Hid (Larder.byteAt p i = (p.getD i 0, i + 1)) := hide (by unfold Larder.byteAt; rw [if_neg (fun h => h92 h.1)])
      rw [unhide HE]
      clear hc hs HE c1 k1
      generalize p.getD i 0 = d at *
      have hd : ((d : Int) == 92) = false := by rw [beq_eq_false_iff_ne]; omega
      go_enter Try.func77, Try.ntmps77
      go_wp2
      go_ret2
      exact ⟨ret_two rfl (by omega), rfl⟩
  · have HE : Hid (Larder.byteAt p i = (p.getD i 0, i + 1)) := hide (by unfold Larder.byteAt; rw [if_neg (fun h => h1 h.2)])
    rw [unhide HE]
    clear hc hs HE
    generalize p.getD i 0 = d at *
    have hg : decide ((i : Int) + 1 < (p.length : Int)) = false := decide_eq_false (by omega)
    by_cases h92 : d = 92
    · subst h92
      go_enter Try.func77, Try.ntmps77
      go_wp2
      go_ret2
      exact ⟨ret_two rfl (by omega), rfl⟩
    · have hd : ((d : Int) == 92) = false := by rw [beq_eq_false_iff_ne]; omega
      go_enter Try.func77, Try.ntmps77
      go_wp2
      go_ret2
      exact ⟨ret_two rfl (by omega), rfl⟩

theorem member_any (a : Option Addr) (cap : Nat) (w : World) (p : List Nat) (i : Nat) (hl : p.length ≤ 140737488355328) (hs : Small p) (hB : Bytes w a p) (hi : i < p.length) :
    Calls Try.prog 70 #[.slice a p.length cap, .int .i64 i] w fun e w' => e = .returned (.tuple #[.int .u8 ((Larder.memAt p i).1 : Nat), .int .u8 ((Larder.memAt p i).2.1 : Nat), .int .i64 ((Larder.memAt p i).2.2 : Nat)]) ∧ w' = w := by
  obtain ⟨b, off, rfl, hb, hc⟩ := hB.at (by omega)
  have H1 := hide (meant_any (some ⟨b, off, none⟩) cap w p i hl hs hB hi)
  have hp := Larder.byteAt_prog p i hi
  obtain ⟨j, hj⟩ : ∃ j, j = (Larder.byteAt p i).2 := ⟨_, rfl⟩
  obtain ⟨x, hx⟩ : ∃ x, x = (Larder.byteAt p i).1 := ⟨_, rfl⟩
  rw [← hj] at hp
  have hm : Larder.memAt p i = if j + 1 < p.length ∧ p.getD j 0 = 45 ∧ p.getD (j + 1) 0 ≠ 93 then (x, (Larder.byteAt p (j + 1)).1, (Larder.byteAt p (j + 1)).2) else (x, x, j) := by
    unfold Larder.memAt; rw [← hj, ← hx]
  rw [← hj, ← hx] at H1
  rw [hm]
  clear hm hj hx
  by_cases h1 : j + 1 < p.length
  · have c0 := hc j (by omega)
    have k0 := hs j (by omega)
    have c1 := hc (j + 1) h1
    have k1 := hs (j + 1) h1
    have H2 := hide (meant_any (some ⟨b, off, none⟩) cap w p (j + 1) hl hs hB h1)
    have e2 : (((j + 1 : Nat) : Int)) = (j : Int) + 1 := by omega
    rw [e2] at H2
    by_cases h45 : p.getD j 0 = 45
    · by_cases h93 : p.getD (j + 1) 0 = 93
      · rw [if_neg (fun h => h.2.2 h93)]
        rw [h45] at c0
        rw [h93] at c1
        clear hc hs h45 h93 H2 hB
        go_enter Try.func70, Try.ntmps70
        go_wp2_with fail
        refine (unhide H1).mono ?_
        rintro e w' ⟨rfl, h⟩; obtain rfl := h.symm
        go_wp2
        go_ret3
        exact ⟨rfl, rfl⟩
      · rw [if_pos ⟨h1, h45, h93⟩]
        rw [h45] at c0
        generalize p.getD (j + 1) 0 = d at *
        have hd : ((d : Int) != 93) = true := by rw [bne_iff_ne]; omega
        clear hc hs hB
        generalize Larder.byteAt p (j + 1) = r at *
        go_enter Try.func70, Try.ntmps70
        go_wp2_with fail
        refine (unhide H1).mono ?_
        rintro e w' ⟨rfl, h⟩; obtain rfl := h.symm
        go_wp2_with fail
        refine (unhide H2).mono ?_
        rintro e w' ⟨rfl, h⟩; obtain rfl := h.symm
        go_wp2
        go_ret3
        exact ⟨rfl, rfl⟩
    · rw [if_neg (fun h => h45 h.2.1)]
      generalize p.getD j 0 = d at *
      have hd : ((d : Int) == 45) = false := by rw [beq_eq_false_iff_ne]; omega
      clear hc hs hB H2
      go_enter Try.func70, Try.ntmps70
      go_wp2_with fail
      refine (unhide H1).mono ?_
      rintro e w' ⟨rfl, h⟩; obtain rfl := h.symm
      go_wp2
      go_ret3
      exact ⟨rfl, rfl⟩
  · rw [if_neg (fun h => h1 h.1)]
    have hg : decide ((j : Int) + 1 < (p.length : Int)) = false := decide_eq_false (by omega)
    clear hc hs hB
    go_enter Try.func70, Try.ntmps70
    go_wp2_with fail
    refine (unhide H1).mono ?_
    rintro e w' ⟨rfl, h⟩; obtain rfl := h.symm
    go_wp2
    go_ret3
    exact ⟨rfl, rfl⟩
end Go.Proofs.Ytjmnddcombepaaa
