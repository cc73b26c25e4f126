/- WordTurns of no bytes. -/
import Derived.Test.YtochdajeocganaaTurnsA
namespace Go.Proofs.Ytochdajeocganaa.WordTurns
open Go.ChangeShapes Go.WideShapes Go.ChangeAt Go.RowKit Go.Joins
set_option linter.unusedVariables false

set_option maxRecDepth 100000 in
set_option maxHeartbeats 4000000 in
theorem law_nil (a : Option Addr) (cap : Nat) (w : World) (l : List Nat) (hl0 : l = []) (K R S : Int) (x : Nat) (N : Int) (hx : x < 18446744073709551616) (hN1 : -9223372036854775808 ≤ N) (hN2 : N ≤ 9223372036854775807) (hl : l.length ≤ 140737488351232) (hs : Small l) :
    Calls Try.prog 5 #[.agg #[.int .i64 K, .int .i64 R, .int .i64 S, .int .u64 x, .slice a l.length cap, .int .i64 N]] w fun e w' => e = .returned (.bool true) ∧ Below w.heap.size w w' := by
  have hb0 : Below w.heap.size w (w.alloc (.cells #[.int .i64 K, .int .i64 R, .int .i64 S, .int .u64 x, .slice a l.length cap, .int .i64 N] 36)) := (Below.refl _ _).alloc (Nat.le_refl _) _
  have hB : Bytes w a l := .inl hl0
  have hll0 : l.length = 0 := by rw [hl0]; rfl
  have hl00 : l.length ≤ 0 := by omega
  clear hl0 hll0
  have hB0 := hB.below hb0
  go_enter Try.func5, Try.ntmps5
  go_wp2_with fail
  refine (head_yes 1 2 3 _ ⟨by omega, by omega, by omega, by omega, by omega, by omega⟩).mono ?_
  rintro e w' ⟨rfl, hw'⟩
  obtain rfl := hw'.symm
  go_wp2_with (first | (go_at_call 15; refine (num_any _ _).mono ?_; rintro e w' ⟨rfl, hw'⟩; obtain rfl := hw'.symm))
  refine (head_any K R S _).mono ?_
  rintro e w' ⟨hw', v, c, rfl, hvc⟩
  obtain rfl := hw'.symm
  have HVC := hide hvc
  clear hvc
  go_upto_if 45 with (first | (go_at_call 15; refine (num_any _ _).mono ?_; rintro e w' ⟨rfl, hw'⟩; obtain rfl := hw'.symm))
  go_cut [] (fun wc => Below (w.alloc (.cells #[.int .i64 K, .int .i64 R, .int .i64 S, .int .u64 x, .slice a l.length cap, .int .i64 N] 36)).heap.size (w.alloc (.cells #[.int .i64 K, .int .i64 R, .int .i64 S, .int .u64 x, .slice a l.length cap, .int .i64 N] 36)) wc)
  case first =>
    rcases unhide HVC with ⟨rfl, hf, rfl⟩ | rfl
    · go_wp2_with fail
      refine (split_back K R S _ hf).mono ?_
      rintro e w1 ⟨hb1, rfl⟩
      obtain ⟨f0, f1, f2, f3, f4, f5⟩ := fields6 hb1
      go_wp2_with (first | (go_at_call 15; refine (num_any _ _).mono ?_; rintro e w' ⟨rfl, hw'⟩; obtain rfl := hw'.symm))
      go_meet
      case rel => exact hb1
    · go_wp2
      go_meet
      case rel => exact Below.refl _ _
  case rest =>
    have hbc := hcut
    clear hcut HVC
    obtain ⟨f0, f1, f2, f3, f4, f5⟩ := fields6 hbc
    go_wp2_with fail
    refine (split_two x wc hx).mono ?_
    rintro e w1 ⟨hb1, k, r, s, c, rfl, hvc⟩
    have HVC := hide hvc
    have hb01 := chain hbc hb1 hbc.size
    clear hvc f0 f1 f2 f3 f4 f5
    obtain ⟨f0, f1, f2, f3, f4, f5⟩ := fields6 hb01
    go_upto_if 84 with (first | (go_at_call 15; refine (num_any _ _).mono ?_; rintro e w' ⟨rfl, hw'⟩; obtain rfl := hw'.symm))
    go_cut [] (fun wd => Below (w.alloc (.cells #[.int .i64 K, .int .i64 R, .int .i64 S, .int .u64 x, .slice a l.length cap, .int .i64 N] 36)).heap.size (w.alloc (.cells #[.int .i64 K, .int .i64 R, .int .i64 S, .int .u64 x, .slice a l.length cap, .int .i64 N] 36)) wd)
    case first =>
      rcases unhide HVC with ⟨rfl, hf, he⟩ | rfl
      · go_wp2_with fail
        refine (head_yes k r s w1 hf).mono ?_
        rintro e w' ⟨rfl, hw'⟩
        obtain rfl := hw'.symm
        rw [he]
        go_wp2_with (first | (go_at_call 15; refine (num_any _ _).mono ?_; rintro e w' ⟨rfl, hw'⟩; obtain rfl := hw'.symm))
        go_meet
        case rel => exact hb01
      · go_wp2
        go_meet
        case rel => exact hb01
    case rest =>
      have hbd := hcut
      clear hcut HVC f0 f1 f2 f3 f4 f5 hb01 hb1 hbc
      obtain ⟨f0, f1, f2, f3, f4, f5⟩ := fields6 hbd
      have hBd := hB0.below hbd
      go_wp2_with fail
      refine (pack_any a cap _ l (by omega) hBd hs).mono ?_
      rintro e w1 ⟨vp, rfl, hownp, hbp⟩
      have hwlen := Larder.packL_length l
      have hws : WSmall (Larder.packL l) := by
        intro i hi
        rw [Larder.packL_get _ _ (by omega)]; exact Larder.wordAt_lt (Larder.small_mem hs) i
      have HU := hide (fun n i h1 h2 => Larder.unpack_pack (l := l) hs n i h1 h2)
      obtain ⟨ws, hwsd⟩ : ∃ ws, ws = Larder.packL l := ⟨_, rfl⟩
      rw [← hwsd] at hwlen hws hownp HU
      obtain ⟨a1, cap1, rfl, hW1⟩ := hownp.shape
      have hw1 : l.length ≤ 8 * ws.length := by rw [hwlen]; unfold Larder.wn; omega
      have hw2 : 8 * ws.length < l.length + 8 := by rw [hwlen]; unfold Larder.wn; omega
      have hwords : Calls Try.prog 18 #[.int .i64 l.length] w1 fun e w' => e = .returned (.int .i64 (ws.length : Int)) ∧ w' = w1 := by
        have := words_any l.length w1 (by omega) (by omega)
        have e : wordsI (l.length : Int) = (ws.length : Int) := by unfold wordsI; split <;> omega
        rw [e] at this; exact this
      have HWD := hide hwords
      have hU : ∀ i, i < 8 * ws.length → (Larder.unpackL ws (8 * ws.length)).getD i 0 = l.getD i 0 := fun i hi => unhide HU _ i hi (by rw [hwlen]; exact Nat.le_refl _)
      have HU2 := hide hU
      have hb01 := chain hbd hbp hbd.size
      clear hwsd hwlen hwords hU HU f0 f1 f2 f3 f4 f5
      obtain ⟨f0, f1, f2, f3, f4, f5⟩ := fields6 hb01
      have hBl1 := hBd.below hbp
      go_wp2_with fail
      refine (unhide HWD).mono ?_
      rintro e w' ⟨rfl, hw'⟩
      obtain rfl := hw'.symm
      have hcall := unpack_yes a1 cap1 (8 * ws.length) w1 ws (by omega) (by unfold Larder.wn; omega) hW1 hws
      have e8 : ((8 * ws.length : Nat) : Int) = 8 * (ws.length : Int) := by omega
      rw [e8] at hcall
      have HC := hide hcall
      clear hcall e8
      go_wp2_with fail
      refine (unhide HC).mono ?_
      rintro e w2 ⟨v2, rfl, hown2, hb2⟩
      obtain ⟨al, hal⟩ : ∃ al, al = Larder.unpackL ws (8 * ws.length) := ⟨_, rfl⟩
      rw [← hal] at hown2
      have hals : Small al := by rw [hal]; exact Larder.unpackL_small _ _
      have hall : al.length = 8 * ws.length := by rw [hal]; exact Larder.unpackL_length _ _
      have hU : ∀ i, i < al.length → al.getD i 0 = l.getD i 0 := by rw [hall, hal]; exact unhide HU2
      have HAL := hide hal
      obtain ⟨a2, cap2, rfl, hBal2, hn2⟩ := hown2.shape
      have hb02 := chain hb01 hb2 hb01.size
      have hW2 := hW1.below hb2
      have ha1 : al.length ≤ 8 * ws.length := by omega
      have ha2 : 8 * ws.length ≤ al.length := by omega
      have hcapal : al.length ≤ cap2 := own_cap hown2
      clear hal hall HU2 f0 f1 f2 f3 f4 f5 hownp hown2
      obtain ⟨g0, g1, g2, g3, g4, g5⟩ := fields6 hb02
      have HUL := hide hU
      clear hU
      have hal0 : al.length ≤ 0 := by omega
      cases a2 with
      | none =>
        obtain rfl := hn2 rfl
        go_wp2_with (first | (go_at_call 15; refine (num_any _ _).mono ?_; rintro e w' ⟨rfl, hw'⟩; obtain rfl := hw'.symm))
        go_loop [19] (fun i => i = .int .i64 0) (fun _ => 0)
        case atStart => exact rfl
        case round =>
          obtain rfl := hrel
          by_cases hN : N = 0
          · subst hN
            have hcall := unpack_yes a1 cap1 0 w2 ws (by omega) (by simp [Larder.wn]) hW2 hws
            rw [show ((0 : Nat) : Int) = 0 from rfl] at hcall
            have HC := hide hcall
            clear hcall
            go_wp2_with fail
            refine (unhide HC).mono ?_
            rintro e w4 ⟨v4, rfl, hown4, hb4⟩
            have hbl : Larder.unpackL ws 0 = [] := rfl
            rw [hbl] at hown4
            obtain ⟨a4, cap4, rfl, hB4, hn4⟩ := hown4.shape
            have hb04 := chain hb02 hb4 hb02.size
            obtain ⟨p0, p1, p2, p3, p4, p5⟩ := fields6 hb04
            have hsame := same_any a4 none cap4 0 w4 [] [] hB4 (.inl rfl) (fun i hi => absurd hi (Nat.not_lt_zero _)) (fun i hi => absurd hi (Nat.not_lt_zero _))
            simp only [List.length_nil, decide_true] at hsame
            simp only [List.length_nil]
            have HSM := hide hsame
            clear hsame hbl
            go_wp2_with (first | (go_at_call 15; refine (num_any _ _).mono ?_; rintro e w' ⟨rfl, hw'⟩; obtain rfl := hw'.symm) | (go_at_call 12; go_must (refine (unhide HSM).mono ?_); rintro e w' ⟨rfl, hw'⟩; obtain rfl := hw'.symm))
            go_ret
            exact ⟨rfl, chain hb0 hb04 hb0.size⟩
          · have hcall := unpack_no a1 cap1 ws.length N w2 hN1 hN2 (by unfold wordsI; split <;> omega)
            have HC := hide hcall
            have hNo : N < 0 ∨ (al.length : Int) < N := by omega
            clear hcall hN
            go_wp2_with fail
            refine (unhide HC).mono ?_
            rintro e w' ⟨rfl, hw'⟩
            obtain rfl := hw'.symm
            rcases hNo with hNo | hNo
            · go_wp2_with (first | (go_at_call 15; refine (num_any _ _).mono ?_; rintro e w' ⟨rfl, hw'⟩; obtain rfl := hw'.symm))
              go_ret
              exact ⟨rfl, chain hb0 hb02 hb0.size⟩
            · have hNn : ¬ N < 0 := by omega
              go_wp2_with (first | (go_at_call 15; refine (num_any _ _).mono ?_; rintro e w' ⟨rfl, hw'⟩; obtain rfl := hw'.symm))
              go_ret
              exact ⟨rfl, chain hb0 hb02 hb0.size⟩
      | some y =>
        obtain ⟨ya, yb, yc⟩ := y
        go_wp2_with (first | (go_at_call 15; refine (num_any _ _).mono ?_; rintro e w' ⟨rfl, hw'⟩; obtain rfl := hw'.symm))
        go_loop [19] (fun i => i = .int .i64 0) (fun _ => 0)
        case atStart => exact rfl
        case round =>
          obtain rfl := hrel
          by_cases hN : N = 0
          · subst hN
            have hcall := unpack_yes a1 cap1 0 w2 ws (by omega) (by simp [Larder.wn]) hW2 hws
            rw [show ((0 : Nat) : Int) = 0 from rfl] at hcall
            have HC := hide hcall
            clear hcall
            go_wp2_with fail
            refine (unhide HC).mono ?_
            rintro e w4 ⟨v4, rfl, hown4, hb4⟩
            have hbl : Larder.unpackL ws 0 = [] := rfl
            rw [hbl] at hown4
            obtain ⟨a4, cap4, rfl, hB4, hn4⟩ := hown4.shape
            have hb04 := chain hb02 hb4 hb02.size
            obtain ⟨p0, p1, p2, p3, p4, p5⟩ := fields6 hb04
            have hsame := same_any a4 (some ⟨ya, yb, yc⟩) cap4 cap2 w4 [] [] hB4 (.inl rfl) (fun i hi => absurd hi (Nat.not_lt_zero _)) (fun i hi => absurd hi (Nat.not_lt_zero _))
            simp only [List.length_nil, decide_true] at hsame
            simp only [List.length_nil]
            have HSM := hide hsame
            clear hsame hbl
            go_wp2_with (first | (go_at_call 15; refine (num_any _ _).mono ?_; rintro e w' ⟨rfl, hw'⟩; obtain rfl := hw'.symm) | (go_at_call 12; go_must (refine (unhide HSM).mono ?_); rintro e w' ⟨rfl, hw'⟩; obtain rfl := hw'.symm))
            go_ret
            exact ⟨rfl, chain hb0 hb04 hb0.size⟩
          · have hcall := unpack_no a1 cap1 ws.length N w2 hN1 hN2 (by unfold wordsI; split <;> omega)
            have HC := hide hcall
            have hNo : N < 0 ∨ (al.length : Int) < N := by omega
            clear hcall hN
            go_wp2_with fail
            refine (unhide HC).mono ?_
            rintro e w' ⟨rfl, hw'⟩
            obtain rfl := hw'.symm
            rcases hNo with hNo | hNo
            · go_wp2_with (first | (go_at_call 15; refine (num_any _ _).mono ?_; rintro e w' ⟨rfl, hw'⟩; obtain rfl := hw'.symm))
              go_ret
              exact ⟨rfl, chain hb0 hb02 hb0.size⟩
            · have hNn : ¬ N < 0 := by omega
              go_wp2_with (first | (go_at_call 15; refine (num_any _ _).mono ?_; rintro e w' ⟨rfl, hw'⟩; obtain rfl := hw'.symm))
              go_ret
              exact ⟨rfl, chain hb0 hb02 hb0.size⟩
end Go.Proofs.Ytochdajeocganaa.WordTurns
