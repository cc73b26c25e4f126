/- WordTurns where there are bytes. -/
import Derived.Test.YtochdajeocganaaTurnsA
namespace Go.Proofs.Ytochdajeocganaa.WordTurns
open Go.ChangeShapes Go.WideShapes Go.ChangeAt Go.RowKit Go.Joins
set_option linter.unusedVariables false

set_option maxRecDepth 100000 in
set_option maxHeartbeats 4000000 in
theorem law_some (b off cap : Nat) (w : World) (l : List Nat) (hlpos : 0 < l.length) (hblt : b < w.heap.size) (hcl : ∀ i, i < l.length → w.cell? ⟨b, off + i, none⟩ = some (.int .u8 (l.getD i 0 : Nat))) (K R S : Int) (x : Nat) (N : Int) (hx : x < 18446744073709551616) (hN1 : -9223372036854775808 ≤ N) (hN2 : N ≤ 9223372036854775807) (hl : l.length ≤ 140737488351232) (hs : Small l) :
    Calls Try.prog 5 #[.agg #[.int .i64 K, .int .i64 R, .int .i64 S, .int .u64 x, .slice (some ⟨b, off, none⟩) l.length cap, .int .i64 N]] w fun e w' => e = .returned (.bool true) ∧ Below w.heap.size w w' := by
  have hb0 : Below w.heap.size w (w.alloc (.cells #[.int .i64 K, .int .i64 R, .int .i64 S, .int .u64 x, .slice (some ⟨b, off, none⟩) l.length cap, .int .i64 N] 36)) := (Below.refl _ _).alloc (Nat.le_refl _) _
  have hB : Bytes w (some ⟨b, off, none⟩) l := .inr ⟨b, off, rfl, hblt, hcl⟩
  have HCL := hide hcl
  clear hcl
  have hB0 := hB.below hb0
  go_enter Try.func5, Try.ntmps5
  go_wp2_with fail
  refine (head_yes 1 2 3 _ ⟨by omega, by omega, by omega, by omega, by omega, by omega⟩).mono ?_
  rintro e w' ⟨rfl, hw'⟩
  obtain rfl := hw'.symm
  go_wp2_with (first | (go_at_call 15; refine (num_any _ _).mono ?_; rintro e w' ⟨rfl, hw'⟩; obtain rfl := hw'.symm))
  refine (head_any K R S _).mono ?_
  rintro e w' ⟨hw', v, c, rfl, hvc⟩
  obtain rfl := hw'.symm
  have HVC := hide hvc
  clear hvc
  go_upto_if 45 with (first | (go_at_call 15; refine (num_any _ _).mono ?_; rintro e w' ⟨rfl, hw'⟩; obtain rfl := hw'.symm))
  go_cut [] (fun wc => Below (w.alloc (.cells #[.int .i64 K, .int .i64 R, .int .i64 S, .int .u64 x, .slice (some ⟨b, off, none⟩) l.length cap, .int .i64 N] 36)).heap.size (w.alloc (.cells #[.int .i64 K, .int .i64 R, .int .i64 S, .int .u64 x, .slice (some ⟨b, off, none⟩) l.length cap, .int .i64 N] 36)) wc)
  case first =>
    rcases unhide HVC with ⟨rfl, hf, rfl⟩ | rfl
    · go_wp2_with fail
      refine (split_back K R S _ hf).mono ?_
      rintro e w1 ⟨hb1, rfl⟩
      obtain ⟨f0, f1, f2, f3, f4, f5⟩ := fields6 hb1
      go_wp2_with (first | (go_at_call 15; refine (num_any _ _).mono ?_; rintro e w' ⟨rfl, hw'⟩; obtain rfl := hw'.symm))
      go_meet
      case rel => exact hb1
    · go_wp2
      go_meet
      case rel => exact Below.refl _ _
  case rest =>
    have hbc := hcut
    clear hcut HVC
    obtain ⟨f0, f1, f2, f3, f4, f5⟩ := fields6 hbc
    go_wp2_with fail
    refine (split_two x wc hx).mono ?_
    rintro e w1 ⟨hb1, k, r, s, c, rfl, hvc⟩
    have HVC := hide hvc
    have hb01 := chain hbc hb1 hbc.size
    clear hvc f0 f1 f2 f3 f4 f5
    obtain ⟨f0, f1, f2, f3, f4, f5⟩ := fields6 hb01
    go_upto_if 84 with (first | (go_at_call 15; refine (num_any _ _).mono ?_; rintro e w' ⟨rfl, hw'⟩; obtain rfl := hw'.symm))
    go_cut [] (fun wd => Below (w.alloc (.cells #[.int .i64 K, .int .i64 R, .int .i64 S, .int .u64 x, .slice (some ⟨b, off, none⟩) l.length cap, .int .i64 N] 36)).heap.size (w.alloc (.cells #[.int .i64 K, .int .i64 R, .int .i64 S, .int .u64 x, .slice (some ⟨b, off, none⟩) l.length cap, .int .i64 N] 36)) wd)
    case first =>
      rcases unhide HVC with ⟨rfl, hf, he⟩ | rfl
      · go_wp2_with fail
        refine (head_yes k r s w1 hf).mono ?_
        rintro e w' ⟨rfl, hw'⟩
        obtain rfl := hw'.symm
        rw [he]
        go_wp2_with (first | (go_at_call 15; refine (num_any _ _).mono ?_; rintro e w' ⟨rfl, hw'⟩; obtain rfl := hw'.symm))
        go_meet
        case rel => exact hb01
      · go_wp2
        go_meet
        case rel => exact hb01
    case rest =>
      have hbd := hcut
      clear hcut HVC f0 f1 f2 f3 f4 f5 hb01 hb1 hbc
      obtain ⟨f0, f1, f2, f3, f4, f5⟩ := fields6 hbd
      have hBd := hB0.below hbd
      go_wp2_with fail
      refine (pack_any (some ⟨b, off, none⟩) cap _ l (by omega) hBd hs).mono ?_
      rintro e w1 ⟨vp, rfl, hownp, hbp⟩
      have hwlen := Larder.packL_length l
      have hws : WSmall (Larder.packL l) := by
        intro i hi
        rw [Larder.packL_get _ _ (by omega)]; exact Larder.wordAt_lt (Larder.small_mem hs) i
      have HU := hide (fun n i h1 h2 => Larder.unpack_pack (l := l) hs n i h1 h2)
      obtain ⟨ws, hwsd⟩ : ∃ ws, ws = Larder.packL l := ⟨_, rfl⟩
      rw [← hwsd] at hwlen hws hownp HU
      obtain ⟨a1, cap1, rfl, hW1⟩ := hownp.shape
      have hw1 : l.length ≤ 8 * ws.length := by rw [hwlen]; unfold Larder.wn; omega
      have hw2 : 8 * ws.length < l.length + 8 := by rw [hwlen]; unfold Larder.wn; omega
      have hwords : Calls Try.prog 18 #[.int .i64 l.length] w1 fun e w' => e = .returned (.int .i64 (ws.length : Int)) ∧ w' = w1 := by
        have := words_any l.length w1 (by omega) (by omega)
        have e : wordsI (l.length : Int) = (ws.length : Int) := by unfold wordsI; split <;> omega
        rw [e] at this; exact this
      have HWD := hide hwords
      have hU : ∀ i, i < 8 * ws.length → (Larder.unpackL ws (8 * ws.length)).getD i 0 = l.getD i 0 := fun i hi => unhide HU _ i hi (by rw [hwlen]; exact Nat.le_refl _)
      have HU2 := hide hU
      have hb01 := chain hbd hbp hbd.size
      clear hwsd hwlen hwords hU HU f0 f1 f2 f3 f4 f5
      obtain ⟨f0, f1, f2, f3, f4, f5⟩ := fields6 hb01
      have hBl1 := hBd.below hbp
      go_wp2_with fail
      refine (unhide HWD).mono ?_
      rintro e w' ⟨rfl, hw'⟩
      obtain rfl := hw'.symm
      have hcall := unpack_yes a1 cap1 (8 * ws.length) w1 ws (by omega) (by unfold Larder.wn; omega) hW1 hws
      have e8 : ((8 * ws.length : Nat) : Int) = 8 * (ws.length : Int) := by omega
      rw [e8] at hcall
      have HC := hide hcall
      clear hcall e8
      go_wp2_with fail
      refine (unhide HC).mono ?_
      rintro e w2 ⟨v2, rfl, hown2, hb2⟩
      obtain ⟨al, hal⟩ : ∃ al, al = Larder.unpackL ws (8 * ws.length) := ⟨_, rfl⟩
      rw [← hal] at hown2
      have hals : Small al := by rw [hal]; exact Larder.unpackL_small _ _
      have hall : al.length = 8 * ws.length := by rw [hal]; exact Larder.unpackL_length _ _
      have hU : ∀ i, i < al.length → al.getD i 0 = l.getD i 0 := by rw [hall, hal]; exact unhide HU2
      have HAL := hide hal
      obtain ⟨a2, cap2, rfl, hBal2, hn2⟩ := hown2.shape
      have hb02 := chain hb01 hb2 hb01.size
      have hW2 := hW1.below hb2
      have ha1 : al.length ≤ 8 * ws.length := by omega
      have ha2 : 8 * ws.length ≤ al.length := by omega
      have hcapal : al.length ≤ cap2 := own_cap hown2
      clear hal hall HU2 f0 f1 f2 f3 f4 f5 hownp hown2
      obtain ⟨g0, g1, g2, g3, g4, g5⟩ := fields6 hb02
      have HUL := hide hU
      clear hU
      rcases hBal2 with hal0 | ⟨b2, o2, rfl, hblt2, hc2⟩
      · exfalso; rw [hal0] at ha2; simp at ha2; omega
      · have hBal2 : Bytes w2 (some ⟨b2, o2, none⟩) al := .inr ⟨b2, o2, rfl, hblt2, hc2⟩
        have hT : ∀ i, i < l.length → w2.cell? ⟨b, off + i, none⟩ = some (.int .u8 (l.getD i 0 : Nat)) := by
          intro i hi
          have hlt : b < (w.alloc (.cells #[.int .i64 K, .int .i64 R, .int .i64 S, .int .u64 x, .slice (some ⟨b, off, none⟩) l.length cap, .int .i64 N] 36)).heap.size := Nat.lt_of_lt_of_le hblt hb0.size
          rw [hb02.cell (p := ⟨b, off + i, none⟩) hlt, hb0.cell (p := ⟨b, off + i, none⟩) hblt]
          exact unhide HCL i hi
        have HT := hide hT
        have HC2 := hide hc2
        clear hT hc2
        go_wp2_with (first | (go_at_call 15; refine (num_any _ _).mono ?_; rintro e w' ⟨rfl, hw'⟩; obtain rfl := hw'.symm))
        go_loop [19] (fun i => ∃ k : Nat, k ≤ al.length ∧ i = .int .i64 k) (fun i => al.length - (intOf i).toNat)
        case atStart => exact ⟨0, by omega, rfl⟩
        case round =>
          obtain ⟨k, hk, rfl⟩ := hrel
          by_cases hlt : k < al.length
          · have hck := unhide HC2 k hlt
            rw [unhide HUL k hlt] at hck
            by_cases hlt2 : k < l.length
            · have hct := unhide HT k hlt2
              generalize l.getD k 0 = ch at hck hct
              go_wp2
              go_round
              case rel => exact ⟨k + 1, by omega, by go_num⟩
              case measure => simp [intOf]; omega
            · have h00 : l.getD k 0 = 0 := by rw [List.getD_eq_getElem?_getD, List.getElem?_eq_none (by omega)]; rfl
              rw [h00] at hck
              clear h00
              go_wp2
              go_round
              case rel => exact ⟨k + 1, by omega, by go_num⟩
              case measure => simp [intOf]; omega
          · have hk2 : ¬ k < al.length := hlt
            clear hlt
            by_cases hN : 0 ≤ N ∧ N ≤ (al.length : Int)
            · obtain ⟨n, hn⟩ := Int.eq_ofNat_of_zero_le hN.1
              have hnal : n ≤ al.length := by omega
              have hcall := unpack_yes a1 cap1 n w2 ws (by omega) (by unfold Larder.wn; omega) hW2 hws
              rw [← hn] at hcall
              have HC := hide hcall
              have HNN := hide hn
              clear hcall hn
              have hN0 : 0 ≤ N := hN.1
              have hNl : N ≤ (al.length : Int) := hN.2
              clear hN
              go_wp2_with fail
              refine (unhide HC).mono ?_
              rintro e w4 ⟨v4, rfl, hown4, hb4⟩
              have hbl : Larder.unpackL ws n = al.take n := by rw [unhide HAL, ← unpack_take _ _ _ (by omega)]
              rw [hbl] at hown4
              obtain ⟨a4, cap4, rfl, hB4, hn4⟩ := hown4.shape
              have hb04 := chain hb02 hb4 hb02.size
              obtain ⟨p0, p1, p2, p3, p4, p5⟩ := fields6 hb04
              have hBa4 := hBal2.below hb4
              have htl : (al.take n).length = n := by rw [List.length_take]; omega
              have hsame := same_any a4 (some ⟨b2, o2, none⟩) cap4 cap2 w4 (al.take n) (al.take n) hB4 (bytes_take hBa4 n) (small_take hals n) (small_take hals n)
              rw [htl] at hsame
              simp only [decide_true] at hsame
              rw [htl]
              have HSM := hide hsame
              have hncap : n ≤ cap2 := by omega
              clear hsame hbl htl g0 g1 g2 g3 g4 g5
              have hn := unhide HNN
              subst hn
              go_wp2_with (first | (go_at_call 15; refine (num_any _ _).mono ?_; rintro e w' ⟨rfl, hw'⟩; obtain rfl := hw'.symm) | (go_at_call 12; refine (unhide HSM).mono ?_; rintro e w' ⟨rfl, hw'⟩; obtain rfl := hw'.symm))
              go_ret
              exact ⟨rfl, chain hb0 hb04 hb0.size⟩
            · have hcall := unpack_no a1 cap1 ws.length N w2 hN1 hN2 (by unfold wordsI; split <;> omega)
              have HC := hide hcall
              have hNo : N < 0 ∨ (al.length : Int) < N := by omega
              clear hcall hN
              go_wp2_with fail
              refine (unhide HC).mono ?_
              rintro e w' ⟨rfl, hw'⟩
              obtain rfl := hw'.symm
              rcases hNo with hNo | hNo
              · go_wp2_with (first | (go_at_call 15; refine (num_any _ _).mono ?_; rintro e w' ⟨rfl, hw'⟩; obtain rfl := hw'.symm))
                go_ret
                exact ⟨rfl, chain hb0 hb02 hb0.size⟩
              · have hNn : ¬ N < 0 := by omega
                go_wp2_with (first | (go_at_call 15; refine (num_any _ _).mono ?_; rintro e w' ⟨rfl, hw'⟩; obtain rfl := hw'.symm))
                go_ret
                exact ⟨rfl, chain hb0 hb02 hb0.size⟩
end Go.Proofs.Ytochdajeocganaa.WordTurns
