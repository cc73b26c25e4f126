/- rowBytes. -/
import Derived.Test.YtdgdnpgjbphgaaaSetBytes
import Derived.Test.YtdgdnpgjbphgaaaLists
namespace Go.Proofs.Ytdgdnpgjbphgaaa
open Go.ChangeShapes Go.WideShapes Go.ChangeAt Go.RowKit
set_option linter.unusedVariables false
set_option maxRecDepth 100000
set_option maxHeartbeats 2000000

theorem div_step (x j : Nat) : x / 2 ^ (8 * (j + 1)) * 256 + x / 2 ^ (8 * j) % 256 = x / 2 ^ (8 * j) := by
  have e : 2 ^ (8 * (j + 1)) = 2 ^ (8 * j) * 256 := by rw [Nat.mul_add, Nat.pow_add]
  rw [e, ← Nat.div_div_eq_div_mul]
  omega
theorem or_above (y c : Nat) (hy : y < 72057594037927936) (hc : c < 256) : bits BinOp.or IntKind.u64 ((y : Int) * 256) (IntKind.u64.wrap (c : Int)) = ((y * 256 + c : Nat) : Int) := by
  have e : IntKind.u64.wrap (c : Int) = (c : Int) := by rw [IntKind.wrap_u64]; omega
  have e2 : (y : Int) * 256 = ((y * 256 : Nat) : Int) := by omega
  rw [e, e2, u64_or_nat (y * 256) c (by omega) (by omega)]
  have : y * 256 ||| c = y * 256 + c := nat_join 8 _ _ (Nat.mul_mod_left _ _) hc
  rw [this]
theorem raw_is {ws l : List Nat} {b0 T : Nat} (hl : l.length = T) (hag : ∀ q, q < T → rawByte ws b0 q = l.getD q 0) (c n : Nat) (hn : c + n ≤ T) : rawBytes ws b0 c n = (l.drop c).take n := by
  apply List.ext_getElem?
  intro i
  by_cases hi : i < n
  · unfold rawBytes
    rw [List.getElem?_map, List.getElem?_range hi, List.getElem?_take, if_pos hi, List.getElem?_drop, List.getElem?_eq_getElem (by omega)]
    have := hag (c + i) (by omega)
    rw [List.getD_eq_getElem?_getD, List.getElem?_eq_getElem (by omega)] at this
    exact congrArg some this
  · rw [List.getElem?_eq_none (by rw [rawBytes_length]; omega), List.getElem?_eq_none (by rw [List.length_take]; omega)]

theorem rowbytes_any {p bw bh : Nat} {ws : List Nat} {hs : List Bool} {used : Nat} (k c g kd r s T : Nat) (l : List Nat) (w : World) (h : Ar w p bw bh ws hs used) (hh : Heads ws hs used) (hob : objRes ws hs used k = (kd, r, s, 0)) (hs0 : 0 < s) (hfit : k + 1 + r + s ≤ used) (hT : T = 8 * s) (hl : l.length = T) (hc : c ≤ T) (hgl : g < w.heap.size)
    (hcell : ∀ i, i < T → w.cell? ⟨g, i, none⟩ = some (.int .u8 (l.getD i 0 : Nat))) (hag : ∀ q, q < T → rawByte ws (k + 1 + r) q = l.getD q 0) :
    Calls Try.prog 20 #[.pointer (some ⟨p, 0, none⟩), .int .i64 k, .int .i64 r, .slice (some ⟨g, 0, none⟩) T T, .int .i64 c] w fun e w' => e = .returned (.bool true) ∧ Below w.heap.size w w' := by
  have hsm : Small l := fun i hi => by rw [← hag i (by omega)]; unfold rawByte; exact Nat.mod_lt _ (by decide)
  have HBY : Hid (∀ c n w', c + n ≤ T → Below w.heap.size w w' → Calls Try.prog 44 #[.pointer (some ⟨p, 0, none⟩), .int .i64 k, .int .i64 (c : Nat), .int .i64 (n : Nat)] w' fun e w'' => ∃ a cap, e = .returned (.tuple #[.slice a n cap, .int .i64 0]) ∧ Bytes w'' a ((l.drop c).take n) ∧ Below w'.heap.size w' w'') := hide (fun c n w' hn hb => by
    refine (bytes_yes k c n w' (h.below hb) hh (by rw [hob]) (by rw [hob]; dsimp only; omega)).mono ?_
    rintro e w'' ⟨a, cap, rfl, hB, _, _, hb2⟩
    rw [hob, raw_is hl hag c n hn] at hB
    exact ⟨a, cap, rfl, hB, hb2⟩)
  have HSA : Hid (∀ (a : Option Addr) (cap cap' off c n : Nat) (w' : World), c + n ≤ T → (0 < n → off = c) → Below w.heap.size w w' → Bytes w' a ((l.drop c).take n) → Calls Try.prog 45 #[.slice a n cap, .slice (some ⟨g, off, none⟩) n cap'] w' fun e w'' => e = .returned (.bool true) ∧ w'' = w') := hide (fun a cap cap' off c n w' hn ho hb hB => by
    have hln : ((l.drop c).take n).length = n := by rw [List.length_take, List.length_drop]; omega
    have hat : ∀ i, i < n → ((l.drop c).take n).getD i 0 = l.getD (c + i) 0 := fun i hi => by
      rw [List.getD_eq_getElem?_getD, List.getElem?_take, if_pos hi, List.getElem?_drop, List.getD_eq_getElem?_getD]
    have hsm2 : Small ((l.drop c).take n) := fun i hi => by rw [hln] at hi; rw [hat i hi]; exact hsm _ (by omega)
    have hB2 : Bytes w' (some ⟨g, off, none⟩) ((l.drop c).take n) := by
      by_cases h0 : n = 0
      · left; subst h0; simp
      · right
        have := ho (by omega)
        subst this
        refine ⟨g, off, rfl, Nat.lt_of_lt_of_le hgl hb.size, fun i hi => ?_⟩
        rw [hln] at hi
        rw [hb.cell (p := ⟨g, off + i, none⟩) hgl, hat i hi]
        exact hcell _ (by omega)
    have h3 := same_any a (some ⟨g, off, none⟩) cap cap' w' _ _ hB hB2 hsm2 hsm2
    rw [hln, decide_eq_true rfl] at h3
    exact h3)
  have HGT : Hid (∀ j w', j < s → Below w.heap.size w w' → Calls Try.prog 15 #[.pointer (some ⟨p, 0, none⟩), .int .i64 k, .int .i64 ((r : Int) + j)] w' fun e w'' => e = .returned (.tuple #[.int .u64 (ws.getD (k + 1 + r + j) 0 : Nat), .int .i64 0]) ∧ Below w'.heap.size w' w'') := hide (fun j w' hj hb => by
    have h1 := get_yes k (r + j) w' (h.below hb) hh (by rw [hob]) (by rw [hob]; dsimp only; omega)
    rw [show k + 1 + (r + j) = k + 1 + r + j by omega, show ((r + j : Nat) : Int) = (r : Int) + j from by omega] at h1
    exact h1)
  have HCE : Hid (∀ j n w', j < s → n < 8 → Below w.heap.size w w' → w'.cell? ⟨g, 8 * j + n, none⟩ = some (.int .u8 (ws.getD (k + 1 + r + j) 0 / 2 ^ (8 * n) % 256 : Nat))) := hide (fun j n w' hj hn hb => by
    rw [hb.cell (p := ⟨g, 8 * j + n, none⟩) hgl, hcell (8 * j + n) (by omega), ← hag (8 * j + n) (by omega)]
    unfold rawByte
    rw [show (8 * j + n) / 8 = j by omega, show (8 * j + n) % 8 = n by omega])
  have HWS : Hid (∀ j, j < s → ws.getD (k + 1 + r + j) 0 < 18446744073709551616) := hide (fun j hj => h.small _ (by have := h.u2; omega))
  have hs2 : s ≤ 1048576 := by have := h.u2; have := h.sz; omega
  have hr2 : r ≤ 1048576 := by have := h.u2; have := h.sz; omega
  by_cases hcT : c = T
  · subst c
    have HB1 := hide (unhide HBY 0 T w (by omega) (Below.refl _ _))
    have HB2 := hide (fun w' hb => unhide HBY 0 T w' (by omega) hb)
    have HB3 := hide (fun w' hb => unhide HBY T 0 w' (by omega) hb)
    have hT24 : T ≤ 8388608 := by omega
    have HT := hide hT
    clear h hh hob hsm hcell hag hl HBY hT
    go_enter Try.func20, Try.ntmps20
    go_wp2_with fail
    refine (unhide HB1).mono ?_
    rintro e w1 ⟨a1, c1, rfl, hB1, hb1⟩
    have HC := hide (unhide HB2 w1 hb1)
    have HX1 := hide hB1
    have HY1 := hide hb1
    clear hB1 hb1
    go_wp2_with fail
    refine (unhide HC).mono ?_
    rintro e w2 ⟨a2, c2, rfl, hB2, hb2⟩
    have hb2' := (unhide HY1).trans (hb2.mono (unhide HY1).size)
    have HC := hide (unhide HB3 w2 hb2')
    have HX2 := hide hB2
    have HX1' := hide ((unhide HX1).below hb2)
    have HY2 := hide hb2'
    clear hB2 hb2 hb2' HX1 HY1
    go_wp2_with fail
    refine (unhide HC).mono ?_
    rintro e w3 ⟨a3, c3, rfl, hB3, hb3⟩
    have hb3' := (unhide HY2).trans (hb3.mono (unhide HY2).size)
    have HS1 := hide (fun cap' => unhide HSA a1 c1 cap' 0 0 T w3 (by omega) (fun _ => rfl) hb3' ((unhide HX1').below hb3))
    have HS2 := hide (fun cap' => unhide HSA a2 c2 cap' 0 0 T w3 (by omega) (fun _ => rfl) hb3' ((unhide HX2).below hb3))
    have HS3 := hide (fun cap' off ho => unhide HSA a3 c3 cap' off T 0 w3 (by omega) ho hb3' hB3)
    have HY3 := hide hb3'
    clear hB3 hb3 hb3' HX1' HX2 HY2 HC HSA
    go_wp2_with (go_at_call 13; refine (num_any _ _).mono ?_; rintro e w' ⟨rfl, hw'⟩; obtain rfl := hw'.symm)
    refine (unhide HS1 _).mono ?_
    rintro e w' ⟨rfl, hw'⟩
    obtain rfl := hw'.symm
    go_wp2_with fail
    refine (unhide HS2 _).mono ?_
    rintro e w' ⟨rfl, hw'⟩
    obtain rfl := hw'.symm
    go_wp2_with fail
    refine (unhide HS3 _ _ (fun h => absurd h (by omega))).mono ?_
    rintro e w' ⟨rfl, hw'⟩
    obtain rfl := hw'.symm
    clear HS1 HS2 HS3 HB1 HB2 HB3
    go_wp2_with fail
    go_loopw [17] (fun i wr => ∃ j : Nat, j ≤ s ∧ i = .int .i64 j ∧ Below w.heap.size w wr) (fun i _ => s - (intOf i).toNat)
    case atStart => exact ⟨0, by omega, rfl, unhide HY3⟩
    case round =>
      obtain ⟨j, hj, rfl, hbr⟩ := hrel
      by_cases hlt : j < s
      · have f1 : decide (8 * (j : Int) < (T : Int)) = true := decide_eq_true (by have := unhide HT; omega)
        have f2 : decide (8 * j < T) = true := decide_eq_true (by have := unhide HT; omega)
        have HG := hide (unhide HGT j wr hlt hbr)
        have HCC := hide (fun n w' hn hb => unhide HCE j n w' hlt hn hb)
        have hx := unhide HWS j hlt
        generalize ws.getD (k + 1 + r + j) 0 = x at *
        have HBR := hide hbr
        clear hbr
        go_wp2_with fail
        refine (unhide HG).mono ?_
        rintro e w4 ⟨rfl, hb4⟩
        have hb4' := (unhide HBR).trans (hb4.mono (unhide HBR).size)
        have HB4 := hide hb4'
        have HC4 := hide (fun n hn => unhide HCC n w4 hn hb4')
        clear hb4 hb4'
        go_wp2_with fail
        go_loopw [20, 21] (fun v i wz => ∃ n : Nat, n ≤ 8 ∧ i = .int .i64 ((n : Int) - 1) ∧ v = .int .u64 (x / 2 ^ (8 * n) : Nat) ∧ wz = w4) (fun _ i _ => (intOf i + 1).toNat)
        case atStart => exact ⟨8, by omega, rfl, by rw [Nat.div_eq_of_lt (by simpa using hx)]; rfl, rfl⟩
        case round =>
          obtain ⟨n, hn, rfl, rfl, hwz⟩ := hrel
          obtain rfl := hwz.symm
          cases n with
          | zero =>
            have e0 : x / 2 ^ (8 * 0) = x := by simp
            rw [e0]
            have e1 : decide ((0 : Int) ≤ ((0 : Nat) : Int) - 1) = false := by decide
            go_wp2_with (go_at_call 13; refine (num_any _ _).mono ?_; rintro e w' ⟨rfl, hw'⟩; obtain rfl := hw'.symm)
            go_roundw
            case rel => exact ⟨j + 1, by omega, by go_num, unhide HB4⟩
            case measure => simp [intOf]; omega
          | succ n =>
            have hcc := unhide HC4 n (by omega)
            have hy : x / 2 ^ (8 * (n + 1)) < 72057594037927936 := by
              have h1 : (256 : Nat) ≤ 2 ^ (8 * (n + 1)) := Nat.pow_le_pow_right (n := 2) (i := 8) (by omega) (by omega)
              rw [Nat.div_lt_iff_lt_mul (by omega)]
              have := Nat.mul_le_mul_left 72057594037927936 h1
              omega
            have HOR := hide (or_above (x / 2 ^ (8 * (n + 1))) (x / 2 ^ (8 * n) % 256) hy (Nat.mod_lt _ (by decide)))
            have HST := hide (div_step x n)
            generalize x / 2 ^ (8 * (n + 1)) = y at *
            generalize x / 2 ^ (8 * n) % 256 = cb at *
            have e1 : decide ((0 : Int) ≤ ((n + 1 : Nat) : Int) - 1) = true := decide_eq_true (by omega)
            rw [show ((n + 1 : Nat) : Int) - 1 = (n : Int) by omega] at e1 ⊢
            have z0 : (0 : Int) ≤ 8 * (j : Int) + n := by omega
            have z1 : 8 * (j : Int) + n < (T : Int) := by have := unhide HT; omega
            go_wp2_with fail
            go_roundw
            case rel =>
              refine ⟨n, by omega, rfl, ?_, trivial⟩
              rw [← unhide HST, ← unhide HOR]
            case measure => simp [intOf]
      · have f1 : decide (8 * (j : Int) < (T : Int)) = false := decide_eq_false (by have := unhide HT; omega)
        have f2 : decide (8 * j < T) = false := decide_eq_false (by have := unhide HT; omega)
        have HBR := hide hbr
        clear hbr
        go_wp2
        go_ret
        exact ⟨rfl, unhide HBR⟩
  · have hcT2 : c < T := by omega
    have hsub : ((T - c : Nat) : Int) = (T : Int) - c := by omega
    have HB1 := hide (unhide HBY 0 T w (by omega) (Below.refl _ _))
    have HB2 := hide (fun w' hb => unhide HBY 0 c w' (by omega) hb)
    have HB3 := hide (fun w' hb => unhide HBY c (T - c) w' (by omega) hb)
    rw [hsub] at HB3
    have hT24 : T ≤ 8388608 := by omega
    have HT := hide hT
    clear h hh hob hsm hcell hag hl HBY hT hsub
    go_enter Try.func20, Try.ntmps20
    go_wp2_with fail
    refine (unhide HB1).mono ?_
    rintro e w1 ⟨a1, c1, rfl, hB1, hb1⟩
    have HC := hide (unhide HB2 w1 hb1)
    have HX1 := hide hB1
    have HY1 := hide hb1
    clear hB1 hb1
    go_wp2_with fail
    refine (unhide HC).mono ?_
    rintro e w2 ⟨a2, c2, rfl, hB2, hb2⟩
    have hb2' := (unhide HY1).trans (hb2.mono (unhide HY1).size)
    have HC := hide (unhide HB3 w2 hb2')
    have HX2 := hide hB2
    have HX1' := hide ((unhide HX1).below hb2)
    have HY2 := hide hb2'
    clear hB2 hb2 hb2' HX1 HY1
    go_wp2_with fail
    refine (unhide HC).mono ?_
    rintro e w3 ⟨a3, c3, rfl, hB3, hb3⟩
    have hb3' := (unhide HY2).trans (hb3.mono (unhide HY2).size)
    have HS1 := hide (fun cap' => unhide HSA a1 c1 cap' 0 0 T w3 (by omega) (fun _ => rfl) hb3' ((unhide HX1').below hb3))
    have HS2 := hide (fun cap' => unhide HSA a2 c2 cap' 0 0 c w3 (by omega) (fun _ => rfl) hb3' ((unhide HX2).below hb3))
    have HS3 := hide (fun cap' off ho => unhide HSA a3 c3 cap' off c (T - c) w3 (by omega) ho hb3' hB3)
    have HY3 := hide hb3'
    clear hB3 hb3 hb3' HX1' HX2 HY2 HC HSA
    go_wp2_with (go_at_call 13; refine (num_any _ _).mono ?_; rintro e w' ⟨rfl, hw'⟩; obtain rfl := hw'.symm)
    refine (unhide HS1 _).mono ?_
    rintro e w' ⟨rfl, hw'⟩
    obtain rfl := hw'.symm
    go_wp2_with fail
    refine (unhide HS2 _).mono ?_
    rintro e w' ⟨rfl, hw'⟩
    obtain rfl := hw'.symm
    go_wp2_with fail
    refine (unhide HS3 _ _ (fun _ => rfl)).mono ?_
    rintro e w' ⟨rfl, hw'⟩
    obtain rfl := hw'.symm
    clear HS1 HS2 HS3 HB1 HB2 HB3
    go_wp2_with fail
    go_loopw [17] (fun i wr => ∃ j : Nat, j ≤ s ∧ i = .int .i64 j ∧ Below w.heap.size w wr) (fun i _ => s - (intOf i).toNat)
    case atStart => exact ⟨0, by omega, rfl, unhide HY3⟩
    case round =>
      obtain ⟨j, hj, rfl, hbr⟩ := hrel
      by_cases hlt : j < s
      · have f1 : decide (8 * (j : Int) < (T : Int)) = true := decide_eq_true (by have := unhide HT; omega)
        have f2 : decide (8 * j < T) = true := decide_eq_true (by have := unhide HT; omega)
        have HG := hide (unhide HGT j wr hlt hbr)
        have HCC := hide (fun n w' hn hb => unhide HCE j n w' hlt hn hb)
        have hx := unhide HWS j hlt
        generalize ws.getD (k + 1 + r + j) 0 = x at *
        have HBR := hide hbr
        clear hbr
        go_wp2_with fail
        refine (unhide HG).mono ?_
        rintro e w4 ⟨rfl, hb4⟩
        have hb4' := (unhide HBR).trans (hb4.mono (unhide HBR).size)
        have HB4 := hide hb4'
        have HC4 := hide (fun n hn => unhide HCC n w4 hn hb4')
        clear hb4 hb4'
        go_wp2_with fail
        go_loopw [20, 21] (fun v i wz => ∃ n : Nat, n ≤ 8 ∧ i = .int .i64 ((n : Int) - 1) ∧ v = .int .u64 (x / 2 ^ (8 * n) : Nat) ∧ wz = w4) (fun _ i _ => (intOf i + 1).toNat)
        case atStart => exact ⟨8, by omega, rfl, by rw [Nat.div_eq_of_lt (by simpa using hx)]; rfl, rfl⟩
        case round =>
          obtain ⟨n, hn, rfl, rfl, hwz⟩ := hrel
          obtain rfl := hwz.symm
          cases n with
          | zero =>
            have e0 : x / 2 ^ (8 * 0) = x := by simp
            rw [e0]
            have e1 : decide ((0 : Int) ≤ ((0 : Nat) : Int) - 1) = false := by decide
            go_wp2_with (go_at_call 13; refine (num_any _ _).mono ?_; rintro e w' ⟨rfl, hw'⟩; obtain rfl := hw'.symm)
            go_roundw
            case rel => exact ⟨j + 1, by omega, by go_num, unhide HB4⟩
            case measure => simp [intOf]; omega
          | succ n =>
            have hcc := unhide HC4 n (by omega)
            have hy : x / 2 ^ (8 * (n + 1)) < 72057594037927936 := by
              have h1 : (256 : Nat) ≤ 2 ^ (8 * (n + 1)) := Nat.pow_le_pow_right (n := 2) (i := 8) (by omega) (by omega)
              rw [Nat.div_lt_iff_lt_mul (by omega)]
              have := Nat.mul_le_mul_left 72057594037927936 h1
              omega
            have HOR := hide (or_above (x / 2 ^ (8 * (n + 1))) (x / 2 ^ (8 * n) % 256) hy (Nat.mod_lt _ (by decide)))
            have HST := hide (div_step x n)
            generalize x / 2 ^ (8 * (n + 1)) = y at *
            generalize x / 2 ^ (8 * n) % 256 = cb at *
            have e1 : decide ((0 : Int) ≤ ((n + 1 : Nat) : Int) - 1) = true := decide_eq_true (by omega)
            rw [show ((n + 1 : Nat) : Int) - 1 = (n : Int) by omega] at e1 ⊢
            have z0 : (0 : Int) ≤ 8 * (j : Int) + n := by omega
            have z1 : 8 * (j : Int) + n < (T : Int) := by have := unhide HT; omega
            go_wp2_with fail
            go_roundw
            case rel =>
              refine ⟨n, by omega, rfl, ?_, trivial⟩
              rw [← unhide HST, ← unhide HOR]
            case measure => simp [intOf]
      · have f1 : decide (8 * (j : Int) < (T : Int)) = false := decide_eq_false (by have := unhide HT; omega)
        have f2 : decide (8 * j < T) = false := decide_eq_false (by have := unhide HT; omega)
        have HBR := hide hbr
        clear hbr
        go_wp2
        go_ret
        exact ⟨rfl, unhide HBR⟩
end Go.Proofs.Ytdgdnpgjbphgaaa
