/- The contract of turned. -/
import Derived.Test.YtochdajeocganaaSame
import Derived.Test.YtochdajeocganaaTurnMath
namespace Go.Proofs.Ytochdajeocganaa
open Go.ChangeShapes Go.WideShapes Go.ChangeAt Go.RowKit
set_option linter.unusedVariables false

theorem bit_test (x n : Nat) (hx : x < 18446744073709551616) : bits BinOp.and IntKind.u64 ((x : Int) / 2 ^ n) 1 = (((x / 2 ^ n) % 2 : Nat) : Int) := by
  have e : (x : Int) / 2 ^ n = ((x / 2 ^ n : Nat) : Int) := by simp
  have hlt : x / 2 ^ n < 18446744073709551616 := Nat.lt_of_le_of_lt (Nat.div_le_self _ _) hx
  have := u64_and_nat (x / 2 ^ n) 1 hlt (by decide)
  rw [e]
  rw [nat_mask1] at this
  exact this

theorem bit_iff (x n : Nat) (hx : x < 18446744073709551616) : bits BinOp.and IntKind.u64 ((x : Int) / 2 ^ n) 1 = 1 ↔ x.testBit n = true := by
  rw [bit_test x n hx, Nat.testBit_eq_decide_div_mod_eq, decide_eq_true_iff]; omega

theorem xor_128 (c r : Nat) (hc : c < 256) (hr : r < 8) : bits BinOp.xor IntKind.u8 (c : Int) (128 / 2 ^ r) = ((c ^^^ 2 ^ (7 - r) : Nat) : Int) := by
  have e : (128 : Int) / 2 ^ r = ((2 ^ (7 - r) : Nat) : Int) := by
    obtain rfl | rfl | rfl | rfl | rfl | rfl | rfl | rfl : r = 0 ∨ r = 1 ∨ r = 2 ∨ r = 3 ∨ r = 4 ∨ r = 5 ∨ r = 6 ∨ r = 7 := by omega
    all_goals rfl
  have hp : 2 ^ (7 - r) < 256 := by
    have : 2 ^ (7 - r) ≤ 2 ^ 7 := Nat.pow_le_pow_right (by omega) (by omega)
    omega
  rw [e]; exact u8_xor_nat c _ hc hp

theorem cellsOf_set (l : List Nat) (q v : Nat) : cellsOf (l.set q v) = (cellsOf l).set q (.int .u8 (v : Int)) := by
  unfold cellsOf; rw [List.map_set]

theorem own_flip {w : World} {base g cap : Nat} {l m : List Nat} {i : Nat} (hown : OwnB w base (.slice (some ⟨g, 0, none⟩) l.length cap) l) (hs : Small l) (hi : i < 8 * l.length) :
    OwnB (w.setCell ⟨g, i / 8, none⟩ (.int .u8 (bits BinOp.xor IntKind.u8 (l.getD (i / 8) 0 : Nat) (128 / 2 ^ (i % 8))))) base (.slice (some ⟨g, 0, none⟩) l.length cap) (Larder.flip l i) := by
  rw [xor_128 _ _ (hs _ (by omega)) (by omega)]
  have := (hown.stored (i / 8) (.int .u8 ((l.getD (i / 8) 0 ^^^ 2 ^ (7 - i % 8) : Nat) : Int))).1
  unfold OwnB
  rw [Larder.flip_length, Larder.flip, cellsOf_set]
  exact this

set_option maxHeartbeats 1000000 in
theorem turned_any (a : Option Addr) (cap : Nat) (w : World) (l : List Nat) (at' x : Nat) (hx : x < 18446744073709551616) (hat : at' ≤ 2251799813685248) (hl : l.length ≤ 140737488355328) (hB : Bytes w a l) (hnil : a = none → cap = 0) (hs : Small l) :
    Calls Try.prog 11 #[.slice a l.length cap, .int .i64 at', .int .u64 x] w fun e w' => ∃ v, e = .returned v ∧ OwnB w' w.heap.size v (Larder.turnK l at' x 64) ∧ Below w.heap.size w w' := by
  go_enter Try.func11, Try.ntmps11
  go_wp2_with fail
  refine (copy_any a cap w l hl hB hnil).mono ?_
  rintro e w1 ⟨v, rfl, hown, hbel⟩
  have hlen := hown.1
  rcases hown.2 with ⟨rfl, h0⟩ | ⟨g, cap', cur, rfl, hbb, hg, hrest⟩
  · have hl0 : l = [] := List.eq_nil_of_length_eq_zero h0
    subst hl0
    have ht : ∀ k, Larder.turnK [] at' x k = [] := fun k => List.eq_nil_of_length_eq_zero (by rw [Larder.turnK_length]; rfl)
    have HT := hide ht
    have HO := hide hown
    clear ht hown hlen h0
    go_wp2_with fail
    go_loopw [8] (fun i wr => ∃ k : Nat, k ≤ 64 ∧ i = .int .i64 k ∧ wr = w1) (fun i _ => 64 - (intOf i).toNat)
    case atStart => exact ⟨0, by omega, rfl, rfl⟩
    case round =>
      obtain ⟨k, hk, rfl, rfl⟩ := hrel
      have h0k : (0 : Int) ≤ (at' : Int) + k := by omega
      by_cases hlt : k < 64
      · go_wp2
        all_goals
          go_roundw
          case rel => exact ⟨k + 1, by omega, by go_num, trivial⟩
          case measure => simp [intOf]; omega
      · go_wp2
        go_ret
        exact ⟨_, rfl, by rw [unhide HT]; exact unhide HO, hbel⟩
  · clear hrest hg cur
    go_wp2_with fail
    go_loopw [8] (fun i wr => ∃ k : Nat, k ≤ 64 ∧ i = .int .i64 k ∧ OwnB wr w.heap.size (.slice (some ⟨g, 0, none⟩) l.length cap') (Larder.turnK l at' x k) ∧ Below w.heap.size w wr) (fun i _ => 64 - (intOf i).toNat)
    case atStart => exact ⟨0, by omega, rfl, hown, hbel⟩
    case round =>
      obtain ⟨k, hk, rfl, hwn, hbl⟩ := hrel
      clear hlen hown hB hnil
      by_cases hlt : k < 64
      · have htb := bit_iff x (63 - k) hx
        by_cases hbit : bits BinOp.and IntKind.u64 (↑x / 2 ^ (63 - k)) 1 = 1
        · by_cases hin : at' + k < 8 * l.length
          · have htl := Larder.turnK_length l at' x k
            have hts := Larder.turnK_small (l := l) hs at' x k
            have hstep : Larder.turnK l at' x (k + 1) = Larder.flip (Larder.turnK l at' x k) (at' + k) := by
              rw [Larder.turnK, if_pos ⟨htb.1 hbit, hin⟩]
            obtain ⟨q, hq⟩ : ∃ q, q = (at' + k) / 8 := ⟨_, rfl⟩
            obtain ⟨r, hr⟩ : ∃ r, r = (at' + k) % 8 := ⟨_, rfl⟩
            obtain ⟨c, hc⟩ : ∃ c, c = (Larder.turnK l at' x k).getD q 0 := ⟨_, rfl⟩
            have hql : q < l.length := by omega
            have HW : Hid (OwnB (wr.setCell ⟨g, q, none⟩ (.int .u8 (bits BinOp.xor IntKind.u8 (c : Nat) (128 / 2 ^ r)))) w.heap.size (.slice (some ⟨g, 0, none⟩) l.length cap') (Larder.turnK l at' x (k + 1))) := by
              subst hq hr hc
              rw [hstep, ← htl]
              rw [← htl] at hwn
              exact own_flip (m := l) hwn hts (by omega)
            have hwn2 : wr.ownsRow w.heap.size 5 1 (.slice (some ⟨g, 0, none⟩) l.length cap') l.length (cellsOf (Larder.turnK l at' x k)) := by
              have := hwn; unfold OwnB at this; rw [htl] at this; exact this
            have hcl : wr.cell? ⟨g, q, none⟩ = some (.int .u8 (c : Nat)) := by
              rw [hwn2.cellAt _ (by omega), cellsOf_at _ _ (by omega), hc]
            have hfz : wr.frozen? ⟨g, q, none⟩ = false := hwn2.frozenAt _
            have hc256 : c < 256 := by rw [hc]; exact hts _ (by omega)
            have eq : ((at' : Int) + k) / 8 = (q : Int) := by omega
            have er : ((at' : Int) + k) % 8 = (r : Int) := by omega
            have hr8 : r < 8 := by omega
            clear hc hstep htl hts htb hwn hwn2 hs hq hr
            go_wp2
            go_region
            all_goals go_wp2
            go_roundw
            case rel => exact ⟨k + 1, by omega, by go_num, unhide HW, (hbl.setCell (p := ⟨g, q, none⟩) hbb _).drew⟩
            case measure => simp [intOf]; omega
          · have hstep : Larder.turnK l at' x (k + 1) = Larder.turnK l at' x k := by
              rw [Larder.turnK, if_neg (fun h => hin h.2)]
            have HS := hide hstep
            clear hstep htb hs
            go_wp2
            go_roundw
            case rel => exact ⟨k + 1, by omega, by go_num, by rw [unhide HS]; exact hwn, hbl⟩
            case measure => simp [intOf]; omega
        · have hstep : Larder.turnK l at' x (k + 1) = Larder.turnK l at' x k := by
            rw [Larder.turnK, if_neg (fun h => hbit (htb.2 h.1))]
          have HS := hide hstep
          clear hstep htb hs
          go_wp2
          go_roundw
          case rel => exact ⟨k + 1, by omega, by go_num, by rw [unhide HS]; exact hwn, hbl⟩
          case measure => simp [intOf]; omega
      · have hk64 : k = 64 := by omega
        subst hk64
        go_wp2
        go_ret
        exact ⟨_, rfl, hwn, hbl⟩
end Go.Proofs.Ytochdajeocganaa
