/- The contract of changed. -/
import Derived.Test.YtochdajeocganaaSame
import Derived.Test.YtochdajeocganaaHashMath
namespace Go.Proofs.Ytochdajeocganaa
open Go.ChangeShapes Go.WideShapes Go.ChangeAt Go.RowKit
set_option linter.unusedVariables false

theorem cellsOf_set' (l : List Nat) (q v : Nat) : cellsOf (l.set q v) = (cellsOf l).set q (.int .u8 (v : Int)) := by
  unfold cellsOf; rw [List.map_set]

theorem own_put {w : World} {base g cap n : Nat} {l : List Nat} {j v : Nat} (hn : l.length = n) (h : OwnB w base (.slice (some ⟨g, 0, none⟩) n cap) l) :
    OwnB (w.setCell ⟨g, j, none⟩ (.int .u8 (v : Int))) base (.slice (some ⟨g, 0, none⟩) n cap) (l.set j v) := by
  subst hn
  unfold OwnB
  rw [List.length_set, cellsOf_set']
  exact (h.stored j _).1

/-- what changed leaves of a text -/
def Near (l m : List Nat) : Prop := m.length = l.length ∧ Small m ∧ ∃ a, ∀ i, ¬ (8 * a ≤ i ∧ i < 8 * a + 8) → m.getD i 0 = l.getD i 0

theorem near_self {l : List Nat} (hs : Small l) : Near l l := ⟨rfl, hs, 0, fun _ _ => rfl⟩
theorem near_change {l : List Nat} (hs : Small l) (A x : Nat) : Near l (Larder.changeK l A x 8) :=
  ⟨Larder.changeK_length _ _ _ _, Larder.changeK_small hs _ _ _, A, fun i hi => Larder.changeK_other l A x 8 i (by omega) hi⟩

set_option maxHeartbeats 1000000 in
theorem changed_in (a : Option Addr) (cap : Nat) (w : World) (l : List Nat) (A x : Nat) (hx : x < 18446744073709551616) (hA : A ≤ l.length / 8) (hl : l.length ≤ 140737488355328) (hB : Bytes w a l) (hnil : a = none → cap = 0) (hs : Small l) :
    Calls Try.prog 21 #[.slice a l.length cap, .int .i64 A, .int .u64 x] w fun e w' => ∃ v m, e = .returned v ∧ OwnB w' w.heap.size v m ∧ Below w.heap.size w w' ∧ Near l m := by
  have hAl : 8 * A ≤ l.length := by omega
  go_enter Try.func21, Try.ntmps21
  go_wp2_with fail
  refine (copy_any a cap w l hl hB hnil).mono ?_
  rintro e w1 ⟨v, rfl, hown, hbel⟩
  rcases hown.2 with ⟨rfl, h0⟩ | ⟨g, cap', cur, rfl, hbb, hg, hrest⟩
  · have hl0 : l = [] := List.eq_nil_of_length_eq_zero h0
    subst hl0
    have HO := hide hown
    have HN := hide (near_self hs)
    have hA0 : A = 0 := by simp at hAl; omega
    subst hA0
    clear hown h0 hs
    go_wp2_with fail
    go_loopw [8] (fun i wr => ∃ k : Nat, k ≤ 8 ∧ i = .int .i64 k ∧ wr = w1) (fun i _ => 8 - (intOf i).toNat)
    case atStart => exact ⟨0, by omega, rfl, rfl⟩
    case round =>
      obtain ⟨k, hk, rfl, rfl⟩ := hrel
      by_cases hlt : k < 8
      · go_wp2
        all_goals
          go_roundw
          case rel => exact ⟨k + 1, by omega, by go_num, trivial⟩
          case measure => simp [intOf]; omega
      · go_wp2
        go_ret
        exact ⟨_, [], rfl, unhide HO, hbel, unhide HN⟩
  · clear hrest hg cur
    have HN := hide (near_change hs A x)
    go_wp2_with fail
    go_loopw [8] (fun i wr => ∃ k : Nat, k ≤ 8 ∧ i = .int .i64 k ∧ OwnB wr w.heap.size (.slice (some ⟨g, 0, none⟩) l.length cap') (Larder.changeK l A x k) ∧ Below w.heap.size w wr) (fun i _ => 8 - (intOf i).toNat)
    case atStart => exact ⟨0, by omega, rfl, hown, hbel⟩
    case round =>
      obtain ⟨k, hk, rfl, hwn, hbl⟩ := hrel
      clear hown hB hnil
      by_cases hlt : k < 8
      · by_cases hin : 8 * A + k < l.length
        · have htl := Larder.changeK_length l A x k
          have hts := Larder.changeK_small (l := l) hs A x k
          obtain ⟨j, hj⟩ : ∃ j, j = 8 * A + k := ⟨_, rfl⟩
          obtain ⟨c, hc⟩ : ∃ c, c = (Larder.changeK l A x k).getD j 0 := ⟨_, rfl⟩
          obtain ⟨b, hb⟩ : ∃ b, b = x / 2 ^ (8 * k) % 256 := ⟨_, rfl⟩
          have hb256 : b < 256 := by rw [hb]; exact Nat.mod_lt _ (by decide)
          have hjl : j < l.length := by omega
          have hstep : Larder.changeK l A x (k + 1) = (Larder.changeK l A x k).set j (c ^^^ b) := by
            rw [Larder.changeK, if_pos hin, hc, hb, hj]
          have hwn2 : wr.ownsRow w.heap.size 5 1 (.slice (some ⟨g, 0, none⟩) l.length cap') l.length (cellsOf (Larder.changeK l A x k)) := by
            have := hwn; unfold OwnB at this; rw [htl] at this; exact this
          have hcl : wr.cell? ⟨g, j, none⟩ = some (.int .u8 (c : Nat)) := by
            rw [hwn2.cellAt _ (by omega), cellsOf_at _ _ (by omega), hc]
          have hfz : wr.frozen? ⟨g, j, none⟩ = false := hwn2.frozenAt _
          have hc256 : c < 256 := by rw [hc]; exact hts _ (by omega)
          have ej : 8 * (A : Int) + k = (j : Int) := by omega
          have ev : (x : Int) / 2 ^ (8 * k) % 256 = (b : Int) := by rw [hb]; simp
          have hxv := u8_xor_nat c b hc256 hb256
          have HW : Hid (OwnB (wr.setCell ⟨g, j, none⟩ (.int .u8 (bits BinOp.xor IntKind.u8 (c : Int) (b : Int)))) w.heap.size (.slice (some ⟨g, 0, none⟩) l.length cap') (Larder.changeK l A x (k + 1))) := by
            rw [hstep, hxv]; exact own_put htl hwn
          clear hc hb hstep htl hts hwn hwn2 hs hj hxv hin
          go_wp2
          go_region
          all_goals go_wp2
          go_roundw
          case rel => exact ⟨k + 1, by omega, by go_num, unhide HW, (hbl.setCell (p := ⟨g, j, none⟩) hbb _).drew⟩
          case measure => simp [intOf]; omega
        · have hstep : Larder.changeK l A x (k + 1) = Larder.changeK l A x k := by
            rw [Larder.changeK, if_neg hin]
          have HS := hide hstep
          clear hstep hs
          go_wp2
          go_roundw
          case rel => exact ⟨k + 1, by omega, by go_num, by rw [unhide HS]; exact hwn, hbl⟩
          case measure => simp [intOf]; omega
      · have hk8 : k = 8 := by omega
        subst hk8
        go_wp2
        go_ret
        exact ⟨_, _, rfl, hwn, hbl, unhide HN⟩
set_option maxHeartbeats 400000 in
theorem changed_out (a : Option Addr) (cap : Nat) (w : World) (l : List Nat) (A : Int) (x : Nat) (hA : A < 0 ∨ (l.length : Int) / 8 < A) (hl : l.length ≤ 140737488355328) (hB : Bytes w a l) (hnil : a = none → cap = 0) (hs : Small l) :
    Calls Try.prog 21 #[.slice a l.length cap, .int .i64 A, .int .u64 x] w fun e w' => ∃ v m, e = .returned v ∧ OwnB w' w.heap.size v m ∧ Below w.heap.size w w' ∧ Near l m := by
  have HN := hide (near_self hs)
  rcases hA with h | h
  · go_enter Try.func21, Try.ntmps21
    go_wp2_with fail
    refine (copy_any a cap w l hl hB hnil).mono ?_
    rintro e w1 ⟨v, rfl, hown, hbel⟩
    go_wp2
    go_ret
    exact ⟨_, l, rfl, hown, hbel, unhide HN⟩
  · have h0 : ¬ A < 0 := by omega
    go_enter Try.func21, Try.ntmps21
    go_wp2_with fail
    refine (copy_any a cap w l hl hB hnil).mono ?_
    rintro e w1 ⟨v, rfl, hown, hbel⟩
    go_wp2
    go_ret
    exact ⟨_, l, rfl, hown, hbel, unhide HN⟩

theorem changed_any (a : Option Addr) (cap : Nat) (w : World) (l : List Nat) (A : Int) (x : Nat) (hx : x < 18446744073709551616) (hl : l.length ≤ 140737488355328) (hB : Bytes w a l) (hnil : a = none → cap = 0) (hs : Small l) :
    Calls Try.prog 21 #[.slice a l.length cap, .int .i64 A, .int .u64 x] w fun e w' => ∃ v m, e = .returned v ∧ OwnB w' w.heap.size v m ∧ Below w.heap.size w w' ∧ Near l m := by
  by_cases h : 0 ≤ A ∧ A ≤ (l.length : Int) / 8
  · obtain ⟨n, rfl⟩ := Int.eq_ofNat_of_zero_le h.1
    exact changed_in a cap w l n x hx (by omega) hl hB hnil hs
  · exact changed_out a cap w l A x (by omega) hl hB hnil hs
end Go.Proofs.Ytochdajeocganaa
