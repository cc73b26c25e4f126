/- record: word.Sum. -/
import Derived.Test.YtljeedgnjgeopaaWa
import Derived.WalkSpells
import Derived.Laws.BitsAllLaws
namespace Go.Proofs.Ytljeedgnjgeopaa
open Go.ChangeShapes Go.WideShapes Go.ChangeAt Go.RowKit
set_option linter.unusedVariables false
set_option maxRecDepth 20000
theorem row_at (i : Nat) (h : i < 16) : ∃ x : Nat, x = (Larder.rowsL.getD i 0#64).toNat ∧
    ∀ h, ([Value.int IntKind.u64 0, Value.int IntKind.u64 4823603603198064275, Value.int IntKind.u64 9647207206396128550, Value.int IntKind.u64 14344283933443513269, Value.int IntKind.u64 5274672035359026399, Value.int IntKind.u64 847670339082705484, Value.int IntKind.u64 14759040976900489721, Value.int IntKind.u64 10241823793177474922, Value.int IntKind.u64 10549344070718052798, Value.int IntKind.u64 15030250704074698541, Value.int IntKind.u64 1695340678165410968, Value.int IntKind.u64 6158653484774949387, Value.int IntKind.u64 15804726273676621153, Value.int IntKind.u64 11071337880091427826, Value.int IntKind.u64 6824194888265062471, Value.int IntKind.u64 2036903512645398228] : List Value)[i]'h = .int .u64 (x : Int) := by
  obtain rfl | rfl | rfl | rfl | rfl | rfl | rfl | rfl | rfl | rfl | rfl | rfl | rfl | rfl | rfl | rfl : i = 0 ∨ i = 1 ∨ i = 2 ∨ i = 3 ∨ i = 4 ∨ i = 5 ∨ i = 6 ∨ i = 7 ∨ i = 8 ∨ i = 9 ∨ i = 10 ∨ i = 11 ∨ i = 12 ∨ i = 13 ∨ i = 14 ∨ i = 15 := by omega
  all_goals exact ⟨_, rfl, fun _ => rfl⟩

theorem nib_ex (r n : Nat) (m : Int) (hm : m = (n : Int)) (hr : r < 18446744073709551616) (hn : n < 16) : ∃ i x r1 : Nat, i < 16 ∧ r1 < 18446744073709551616 ∧ r1 = Larder.nibN r n ∧
    bits .xor .u64 ((r : Int) / 1152921504606846976) m = (i : Int) ∧
    (∀ h, ([Value.int IntKind.u64 0, Value.int IntKind.u64 4823603603198064275, Value.int IntKind.u64 9647207206396128550, Value.int IntKind.u64 14344283933443513269, Value.int IntKind.u64 5274672035359026399, Value.int IntKind.u64 847670339082705484, Value.int IntKind.u64 14759040976900489721, Value.int IntKind.u64 10241823793177474922, Value.int IntKind.u64 10549344070718052798, Value.int IntKind.u64 15030250704074698541, Value.int IntKind.u64 1695340678165410968, Value.int IntKind.u64 6158653484774949387, Value.int IntKind.u64 15804726273676621153, Value.int IntKind.u64 11071337880091427826, Value.int IntKind.u64 6824194888265062471, Value.int IntKind.u64 2036903512645398228] : List Value)[i]'h = .int .u64 (x : Int)) ∧
    bits .xor .u64 (IntKind.u64.wrap ((r : Int) * 16)) (x : Int) = (r1 : Int) := by
  subst hm
  have h16 : r / 1152921504606846976 < 16 := by omega
  have hi : r / 1152921504606846976 ^^^ n < 16 := Larder.xor16 h16 hn
  obtain ⟨x, hx, hrow⟩ := row_at _ hi
  refine ⟨_, x, _, hi, Larder.nibN_lt r n, rfl, ?_, hrow, ?_⟩
  · have := u64_xor_nat (r / 1152921504606846976) n (by omega) (by omega)
    rw [← this]; congr 1
  · have hxl : x < 18446744073709551616 := by rw [hx]; exact BitVec.isLt _
    have := u64_xor_nat (r * 16 % 18446744073709551616) x (by omega) hxl
    have e : IntKind.u64.wrap ((r : Int) * 16) = ((r * 16 % 18446744073709551616 : Nat) : Int) := by
      rw [IntKind.wrap_u64]; omega
    rw [e, this, hx]; rfl

set_option maxHeartbeats 400000 in
theorem sum_any (a : Option Addr) (cap : Nat) (w : World) (l : List Nat) (hl : l.length ≤ 140737488355328) (h256 : Small l) (hB : Bytes w a l) :
    Calls Try.prog 44 #[.slice a l.length cap] w fun e w' => e = .returned (.int .u64 ((Larder.sumOf l).toNat : Nat)) ∧ Below w.heap.size w w' := by
  have hfin := Larder.sumK_all l
  have HF := hide hfin
  clear hfin
  rcases hB with rfl | ⟨b, off, rfl, hb, hc⟩
  · go_enter Try.func44, Try.ntmps44
    go_wp2
    go_loop [4, 10] (fun r i => i = .int .i64 0 ∧ r = .int .u64 18446744073709551615) (fun _ _ => 0)
    case atStart => exact ⟨rfl, rfl⟩
    case round =>
      obtain ⟨rfl, rfl⟩ := hrel
      go_wp2
      go_ret
      refine ⟨?_, (Below.refl _ _).alloc (Nat.le_refl _) _⟩
      rw [← unhide HF]; rfl
  · go_enter Try.func44, Try.ntmps44
    go_wp2
    go_loop [4, 10] (fun r i => ∃ k : Nat, k ≤ l.length ∧ i = .int .i64 k ∧ r = .int .u64 (Larder.sumK l k : Nat)) (fun _ i => l.length - (intOf i).toNat)
    case atStart => exact ⟨0, Nat.zero_le _, rfl, by rw [Larder.sumK_zero]; rfl⟩
    case round =>
      obtain ⟨k, hk, rfl, rfl⟩ := hrel
      have hS := Larder.sumK_lt l k
      by_cases hlt : k < l.length
      · have hcx := hc k hlt
        have h25 := h256 k hlt
        have hsucc := Larder.sumK_succ l k hlt h25
        clear hc h256
        generalize hcc : l.getD k 0 = c at *
        clear hcc
        obtain ⟨i1, x1, r1, q1, q3, q5, e1, e2, e3⟩ := nib_ex (Larder.sumK l k) (c / 16) ((c : Int) / 16) (by omega) hS (by omega)
        obtain ⟨i2, x2, r2, q2, q4, q6, f1, f2, f3⟩ := nib_ex r1 (c % 16) ((c : Int) % 16) (by omega) q3 (by omega)
        rw [← q5, ← q6] at hsucc
        have HS := hide hsucc
        clear hsucc q5 q6
        generalize Larder.sumK l k = r at *
        go_wp2
        go_round
        case rel => exact ⟨k + 1, by omega, by go_num, by rw [unhide HS]⟩
        case measure => simp [intOf]; omega
      · have he : k = l.length := by omega
        subst he
        go_wp2
        go_ret
        exact ⟨by rw [← unhide HF]; rfl, (Below.refl _ _).alloc (Nat.le_refl _) _⟩
end Go.Proofs.Ytljeedgnjgeopaa
