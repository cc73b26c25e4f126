/- The contract of Unpack. -/
import Derived.Test.YtdgdnpgjbphgaabPack
namespace Go.Proofs.Ytdgdnpgjbphgaab
open Go.ChangeShapes Go.WideShapes Go.ChangeAt Go.RowKit
set_option linter.unusedVariables false
set_option maxRecDepth 100000

theorem cellsOf_set' (l : List Nat) (q v : Nat) : cellsOf (l.set q v) = (cellsOf l).set q (.int .u8 (v : Int)) := by
  unfold cellsOf; rw [List.map_set]

theorem own_put {w : World} {base g cap n : Nat} {l : List Nat} {j v : Nat} (hn : l.length = n) (h : OwnB w base (.slice (some ⟨g, 0, none⟩) n cap) l) :
    OwnB (w.setCell ⟨g, j, none⟩ (.int .u8 (v : Int))) base (.slice (some ⟨g, 0, none⟩) n cap) (l.set j v) := by
  subst hn
  unfold OwnB
  rw [List.length_set, cellsOf_set']
  exact (h.stored j _).1

set_option maxHeartbeats 1000000 in
theorem unpack_yes (a : Option Addr) (cap n : Nat) (w : World) (ws : List Nat) (hn : n ≤ 281474976710656) (hle : Larder.wn n ≤ ws.length) (hW : Words w a ws) (hs : WSmall ws) :
    Calls Try.prog 69 #[.slice a ws.length cap, .int .i64 n] w fun e w' => ∃ v, e = .returned (.tuple #[v, .int .i64 0]) ∧ OwnB w' w.heap.size v (Larder.unpackL ws n) ∧ Below w.heap.size w w' := by
  obtain ⟨i0, hi, hz0, hz1, hz2⟩ := info_parts Try.info5
  have hwn : wordsI (n : Int) = (Larder.wn n : Int) := by unfold wordsI Larder.wn; split <;> omega
  have hcall : Calls Try.prog 86 #[.int .i64 n] w fun e w' => e = .returned (.int .i64 (Larder.wn n : Int)) ∧ w' = w := by rw [← hwn]; exact words_any n w (by omega) (by omega)
  have HC0 := hide hcall
  have HL := hide (Larder.unpackK_all ws n)
  clear hwn hcall
  obtain ⟨N, hN⟩ : ∃ N, N = Larder.wn n := ⟨_, rfl⟩
  rw [← hN] at HC0 hle
  have hN8 : n ≤ 8 * N := by rw [hN]; unfold Larder.wn; omega
  have hNn : N ≤ n := by rw [hN]; unfold Larder.wn; omega
  clear hN
  go_enter Try.func69, Try.ntmps69
  go_wp2_with fail
  refine (unhide HC0).mono ?_
  rintro e w' ⟨rfl, hw'⟩
  obtain rfl := hw'.symm
  go_wp2_with (at_make; refine wpList_make_full _ rfl _ _ 22 rfl w.heap.size 5 i0 (.int .u8 0) 1 Try.underlying22 hi hz0 hz1 .i64 .i64 _ _ n rfl rfl rfl rfl (by rw [hz2]; omega) (by simp [maxLen]; omega) (Nat.le_refl _) ?_)
  intro w1 hown hgrow
  have hb1 : Below w.heap.size w w1 := (Below.refl _ _).grown hgrow (Nat.le_refl _) (fun k h => by cases h)
  have hown1 : OwnB w1 w.heap.size (.slice (some ⟨w.heap.size, 0, none⟩) n n) (Larder.unpackK ws n 0) := by
    rw [made_cells] at hown
    unfold OwnB
    rw [Larder.unpackK_length, Larder.unpackK_zero, cellsOf, List.map_replicate]
    exact hown
  clear hown hgrow
  rcases hW with rfl | ⟨b, off, rfl, hblt, hc⟩
  · have hn0 : n = 0 := by simp at hle; omega
    subst hn0
    go_wp2_with fail
    go_loopw [20] (fun i wr => i = .int .i64 0 ∧ wr = w1) (fun _ _ => 0)
    case atStart => exact ⟨rfl, rfl⟩
    case round =>
      obtain ⟨rfl, rfl⟩ := hrel
      go_wp2
      go_ret2
      exact ⟨_, rfl, by rw [← unhide HL]; exact hown1, hb1⟩
  · go_wp2_with fail
    go_loopw [20] (fun i wr => ∃ k : Nat, k ≤ n ∧ i = .int .i64 k ∧ OwnB wr w.heap.size (.slice (some ⟨w.heap.size, 0, none⟩) n n) (Larder.unpackK ws n k) ∧ Below w.heap.size w wr) (fun i _ => n - (intOf i).toNat)
    case atStart => exact ⟨0, by omega, rfl, hown1, hb1⟩
    case round =>
      obtain ⟨k, hk, rfl, hwn, hbl⟩ := hrel
      by_cases hlt : k < n
      · obtain ⟨q, hq⟩ : ∃ q, q = k / 8 := ⟨_, rfl⟩
        obtain ⟨c, hcc⟩ : ∃ c, c = ws.getD q 0 := ⟨_, rfl⟩
        obtain ⟨sh, hsh⟩ : ∃ sh, sh = 8 * (k % 8) := ⟨_, rfl⟩
        have hlen := Larder.unpackK_length ws n k
        have hqn : q < ws.length := by omega
        have hcb : wr.cell? ⟨b, off + q, none⟩ = some (.int .u64 (c : Int)) := by
          rw [hbl.cell (p := ⟨b, off + q, none⟩) hblt, hc q hqn, hcc]
        have hc64 : c < 18446744073709551616 := by rw [hcc]; exact hs q hqn
        have hwn2 : wr.ownsRow w.heap.size 5 1 (.slice (some ⟨w.heap.size, 0, none⟩) n n) n (cellsOf (Larder.unpackK ws n k)) := by
          have := hwn; unfold OwnB at this; rw [hlen] at this; exact this
        have hcl : ∃ u, wr.cell? ⟨w.heap.size, k, none⟩ = some u := ⟨_, by rw [hwn2.cellAt _ (by omega), cellsOf_at _ _ (by omega)]⟩
        obtain ⟨u0, hu0⟩ := hcl
        have hfz : wr.frozen? ⟨w.heap.size, k, none⟩ = false := hwn2.frozenAt _
        have eq : (k : Int) / 8 = (q : Int) := by omega
        have hwq := wrap_nat q (by omega)
        have hsh64 : sh < 64 := by omega
        have hcall : ∀ wx : World, Calls Try.prog 87 #[.int .i64 k] wx fun e w' => e = .returned (.int .i64 (sh : Int)) ∧ w' = wx := by
          intro wx; rw [hsh]; exact byteAt_any k wx (by omega)
        have HW : Hid (OwnB (wr.setCell ⟨w.heap.size, k, none⟩ (.int .u8 ((c : Int) / 2 ^ sh % 256))) w.heap.size (.slice (some ⟨w.heap.size, 0, none⟩) n n) (Larder.unpackK ws n (k + 1))) := by
          rw [Larder.unpackK_succ, ← hq, ← hcc, ← hsh]
          have e : (c : Int) / 2 ^ sh % 256 = ((c / 2 ^ sh % 256 : Nat) : Int) := by simp
          rw [e]; exact own_put hlen hwn
        have HC := hide hcall
        clear hc hcc hq hs hcall hsh hlen hwn hwn2
        go_wp2_with fail
        go_region_with (go_at_call 87; refine (unhide HC _).mono ?_; rintro e w' ⟨rfl, hw'⟩; obtain rfl := hw'.symm)
        all_goals go_wp2
        all_goals
          go_roundw
          case rel => exact ⟨k + 1, by omega, by go_num, unhide HW, (hbl.setCell (p := ⟨w.heap.size, k, none⟩) (Nat.le_refl _) _).drew⟩
          case measure => simp [intOf]; omega
      · have hkl : k = n := by omega
        subst hkl
        go_wp2
        go_ret2
        exact ⟨_, rfl, by rw [← unhide HL]; exact hwn, hbl⟩
end Go.Proofs.Ytdgdnpgjbphgaab
