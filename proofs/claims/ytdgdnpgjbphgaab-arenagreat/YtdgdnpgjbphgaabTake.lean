/- within, fit. -/
import Derived.Test.YtdgdnpgjbphgaabGrow
import Derived.Deep.RegionHeld3
namespace Go.Proofs.Ytdgdnpgjbphgaab
open Go.ChangeShapes Go.WideShapes Go.ChangeAt Go.RowKit
set_option linter.unusedVariables false
set_option maxRecDepth 100000
set_option maxHeartbeats 1000000

theorem alloc_shape {p bw bh : Nat} {ws : List Nat} {hs : List Bool} {used : Nat} (k r s : Int) (w : World) (h : Ar w p bw bh ws hs used) (hf : ¬ Fits k r s) :
    Calls Try.prog 10 #[.pointer (some ⟨p, 0, none⟩), .int .i64 k, .int .i64 r, .int .i64 s] w fun e w' => e = .returned (.tuple #[.int .i64 0, .int .i64 21]) ∧ Below w.heap.size w w' := by
  have HH := hide (head_no k r s w hf)
  clear h hf
  go_enter Try.func10, Try.ntmps10
  go_wp2_with fail
  refine (unhide HH).mono ?_
  rintro e w' ⟨rfl, hw'⟩
  obtain rfl := hw'.symm
  go_wp2
  go_ret2
  exact ⟨rfl, Below.refl _ _⟩

theorem alloc_full {p bw bh : Nat} {ws : List Nat} {hs : List Bool} {used : Nat} (k r s : Nat) (w : World) (h : Ar w p bw bh ws hs used) (hf : Fits k r s) (hn : ws.length < used + (1 + r + s)) :
    Calls Try.prog 10 #[.pointer (some ⟨p, 0, none⟩), .int .i64 k, .int .i64 r, .int .i64 s] w fun e w' => e = .returned (.tuple #[.int .i64 0, .int .i64 22]) ∧ Below w.heap.size w w' := by
  have HH := hide (head_yes k r s w hf)
  obtain ⟨f1, f2, f3, f4, f5, f6⟩ := hf
  have HG := hide (grow_full (1 + r + s) w h hn (by omega))
  have ec : ((1 + r + s : Nat) : Int) = 1 + (r : Int) + s := by omega
  rw [ec] at HG
  clear h hn
  go_enter Try.func10, Try.ntmps10
  go_wp2_with fail
  refine (unhide HH).mono ?_
  rintro e w' ⟨rfl, hw'⟩
  obtain rfl := hw'.symm
  go_wp2_with fail
  refine (unhide HG).mono ?_
  rintro e w1 ⟨rfl, hb1⟩
  go_wp2
  go_ret2
  exact ⟨rfl, hb1⟩

theorem alloc_yes {p bw bh : Nat} {ws : List Nat} {hs : List Bool} {used : Nat} (k r s : Nat) (w : World) (h : Ar w p bw bh ws hs used) (hf : Fits k r s) (hn : used + (1 + r + s) ≤ ws.length) :
    Calls Try.prog 10 #[.pointer (some ⟨p, 0, none⟩), .int .i64 k, .int .i64 r, .int .i64 s] w fun e w' => e = .returned (.tuple #[.int .i64 used, .int .i64 0]) ∧
      Ar w' p bw bh (laid ws used (1 + r + s) (k + 256 * r + 4294967296 * s)) (mark hs used (1 + r + s)) (used + (1 + r + s)) ∧ But [p, bw, bh] w w' := by
  have HH := hide (head_yes k r s w hf)
  obtain ⟨f1, f2, f3, f4, f5, f6⟩ := hf
  have HG := hide (grow_yes (1 + r + s) w h hn (by omega))
  obtain ⟨n, hnn⟩ : ∃ n, n = 1 + r + s := ⟨_, rfl⟩
  obtain ⟨x, hx⟩ : ∃ x, x = k + 256 * r + 4294967296 * s := ⟨_, rfl⟩
  have hx64 : x < 18446744073709551616 := by omega
  have ex : (k : Int) + 256 * (r : Int) + 4294967296 * (s : Int) = (x : Int) := by omega
  have ec : 1 + (r : Int) + (s : Int) = (n : Int) := by omega
  rw [← hnn] at HG hn ⊢
  rw [← hx]
  have hz := h.sz
  have hn1 : 1 ≤ n := by omega
  clear h hnn hx
  go_enter Try.func10, Try.ntmps10
  go_wp2_with fail
  refine (unhide HH).mono ?_
  rintro e w' ⟨rfl, hw'⟩
  obtain rfl := hw'.symm
  go_wp2_with fail
  refine (unhide HG).mono ?_
  rintro e w1 ⟨rfl, hA1, hB1⟩
  have hclr := fun ty => Lib.run_clear_slice (P := Try.prog) w1 62 24 ty (.int .u64 0) Try.underlying62 (fun w => Try.zeroValue24 w) rfl rfl bw used n n hn1 (fun j hj => by
    rw [hA1.ww _ (by omega)]; rfl) (fun j hj => hA1.wf _ (by omega))
  have HM := hide (hA1.headed used n x hn hn1 hx64)
  obtain ⟨w2, hw2⟩ : ∃ w2, w2 = w1.setCells bw used (List.replicate n (.int .u64 0)) := ⟨_, rfl⟩
  rw [← hw2] at hclr HM
  have g1 : w2.cell? ⟨bw, used, none⟩ = some (.int .u64 0) := by
    rw [hw2]; exact sets_in w1 bw used n _ (fun j hj => by rw [hA1.ww _ (by omega)]; rfl) used (Nat.le_refl _) (by omega)
  have g2 : w2.frozen? ⟨bw, used, none⟩ = false := by rw [hw2, World.frozen?_setCells]; exact hA1.wf used (by omega)
  have HB1 := hide hB1
  clear hw2 hA1 hB1
  go_wp2
  go_ret2
  refine ⟨rfl, (unhide HM).1, ?_⟩
  have k1 := unhide HB1
  have k2 := (unhide HM).2
  exact ⟨k2.os.trans k1.os, k2.tape.trans k1.tape, k2.output.trans k1.output, Nat.le_trans k1.size k2.size, fun j hj hn => (k2.block j (Nat.lt_of_lt_of_le hj k1.size) (fun hm => hn (by simp at hm ⊢; exact .inr (.inl hm)))).trans (k1.block j hj (fun hm => hn (by simp at hm ⊢; rcases hm with h | h; exact .inl h; exact .inr (.inr h))))⟩
end Go.Proofs.Ytdgdnpgjbphgaab
namespace Go.Proofs.Ytdgdnpgjbphgaab
open Go.ChangeShapes Go.WideShapes Go.ChangeAt Go.RowKit
set_option linter.unusedVariables false
set_option maxRecDepth 100000
set_option maxHeartbeats 1000000
theorem within_num (n : Int) (m : Nat) (hm : 0 < m) (hm2 : m ≤ 4611686018427387904) : (wrap64 (n.tmod m + m)).tmod m = ((n % (m : Int)).toNat : Nat) := by
  have hp : (0 : Int) < m := by omega
  have t1 : n.tmod m < m := Int.tmod_lt_of_pos n hp
  have t2 : -(m : Int) < n.tmod m := Int.lt_tmod_of_pos n hp
  have hw : wrap64 (n.tmod m + m) = n.tmod m + m := by unfold wrap64; omega
  rw [hw, Int.tmod_eq_emod_of_nonneg (by omega)]
  have e1 : n = m * n.tdiv m + n.tmod m := (Int.mul_tdiv_add_tmod n m).symm
  have e2 : n % (m : Int) = (n.tmod m + m) % m := by
    conv => lhs; rw [e1]
    rw [Int.add_comm, Int.add_mul_emod_self_left, Int.add_emod_right]
  rw [← e2]
  have := Int.emod_nonneg n (show (m : Int) ≠ 0 by omega)
  omega
/-- three cells a shape -/
def scells (L : List (Int × Int × Int)) : List Value := L.flatMap fun s => [.int .i64 s.1, .int .i64 s.2.1, .int .i64 s.2.2]
/-- the shapes L lie from b, off on -/
def ShapesAt (w : World) (b off : Nat) (L : List (Int × Int × Int)) : Prop := ∀ i, i < L.length → w.cell? ⟨b, off + i * 3, none⟩ = some (.int .i64 (L.getD i (0, 0, 0)).1) ∧ w.cell? ⟨b, off + i * 3 + 1, none⟩ = some (.int .i64 (L.getD i (0, 0, 0)).2.1) ∧ w.cell? ⟨b, off + i * 3 + 2, none⟩ = some (.int .i64 (L.getD i (0, 0, 0)).2.2)
end Go.Proofs.Ytdgdnpgjbphgaab
