/- WaitFair: serve. -/
import Derived.Test.YtfebiemfmiahhaaFd
import Derived.Deep.RegionHeld3
namespace Go.Proofs.Ytfebiemfmiahhaa
open Go.ChangeShapes Go.WideShapes Go.ChangeAt Go.RowKit Go.Maps
set_option linter.unusedVariables false
set_option linter.unusedSimpArgs false
set_option maxRecDepth 100000
set_option maxHeartbeats 8000000
/-- somebody of the book wants it -/
def Wanted (A : List Ax) (x : Pl) (k : Int) : Prop := ∃ d ∈ A, wantsB x k d.x = true
theorem serve_any (w0 : World) (X : Nat → Obj → Prop) (w : World) (p T : Nat) (va : Option Addr) (m vc : Nat) (A : List Ax) (x : Pl) (k n : Int) (hx : POk x) (hm : m = A.length) (h : Fx w0 X w p T (.slice va m vc) A) :
    Calls Try.prog 20 #[.pointer (some ⟨p, 0, none⟩), .slice va m vc, .agg #[.int .i64 x.1, .string (bs x.2)], .int .i64 k, .int .i64 n] w fun e w' => ∃ va' m' vc', e = .returned (.tuple #[.slice va' m' vc', .bool true]) ∧ Hid (∃ A', m' = A'.length ∧ Fx w0 X w' p T (.slice va' m' vc') A' ∧ (n = 1 → Wanted A x k → m' + 1 = m)) := by
  obtain ⟨bp, hbp⟩ : ∃ bp, bp = w.heap.size := ⟨_, rfl⟩
  obtain ⟨X1, hX1⟩ : ∃ X1, X1 = XB X bp (.cells #[.int .i64 x.1, .string (bs x.2)] 40 (0, 0)) := ⟨_, rfl⟩
  have HXd : Hid (∀ w' v' A', Fx w0 X1 w' p T v' A' → Fx w0 X w' p T v' A') := hide fun w' v' A' q => by rw [hX1] at q; exact q.drop
  have HXc : Hid (∀ w' v' A', Fx w0 X1 w' p T v' A' → w'.cell? ⟨bp, 0, none⟩ = some (.int .i64 x.1) ∧ w'.cell? ⟨bp, 1, none⟩ = some (.string (bs x.2))) := hide fun w' v' A' q => by
    have := q.xw bp _ (by rw [hX1]; exact .inr ⟨rfl, rfl⟩)
    exact ⟨cell_blk this 0, cell_blk this 1⟩
  have H0 : Hid (Fx w0 X1 (w.alloc (.cells #[.int .i64 x.1, .string (bs x.2)] 40)) p T (.slice va m vc) A) := hide (by
    rw [hX1, hbp]
    exact h.more ((Below.refl _ _).alloc (Nat.le_refl _) _) (Nat.le_refl _) (heap_alloc_new _ _))
  have HM := hide hm
  clear h hm hX1
  obtain ⟨w1, hw1⟩ : ∃ w1, w.alloc (.cells #[.int .i64 x.1, .string (bs x.2)] 40) = w1 := ⟨_, rfl⟩
  go_enter Try.func20, Try.ntmps20
  go_wp2_with fail
  rw [← hbp]
  rw [hw1] at H0
  clear hw1 hbp
  go_loopw [1, 12] (fun lv kv wr => ∃ (va' : Option Addr) (m' vc' j : Nat), lv = .slice va' m' vc' ∧ kv = .int .i64 ((j : Nat) : Int) ∧ j ≤ 20 ∧ Hid (∃ A', m' = A'.length ∧ Fx w0 X1 wr p T (.slice va' m' vc') A' ∧ ((j : Int) ≤ n ∨ j = 0) ∧ (j = 0 → A' = A) ∧ (j = 1 → m' + 1 = m))) (fun _ kv _ => 20 - (intOf kv).toNat)
  case atStart => exact ⟨va, m, vc, 0, rfl, rfl, by omega, hide ⟨A, unhide HM, unhide H0, .inr rfl, fun _ => rfl, fun e => by cases e⟩⟩
  case round =>
    obtain ⟨va', m', vc', j, rfl, rfl, hj, HO⟩ := hrel
    clear H0
    by_cases hjn : (j : Int) < n
    rotate_left
    · have f1 : decide ((j : Int) < n) = false := decide_eq_false hjn
      go_wp2_with fail
      go_ret2
      obtain ⟨A', a1, a2, a3, a4, a5⟩ := unhide HO
      exact ⟨_, _, _, rfl, hide ⟨A', a1, unhide HXd _ _ _ a2, fun hn1 _ => a5 (by omega)⟩⟩
    have f1 : decide ((j : Int) < n) = true := decide_eq_true hjn
    by_cases hj20 : j < 20
    rotate_left
    · have f2 : decide ((j : Int) < 20) = false := decide_eq_false (by omega)
      have f3 : decide (j < 20) = false := decide_eq_false (by omega)
      go_wp2_with fail
      go_ret2
      obtain ⟨A', a1, a2, a3, a4, a5⟩ := unhide HO
      exact ⟨_, _, _, rfl, hide ⟨A', a1, unhide HXd _ _ _ a2, fun hn1 _ => a5 (by omega)⟩⟩
    have f2 : decide ((j : Int) < 20) = true := decide_eq_true (by omega)
    have f3 : decide (j < 20) = true := decide_eq_true (by omega)
    obtain ⟨A', HO⟩ := unhide HO
    have HA := hide HO.1
    have HF := hide HO.2.1
    have HI := hide HO.2.2
    have hm8 : m' ≤ 8 := by rw [HO.1]; exact HO.2.1.few
    clear HO
    obtain ⟨z0, z1⟩ := unhide HXc _ _ _ (unhide HF)
    go_wp2_with (go_at_call 22; refine (fx_next x k hx (unhide HF)).mono ?_; clear HF z0 z1; rintro e w2 ⟨c, r, rfl, H2⟩)
    go_loopw [15] (fun iv wx => ∃ i : Nat, iv = .int .i64 ((i : Nat) : Int) ∧ i ≤ m' ∧ Hid (Fx w0 X1 wx p T (.slice va' m' vc') A' ∧ ∀ d ∈ A'.take i, wantsB x k d.x = false)) (fun iv _ => m' - (intOf iv).toNat)
    case atStart => exact ⟨0, rfl, Nat.zero_le _, hide ⟨(unhide H2).1, by simp⟩⟩
    case round =>
      obtain ⟨i, rfl, hi, HQ⟩ := hrel
      by_cases him : i < m'
      rotate_left
      · obtain rfl : i = m' := by omega
        have f4 : decide ((i : Int) < (i : Int)) = false := decide_eq_false (by omega)
        have f5 : ((i : Int) == (i : Int)) = true := beq_self_eq_true _
        have hno : ∀ d ∈ A', wantsB x k d.x = false := fun d hd => (unhide HQ).2 d (by rw [unhide HA, List.take_length]; exact hd)
        have hnx := next_none hno
        obtain rfl : r = false := by rw [(unhide H2).2.2, hnx]; rfl
        obtain rfl : c = 0 := by rw [(unhide H2).2.1, hnx]; rfl
        have f6 : (((0 : Nat) : Int) == 0) = true := rfl
        have HNO := hide hno
        clear hno hnx
        go_wp2_with fail
        go_quiet (fail)
        go_wp2_with fail
        go_ret2
        have hfx : Fx w0 X1 (wr.drewN nq) p T (.slice va' i vc') A' := (unhide HQ).1.below (below_drewN (Below.refl _ _) nq)
        refine ⟨_, _, _, rfl, hide ⟨A', unhide HA, unhide HXd _ _ _ hfx, fun hn1 hw => ?_⟩⟩
        exfalso
        obtain ⟨d, hd, hw⟩ := hw
        obtain ⟨-, q2, -⟩ := unhide HI
        have := unhide HNO d (by rw [q2 (by omega)]; exact hd)
        rw [hw] at this
        cases this
      have f4 : decide ((i : Int) < (m' : Int)) = true := decide_eq_true (by omega)
      have g1 : (0 : Int) ≤ (i : Int) := by omega
      have g2 : (i : Int) < (m' : Int) := by omega
      obtain ⟨d, hd⟩ : ∃ d, A'[i]? = some d := ⟨_, List.getElem?_eq_getElem (by have := unhide HA; omega)⟩
      obtain ⟨bv, rfl, -⟩ := (unhide HQ).1.cells hd
      obtain ⟨⟨cn, kd, pl, tl⟩, pa, pc⟩ := d
      have HC : Hid (∀ W, Fx w0 X1 W p T (.slice (some ⟨bv, 0, none⟩) m' vc') A' → W.cell? ⟨bp, 0, none⟩ = some (.int .i64 x.1) ∧ W.cell? ⟨bp, 1, none⟩ = some (.string (bs x.2)) ∧ W.cell? ⟨bv, i * 4, none⟩ = some (.int .i64 (cn : Nat)) ∧ W.cell? ⟨bv, i * 4 + 1, none⟩ = some (.int .i64 kd) ∧ W.cell? ⟨bv, i * 4 + 2, none⟩ = some (.slice pa pl.length pc) ∧ W.cell? ⟨bv, i * 4 + 3, none⟩ = some (.int .u64 (tl : Nat))) := hide fun W q => by
        obtain ⟨c0, c1⟩ := unhide HXc _ _ _ q
        obtain ⟨b', e', c2, c3, c4, c5⟩ := q.cells hd
        cases e'
        exact ⟨c0, c1, c2, c3, c4, c5⟩
      have D35 : Hid (∀ (W : World) (B : Bool), B = wantsB x k ⟨cn, kd, pl, tl⟩ → Fx w0 X1 W p T (.slice (some ⟨bv, 0, none⟩) m' vc') A' → Calls Try.prog 35 #[.agg #[.int .i64 (cn : Nat), .int .i64 kd, .slice pa pl.length pc, .int .u64 (tl : Nat)], .agg #[.int .i64 x.1, .string (bs x.2)], .int .i64 k] W fun e w' => e = .returned (.bool B) ∧ w'.cell? ⟨bp, 0, none⟩ = some (.int .i64 x.1) ∧ w'.cell? ⟨bp, 1, none⟩ = some (.string (bs x.2)) ∧ w'.cell? ⟨bv, i * 4, none⟩ = some (.int .i64 (cn : Nat)) ∧ w'.cell? ⟨bv, i * 4 + 1, none⟩ = some (.int .i64 kd) ∧ w'.cell? ⟨bv, i * 4 + 2, none⟩ = some (.slice pa pl.length pc) ∧ w'.cell? ⟨bv, i * 4 + 3, none⟩ = some (.int .u64 (tl : Nat)) ∧ Hid (Fx w0 X1 w' p T (.slice (some ⟨bv, 0, none⟩) m' vc') A')) := hide fun W B hB q => by
        refine (fx_wants q hd x k).mono ?_
        rintro e w' ⟨rfl, H⟩
        have q2 := (unhide H).1
        obtain ⟨c0, c1, c2, c3, c4, c5⟩ := unhide HC _ q2
        exact ⟨by rw [hB], c0, c1, c2, c3, c4, c5, hide q2⟩
      have HD := hide hd
      obtain ⟨x0, x1, x2, x3, x4, x5⟩ := unhide HC wr (unhide HQ).1
      have HFd : Hid (Fx w0 X1 wr.drew p T (.slice (some ⟨bv, 0, none⟩) m' vc') A') := hide ((unhide HQ).1.below ⟨rfl, rfl, rfl, Nat.le_refl _, fun _ _ => rfl⟩)
      clear hd
      cases hB : wantsB x k ⟨cn, kd, pl, tl⟩ with
      | false =>
        have E35 := unhide D35 wr.drew false hB.symm (unhide HFd)
        have HN : Hid (∀ d ∈ A'.take (i + 1), wantsB x k d.x = false) := hide fun d hd => by
          rw [List.take_add_one, unhide HD] at hd
          rcases List.mem_append.1 hd with h | h
          · exact (unhide HQ).2 d h
          · obtain rfl : d = _ := by simpa [Option.toList] using h
            exact hB
        clear hB D35
        go_wp2_with fail
        go_region_held3 (fun W => W.cell? ⟨bp, 0, none⟩ = some (.int .i64 x.1) ∧ W.cell? ⟨bp, 1, none⟩ = some (.string (bs x.2)) ∧ W.cell? ⟨bv, i * 4, none⟩ = some (.int .i64 (cn : Nat)) ∧ W.cell? ⟨bv, i * 4 + 1, none⟩ = some (.int .i64 kd) ∧ W.cell? ⟨bv, i * 4 + 2, none⟩ = some (.slice pa pl.length pc) ∧ W.cell? ⟨bv, i * 4 + 3, none⟩ = some (.int .u64 (tl : Nat))) (go_keep) (first | (go_at_call 35; refine E35.mono ?_; rintro e w3 ⟨rfl, x0, x1, x2, x3, x4, x5, H3⟩))
        all_goals go_wp2_with fail
        all_goals exact ⟨⟨i + 1, congrArg (Value.int .i64) (by omega), by omega, hide ⟨unhide H3, unhide HN⟩⟩, by simp [intOf]; omega⟩
      | true =>
        have E35 := unhide D35 wr.drew true hB.symm (unhide HFd)
        have hnx := next_some (unhide HD) (unhide HQ).2 hB
        obtain rfl : r = true := by rw [(unhide H2).2.2, hnx]; rfl
        obtain rfl : c = cn := by rw [(unhide H2).2.1, hnx]; rfl
        have f5 : ((i : Int) == (m' : Int)) = false := by simp; omega
        have f6 : ((c : Int) != (c : Int)) = false := bne_self_eq_false _
        clear hB D35 hnx
        go_wp2_with fail
        go_region_held3 (fun W => W.cell? ⟨bp, 0, none⟩ = some (.int .i64 x.1) ∧ W.cell? ⟨bp, 1, none⟩ = some (.string (bs x.2)) ∧ W.cell? ⟨bv, i * 4, none⟩ = some (.int .i64 (c : Nat)) ∧ W.cell? ⟨bv, i * 4 + 1, none⟩ = some (.int .i64 kd) ∧ W.cell? ⟨bv, i * 4 + 2, none⟩ = some (.slice pa pl.length pc) ∧ W.cell? ⟨bv, i * 4 + 3, none⟩ = some (.int .u64 (tl : Nat))) (go_keep) (first | (go_at_call 35; refine E35.mono ?_; rintro e w3 ⟨rfl, x0, x1, x2, x3, x4, x5, H3⟩))
        all_goals go_wp2_with (first | (go_at_call 14; refine (fx_release (unhide H3) (unhide HD)).mono ?_; clear H3 x0 x1 x2 x3 x4 x5; rintro e w4 ⟨rfl, H4⟩) | (go_at_call 36; refine (fg_gone (unhide H4) (by have := unhide HA; omega)).mono ?_; clear H4; rintro e w5 ⟨va2, m2, vc2, rfl, H5⟩))
        all_goals
          obtain ⟨k1, k2⟩ := unhide H5
          refine ⟨⟨va2, m2, vc2, j + 1, rfl, congrArg (Value.int .i64) (by omega), by omega, hide ⟨A'.eraseIdx i, k1, k2, .inl (by omega), fun e => by omega, fun e => ?_⟩⟩, by simp [intOf]; omega⟩
          have hA := unhide HA
          have hM := unhide HM
          obtain ⟨-, q2, -⟩ := unhide HI
          rw [q2 (by omega)] at k1 hA
          rw [k1, List.length_eraseIdx_of_lt (by omega)]
          omega
end Go.Proofs.Ytfebiemfmiahhaa
