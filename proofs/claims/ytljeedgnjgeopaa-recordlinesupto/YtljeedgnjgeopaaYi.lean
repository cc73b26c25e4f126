/- record: the reader: an entry. -/
import Derived.Test.YtljeedgnjgeopaaYh
namespace Larder
set_option linter.unusedVariables false
set_option linter.unusedSimpArgs false
theorem rdE_tk (s : Rd) : s.bind rdE = ((tkS (tkS s 8) 8).bind (rdLst rdA)).map fun p => (⟨ofBig (tkV s 8), ofBig (tkV (tkS s 8) 8), p.1⟩, p.2) := by
  cases s with
  | none => rfl
  | some l =>
    show rdE l = _
    unfold rdE
    rw [rdN_tk]
    cases h1 : tkS (some l) 8 with
    | none => rfl
    | some r =>
      simp only [Option.map_some]
      rw [rdN_tk]
      cases h2 : tkS (some r) 8 with
      | none => rfl
      | some r2 =>
        simp only [Option.map_some, Option.bind_some]
        unfold rdLst
        cases h4 : rdN 4 r2 with
        | none => rfl
        | some p =>
          obtain ⟨n, r3⟩ := p
          dsimp only
          cases rdL rdA n r3 with
          | none => rfl
          | some q => rfl
end Larder
namespace Go.Proofs.Ytljeedgnjgeopaa
open Go.ChangeShapes Go.WideShapes Go.ChangeAt Go.RowKit
set_option linter.unusedVariables false
set_option linter.unusedSimpArgs false
set_option maxRecDepth 100000
set_option maxHeartbeats 4000000
/-- what an entry's reader answers -/
def EnEnd (w : World) (g : Nat) (R : Option (Larder.EntP × List Nat)) (e : Ending) (w' : World) : Prop := ∃ (sq : Int) (nw : Nat) (a : Option Addr) (n c : Nat), e = .returned (.agg #[.int .i64 sq, .int .u64 (nw : Nat), .slice a n c]) ∧ Hid (Kx g w w' ∧ (∀ q, (Value.slice a n c).ownBlock = some q → w.heap.size ≤ q) ∧ ((R = none ∧ RdAt w' g none) ∨ ∃ (v : Nat) (xs : List Larder.ActP) (r : List Nat), R = some (⟨v, nw, xs⟩, r) ∧ sq = IntKind.i64.wrap (v : Int) ∧ v < 18446744073709551616 ∧ RdAt w' g (some r) ∧ n = xs.length ∧ AL w' (.slice a n c) xs))
theorem entry_any (w : World) (g : Nat) (s : Larder.Rd) (h : RdAt w g s) (hs : SmS s) (hl : (s.getD []).length ≤ 1099511627776) : Calls Try.prog 58 #[.pointer (some ⟨g, 0, none⟩)] w (EnEnd w g (s.bind Larder.rdE)) := by
  obtain ⟨A, hA⟩ : ∃ A, A = w.heap.size := ⟨_, rfl⟩
  have hgw : g < A := by rw [hA]; exact rdlt h
  have hb1 := (Below.refl w.heap.size w).alloc (Nat.le_refl _) (.cells #[.int .i64 0, .int .u64 0, .slice none 0 0] 41)
  have hn1 := heap_alloc_new w (.cells #[.int .i64 0, .int .u64 0, .slice none 0 0] 41)
  obtain ⟨w1, hw1⟩ : ∃ w1, w.alloc (.cells #[.int .i64 0, .int .u64 0, .slice none 0 0] 41) = w1 := ⟨_, rfl⟩
  rw [hw1] at hb1 hn1
  have hs1 : w1.heap.size = A + 1 := by rw [← hw1, hA]; simp
  have hb2 := (Below.refl w1.heap.size w1).alloc (Nat.le_refl _) (.cells #[.int .i64 0, .int .u64 0, .slice none 0 0] 41)
  have hn2 := heap_alloc_new w1 (.cells #[.int .i64 0, .int .u64 0, .slice none 0 0] 41)
  obtain ⟨w2, hw2⟩ : ∃ w2, w1.alloc (.cells #[.int .i64 0, .int .u64 0, .slice none 0 0] 41) = w2 := ⟨_, rfl⟩
  rw [hw2] at hb2 hn2
  rw [hs1] at hn2
  rw [← hA] at hn1
  have hn1' : w2.heap[A]? = _ := (hb2.block A (by omega)).trans hn1
  have hb : Below w.heap.size w w2 := hb1.trans (hb2.mono hb1.size)
  have hs2 : w2.heap.size = A + 2 := by rw [← hw2]; simp [hs1]
  have CA := num64 w2 g s (h.below hb) hs
  have hd := ofBig_lt (Larder.tkV s 8) (hs.tkV 8)
  have hd2 : Larder.ofBig (Larder.tkV s 8) < 18446744073709551616 := by rcases tk_len s 8 with e | e <;> rw [e] at hd <;> omega
  rw [Larder.rdE_tk]
  have hS := hs.tkS 8
  have hL := rest_len 8 hl
  unfold NmEnd at CA
  generalize Larder.tkS s 8 = S at CA hS hL ⊢
  generalize Larder.ofBig (Larder.tkV s 8) = v at CA hd2 ⊢
  obtain ⟨sq, hsq⟩ : ∃ sq, sq = IntKind.i64.wrap (v : Int) := ⟨_, rfl⟩
  have q1 := hsq.symm
  have hS2 := hS.tkS 8
  have hL2 := rest_len 8 hL
  have CB0 : ∀ W, RdAt W g S → Calls Try.prog 67 #[.pointer (some ⟨g, 0, none⟩)] W (NmEnd W g .u64 (Larder.tkV S 8) (Larder.tkS S 8)) := fun W hW => num64 W g S hW hS
  unfold NmEnd at CB0
  generalize Larder.tkS S 8 = S2 at CB0 hS2 hL2 ⊢
  generalize Larder.ofBig (Larder.tkV S 8) = nw at CB0 ⊢
  have CA' : Calls Try.prog 67 #[.pointer (some ⟨g, 0, none⟩)] w2 fun e w' => e = .returned (.int .u64 (v : Nat)) ∧ w'.cell? ⟨A + 1, 0, none⟩ = some (.int .i64 0) ∧ w'.frozen? ⟨A + 1, 0, none⟩ = false ∧ Hid (Kx g w2 w' ∧ RdAt w' g S) := CA.mono fun e w' ⟨z1, z2⟩ => ⟨z1, cell_blk (((unhide z2).1.blk (A + 1) (by omega) (by omega)).trans hn2) 0, frz (((unhide z2).1.blk (A + 1) (by omega) (by omega)).trans hn2) 0, z2⟩
  have CB : Hid (∀ w3, Kx g w2 w3 ∧ RdAt w3 g S → Calls Try.prog 67 #[.pointer (some ⟨g, 0, none⟩)] (w3.setCell ⟨A + 1, 0, none⟩ (.int .i64 sq)) fun e w5 => e = .returned (.int .u64 (nw : Nat)) ∧ w5.cell? ⟨A + 1, 1, none⟩ = some (.int .u64 0) ∧ w5.frozen? ⟨A + 1, 1, none⟩ = false ∧ Hid (A + 2 ≤ w5.heap.size ∧ Kx g w w5 ∧ RdAt w5 g S2 ∧ w5.heap[A + 1]? = some (.cells #[.int .i64 sq, .int .u64 0, .slice none 0 0] 41 (0, 0)) ∧ w5.heap[A]? = some (.cells #[.int .i64 0, .int .u64 0, .slice none 0 0] 41 (0, 0)))) := hide (by
    rintro w3 ⟨z1, z2⟩
    have m1 : w3.heap[A + 1]? = _ := (z1.blk (A + 1) (by omega) (by omega)).trans hn2
    have m0 : w3.heap[A]? = _ := (z1.blk A (by omega) (by omega)).trans hn1'
    have m1' := set_block w3 (A + 1) 0 (.int .i64 sq) _ _ _ m1
    have m0' := (set_else w3 (A + 1) 0 A (.int .i64 sq) (by omega)).trans m0
    have hsz : A + 2 ≤ w3.heap.size := by have := z1.size; omega
    refine (CB0 _ (z2.put (by omega))).mono ?_
    rintro e w5 ⟨z3, z4⟩
    have u1 := (unhide z4).1
    have n1 : w5.heap[A + 1]? = _ := (u1.blk (A + 1) (by simp; omega) (by omega)).trans m1'
    have n0 : w5.heap[A]? = _ := (u1.blk A (by simp; omega) (by omega)).trans m0'
    have hsz5 : A + 2 ≤ w5.heap.size := by have := u1.size; simp at this; omega
    exact ⟨z3, cell_blk n1 1, frz n1 1, hide ⟨hsz5, (((Kx.below hb).trans z1).put2 (A := A + 1) (by omega)).trans u1, (unhide z4).2, n1, n0⟩⟩)
  have CC : Hid (∀ w5, (A + 2 ≤ w5.heap.size ∧ Kx g w w5 ∧ RdAt w5 g S2 ∧ w5.heap[A + 1]? = some (.cells #[.int .i64 sq, .int .u64 0, .slice none 0 0] 41 (0, 0)) ∧ w5.heap[A]? = some (.cells #[.int .i64 0, .int .u64 0, .slice none 0 0] 41 (0, 0))) → Calls Try.prog 68 #[.pointer (some ⟨g, 0, none⟩), .func (.func 69) #[] #[]] (w5.setCell ⟨A + 1, 1, none⟩ (.int .u64 (nw : Nat))) fun e w7 => ∃ a n c, e = .returned (.slice a n c) ∧ w7.cell? ⟨A + 1, 2, none⟩ = some (.slice none 0 0) ∧ w7.frozen? ⟨A + 1, 2, none⟩ = false ∧ (w7.setCell ⟨A + 1, 2, none⟩ (.slice a n c)).cell? ⟨A + 1, 0, none⟩ = some (.int .i64 sq) ∧ (w7.setCell ⟨A + 1, 2, none⟩ (.slice a n c)).cell? ⟨A + 1, 1, none⟩ = some (.int .u64 (nw : Nat)) ∧ (w7.setCell ⟨A + 1, 2, none⟩ (.slice a n c)).cell? ⟨A + 1, 2, none⟩ = some (.slice a n c) ∧
      (w7.setCell ⟨A + 1, 2, none⟩ (.slice a n c)).cell? ⟨A, 0, none⟩ = some (.int .i64 0) ∧ (w7.setCell ⟨A + 1, 2, none⟩ (.slice a n c)).frozen? ⟨A, 0, none⟩ = false ∧
      ((w7.setCell ⟨A + 1, 2, none⟩ (.slice a n c)).setCell ⟨A, 0, none⟩ (.int .i64 sq)).cell? ⟨A, 1, none⟩ = some (.int .u64 0) ∧ ((w7.setCell ⟨A + 1, 2, none⟩ (.slice a n c)).setCell ⟨A, 0, none⟩ (.int .i64 sq)).frozen? ⟨A, 1, none⟩ = false ∧
      (((w7.setCell ⟨A + 1, 2, none⟩ (.slice a n c)).setCell ⟨A, 0, none⟩ (.int .i64 sq)).setCell ⟨A, 1, none⟩ (.int .u64 (nw : Nat))).cell? ⟨A, 2, none⟩ = some (.slice none 0 0) ∧ (((w7.setCell ⟨A + 1, 2, none⟩ (.slice a n c)).setCell ⟨A, 0, none⟩ (.int .i64 sq)).setCell ⟨A, 1, none⟩ (.int .u64 (nw : Nat))).frozen? ⟨A, 2, none⟩ = false ∧
      Hid (((((w7.setCell ⟨A + 1, 2, none⟩ (.slice a n c)).setCell ⟨A, 0, none⟩ (.int .i64 sq)).setCell ⟨A, 1, none⟩ (.int .u64 (nw : Nat))).setCell ⟨A, 2, none⟩ (.slice a n c)).heap[A]? = some (.cells #[.int .i64 sq, .int .u64 (nw : Nat), .slice a n c] 41 (0, 0))) ∧
      Hid (EnEnd w g ((S2.bind (Larder.rdLst Larder.rdA)).map fun p => (⟨v, nw, p.1⟩, p.2)) (.returned (.agg #[.int .i64 sq, .int .u64 (nw : Nat), .slice a n c])) ((((w7.setCell ⟨A + 1, 2, none⟩ (.slice a n c)).setCell ⟨A, 0, none⟩ (.int .i64 sq)).setCell ⟨A, 1, none⟩ (.int .u64 (nw : Nat))).setCell ⟨A, 2, none⟩ (.slice a n c)))) := hide (by
    rintro w5 ⟨hsz, z0, z1, m1, m0⟩
    have m1' := set_block w5 (A + 1) 1 (.int .u64 (nw : Nat)) _ _ _ m1
    have m0' := (set_else w5 (A + 1) 1 A (.int .u64 (nw : Nat)) (by omega)).trans m0
    refine (list_acts _ g S2 (z1.put (by omega)) hS2 hL2).mono ?_
    rintro e w7 ⟨a, n, c, rfl, H⟩
    obtain ⟨u1, u2, u3⟩ := unhide H
    have n1 : w7.heap[A + 1]? = _ := (u1.blk (A + 1) (by simp; omega) (by omega)).trans m1'
    have n0 : w7.heap[A]? = _ := (u1.blk A (by simp; omega) (by omega)).trans m0'
    have p1 := set_block w7 (A + 1) 2 (.slice a n c) _ _ _ n1
    have p0 := (set_else w7 (A + 1) 2 A (.slice a n c) (by omega)).trans n0
    have r0 := set_block _ A 0 (.int .i64 sq) _ _ _ p0
    have r1 := set_block _ A 1 (.int .u64 (nw : Nat)) _ _ _ r0
    have r2 := set_block _ A 2 (.slice a n c) _ _ _ r1
    refine ⟨a, n, c, rfl, cell_blk n1 2, frz n1 2, cell_blk p1 0, cell_blk p1 1, cell_blk p1 2, cell_blk p0 0, frz p0 0, cell_blk r0 1, frz r0 1, cell_blk r1 2, frz r1 2, hide r2, hide ⟨sq, nw, a, n, c, rfl, hide ⟨?_, fun q hq => ?_, ?_⟩⟩⟩
    · have x2 : Kx g w w7 := (z0.put2 (i := 1) (v := .int .u64 (nw : Nat)) (A := A + 1) (by omega)).trans u1
      exact (((x2.put2 (A := A + 1) (by omega)).put2 (A := A) (by omega)).put2 (A := A) (by omega)).put2 (A := A) (by omega)
    · have := u2 q hq
      simp at this
      omega
    · rcases u3 with ⟨e1, e2⟩ | ⟨xs, r, e1, e2, e3, e4⟩
      · exact .inl ⟨by rw [e1]; rfl, (((e2.put (by omega)).put (by omega)).put (by omega)).put (by omega)⟩
      · refine .inr ⟨v, xs, r, by rw [e1]; rfl, hsq, hd2, (((e2.put (by omega)).put (by omega)).put (by omega)).put (by omega), e3, ?_⟩
        exact (((e4.kt (Kt.put n1) (by decide) (by decide) (by decide)).kt (Kt.put p0) (by decide) (by decide) (by decide)).kt (Kt.put r0) (by decide) (by decide) (by decide)).kt (Kt.put r1) (by decide) (by decide) (by decide))
  clear h hs hl hb1 hn1 hb2 hn2 hn1' hb CA hd hS hL hd2 hsq hS2 hL2 CB0
  unfold EnEnd at CC ⊢
  have hA' := hA.symm
  clear hA
  go_enter Try.func58, Try.ntmps58
  go_wp2_with (first
    | (go_at_call 68; refine ((unhide CC) w5 (unhide k5)).mono ?_; clear CC; rintro e w7 ⟨a, n, c, rfl, y1, y1', y2, y3, y3', y4, y4', y5, y5', y55, y55', y6, y7⟩)
    | (go_at_call 67; refine ((unhide CB) w3 (unhide k3)).mono ?_; clear CB; rintro e w5 ⟨rfl, y8, y8', k5⟩)
    | (go_at_call 67; refine CA'.mono ?_; clear CA'; rintro e w3 ⟨rfl, y0, y0', k3⟩))
  refine bodyPost_ret (results_box1 (p := 2) (ty := 41) rfl _ _ A 41 _ (0, 0) _ rfl (unhide y6) Try.underlying41 rfl (by kernel_rfl)) rfl ?_
  exact unhide y7
end Go.Proofs.Ytljeedgnjgeopaa
