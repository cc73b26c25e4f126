/- WaitFair: leave. -/
import Derived.Test.YtfebiemfmiahhaaFf
import Derived.Deep.RegionHeld3
namespace Go.Proofs.Ytfebiemfmiahhaa
open Go.ChangeShapes Go.WideShapes Go.ChangeAt Go.RowKit Go.Maps
set_option linter.unusedVariables false
set_option linter.unusedSimpArgs false
set_option maxRecDepth 100000
set_option maxHeartbeats 8000000
/-- the state of leave: i of those who are due have left -/
structure Lv (w0 : World) (X1 : Nat → Obj → Prop) (w : World) (p T : Nat) (v : Value) (m now last i : Nat) (F : List Wt) : Prop where
  ex : ∃ A, m = A.length ∧ Fx w0 X1 w p T v A ∧ DuB (A.map (·.x)) now (F.drop i) ∧ ∀ z ∈ F.drop i, last ≤ z.till
theorem Lv.few {w0 w : World} {X1 : Nat → Obj → Prop} {p T m now last i : Nat} {v : Value} {F : List Wt} (h : Lv w0 X1 w p T v m now last i F) : m ≤ 8 := by
  obtain ⟨A, h1, h2, -⟩ := h.ex
  rw [h1]; exact h2.few
theorem leavb_any (w0 : World) (X : Nat → Obj → Prop) (w : World) (p T : Nat) (va : Option Addr) (m vc : Nat) (A : List Ax) (now : Nat) (hm : m = A.length) (h : Fx w0 X w p T (.slice va m vc) A) :
    Calls Try.prog 32 #[.pointer (some ⟨p, 0, none⟩), .slice va m vc, .int .u64 (now : Nat)] w fun e w' => ∃ va' m' vc', e = .returned (.tuple #[.slice va' m' vc', .bool true]) ∧ Hid (∃ A', m' = A'.length ∧ Fx w0 X w' p T (.slice va' m' vc') A') := by
  have HM := hide hm
  have H0 := hide h
  clear hm h
  go_enter Try.func32, Try.ntmps32
  go_wp2_with (go_at_call 12; refine (fx_due now (unhide H0)).mono ?_; clear H0; rintro e w1 ⟨g, n, rfl, H1⟩)
  obtain ⟨F, H1⟩ := unhide H1
  have HN := hide H1.1
  obtain ⟨X1, hX1⟩ : ∃ X1, X1 = XB X g (.cells ((F.map (·.conn)).map (fun c => Value.int .i64 (c : Nat))).toArray 3 (0, 0)) := ⟨_, rfl⟩
  rw [← hX1] at H1
  have HXd : Hid (∀ w' v' A', Fx w0 X1 w' p T v' A' → Fx w0 X w' p T v' A') := hide fun w' v' A' q => by rw [hX1] at q; exact q.drop
  have HXc : Hid (∀ w' v' A' i y, F[i]? = some y → Fx w0 X1 w' p T v' A' → w'.cell? ⟨g, i, none⟩ = some (.int .i64 (y.conn : Nat))) := hide fun w' v' A' i y hy q => by
    have := q.xw g _ (by rw [hX1]; exact .inr ⟨rfl, rfl⟩)
    rw [cell_blk this, List.getElem?_toArray, List.getElem?_map, List.getElem?_map, hy]; rfl
  have HL0 : Hid (Lv w0 X1 w1 p T (.slice va m vc) m now 0 0 F) := hide ⟨A, unhide HM, H1.2.2, H1.2.1, fun _ _ => Nat.zero_le _⟩
  have hn8 : n ≤ 8 := by
    rw [H1.1, H1.2.1.perm.length_eq]
    refine Nat.le_trans (List.length_filter_le _ _) ?_
    rw [List.length_map]
    exact H1.2.2.few
  clear H1 hX1 HM
  go_loopw [1, 9, 10] (fun lv tv iv wr => ∃ (va' : Option Addr) (m' vc' last i : Nat), lv = .slice va' m' vc' ∧ tv = .int .u64 ((last : Nat) : Int) ∧ iv = .int .i64 ((i : Nat) : Int) ∧ i ≤ n ∧ Hid (Lv w0 X1 wr p T (.slice va' m' vc') m' now last i F)) (fun _ _ iv _ => n - (intOf iv).toNat)
  case atStart => exact ⟨va, m, vc, 0, 0, rfl, rfl, rfl, Nat.zero_le _, HL0⟩
  case round =>
    obtain ⟨va', m', vc', last, i, rfl, rfl, rfl, hi, HO⟩ := hrel
    clear HL0
    have hm8 : m' ≤ 8 := (unhide HO).few
    by_cases hin : i < n
    rotate_left
    · obtain rfl : i = n := by omega
      have f1 : decide ((i : Int) < (i : Int)) = false := decide_eq_false (by omega)
      obtain ⟨A', a1, a2, a3, a4⟩ := (unhide HO).ex
      rw [unhide HN, List.drop_length] at a3
      have HA := hide a1
      have HF := hide a2
      have HD := hide a3.none
      have H3 := hide a3
      clear a1 a2 a3 a4
      go_wp2_with fail
      go_loopw [12] (fun kv wx => ∃ k : Nat, kv = .int .i64 ((k : Nat) : Int) ∧ k ≤ m' ∧ Hid (Fx w0 X1 wx p T (.slice va' m' vc') A')) (fun kv _ => m' - (intOf kv).toNat)
      case atStart => exact ⟨0, rfl, Nat.zero_le _, HF⟩
      case round =>
        obtain ⟨k, rfl, hk, HQ⟩ := hrel
        by_cases hkm : k < m'
        · have f2 : decide ((k : Int) < (m' : Int)) = true := decide_eq_true (by omega)
          have g1 : (0 : Int) ≤ (k : Int) := by omega
          have g2 : (k : Int) < (m' : Int) := by omega
          obtain ⟨d, hd⟩ : ∃ d, A'[k]? = some d := ⟨_, List.getElem?_eq_getElem (by have := unhide HA; omega)⟩
          obtain ⟨bv, rfl, -, -, -, x3⟩ := (unhide HQ).cells hd
          have hdu := unhide HD d (List.mem_of_getElem? hd)
          obtain ⟨⟨cn, kd, pl, tl⟩, pa, pc⟩ := d
          have x3' : wr.cell? ⟨bv, k * 4 + 3, none⟩ = some (.int .u64 (tl : Nat)) := x3
          have hdu' : (decide (tl ≠ 0) && decide (tl ≤ now)) = false := hdu
          clear x3 hdu hd
          by_cases ht : tl = 0
          · subst ht
            have f3 : (((0 : Nat) : Int) != 0) = false := rfl
            clear hdu'
            go_wp2_with fail
            exact ⟨⟨k + 1, congrArg (Value.int .i64) (by omega), by omega, HQ⟩, by simp [intOf]; omega⟩
          · have f3 : ((tl : Int) != 0) = true := by simp; omega
            have hlt : ¬ tl ≤ now := by
              intro hle
              rw [decide_eq_true ht, decide_eq_true hle] at hdu'
              cases hdu'
            have f4 : decide ((tl : Int) ≤ (now : Int)) = false := decide_eq_false (by omega)
            have f5 : decide (tl ≤ now) = false := decide_eq_false hlt
            clear hdu' hlt ht
            go_wp2_with fail
            exact ⟨⟨k + 1, congrArg (Value.int .i64) (by omega), by omega, HQ⟩, by simp [intOf]; omega⟩
        · obtain rfl : k = m' := by omega
          have f2 : decide ((k : Int) < (k : Int)) = false := decide_eq_false (by omega)
          go_wp2_with (go_at_call 12; refine (fx_due now (unhide HQ)).mono ?_; clear HQ; rintro e w6 ⟨g6, n6, rfl, H6⟩; obtain ⟨F6, k1, k2, k3⟩ := unhide H6; obtain rfl : n6 = 0 := (by rw [k1, k2.nil (unhide HD)]; rfl); have H7 := hide k3; clear H6 k1 k2 k3)
          go_ret2
          exact ⟨_, _, _, rfl, hide ⟨A', unhide HA, unhide HXd _ _ _ (unhide H7).drop⟩⟩
    have f1 : decide ((i : Int) < (n : Int)) = true := decide_eq_true (by omega)
    have g1 : (0 : Int) ≤ (i : Int) := by omega
    have g2 : (i : Int) < (n : Int) := by omega
    obtain ⟨A', a1, a2, a3, a4⟩ := (unhide HO).ex
    obtain ⟨y, hy⟩ : ∃ y, F[i]? = some y := ⟨_, List.getElem?_eq_getElem (by have := unhide HN; omega)⟩
    have hdr : F.drop i = y :: F.drop (i + 1) := by
      obtain ⟨q1, q2⟩ := List.getElem?_eq_some_iff.1 hy
      rw [List.drop_eq_getElem_cons q1, q2]
    rw [hdr] at a3 a4
    obtain ⟨k0, d0, hd0, hdx, hdue⟩ := a3.head
    have hk0 : k0 < m' := by rw [a1]; exact (List.getElem?_eq_some_iff.1 hd0).1
    have HT : Hid (∀ z ∈ F.drop (i + 1), y.till ≤ z.till) := hide a3.least
    have HDt := hide (a3.tail hd0 hdx hdue)
    have hla : last ≤ y.till := a4 y (List.mem_cons_self ..)
    have HROW : Hid (∀ W, Fx w0 X1 W p T (.slice va' m' vc') A' → W.cell? ⟨g, i, none⟩ = some (.int .i64 (y.conn : Nat))) := hide fun W q => unhide HXc _ _ _ i y hy q
    obtain ⟨⟨cn, kd, pl, tl⟩, pa, pc⟩ := d0
    subst hdx
    have hdue' : (decide (tl ≠ 0) && decide (tl ≤ now)) = true := hdue
    have htl0 : tl ≠ 0 := by
      intro h0
      rw [decide_eq_false (by omega)] at hdue'
      cases hdue'
    have htln : tl ≤ now := by
      rcases Nat.lt_or_ge now tl with h0 | h0
      · rw [decide_eq_false (show ¬ tl ≤ now by omega), Bool.and_false] at hdue'
        cases hdue'
      · exact h0
    have hla' : last ≤ tl := hla
    obtain ⟨bv, rfl, -⟩ := a2.cells hd0
    have HC : Hid (∀ W, Fx w0 X1 W p T (.slice (some ⟨bv, 0, none⟩) m' vc') A' → W.cell? ⟨g, i, none⟩ = some (.int .i64 (cn : Nat)) ∧ W.cell? ⟨bv, k0 * 4, none⟩ = some (.int .i64 (cn : Nat)) ∧ W.cell? ⟨bv, k0 * 4 + 3, none⟩ = some (.int .u64 (tl : Nat))) := hide fun W q => by
      obtain ⟨b', e', c2, c3, c4, c5⟩ := q.cells hd0
      cases e'
      exact ⟨unhide HROW W q, c2, c5⟩
    have HCa : Hid (∀ W (a : Nat) (d : Ax), A'[a]? = some d → Fx w0 X1 W p T (.slice (some ⟨bv, 0, none⟩) m' vc') A' → W.cell? ⟨bv, a * 4, none⟩ = some (.int .i64 (d.x.conn : Nat))) := hide fun W a d hd q => by
      obtain ⟨b', e', c2, -⟩ := q.cells hd
      cases e'
      exact c2
    have HA := hide a1
    have HF := hide a2
    have HD0 := hide hd0
    have HNd := hide a2.nodup
    have f3 : ((tl : Int) == 0) = false := by simp; omega
    have f4 : decide ((now : Int) < (tl : Int)) = false := decide_eq_false (by omega)
    have f5 : decide (now < tl) = false := decide_eq_false (by omega)
    have f6 : decide ((tl : Int) < (last : Int)) = false := decide_eq_false (by omega)
    have f7 : decide (tl < last) = false := decide_eq_false (by omega)
    have f8 : ((k0 : Int) == (m' : Int)) = false := by simp; omega
    have g3 : (0 : Int) ≤ (k0 : Int) := by omega
    have g4 : (k0 : Int) < (m' : Int) := by omega
    clear a1 a2 a3 a4 hd0 hdue hdue' htl0 htln hla hla' HXc hdr HROW hy HO
    go_wp2_with fail
    go_loopw [11] (fun av wx => ∃ a : Nat, av = .int .i64 ((a : Nat) : Int) ∧ a ≤ k0 ∧ Hid (Fx w0 X1 wx p T (.slice (some ⟨bv, 0, none⟩) m' vc') A')) (fun av _ => k0 - (intOf av).toNat)
    case atStart => exact ⟨0, rfl, Nat.zero_le _, HF⟩
    case round =>
      obtain ⟨a, rfl, ha, HQ⟩ := hrel
      clear HF
      obtain ⟨x0, x1, x2⟩ := unhide HC wr (unhide HQ)
      by_cases hak : a = k0
      · subst hak
        have f2 : decide ((a : Int) < (m' : Int)) = true := decide_eq_true (by omega)
        have f9 : ((cn : Int) != (cn : Int)) = false := bne_self_eq_false _
        go_wp2_with fail
        go_quiet (fail)
        have HQ2 : Hid (Fx w0 X1 (wr.drewN nq) p T (.slice (some ⟨bv, 0, none⟩) m' vc') A') := hide ((unhide HQ).below (below_drewN (Below.refl _ _) nq))
        clear x0 x1 x2 HQ
        generalize wr.drewN nq = w8 at *
        obtain ⟨x0, x1, x2⟩ := unhide HC w8 (unhide HQ2)
        go_wp2_with (first | (go_at_call 14; refine (fx_release (unhide HQ2) (unhide HD0)).mono ?_; clear x0 x1 x2; rintro e w9 ⟨rfl, H9⟩; obtain ⟨b9, e9, x1, -, -, x2⟩ := (unhide H9).cells (unhide HD0); cases e9) | (go_at_call 36; refine (fg_gone (unhide H9) (by have := unhide HA; omega)).mono ?_; clear H9 x1 x2; rintro e w5 ⟨va2, m2, vc2, rfl, H5⟩))
        obtain ⟨k1, k2⟩ := unhide H5
        exact ⟨⟨va2, m2, vc2, tl, i + 1, rfl, rfl, congrArg (Value.int .i64) (by omega), by omega, hide ⟨_, k1, k2, unhide HDt, unhide HT⟩⟩, by simp [intOf]; omega⟩
      · have hlt : a < k0 := by omega
        have f2 : decide ((a : Int) < (m' : Int)) = true := decide_eq_true (by omega)
        have g5 : (0 : Int) ≤ (a : Int) := by omega
        have g6 : (a : Int) < (m' : Int) := by omega
        obtain ⟨d, hd⟩ : ∃ d, A'[a]? = some d := ⟨_, List.getElem?_eq_getElem (by have := unhide HA; omega)⟩
        obtain ⟨c2, hc2⟩ : ∃ c2, c2 = d.x.conn := ⟨_, rfl⟩
        have x3 := unhide HCa wr a d hd (unhide HQ)
        have hne : c2 ≠ cn := fun e => hak (nodup_at (unhide HNd) hd (unhide HD0) (by rw [← hc2, e]))
        rw [← hc2] at x3
        have f9 : ((c2 : Int) != (cn : Int)) = true := by simp; omega
        clear hd hc2 hne hak
        go_wp2_with fail
        go_quiet (fail)
        have HQ2 : Hid (Fx w0 X1 (wr.drewN nq) p T (.slice (some ⟨bv, 0, none⟩) m' vc') A') := hide ((unhide HQ).below (below_drewN (Below.refl _ _) nq))
        go_wp2_with fail
        exact ⟨⟨a + 1, congrArg (Value.int .i64) (by omega), by omega, HQ2⟩, by simp [intOf]; omega⟩
end Go.Proofs.Ytfebiemfmiahhaa
