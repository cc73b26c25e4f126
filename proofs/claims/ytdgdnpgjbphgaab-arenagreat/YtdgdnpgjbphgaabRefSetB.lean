/- The document's block: SetBytes. -/
import Derived.Test.YtdgdnpgjbphgaabRefBytes
import Derived.Test.YtdgdnpgjbphgaabSetBytes
import Derived.Test.YtdgdnpgjbphgaabBookGrow
namespace Go.Proofs.Ytdgdnpgjbphgaab
open Go.ChangeShapes Go.WideShapes Go.ChangeAt Go.RowKit
set_option linter.unusedVariables false
set_option maxRecDepth 100000
set_option maxHeartbeats 4000000

/-- the first words of l lie in the raws of object j -/
def RefSt.fill (R : RefSt) (j : Nat) (l : List Nat) : Nat → RefSt
  | 0 => R
  | m + 1 => (R.fill j l m).put j ((R.L.getD j (0, 0, 0)).2.1 + m) (l.getD m 0)
theorem fill_same (R : RefSt) (j : Nat) (l : List Nat) : ∀ m, (R.fill j l m).L = R.L ∧ (R.fill j l m).F = R.F ∧ (R.fill j l m).v = R.v ∧ (R.fill j l m).Gn = R.Gn ∧ (R.fill j l m).size = R.size
  | 0 => ⟨rfl, rfl, rfl, rfl, rfl⟩
  | m + 1 => fill_same R j l m
theorem RefAt.below {w w' : World} {pr r : Nat} {rt : Nat → Nat} {R : RefSt} (h : RefAt w pr r rt R) (k : Below w.heap.size w w') : RefAt w' pr r rt R := h.conf k.size (fun g hg _ => k.block g hg) (fun _ _ _ => rfl)
theorem rsb_none {w : World} {pr r : Nat} {rt : Nat → Nat} {R : RefSt} (h : RefAt w pr r rt R) (at' : Int) (hno : ∀ j, j < R.L.length → at' ≠ (place R.L j : Nat)) (f : Int) (a : Option Addr) (n cap : Nat) :
    Calls Try.prog 35 #[.pointer (some ⟨pr, 0, none⟩), .int .i64 at', .int .i64 f, .slice a n cap] w fun e w' => e = .returned (.int .i64 23) ∧ Still w w' := by
  have HF := hide (rbytes_none h at' hno f n)
  clear h hno
  go_enter Try.func35, Try.ntmps35
  go_wp2_with fail
  refine (unhide HF).mono ?_
  rintro e w1 ⟨rfl, hst⟩
  have HS := hide hst
  clear hst
  go_wp2
  refine bodyPost_ret (v := .int .i64 23) (by simp [results, Try.results35, go_sem]) rfl ⟨rfl, unhide HS⟩
theorem rsb_gone {w : World} {pr r : Nat} {rt : Nat → Nat} {R : RefSt} (h : RefAt w pr r rt R) (j t : Nat) (hj : j < R.L.length) (hg : R.Gn.getD j none = some t) (f : Int) (a : Option Addr) (n cap : Nat) :
    Calls Try.prog 35 #[.pointer (some ⟨pr, 0, none⟩), .int .i64 (place R.L j : Nat), .int .i64 f, .slice a n cap] w fun e w' => e = .returned (.int .i64 26) ∧ Still w w' := by
  have HF := hide (rbytes_gone h j t hj hg f n)
  clear h hg
  go_enter Try.func35, Try.ntmps35
  go_wp2_with fail
  refine (unhide HF).mono ?_
  rintro e w1 ⟨rfl, hst⟩
  have HS := hide hst
  clear hst
  go_wp2
  refine bodyPost_ret (v := .int .i64 26) (by simp [results, Try.results35, go_sem]) rfl ⟨rfl, unhide HS⟩
theorem rsb_span {w : World} {pr r : Nat} {rt : Nat → Nat} {R : RefSt} (h : RefAt w pr r rt R) (j : Nat) (hj : j < R.L.length) (hg : R.Gn.getD j none = none) (f : Int) (a : Option Addr) (n cap : Nat) (hsp : ¬ (0 ≤ f ∧ f ≤ (8 * (R.L.getD j (0, 0, 0)).2.2 : Nat) ∧ 0 ≤ (n : Int) ∧ (n : Int) ≤ (8 * (R.L.getD j (0, 0, 0)).2.2 : Nat) - f)) :
    Calls Try.prog 35 #[.pointer (some ⟨pr, 0, none⟩), .int .i64 (place R.L j : Nat), .int .i64 f, .slice a n cap] w fun e w' => e = .returned (.int .i64 25) ∧ Below w.heap.size w w' := by
  have HF := hide (rbytes_span h j hj hg f n hsp)
  clear h hg hsp
  go_enter Try.func35, Try.ntmps35
  go_wp2_with fail
  refine (unhide HF).mono ?_
  rintro e w1 ⟨rfl, hst⟩
  have HS := hide hst
  clear hst
  go_wp2
  refine bodyPost_ret (v := .int .i64 25) (by simp [results, Try.results35, go_sem]) rfl ⟨rfl, unhide HS⟩
theorem getD_taken (d : List Nat) (k : Nat) (hk : k < d.length) : d.take (k + 1) = d.take k ++ [d.getD k 0] := by
  rw [List.take_succ_eq_append_getElem hk, List.getD_eq_getElem?_getD, List.getElem?_eq_getElem hk]; rfl
theorem patch_next (l : List Nat) (f : Nat) (d : List Nat) (k : Nat) (hk : k < d.length) (hf : f + d.length ≤ l.length) : patch l f (d.take (k + 1)) = (patch l f (d.take k)).set (f + k) (d.getD k 0) := by
  have l1 : (d.take k).length = k := by rw [List.length_take]; omega
  have l2 : (d.take (k + 1)).length = k + 1 := by rw [List.length_take]; omega
  apply List.ext_getElem (by rw [List.length_set, patch_length, patch_length])
  intro i h1 h2
  have e1 : ∀ (x : List Nat) (h : i < x.length), x[i] = x.getD i 0 := fun x h => by rw [List.getD_eq_getElem?_getD, List.getElem?_eq_getElem h]; rfl
  rw [patch_length] at h1
  rw [e1 _ _, e1 _ _, getD_set _ _ _ _ (by rw [patch_length]; omega), patch_at _ _ _ _ h1, patch_at _ _ _ _ h1, l1, l2, getD_taken d k hk]
  by_cases e : i = f + k
  · subst e
    rw [if_pos rfl, if_pos (by omega), show f + k - f = k by omega, getD_last _ _ _ _ l1]
  · rw [if_neg e]
    by_cases e2 : f ≤ i ∧ i < f + k
    · rw [if_pos e2, if_pos (by omega), getD_old _ _ _ _ (by rw [l1]; omega)]
    · rw [if_neg e2, if_neg (by omega)]
theorem rsb_yes {w : World} {pr r : Nat} {rt : Nat → Nat} {R : RefSt} (h : RefAt w pr r rt R) (un : ∀ g, rt g ≠ 0 → g < w.heap.size) (j : Nat) (hj : j < R.L.length) (hg : R.Gn.getD j none = none) (f : Nat) (d : List Nat) (a : Option Addr) (cap : Nat) (hB : Bytes w a d) (hsd : Small d) (hsp : f + d.length ≤ 8 * (R.L.getD j (0, 0, 0)).2.2) :
    Calls Try.prog 35 #[.pointer (some ⟨pr, 0, none⟩), .int .i64 (place R.L j : Nat), .int .i64 (f : Nat), .slice a d.length cap] w fun e w' => e = .returned (.int .i64 0) ∧ RChg (Mine r) rt rt w w' ∧ RefAt w' pr r rt (R.fill j (Larder.packL (patch (rbyN R j) f d)) (R.L.getD j (0, 0, 0)).2.2) := by
  have HF := hide (rbytes_yes h j hj hg f d.length hsp)
  have HFD := hide (fun w1 (k : Below w.heap.size w w1) => find_yes (h.below k) j hj)
  have HO := hide (fun w1 (k : Below w.heap.size w w1) wq (kq : Still w1 wq) => (h.below k).six j hj wq kq)
  have HRW := hide (fun w1 (k : Below w.heap.size w w1) => (h.below k).raws j hj)
  have HRL := hide (raws_len h j hj)
  have HLN : Hid ((rbyN R j).length = 8 * (R.L.getD j (0, 0, 0)).2.2) := hide (Larder.unpackL_length _ _)
  have HSM : Hid (Small (rbyN R j)) := hide (fun i hi => Larder.unpackL_small _ _ i hi)
  obtain ⟨hf1, hf2, hf3⟩ := h.flds j hj
  have HUN : Hid (∀ w3 aR cR, Words w3 aR (rawsOf R j) → Calls Try.prog 70 #[.slice aR (R.L.getD j (0, 0, 0)).2.2 cR, .int .i64 (8 * (R.L.getD j (0, 0, 0)).2.2 : Nat)] w3 fun e w' => ∃ a1 c1, e = .returned (.tuple #[.slice a1 (8 * (R.L.getD j (0, 0, 0)).2.2) c1, .int .i64 0]) ∧ OwnB w' w3.heap.size (.slice a1 (8 * (R.L.getD j (0, 0, 0)).2.2) c1) (rbyN R j) ∧ Below w3.heap.size w3 w') := hide (fun w3 aR cR hW => by
    have hl := raws_len h j hj
    have := runpack_yes aR cR (8 * (R.L.getD j (0, 0, 0)).2.2) w3 (rawsOf R j) (by rw [hl]; omega) (by rw [hl]; unfold Larder.wn; omega) hW (raws_small h j)
    rw [hl] at this
    refine this.mono ?_
    rintro e w' ⟨v, rfl, b1, b2⟩
    obtain ⟨a1, c1, hv, _⟩ := b1.shape
    rw [Larder.unpackL_length] at hv
    subst hv
    exact ⟨a1, c1, rfl, b1, b2⟩)
  have HRC : Hid (∀ w', Below w.heap.size w w' → RChg (Mine r) rt rt w w' ∧ RefAt w' pr r rt R) := hide (fun w' k => ⟨RChg.below un k, h.below k⟩)
  have HPUT : Hid (∀ wq k l, RefAt wq pr r rt (R.fill j l k) → RChg (Mine r) rt rt w wq → k < (R.L.getD j (0, 0, 0)).2.2 → l.getD k 0 < 18446744073709551616 → ∃ g cap gF cF xv, wq.cell? ⟨pr, 2, none⟩ = some (.slice (some ⟨g, 0, none⟩) R.L.length cap) ∧ wq.cell? ⟨g, j * 6 + 3, none⟩ = some (.slice (some ⟨gF, 0, none⟩) (fldsOf R.L j) cF) ∧ wq.cell? ⟨gF, (R.L.getD j (0, 0, 0)).2.1 + k, none⟩ = some (.int .u64 (xv : Nat)) ∧ wq.frozen? ⟨gF, (R.L.getD j (0, 0, 0)).2.1 + k, none⟩ = false ∧ gF < w.heap.size ∧ RefAt (wq.setCell ⟨gF, (R.L.getD j (0, 0, 0)).2.1 + k, none⟩ (.int .u64 (l.getD k 0 : Nat))) pr r rt (R.fill j l (k + 1)) ∧ RChg (Mine r) rt rt w (wq.setCell ⟨gF, (R.L.getD j (0, 0, 0)).2.1 + k, none⟩ (.int .u64 (l.getD k 0 : Nat)))) := hide (fun wq k l hR hC hk hl => by
    obtain ⟨s1, s2, s3, s4, s5⟩ := fill_same R j l k
    have hjj : j < (R.fill j l k).L.length := by rw [s1]; exact hj
    have hkf : (R.L.getD j (0, 0, 0)).2.1 + k < fldsOf (R.fill j l k).L j := by rw [s1]; unfold fldsOf; omega
    obtain ⟨g, cp, aF, cF, c2, eF, _, _, _, o3, _, _, _⟩ := hR.six j hjj wq (Still.refl _)
    obtain ⟨gF, cap', hvv, hgb, hc⟩ := (hR.fld j hjj).1.at (by omega)
    have tF := (hR.fld j hjj).2 gF hgb
    have hvv' := hvv
    rw [eF] at hvv'
    simp only [Value.slice.injEq] at hvv'
    obtain ⟨rfl, _, rfl⟩ := hvv'
    rw [s1] at c2 o3
    refine ⟨g, cp, gF, cF, _, c2, o3, (hc _ hkf).1, (hc _ hkf).2, ?_, hR.put j _ _ gF hjj hkf hl hgb, hC.trans (RChg.set hC.un gF _ _ (by rw [tF]; exact ⟨by omega, by omega⟩))⟩
    rcases Nat.lt_or_ge gF w.heap.size with q | q
    · exact q
    · exfalso
      have e1 := (h.fld j hj).2
      rw [s2] at hgb
      have := (h.fld j hj).1.lt gF hgb
      omega)
  have y0 : (0 : Int) ≤ (j : Int) := by omega
  have y1 : (j : Int) < (R.L.length : Int) := by omega
  have HB := hide hB
  have HPL : Hid ((Larder.packL (patch (rbyN R j) f d)).length = (R.L.getD j (0, 0, 0)).2.2) := hide (by
    rw [Larder.packL_length, patch_length, unhide HLN]
    unfold Larder.wn
    omega)
  have HSD := hide hsd
  rw [hg] at HO
  have hd8 : d.length ≤ 8388608 := by omega
  have HFILL : Hid (∀ l, RefSt.fill R j l 0 = R) := hide (fun _ => rfl)
  generalize (R.L.getD j (0, 0, 0)).1 = kd at *
  generalize (R.L.getD j (0, 0, 0)).2.1 = rf at *
  generalize (R.L.getD j (0, 0, 0)).2.2 = rw' at *
  generalize fldsOf R.L j = nf at *
  generalize place R.L j = pj at *
  have z1 : (0 : Int) ≤ (rf : Int) := by omega
  have z2 : (rf : Int) ≤ (nf : Int) := by omega
  clear h hg hB hsd
  go_enter Try.func35, Try.ntmps35
  go_wp2_with fail
  refine (unhide HF).mono ?_
  rintro e w1 ⟨v1, rfl, _, _, hb1⟩
  have HB1 := hide hb1
  clear hb1 HF
  go_wp2_with fail
  refine (unhide HFD w1 (unhide HB1)).mono ?_
  rintro e w2 ⟨rfl, hst⟩
  obtain ⟨g, cap0, aF, cF, c2, eF, o0, o1, o2, o3, o4, o5, _⟩ := unhide HO w1 (unhide HB1) w2 hst
  have o4' : w2.cell? ⟨g, j * 6 + 4, none⟩ = some (.bool false) := o4
  have o5' : w2.cell? ⟨g, j * 6 + 5, none⟩ = some (.int .i64 0) := o5
  have hb2 : Below w.heap.size w w2 := (unhide HB1).trans (hst.below.mono (unhide HB1).size)
  have HB2 := hide hb2
  have HRW2 := hide (unhide HRW w2 hb2 aF cF eF)
  clear o4 o5 hst HO HFD hb2 HRW eF
  rcases unhide HRW2 with ⟨rfl, rfl, hn0⟩ | ⟨gF, rfl, hcF, hcm, hW⟩
  · have hrf : rf = 0 := by omega
    have hrw : rw' = 0 := by omega
    have hd0 : d = [] := List.eq_nil_of_length_eq_zero (by omega)
    subst hrf
    subst hn0
    subst hrw
    subst hd0
    have HWN : Hid (rawsOf R j = []) := hide (List.eq_nil_of_length_eq_zero (unhide HRL))
    clear HRW2
    go_wp2_with fail
    obtain ⟨w3, hw3⟩ : ∃ w3, w3 = w2.alloc (.cells #[.int .i64 (pj : Nat), .int .i64 (kd : Nat), .int .i64 0, .slice none 0 0, .bool false, .int .i64 0] 112) := ⟨_, rfl⟩
    have HB3 : Hid (Below w.heap.size w w3) := hide (by rw [hw3]; exact (unhide HB2).alloc (unhide HB2).size _)
    rw [← hw3]
    clear hw3
    refine (unhide HUN w3 _ _ (.inl (unhide HWN))).mono ?_
    rintro e w4 ⟨a1, c1, rfl, b1, b2⟩
    have HB4 := hide ((unhide HB3).trans (b2.mono (unhide HB3).size))
    have HPK := hide (rpack_any a1 c1 w4 [] (by simp) (.inl rfl) (fun i hi => absurd hi (Nat.not_lt_zero _)))
    clear b1 b2 HB3 HUN
    go_wp2_with fail
    go_loopw [16] (fun i wq => i = .int .i64 0 ∧ wq = w4) (fun _ _ => 0)
    case atStart => exact ⟨rfl, rfl⟩
    case round =>
      obtain ⟨rfl, hww⟩ := hrel
      obtain rfl := hww.symm
      go_wp2_with fail
      refine (unhide HPK).mono ?_
      rintro e w5 ⟨v5, rfl, p1, p2⟩
      obtain ⟨a5, c5, rfl, _⟩ := p1.shape
      have HB5 := hide ((unhide HB4).trans (p2.mono (unhide HB4).size))
      clear p1 p2
      go_wp2_with fail
      go_loopw [18] (fun i wq => i = .int .i64 0 ∧ wq = w5) (fun _ _ => 0)
      case atStart => exact ⟨rfl, rfl⟩
      case round =>
        obtain ⟨rfl, hww⟩ := hrel
        obtain rfl := hww.symm
        have HEN := hide (unhide HRC w5 (unhide HB5))
        go_wp2
        refine bodyPost_ret (v := .int .i64 0) (by simp [results, Try.results35, go_sem]) rfl ⟨rfl, (unhide HEN).1, (unhide HEN).2⟩
  · unfold maxLen at hcm
    have z3 : (nf : Int) ≤ (cF : Int) := by omega
    by_cases ec : cF = rf
    · have hrw : rw' = 0 := by omega
      have hd0 : d = [] := List.eq_nil_of_length_eq_zero (by omega)
      have hnf : nf = rf := by omega
      subst hrw
      subst hd0
      subst ec
      subst hnf
      have HWN : Hid (rawsOf R j = []) := hide (List.eq_nil_of_length_eq_zero (unhide HRL))
      clear HRW2 hW
      go_wp2_with fail
      obtain ⟨w3, hw3⟩ : ∃ w3, w3 = w2.alloc (.cells #[.int .i64 (pj : Nat), .int .i64 (kd : Nat), .int .i64 (nf : Nat), .slice (some ⟨gF, 0, none⟩) nf nf, .bool false, .int .i64 0] 112) := ⟨_, rfl⟩
      have HB3 : Hid (Below w.heap.size w w3) := hide (by rw [hw3]; exact (unhide HB2).alloc (unhide HB2).size _)
      rw [← hw3]
      clear hw3
      refine (unhide HUN w3 _ _ (.inl (unhide HWN))).mono ?_
      rintro e w4 ⟨a1, c1, rfl, b1, b2⟩
      have HB4 := hide ((unhide HB3).trans (b2.mono (unhide HB3).size))
      have HPK := hide (rpack_any a1 c1 w4 [] (by simp) (.inl rfl) (fun i hi => absurd hi (Nat.not_lt_zero _)))
      clear b1 b2 HB3 HUN
      go_wp2_with fail
      go_loopw [16] (fun i wq => i = .int .i64 0 ∧ wq = w4) (fun _ _ => 0)
      case atStart => exact ⟨rfl, rfl⟩
      case round =>
        obtain ⟨rfl, hww⟩ := hrel
        obtain rfl := hww.symm
        go_wp2_with fail
        refine (unhide HPK).mono ?_
        rintro e w5 ⟨v5, rfl, p1, p2⟩
        obtain ⟨a5, c5, rfl, _⟩ := p1.shape
        have HB5 := hide ((unhide HB4).trans (p2.mono (unhide HB4).size))
        clear p1 p2
        go_wp2_with fail
        go_loopw [18] (fun i wq => i = .int .i64 0 ∧ wq = w5) (fun _ _ => 0)
        case atStart => exact ⟨rfl, rfl⟩
        case round =>
          obtain ⟨rfl, hww⟩ := hrel
          obtain rfl := hww.symm
          have HEN := hide (unhide HRC w5 (unhide HB5))
          go_wp2
          refine bodyPost_ret (v := .int .i64 0) (by simp [results, Try.results35, go_sem]) rfl ⟨rfl, (unhide HEN).1, (unhide HEN).2⟩

    · have en : nf - rf = rw' := by omega
      have HW := hide hW
      clear HRW2 hW
      go_wp2_with fail
      obtain ⟨w3, hw3⟩ : ∃ w3, w3 = w2.alloc (.cells #[.int .i64 (pj : Nat), .int .i64 (kd : Nat), .int .i64 (rf : Nat), .slice (some ⟨gF, 0, none⟩) nf cF, .bool false, .int .i64 0] 112) := ⟨_, rfl⟩
      have HB3 : Hid (Below w.heap.size w w3) := hide (by rw [hw3]; exact (unhide HB2).alloc (unhide HB2).size _)
      have HC3 : Hid (w3.cell? ⟨w2.heap.size, 2, none⟩ = some (.int .i64 (rf : Nat)) ∧ w2.heap.size < w3.heap.size) := hide (by
        rw [hw3]
        have := heap_alloc_new w2 (.cells #[.int .i64 (pj : Nat), .int .i64 (kd : Nat), .int .i64 (rf : Nat), .slice (some ⟨gF, 0, none⟩) nf cF, .bool false, .int .i64 0] 112)
        refine ⟨?_, by simp⟩
        simp only [World.cell?, this]
        rfl)
      have HW3 : Hid (Words w3 (some ⟨gF, rf, none⟩) (rawsOf R j)) := hide (by rw [hw3]; exact (unhide HW).below ((Below.refl _ _).alloc (Nat.le_refl _) _))
      rw [← hw3]
      have hbo := (unhide HB2).size
      clear hw3 HB2 HW c2 o0 o1 o2 o3 o4' o5'
      generalize w2.heap.size = bo at *
      have e8 : ((8 * rw' : Nat) : Int) = 8 * (rw' : Int) := by omega
      rw [e8] at HUN
      refine (unhide HUN w3 _ _ (unhide HW3)).mono ?_
      rintro e w4 ⟨a1, c1, rfl, b1, b2⟩
      obtain ⟨l1, l2⟩ := line_of_own b1
      rw [unhide HLN] at l1
      have HL1 : Hid (Line w4 5 (.slice a1 (8 * rw') c1) (8 * rw') (fun q => .int .u8 ((patch (rbyN R j) f (d.take 0)).getD q 0 : Nat))) := hide (l1.congr (fun q hq => by
        show (cellsOf (rbyN R j)).getD q undef = _
        rw [List.getD_eq_getElem?_getD, cellsOf_at _ q (by rw [unhide HLN]; exact hq), List.take_zero, patch_nil]
        rfl))
      have HL2 := hide l2
      have HB4 := hide b2
      clear b1 b2 l1 l2 HUN e8 HW3
      go_wp2_with fail
      go_loopw [16] (fun i wq => ∃ k : Nat, k ≤ d.length ∧ i = .int .i64 k ∧ Line wq 5 (.slice a1 (8 * rw') c1) (8 * rw') (fun q => .int .u8 ((patch (rbyN R j) f (d.take k)).getD q 0 : Nat)) ∧ Below w3.heap.size w3 wq) (fun i _ => d.length - (intOf i).toNat)
      case atStart => exact ⟨0, by omega, rfl, unhide HL1, unhide HB4⟩
      case round =>
        clear HL1 HB4
        obtain ⟨k, hk, rfl, hlq, hbq⟩ := hrel
        rename World => wq
        by_cases hlt : k < d.length
        · have d1 : decide ((k : Int) < (d.length : Int)) = true := decide_eq_true (by omega)
          have d1' : decide (k < d.length) = true := decide_eq_true hlt
          have x0 : (0 : Int) ≤ (k : Int) := by omega
          have x1 : (k : Int) < (d.length : Int) := by omega
          have x2 : (0 : Int) ≤ (f : Int) + (k : Int) := by omega
          have x3 : (f : Int) + (k : Int) < ((8 * rw' : Nat) : Int) := by omega
          have hbw : Below w.heap.size w wq := (unhide HB3).trans (hbq.mono (unhide HB3).size)
          obtain ⟨b, off, rfl, ck⟩ : ∃ b off, a = some ⟨b, off, none⟩ ∧ wq.cell? ⟨b, off + k, none⟩ = some (.int .u8 (d.getD k 0 : Nat)) := by
            rcases unhide HB with h0 | ⟨b, off, rfl, hbl, hc⟩
            · rw [h0] at hlt; simp at hlt
            · exact ⟨b, off, rfl, by rw [hbw.cell (p := ⟨b, off + k, none⟩) hbl]; exact hc k hlt⟩
          have hd256 := (unhide HSD) k hlt
          obtain ⟨g1, cp1, hv1, hgb, hc1⟩ := hlq.at (by omega)
          obtain ⟨ca, fa⟩ := hc1 (f + k) (by omega)
          have HEN : Hid (Line (wq.setCell ⟨g1, f + k, none⟩ (.int .u8 (d.getD k 0 : Nat))) 5 (.slice a1 (8 * rw') c1) (8 * rw') (fun q => .int .u8 ((patch (rbyN R j) f (d.take (k + 1))).getD q 0 : Nat)) ∧ Below w3.heap.size w3 (wq.setCell ⟨g1, f + k, none⟩ (.int .u8 (d.getD k 0 : Nat)))) := hide ⟨(hlq.put hgb (f + k) _ (by omega)).congr (fun q hq => by
              show (if q = f + k then _ else Value.int .u8 ((patch (rbyN R j) f (d.take k)).getD q 0 : Nat)) = _
              rw [patch_next _ _ _ _ hlt (by rw [unhide HLN]; exact hsp), getD_set _ _ _ _ (by rw [patch_length, unhide HLN]; omega)]
              by_cases e1 : q = f + k
              · rw [if_pos e1, if_pos e1]
              · rw [if_neg e1, if_neg e1]), hbq.setCell (p := ⟨g1, f + k, none⟩) (unhide HL2 g1 hgb) _⟩
          simp only [Value.slice.injEq] at hv1
          obtain ⟨rfl, _, rfl⟩ := hv1
          clear hlq hbq hc1 hbw
          generalize d.getD k 0 = dk at *
          go_wp2_with fail
          go_roundw
          case rel => exact ⟨k + 1, by omega, by go_num, (unhide HEN).1, (unhide HEN).2⟩
          case measure => simp [intOf]; omega
        · have d1 : decide ((k : Int) < (d.length : Int)) = false := decide_eq_false (by omega)
          have d1' : decide (k < d.length) = false := decide_eq_false hlt
          have hke : k = d.length := by omega
          subst hke
          rw [List.take_length] at hlq
          have hsm : Small (patch (rbyN R j) f d) := patch_below 256 _ _ _ (unhide HSM) (unhide HSD)
          have hpl : (patch (rbyN R j) f d).length = 8 * rw' := by rw [patch_length]; exact unhide HLN
          have hby : Bytes wq a1 (patch (rbyN R j) f d) := by
            by_cases h0 : rw' = 0
            · exact .inl (List.eq_nil_of_length_eq_zero (by omega))
            · obtain ⟨g1, cp1, hv1, hgb, hc1⟩ := hlq.at (by omega)
              simp only [Value.slice.injEq] at hv1
              exact .inr ⟨g1, 0, hv1.1, hlq.lt g1 hgb, fun q hq => by rw [Nat.zero_add]; exact (hc1 q (by omega)).1⟩
          have hpk := rpack_any a1 c1 wq (patch (rbyN R j) f d) (by omega) hby hsm
          rw [hpl] at hpk
          have HPK := hide hpk
          have HLT : Hid (∀ i, (Larder.packL (patch (rbyN R j) f d)).getD i 0 < 18446744073709551616) := hide (fun i => by rw [← Larder.packK_all]; exact Larder.packK_lt hsm _ i)
          obtain ⟨l, hle⟩ : ∃ l, l = Larder.packL (patch (rbyN R j) f d) := ⟨_, rfl⟩
          rw [← hle] at HPK HLT HPL
          have HLE := hide hle
          have HBQ := hide ((unhide HB3).trans (hbq.mono (unhide HB3).size))
          have HC4 : Hid (wq.cell? ⟨bo, 2, none⟩ = some (.int .i64 (rf : Nat)) ∧ bo < wq.heap.size) := hide ⟨by rw [hbq.cell (p := ⟨bo, 2, none⟩) (unhide HC3).2]; exact (unhide HC3).1, Nat.lt_of_lt_of_le (unhide HC3).2 hbq.size⟩
          clear hlq hbq hsm hby hpk HC3 HB3 hpl hle
          go_wp2_with fail
          refine (unhide HPK).mono ?_
          rintro e w5 ⟨v5, rfl, p1, p2⟩
          obtain ⟨q1, q2⟩ := line_of_own p1
          rw [unhide HPL] at q1
          obtain ⟨a5, c5, rfl⟩ := q1.shape
          have HB5 := hide ((unhide HBQ).trans (p2.mono (unhide HBQ).size))
          have HL5 : Hid (Line w5 24 (.slice a5 rw' c5) rw' (fun q => .int .u64 (l.getD q 0 : Nat))) := hide (q1.congr (fun q hq => by
            show (wcells l).getD q undef = _
            rw [List.getD_eq_getElem?_getD, wcells_at _ q (by rw [unhide HPL]; exact hq)]
            rfl))
          have HQ5 : Hid (∀ g, Value.ownBlock (.slice a5 rw' c5) = some g → w.heap.size ≤ g) := hide (fun g hg => Nat.le_trans (unhide HBQ).size (q2 g hg))
          have HC5 : Hid (w5.cell? ⟨bo, 2, none⟩ = some (.int .i64 (rf : Nat))) := hide (by rw [p2.cell (p := ⟨bo, 2, none⟩) (unhide HC4).2]; exact (unhide HC4).1)
          have HR5 := hide (unhide HRC w5 (unhide HB5))
          clear p1 p2 q1 q2 HBQ HC4 HPK
          go_wp2_with fail
          go_loopw [18] (fun i wz => ∃ k : Nat, k ≤ rw' ∧ i = .int .i64 k ∧ RefAt wz pr r rt (R.fill j l k) ∧ RChg (Mine r) rt rt w wz ∧ Line wz 24 (.slice a5 rw' c5) rw' (fun q => .int .u64 (l.getD q 0 : Nat)) ∧ wz.cell? ⟨bo, 2, none⟩ = some (.int .i64 (rf : Nat))) (fun i _ => rw' - (intOf i).toNat)
          case atStart => exact ⟨0, by omega, rfl, (unhide HR5).2, (unhide HR5).1, unhide HL5, unhide HC5⟩
          case round =>
            clear HR5 HL5 HC5 HB5
            obtain ⟨k, hk, rfl, hrq, hcq, hlq, hoq⟩ := hrel
            rename World => wz
            by_cases hlt2 : k < rw'
            · have d2 : decide ((k : Int) < (rw' : Int)) = true := decide_eq_true (by omega)
              have d2' : decide (k < rw') = true := decide_eq_true hlt2
              obtain ⟨g, cp, gF, cF', xv, e1, e2, e3, e4, e5, e6, e7⟩ := unhide HPUT wz k l hrq hcq hlt2 (unhide HLT k)
              obtain ⟨g5, cp5, hv5, hgb5, hc5⟩ := hlq.at (by omega)
              have ck := (hc5 k hlt2).1
              have n1 : gF ≠ g5 := fun e => by have := unhide HQ5 g5 hgb5; omega
              have n2 : gF ≠ bo := by omega
              have hx64 := unhide HLT k
              have HEN : Hid (RefAt (wz.setCell ⟨gF, rf + k, none⟩ (.int .u64 (l.getD k 0 : Nat))) pr r rt (R.fill j l (k + 1)) ∧ RChg (Mine r) rt rt w (wz.setCell ⟨gF, rf + k, none⟩ (.int .u64 (l.getD k 0 : Nat))) ∧ Line (wz.setCell ⟨gF, rf + k, none⟩ (.int .u64 (l.getD k 0 : Nat))) 24 (.slice a5 rw' c5) rw' (fun q => .int .u64 (l.getD q 0 : Nat)) ∧ (wz.setCell ⟨gF, rf + k, none⟩ (.int .u64 (l.getD k 0 : Nat))).cell? ⟨bo, 2, none⟩ = some (.int .i64 (rf : Nat))) := hide ⟨e6, e7, hlq.same (fun q hq => by rw [hgb5] at hq; injection hq with hq; subst hq; exact setCell_else wz gF (rf + k) _ _ (Ne.symm n1)), by rw [World.cell?_setCell_other _ _ _ _ (fun e => n2 (by injection e))]; exact hoq⟩
              simp only [Value.slice.injEq] at hv5
              obtain ⟨rfl, _, rfl⟩ := hv5
              have x0 : (0 : Int) ≤ (k : Int) := by omega
              have x1 : (k : Int) < (rw' : Int) := by omega
              have x2 : (0 : Int) ≤ (rf : Int) + (k : Int) := by omega
              have x3 : (rf : Int) + (k : Int) < (nf : Int) := by omega
              generalize l.getD k 0 = xk at *
              clear hrq hcq hlq e6 e7 hc5 HPUT
              go_wp2_with fail
              go_region
              all_goals go_wp2_with fail
              all_goals
                go_roundw
                case rel => exact ⟨k + 1, by omega, by go_num, (unhide HEN).1.still ⟨rfl, rfl, rfl, rfl⟩, (unhide HEN).2.1.trans (RChg.below (unhide HEN).2.1.un (Below.refl _ _).drew), (unhide HEN).2.2.1.same (fun _ _ => rfl), (unhide HEN).2.2.2⟩
                case measure => simp [intOf]; omega
            · have d2 : decide ((k : Int) < (rw' : Int)) = false := decide_eq_false (by omega)
              have d2' : decide (k < rw') = false := decide_eq_false hlt2
              have hke : k = rw' := by omega
              subst hke
              have HEN := hide (And.intro hcq hrq)
              clear hrq hcq hlq
              go_wp2
              refine bodyPost_ret (v := .int .i64 0) (by simp [results, Try.results35, go_sem]) rfl ⟨rfl, (unhide HEN).1, by rw [← unhide HLE]; exact (unhide HEN).2⟩
end Go.Proofs.Ytdgdnpgjbphgaab
