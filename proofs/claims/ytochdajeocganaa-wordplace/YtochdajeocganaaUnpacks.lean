/- unpacks. -/
import Derived.Test.YtochdajeocganaaPlaces
import Derived.Test.YtochdajeocganaaUnpack
namespace Go.Proofs.Ytochdajeocganaa
open Go.ChangeShapes Go.WideShapes Go.ChangeAt Go.RowKit
set_option linter.unusedVariables false
set_option maxRecDepth 100000
set_option maxHeartbeats 2000000

theorem ownw_put {w : World} {base g cap n : Nat} {l : List Nat} {j v : Nat} (hn : l.length = n) (h : OwnW w base (.slice (some ⟨g, 0, none⟩) n cap) l) :
    OwnW (w.setCell ⟨g, j, none⟩ (.int .u64 (v : Int))) base (.slice (some ⟨g, 0, none⟩) n cap) (l.set j v) := by
  subst hn
  unfold OwnW
  rw [List.length_set, wcells_set]
  exact (h.stored j _).1
theorem OwnW.only {w w' : World} {base g g2 cap n : Nat} {l : List Nat} (h : OwnW w base (.slice (some ⟨g2, 0, none⟩) n cap) l) (ho : Only g w w') (hne : g2 ≠ g) : OwnW w' base (.slice (some ⟨g2, 0, none⟩) n cap) l := by
  refine ⟨h.1, ?_⟩
  rcases h.2 with hn | ⟨g', cap', cur, e, hbb, hg, rest⟩
  · exact .inl hn
  · cases e
    exact .inr ⟨g2, cap, cur, rfl, hbb, by rw [ho.block g2 hne]; exact hg, rest⟩
theorem OwnW.at {w : World} {base g cap n : Nat} {l : List Nat} (h : OwnW w base (.slice (some ⟨g, 0, none⟩) n cap) l) : base ≤ g ∧ g < w.heap.size := by
  rcases h.2 with ⟨e, _⟩ | ⟨g', cap', cur, e, hbb, hg, _⟩
  · cases e
  · cases e
    exact ⟨hbb, (Array.getElem?_eq_some_iff.1 hg).1⟩
theorem Only.trans {g : Nat} {a b c : World} (h : Only g a b) (k : Only g b c) : Only g a c :=
  ⟨k.os.trans h.os, k.tape.trans h.tape, k.output.trans h.output, k.size.trans h.size, fun j hj => (k.block j hj).trans (h.block j hj)⟩

/-- what Unpack answers -/
def unpRes (l : List Nat) (A : Int) : List Nat × Nat := if 0 ≤ A ∧ wordsI A ≤ l.length then (Larder.unpackL l A.toNat, 0) else ([], 11)
theorem unpRes_small {l : List Nat} (hs : WSmall l) (A : Int) : Small (unpRes l A).1 := by
  unfold unpRes
  split
  · exact Larder.unpackL_small _ _
  · intro i hi; simp at hi

set_option maxHeartbeats 1000000 in
theorem unp_any (a : Option Addr) (cap : Nat) (A : Int) (w : World) (l : List Nat) (hA1 : -9223372036854775808 ≤ A) (hA2 : A ≤ 9223372036854775807) (hl : 8 * l.length ≤ 140737488351232) (hW : Words w a l) (hs : WSmall l) :
    Calls Try.prog 19 #[.slice a l.length cap, .int .i64 A] w fun e w' => ∃ a' c', e = .returned (.tuple #[.slice a' (unpRes l A).1.length c', .int .i64 ((unpRes l A).2 : Nat)]) ∧ Bytes w' a' (unpRes l A).1 ∧ Below w.heap.size w w' := by
  unfold unpRes
  by_cases h : 0 ≤ A ∧ wordsI A ≤ l.length
  · rw [if_pos h]
    obtain ⟨n, rfl⟩ := Int.eq_ofNat_of_zero_le h.1
    have hw : wordsI (n : Int) = (Larder.wn n : Int) := by unfold wordsI Larder.wn; split <;> omega
    have hle : Larder.wn n ≤ l.length := by have := h.2; omega
    refine (unpack_yes a cap n w l (by unfold Larder.wn at hle; omega) hle hW hs).mono ?_
    rintro e w' ⟨v, he, hown, hb⟩
    obtain ⟨a', c', hv, hB, -⟩ := hown.shape
    exact ⟨a', c', by rw [he, hv]; rfl, hB, hb⟩
  · rw [if_neg h]
    refine (unpack_no a cap l.length A w hA1 hA2 (by omega)).mono ?_
    rintro e w' ⟨he, rfl⟩
    exact ⟨none, 0, he, .inl rfl, Below.refl _ _⟩
theorem runp_any (a : Option Addr) (cap : Nat) (A : Int) (w : World) (l : List Nat) (hA1 : -9223372036854775808 ≤ A) (hA2 : A ≤ 9223372036854775807) (hl : 8 * l.length ≤ 140737488351232) (hW : Words w a l) (hs : WSmall l) :
    Calls Try.prog 42 #[.slice a l.length cap, .int .i64 A] w fun e w' => ∃ a' c', e = .returned (.tuple #[.slice a' (unpRes l A).1.length c', .int .i64 ((unpRes l A).2 : Nat)]) ∧ Bytes w' a' (unpRes l A).1 ∧ Below w.heap.size w w' := by
  unfold unpRes
  by_cases h : 0 ≤ A ∧ wordsI A ≤ l.length
  · rw [if_pos h]
    obtain ⟨n, rfl⟩ := Int.eq_ofNat_of_zero_le h.1
    have hw : wordsI (n : Int) = (Larder.wn n : Int) := by unfold wordsI Larder.wn; split <;> omega
    have hle : Larder.wn n ≤ l.length := by have := h.2; omega
    refine (runpack_yes a cap n w l hl hle hW hs).mono ?_
    rintro e w' ⟨v, he, hown, hb⟩
    obtain ⟨a', c', hv, hB, -⟩ := hown.shape
    exact ⟨a', c', by rw [he, hv]; rfl, hB, hb⟩
  · rw [if_neg h]
    refine (runpack_no a cap l.length A w hA1 hA2 (by omega)).mono ?_
    rintro e w' ⟨he, rfl⟩
    exact ⟨none, 0, he, .inl rfl, Below.refl _ _⟩

/-- a word turned over -/
theorem wset_small {m : List Nat} {j c : Nat} (hm : WSmall m) (hc : c < 18446744073709551616) : WSmall (m.set j c) := by
  intro i hi
  rw [List.length_set] at hi
  rw [List.getD_eq_getElem?_getD, List.getElem?_set]
  by_cases h : j = i
  · subst h; simp [hi]; exact hc
  · rw [if_neg h, ← List.getD_eq_getElem?_getD]; exact hm i hi

theorem same_yes (a a' : Option Addr) (cap cap' : Nat) (w : World) (l : List Nat) (hB : Bytes w a l) (hB' : Bytes w a' l) (hs : Small l) :
    Calls Try.prog 12 #[.slice a l.length cap, .slice a' l.length cap'] w fun e w' => e = .returned (.bool true) ∧ w' = w := by
  have h := same_any a a' cap cap' w l l hB hB' hs hs
  rwa [decide_eq_true rfl] at h

theorem wlen3 (l : List Nat) : (l ++ [165, 90, 165]).length = l.length + 3 := by simp
theorem WLent.own {w : World} {base g c n : Nat} {l : List Nat} (h : WLent w base g c l) (hn : l.length = n) : OwnW w base (.slice (some ⟨g, 0, none⟩) (n + 3) c) (l ++ [165, 90, 165]) := by
  have h' := h
  unfold WLent at h'
  rw [wlen3, hn] at h'
  exact h'
theorem WLent.mk {w : World} {base g c n : Nat} {l : List Nat} (hn : l.length = n) (h : OwnW w base (.slice (some ⟨g, 0, none⟩) (n + 3) c) (l ++ [165, 90, 165])) : WLent w base g c l := by
  unfold WLent
  rw [wlen3, hn]
  exact h
theorem set_front (l : List Nat) (j v : Nat) (hj : j < l.length) : (l ++ [165, 90, 165]).set j v = l.set j v ++ [165, 90, 165] := by
  rw [List.set_append_left _ _ hj]

theorem turned_word (X : Int) (cv : Nat) : ∃ y : Nat, y < 18446744073709551616 ∧ bits BinOp.xor IntKind.u64 X (cv : Int) = (y : Int) := by
  refine ⟨(BitVec.ofInt 64 X ^^^ BitVec.ofInt 64 (cv : Int)).toNat, (BitVec.ofInt 64 X ^^^ BitVec.ofInt 64 (cv : Int)).isLt, ?_⟩
  have h := (BitVec.ofInt 64 X ^^^ BitVec.ofInt 64 (cv : Int)).isLt
  show (((BitVec.ofInt 64 X ^^^ BitVec.ofInt 64 (cv : Int)).toNat : Int)) % 18446744073709551616 = _
  omega

theorem unpacks_any (K A B C N M : Int) (hA1 : -9223372036854775808 ≤ A) (hA2 : A ≤ 9223372036854775807) (x : Nat) (vT : Value) (a : Option Addr) (cap : Nat) (w : World) (l : List Nat) (hl : 8 * l.length ≤ 140737488351232) (hB : Words w a l) (hs : WSmall l) (hnil : a = none → cap = 0) :
    Calls Try.prog 28 #[.agg #[.int .i64 K, .int .i64 A, .int .i64 B, .int .i64 C, .int .i64 N, .int .i64 M, .int .u64 x, vT, .slice a l.length cap]] w fun e w' => e = .returned (.bool true) ∧ Below w.heap.size w w' := by
  obtain ⟨w0, hw0⟩ : ∃ w0, w0 = w.alloc (.cells #[.int .i64 K, .int .i64 A, .int .i64 B, .int .i64 C, .int .i64 N, .int .i64 M, .int .u64 x, vT, .slice a l.length cap] 54) := ⟨_, rfl⟩
  have hb0 : Below w.heap.size w w0 := by rw [hw0]; exact (Below.refl _ _).alloc (Nat.le_refl _) _
  have hlt0 : w.heap.size < w0.heap.size := by rw [hw0]; simp
  have hc1 : w0.cell? ⟨w.heap.size, 1, none⟩ = some (.int .i64 A) := by rw [hw0]; exact pfield (Below.refl _ _) 1
  have hc8 : w0.cell? ⟨w.heap.size, 8, none⟩ = some (.slice a l.length cap) := by rw [hw0]; exact pfield (Below.refl _ _) 8
  have hB0 := hB.below hb0
  obtain ⟨n, hn⟩ : ∃ n, n = l.length := ⟨_, rfl⟩
  have HLEND : Hid (∀ w', Below w0.heap.size w0 w' → Calls Try.prog 41 #[.slice a n cap] w' fun e w'' => ∃ g c, e = .returned (.slice (some ⟨g, 0, none⟩) n c) ∧ WLent w'' w'.heap.size g c l ∧ Below w'.heap.size w' w'') := hide (fun w' h => by rw [hn]; exact lendw_any a cap w' l hl (hB0.below h) hnil)
  rw [← hn] at hc8 ⊢ hw0
  have HN := hide hn
  have HS := hide hs
  have HL := hide hl
  have hn2 : n ≤ 140737488351232 := by omega
  have HW0 := hide hw0
  clear hB hB0 hn hs hl hw0
  go_enter Try.func28, Try.ntmps28
  go_wp2_with fail
  rw [← unhide HW0]
  refine (unhide HLEND w0 (Below.refl _ _)).mono ?_
  rintro e w1 ⟨g, c, rfl, hL1, hb1⟩
  have hcap : n + 3 ≤ c := by have := hL1.marks.1; rw [← unhide HN] at this; exact this
  go_wp2_with fail
  go_loopw [4] (fun i wr => ∃ (k : Nat) (lin : List Nat), k ≤ 3 ∧ i = .int .i64 k ∧ lin.length = n ∧ WLent wr w0.heap.size g c lin ∧ Below w0.heap.size w0 wr) (fun i _ => 3 - (intOf i).toNat)
  case atStart => exact ⟨0, l, by omega, rfl, (unhide HN).symm, hL1, hb1⟩
  case round =>
    obtain ⟨k, lin, hk, rfl, hlin, hLin, hbl⟩ := hrel
    rename World => wo
    clear hL1 hb1
    by_cases hlt : k < 3
    · have d8 : wo.cell? ⟨w.heap.size, 8, none⟩ = some (.slice a n cap) := (hbl.cell (p := ⟨w.heap.size, 8, none⟩) hlt0).trans hc8
      have HIN := hide hLin
      have hglt := (hLin.own hlin).at
      have HCALL := hide (unhide HLEND wo hbl)
      clear hLin
      go_wp2_with fail
      refine (unhide HCALL).mono ?_
      rintro e w2 ⟨g2, c2, rfl, hL2, hb2⟩
      have hown2 := hL2.own (unhide HN).symm
      have hg2 := hown2.at
      have hcap2 : n + 3 ≤ c2 := by have := hL2.marks.1; rw [← unhide HN] at this; exact this
      have hne : g2 ≠ g := by omega
      have HIN2 := hide ((unhide HIN).below hb2)
      have HBL2 := hide (pchain hbl hb2 hbl.size)
      clear hL2 HCALL hb2
      go_wp2_with fail
      go_loopw [6] (fun i wq => ∃ (j : Nat) (lw : List Nat), j ≤ n ∧ i = .int .i64 j ∧ lw.length = n ∧ WSmall lw ∧ OwnW wq wo.heap.size (.slice (some ⟨g2, 0, none⟩) (n + 3) c2) (lw ++ [165, 90, 165]) ∧ Only g2 w2 wq) (fun i _ => n - (intOf i).toNat)
      case atStart => exact ⟨0, l, by omega, rfl, (unhide HN).symm, unhide HS, hown2, Only.refl _ _⟩
      case round =>
        obtain ⟨j, lw, hj, rfl, hlw, hws, how, hon⟩ := hrel
        clear hown2
        have hlen : (lw ++ [165, 90, 165]).length = n + 3 := by rw [wlen3, hlw]
        have hwn : wr.ownsRow wo.heap.size 27 1 (.slice (some ⟨g2, 0, none⟩) (n + 3) c2) (n + 3) (wcells (lw ++ [165, 90, 165])) := by
          have := how; unfold OwnW at this; rw [hlen] at this; exact this
        by_cases hk1 : k = 1 ∧ j < n
        · obtain ⟨rfl, hjn⟩ := hk1
          obtain ⟨cv, hcv⟩ : ∃ cv, cv = lw.getD j 0 := ⟨_, rfl⟩
          have hcl : wr.cell? ⟨g2, j, none⟩ = some (.int .u64 (cv : Nat)) := by
            rw [hwn.cellAt _ (by omega), wcells_at _ _ (by omega), hcv, List.getD_eq_getElem?_getD, List.getElem?_append_left (by omega), ← List.getD_eq_getElem?_getD]
          have hfz : wr.frozen? ⟨g2, j, none⟩ = false := hwn.frozenAt _
          have hc64 : cv < 18446744073709551616 := by rw [hcv]; exact hws _ (by omega)
          have HOW := hide how
          have HWS := hide hws
          have HLW := hide hlw
          clear how hws hlw hlen hwn hcv
          go_wp2
          obtain ⟨y, hy, hv⟩ := turned_word (if IntKind.u64.signed = true then -1 else IntKind.u64.max) cv
          rw [hv]
          refine ⟨⟨j + 1, lw.set j y, by omega, by go_num, by rw [List.length_set]; exact unhide HLW, wset_small (unhide HWS) hy, ?_, hon.set _ _⟩, by simp [intOf]; omega⟩
          rw [← set_front lw j y (by have := unhide HLW; omega)]
          exact ownw_put (by rw [wlen3, unhide HLW]) (unhide HOW)
        · have hex : (decide ((j : Int) < (n : Int)) && ((k : Int) == 1)) = false := by
            rw [Bool.and_eq_false_iff, decide_eq_false_iff_not, beq_eq_false_iff_ne]
            omega
          have HOW := hide how
          have HWS := hide hws
          have HLW := hide hlw
          have HIN3 := hide (((unhide HIN2).own hlin).only hon (Ne.symm hne))
          have HBL3 := hide (hon.below (unhide HBL2) (by have := hbl.size; omega))
          clear how hws hwn hlen HIN2 HBL2
          by_cases hjn : j < n
          · have hk1' : ((k : Int) == 1) = false := by rw [beq_eq_false_iff_ne]; omega
            have hj1 : decide ((j : Int) < (n : Int)) = true := decide_eq_true (by omega)
            go_wp2_with fail
            rename World => wq
            have hlw := unhide HLW
            go_loopw [7] (fun i wz => ∃ q : Nat, q ≤ n ∧ i = .int .i64 q ∧ OwnW wz w0.heap.size (.slice (some ⟨g, 0, none⟩) (n + 3) c) (mid lin lw q) ∧ Only g wq wz) (fun i _ => n - (intOf i).toNat)
            case atStart => exact ⟨0, by omega, rfl, by rw [mid_zero]; exact unhide HIN3, Only.refl _ _⟩
            case round =>
              obtain ⟨q, hq, rfl, hmid, hoz⟩ := hrel
              clear hex
              by_cases hqn : q < n
              · have hml : (mid lin lw q).length = n + 3 := by rw [mid_length lin lw (by omega) q (by omega), hlin]
                have hmw : wr.ownsRow w0.heap.size 27 1 (.slice (some ⟨g, 0, none⟩) (n + 3) c) (n + 3) (wcells (mid lin lw q)) := by
                  have := hmid; unfold OwnW at this; rw [hml] at this; exact this
                have hsrc := (unhide HOW).only hoz hne
                have hsw : wr.ownsRow wo.heap.size 27 1 (.slice (some ⟨g2, 0, none⟩) (n + 3) c2) (n + 3) (wcells (lw ++ [165, 90, 165])) := by
                  have := hsrc; unfold OwnW at this; rw [wlen3, hlw] at this; exact this
                obtain ⟨cv, hcv⟩ : ∃ cv, cv = lw.getD q 0 := ⟨_, rfl⟩
                have hcl : wr.cell? ⟨g2, q, none⟩ = some (.int .u64 (cv : Nat)) := by
                  rw [hsw.cellAt _ (by omega), wcells_at _ _ (by rw [wlen3]; omega), hcv, List.getD_eq_getElem?_getD, List.getElem?_append_left (by omega), ← List.getD_eq_getElem?_getD]
                have hdx : ∃ v, wr.cell? ⟨g, q, none⟩ = some v := ⟨_, by rw [hmw.cellAt _ (by omega), wcells_at _ _ (by omega)]⟩
                obtain ⟨ov, hdst⟩ := hdx
                have hfz : wr.frozen? ⟨g, q, none⟩ = false := hmw.frozenAt _
                have HM2 : Hid (OwnW (wr.setCell ⟨g, q, none⟩ (.int .u64 (cv : Int))) w0.heap.size (.slice (some ⟨g, 0, none⟩) (n + 3) c) (mid lin lw (q + 1))) := by
                  rw [mid_step lin lw (by omega) q (by omega), ← hcv]; exact ownw_put hml hmid
                clear hmid hmw hsrc hsw hcv hml
                go_wp2
                go_roundw
                case rel => exact ⟨q + 1, by omega, by go_num, unhide HM2, hoz.set _ _⟩
                case measure => simp [intOf]; omega
              · have hqe : q = n := by omega
                subst hqe
                rw [← hlin, mid_end lin lw (by omega), hlin] at hmid
                have hLin4 : WLent wr w0.heap.size g c lw := WLent.mk hlw hmid
                have hLw4 : WLent wr wo.heap.size g2 c2 lw := WLent.mk hlw ((unhide HOW).only hoz hne)
                have hbl4 : Below w0.heap.size w0 wr := hoz.below (unhide HBL3) hglt.1
                have d1 : wr.cell? ⟨w.heap.size, 1, none⟩ = some (.int .i64 A) := (hbl4.cell (p := ⟨w.heap.size, 1, none⟩) hlt0).trans hc1
                have hl8 : 8 * lw.length ≤ 140737488351232 := by rw [hlw, unhide HN]; exact unhide HL
                obtain ⟨m, hm⟩ : ∃ m, m = (unpRes lw A).1 := ⟨_, rfl⟩
                obtain ⟨f, hf⟩ : ∃ f, f = (unpRes lw A).2 := ⟨_, rfl⟩
                have HSM : Hid (Small m) := hide (by rw [hm]; exact unpRes_small (unhide HWS) A)
                have H1 : Hid (Calls Try.prog 19 #[.slice (some ⟨g, 0, none⟩) q c, .int .i64 A] wr fun e w' => ∃ a' c', e = .returned (.tuple #[.slice a' m.length c', .int .i64 (f : Nat)]) ∧ Bytes w' a' m ∧ Below wr.heap.size wr w') := hide (by
                  have h := unp_any (some ⟨g, 0, none⟩) c A wr lw hA1 hA2 hl8 hLin4.bytes (unhide HWS)
                  rw [← hm, ← hf, hlw] at h; exact h)
                have H2 : Hid (∀ w', Below wr.heap.size wr w' → Calls Try.prog 42 #[.slice (some ⟨g2, 0, none⟩) q c2, .int .i64 A] w' fun e w'' => ∃ a' c', e = .returned (.tuple #[.slice a' m.length c', .int .i64 (f : Nat)]) ∧ Bytes w'' a' m ∧ Below w'.heap.size w' w'') := hide (fun w' hb => by
                  have h := runp_any (some ⟨g2, 0, none⟩) c2 A w' lw hA1 hA2 hl8 (hLw4.bytes.below hb) (unhide HWS)
                  rw [← hm, ← hf, hlw] at h; exact h)
                have HL4 := hide hLin4
                have HB4 := hide hbl4
                clear hmid hLin4 hLw4 hbl4 hm hf hl8
                go_wp2_with fail
                refine (unhide H1).mono ?_
                rintro e w5 ⟨a5, c5, rfl, hB5, hb5⟩
                have hbl5 := pchain (unhide HB4) hb5 (unhide HB4).size
                have d5 : w5.cell? ⟨w.heap.size, 1, none⟩ = some (.int .i64 A) := (hbl5.cell (p := ⟨w.heap.size, 1, none⟩) hlt0).trans hc1
                go_wp2_with fail
                refine (unhide H2 w5 hb5).mono ?_
                rintro e w6 ⟨a6, c6, rfl, hB6, hb6⟩
                have hbl6 := pchain hbl5 hb6 hbl5.size
                have hB56 := hB5.below hb6
                go_wp2_with (first | (go_at_call 12; refine (same_yes _ _ _ _ _ m hB56 hB6 (unhide HSM)).mono ?_; rintro e w' ⟨rfl, hw'⟩; obtain rfl := hw'.symm) | (go_at_call 15; refine (num_any _ _).mono ?_; rintro e w' ⟨rfl, hw'⟩; obtain rfl := hw'.symm))
                go_roundw
                case rel => exact ⟨k + 1, lw, by omega, by go_num, hlw, ((unhide HL4).below hb5).below hb6, hbl6⟩
                case measure => simp [intOf]; omega
          · have hj1 : decide ((j : Int) < (n : Int)) = false := decide_eq_false (by omega)
            go_wp2_with fail
            rename World => wq
            have hlw := unhide HLW
            go_loopw [7] (fun i wz => ∃ q : Nat, q ≤ n ∧ i = .int .i64 q ∧ OwnW wz w0.heap.size (.slice (some ⟨g, 0, none⟩) (n + 3) c) (mid lin lw q) ∧ Only g wq wz) (fun i _ => n - (intOf i).toNat)
            case atStart => exact ⟨0, by omega, rfl, by rw [mid_zero]; exact unhide HIN3, Only.refl _ _⟩
            case round =>
              obtain ⟨q, hq, rfl, hmid, hoz⟩ := hrel
              clear hex
              by_cases hqn : q < n
              · have hml : (mid lin lw q).length = n + 3 := by rw [mid_length lin lw (by omega) q (by omega), hlin]
                have hmw : wr.ownsRow w0.heap.size 27 1 (.slice (some ⟨g, 0, none⟩) (n + 3) c) (n + 3) (wcells (mid lin lw q)) := by
                  have := hmid; unfold OwnW at this; rw [hml] at this; exact this
                have hsrc := (unhide HOW).only hoz hne
                have hsw : wr.ownsRow wo.heap.size 27 1 (.slice (some ⟨g2, 0, none⟩) (n + 3) c2) (n + 3) (wcells (lw ++ [165, 90, 165])) := by
                  have := hsrc; unfold OwnW at this; rw [wlen3, hlw] at this; exact this
                obtain ⟨cv, hcv⟩ : ∃ cv, cv = lw.getD q 0 := ⟨_, rfl⟩
                have hcl : wr.cell? ⟨g2, q, none⟩ = some (.int .u64 (cv : Nat)) := by
                  rw [hsw.cellAt _ (by omega), wcells_at _ _ (by rw [wlen3]; omega), hcv, List.getD_eq_getElem?_getD, List.getElem?_append_left (by omega), ← List.getD_eq_getElem?_getD]
                have hdx : ∃ v, wr.cell? ⟨g, q, none⟩ = some v := ⟨_, by rw [hmw.cellAt _ (by omega), wcells_at _ _ (by omega)]⟩
                obtain ⟨ov, hdst⟩ := hdx
                have hfz : wr.frozen? ⟨g, q, none⟩ = false := hmw.frozenAt _
                have HM2 : Hid (OwnW (wr.setCell ⟨g, q, none⟩ (.int .u64 (cv : Int))) w0.heap.size (.slice (some ⟨g, 0, none⟩) (n + 3) c) (mid lin lw (q + 1))) := by
                  rw [mid_step lin lw (by omega) q (by omega), ← hcv]; exact ownw_put hml hmid
                clear hmid hmw hsrc hsw hcv hml
                go_wp2
                go_roundw
                case rel => exact ⟨q + 1, by omega, by go_num, unhide HM2, hoz.set _ _⟩
                case measure => simp [intOf]; omega
              · have hqe : q = n := by omega
                subst hqe
                rw [← hlin, mid_end lin lw (by omega), hlin] at hmid
                have hLin4 : WLent wr w0.heap.size g c lw := WLent.mk hlw hmid
                have hLw4 : WLent wr wo.heap.size g2 c2 lw := WLent.mk hlw ((unhide HOW).only hoz hne)
                have hbl4 : Below w0.heap.size w0 wr := hoz.below (unhide HBL3) hglt.1
                have d1 : wr.cell? ⟨w.heap.size, 1, none⟩ = some (.int .i64 A) := (hbl4.cell (p := ⟨w.heap.size, 1, none⟩) hlt0).trans hc1
                have hl8 : 8 * lw.length ≤ 140737488351232 := by rw [hlw, unhide HN]; exact unhide HL
                obtain ⟨m, hm⟩ : ∃ m, m = (unpRes lw A).1 := ⟨_, rfl⟩
                obtain ⟨f, hf⟩ : ∃ f, f = (unpRes lw A).2 := ⟨_, rfl⟩
                have HSM : Hid (Small m) := hide (by rw [hm]; exact unpRes_small (unhide HWS) A)
                have H1 : Hid (Calls Try.prog 19 #[.slice (some ⟨g, 0, none⟩) q c, .int .i64 A] wr fun e w' => ∃ a' c', e = .returned (.tuple #[.slice a' m.length c', .int .i64 (f : Nat)]) ∧ Bytes w' a' m ∧ Below wr.heap.size wr w') := hide (by
                  have h := unp_any (some ⟨g, 0, none⟩) c A wr lw hA1 hA2 hl8 hLin4.bytes (unhide HWS)
                  rw [← hm, ← hf, hlw] at h; exact h)
                have H2 : Hid (∀ w', Below wr.heap.size wr w' → Calls Try.prog 42 #[.slice (some ⟨g2, 0, none⟩) q c2, .int .i64 A] w' fun e w'' => ∃ a' c', e = .returned (.tuple #[.slice a' m.length c', .int .i64 (f : Nat)]) ∧ Bytes w'' a' m ∧ Below w'.heap.size w' w'') := hide (fun w' hb => by
                  have h := runp_any (some ⟨g2, 0, none⟩) c2 A w' lw hA1 hA2 hl8 (hLw4.bytes.below hb) (unhide HWS)
                  rw [← hm, ← hf, hlw] at h; exact h)
                have HL4 := hide hLin4
                have HB4 := hide hbl4
                clear hmid hLin4 hLw4 hbl4 hm hf hl8
                go_wp2_with fail
                refine (unhide H1).mono ?_
                rintro e w5 ⟨a5, c5, rfl, hB5, hb5⟩
                have hbl5 := pchain (unhide HB4) hb5 (unhide HB4).size
                have d5 : w5.cell? ⟨w.heap.size, 1, none⟩ = some (.int .i64 A) := (hbl5.cell (p := ⟨w.heap.size, 1, none⟩) hlt0).trans hc1
                go_wp2_with fail
                refine (unhide H2 w5 hb5).mono ?_
                rintro e w6 ⟨a6, c6, rfl, hB6, hb6⟩
                have hbl6 := pchain hbl5 hb6 hbl5.size
                have hB56 := hB5.below hb6
                go_wp2_with (first | (go_at_call 12; refine (same_yes _ _ _ _ _ m hB56 hB6 (unhide HSM)).mono ?_; rintro e w' ⟨rfl, hw'⟩; obtain rfl := hw'.symm) | (go_at_call 15; refine (num_any _ _).mono ?_; rintro e w' ⟨rfl, hw'⟩; obtain rfl := hw'.symm))
                go_roundw
                case rel => exact ⟨k + 1, lw, by omega, by go_num, hlw, ((unhide HL4).below hb5).below hb6, hbl6⟩
                case measure => simp [intOf]; omega
    · have hk3 : k = 3 := by omega
      subst hk3
      go_wp2
      go_ret
      exact ⟨rfl, pchain hb0 hbl hb0.size⟩
end Go.Proofs.Ytochdajeocganaa
