/- ArenaWalk: the walk. -/
import Derived.Test.YtdgdnpgjbphgaaaLists
import Derived.Deep.CutBlock
import Derived.Deep.DeepCutAuto
import Derived.Deep.Light
namespace Go.Proofs.Ytdgdnpgjbphgaaa
open Go.ChangeShapes Go.WideShapes Go.ChangeAt Go.RowKit
set_option linter.unusedVariables false
set_option maxRecDepth 100000
set_option maxHeartbeats 8000000
/-- the writes W lie from b, off on -/
def WritesAt (w : World) (b off : Nat) (W : List (Int × Int × Nat)) : Prop := ∀ i, i < W.length → w.cell? ⟨b, off + i * 3, none⟩ = some (.int .i64 (W.getD i (0, 0, 0)).1) ∧ w.cell? ⟨b, off + i * 3 + 1, none⟩ = some (.int .i64 (W.getD i (0, 0, 0)).2.1) ∧ w.cell? ⟨b, off + i * 3 + 2, none⟩ = some (.int .u64 ((W.getD i (0, 0, 0)).2.2 : Nat)) ∧ (W.getD i (0, 0, 0)).2.2 < 18446744073709551616
def Writes (w : World) (a : Option Addr) (W : List (Int × Int × Nat)) : Prop := W = [] ∨ ∃ b off, a = some ⟨b, off, none⟩ ∧ b < w.heap.size ∧ WritesAt w b off W

theorem walk_law (aS : Option Addr) (cS : Nat) (aW : Option Addr) (cW : Nat) (S : List (Int × Int × Int)) (W : List (Int × Int × Nat)) (w : World) (hS : Shapes w aS S) (hW : Writes w aW W) (hSl : S.length ≤ 140737488355328) (hWl : W.length ≤ 140737488355328) :
    Calls Try.prog 4 #[.agg #[.slice aS S.length cS, .slice aW W.length cW]] w fun e w' => e = .returned (.bool true) ∧ Below w.heap.size w w' := by
  obtain ⟨i0, hi, hy0, hy1, hy2⟩ := info_parts Try.info28
  have hS1 : Shapes (w.alloc (.cells #[.slice aS S.length cS, .slice aW W.length cW] 25)) aS S := by
    have hb := (Below.refl w.heap.size w).alloc (Nat.le_refl _) (.cells #[.slice aS S.length cS, .slice aW W.length cW] 25)
    rcases hS with h | ⟨b, off, e, hlt, h⟩
    · exact .inl h
    · exact .inr ⟨b, off, e, by simp; omega, fun i hi => ⟨(hb.cell (p := ⟨b, off + i * 3, none⟩) hlt).trans (h i hi).1, (hb.cell (p := ⟨b, off + i * 3 + 1, none⟩) hlt).trans (h i hi).2.1, (hb.cell (p := ⟨b, off + i * 3 + 2, none⟩) hlt).trans (h i hi).2.2⟩⟩
  have HT := hide (take_any aS cS _ S hSl hS1)
  have hB0 := (Below.refl w.heap.size w).alloc (Nat.le_refl _) (.cells #[.slice aS S.length cS, .slice aW W.length cW] 25)
  have HB0 := hide hB0
  have HW := hide hW
  have hgood := hide (taken_good S (9, 2, 0) ⟨by decide, by decide, by decide, by decide⟩)
  have hints := hide (taken_ints S (9, 2, 0))
  have hlen := taken_length S (9, 2, 0)
  have HSL : Hid (((S.take 2000).map fitL).length = min 2000 S.length) := hide (by simp)
  generalize taken S (9, 2, 0) = L at *
  generalize (S.take 2000).map fitL = T at *
  have hTl : T.length + 1 = L.length := by have := unhide HSL; omega
  have hL4 : L.length ≤ 2001 := by omega
  have hLp : 1 ≤ L.length := by omega
  have hT4 : T.length ≤ 2000 := by omega
  have HTL := hide hTl
  clear hS hS1 hW hB0 HSL hTl hlen
  go_enter Try.func4, Try.ntmps4
  go_wp2_with fail
  refine (unhide HT).mono ?_
  rintro e w1 ⟨v, rfl, hown, hb1⟩
  have f1 : w1.cell? ⟨w.heap.size, 1, none⟩ = some (.slice aW W.length cW) := by
    rw [hb1.cell (p := ⟨w.heap.size, 1, none⟩) (by simp)]
    exact World.cell?_alloc_new ..
  have s1 : (w.alloc (.cells #[.slice aS S.length cS, .slice aW W.length cW] 25)).heap.size = w.heap.size + 1 := by simp
  rw [s1] at hown hb1
  have hbl1 : Below w.heap.size w w1 := (unhide HB0).trans (hb1.mono (by omega))
  have hsz1 : w.heap.size + 1 ≤ w1.heap.size := by have := hb1.size; rw [s1] at this; exact this
  unfold OwnS at hown
  clear hb1 s1
  go_wp2_with (at_builtin; refine wpList_append_own _ rfl _ _ 22 rfl _ 28 i0 (.agg #[.int .i64 0, .int .i64 0, .int .i64 0]) 3 24 Try.underlying22 hi hy0 hy1 hy2 rfl (by decide) _ _ _ rfl (hown.alloc _) ⟨w1.heap.size, 0, none⟩ 1 1 [.int .i64 9, .int .i64 2, .int .i64 0] rfl rfl ?c1 ?c2 ?c3 ?c4 ?c5 ?_)
  case c1 =>
    intro j u hj
    match j, hj with
    | 0, hj => simp at hj; subst hj; simp [Addr.add]
    | 1, hj => simp at hj; subst hj; simp [Addr.add]
    | 2, hj => simp at hj; subst hj; simp [Addr.add]
  case c2 => intro u hu; simp at hu; rcases hu with rfl | rfl | rfl <;> rfl
  case c3 => simp [maxLen]; omega
  case c4 => omega
  case c5 => simp; omega
  intro v' w5 hown' hgrow _
  have hown5 : OwnS w5 (w.heap.size + 1) v' (ints L) := by
    unfold OwnS
    rw [unhide hints, List.length_append, List.length_singleton, scells_append]
    exact hown'
  have hTl := unhide HTL
  have hbl5 : Below w.heap.size w w5 := by
    have hlt2 := hown.lt
    exact (hbl1.alloc hbl1.size _).grown hgrow (by simp; omega) (fun j hj => by have := (hlt2 j hj).1; omega)
  have hil : (ints L).length = L.length := by simp [ints]
  obtain ⟨g, cap, rfl, hg1, hg2, hsh⟩ := hown5.shape (by omega)
  rw [hil] at hown' ⊢
  have HF := hide (fill_any g 0 cap w5 L (unhide hgood) hLp (by omega) hg2 hsh)
  have HSH := hide hsh
  have HB5 := hide hbl5
  have hsz5 := hbl5.size
  clear hown' hown5 hgrow hown hbl1 hbl5 f1 hsh hil HT hTl HTL
  go_wp2_with fail
  refine (unhide HF).mono ?_
  rintro e w6 ⟨p, bw, bh, v2, ws0, hs, rfl, hA, hwl, hLd, ⟨base, hownA, hp1, hp2, hp3⟩, hp4, hp5, hp6, hb6⟩
  obtain ⟨ga, capa, rfl, hga1, hga2, hat⟩ := places_shape hownA (by omega)
  have HA := hide hA
  have HLD := hide hLd.kept
  have HAT := hide hat
  have HB6 := hide ((unhide HB5).trans (hb6.mono hsz5))
  have hwl0 := hide hwl
  have HSH6 : Hid (ShapesAt w6 g 0 (ints L)) := hide (fun i hi => by
    obtain ⟨x0, x1, x2⟩ := unhide HSH i hi
    exact ⟨(hb6.cell (p := ⟨g, 0 + i * 3, none⟩) hg2).trans x0, (hb6.cell (p := ⟨g, 0 + i * 3 + 1, none⟩) hg2).trans x1, (hb6.cell (p := ⟨g, 0 + i * 3 + 2, none⟩) hg2).trans x2⟩)
  have hsz6 := hb6.size
  have lw6 := hA.lw
  clear hA hLd hat hownA hb6 hwl HF HSH HB5
  go_upto_block 0 with fail
  go_cut [8] (fun _ wc => ∃ ws, Ar wc p bw bh ws hs (place L L.length) ∧ ws.length = place L L.length ∧ Kept L ws hs ∧ But [bw] w6 wc)
  case first =>
   go_wp2_with fail
   go_loopw [8] (fun i wr => ∃ (k : Nat) (ws : List Nat), k ≤ W.length ∧ i = .int .i64 k ∧ Ar wr p bw bh ws hs (place L L.length) ∧ ws.length = place L L.length ∧ Kept L ws hs ∧ But [bw] w6 wr) (fun i _ => W.length - (intOf i).toNat)
   case atStart => exact ⟨0, ws0, by omega, rfl, unhide HA, unhide hwl0, unhide HLD, But.refl _ _⟩
   case round =>
     obtain ⟨k, ws, hk, rfl, hAr, hwl, hkept, hbut⟩ := hrel
     by_cases hlt : k < W.length ∧ k < 2000
     · obtain ⟨hkl, hk20⟩ := hlt
       have hcells : ∃ b off, aW = some ⟨b, off, none⟩ ∧ b < w.heap.size ∧ WritesAt w b off W := by
         rcases unhide HW with h | h
         · rw [h] at hkl; simp at hkl
         · exact h
       obtain ⟨b, off, rfl, hb, hWA⟩ := hcells
       obtain ⟨c0, c1, c2, c3⟩ := hWA k hkl
       have hbw : Below w.heap.size w wr := hbut.below (unhide HB6) (fun j hj => by simp at hj; omega) (unhide HB6).size
       have d0 := (hbw.cell (p := ⟨b, off + k * 3, none⟩) hb).trans c0
       have d1 := (hbw.cell (p := ⟨b, off + k * 3 + 1, none⟩) hb).trans c1
       have d2 := (hbw.cell (p := ⟨b, off + k * 3 + 2, none⟩) hb).trans c2
       generalize (W.getD k (0, 0, 0)).1 = wo at *
       generalize (W.getD k (0, 0, 0)).2.1 = wf at *
       generalize (W.getD k (0, 0, 0)).2.2 = wv at *
       obtain ⟨o, ho⟩ : ∃ o : Nat, o = (wo % (L.length : Int)).toNat := ⟨_, rfl⟩
       have hol : o < L.length := by
         have h1 := Int.emod_nonneg wo (show (L.length : Int) ≠ 0 by omega)
         have h2 := Int.emod_lt_of_pos wo (show (0 : Int) < (L.length : Int) by omega)
         omega
       have HWI := hide (within_any wo L.length hLp (by omega) wr)
       rw [← ho] at HWI
       have ha0 : wr.cell? ⟨ga, o, none⟩ = some (.int .i64 (place L o : Nat)) := (hbut.cell (q := ⟨ga, o, none⟩) hga2 (by simp; omega)).trans (unhide HAT o hol)
       have HSET := hide (set_any (unhide hgood) o hol (wf % 48) wv c3 wr.drew (hAr.drawn 1) hwl hkept)
       have HK : Hid (∀ w', But [bw] wr.drew w' → w'.cell? ⟨ga, o, none⟩ = some (.int .i64 (place L o : Nat)) ∧ w'.cell? ⟨b, off + k * 3 + 1, none⟩ = some (.int .i64 wf) ∧ w'.cell? ⟨b, off + k * 3 + 2, none⟩ = some (.int .u64 (wv : Int))) := hide (fun w' hw => by
         have l1 : ga < wr.drew.heap.size := Nat.lt_of_lt_of_le hga2 hbut.size
         have l2 : b < wr.drew.heap.size := Nat.lt_of_lt_of_le hb hbw.size
         have n1 : ga ∉ [bw] := by simp; omega
         have n2 : b ∉ [bw] := by simp; omega
         exact ⟨(hw.cell (q := ⟨ga, o, none⟩) l1 n1).trans ha0, (hw.cell (q := ⟨b, off + k * 3 + 1, none⟩) l2 n2).trans d1, (hw.cell (q := ⟨b, off + k * 3 + 2, none⟩) l2 n2).trans d2⟩)
       have HBUT : Hid (∀ w', But [bw] wr.drew w' → But [bw] w6 w') := hide (fun w' hw => (show But [bw] w6 wr.drew from ⟨hbut.os, hbut.tape, hbut.output, hbut.size, hbut.block⟩).trans hw)
       have z0 : (0 : Int) ≤ (k : Int) := by omega
       have z1 : (k : Int) < (W.length : Int) := by omega
       have z2 : decide ((k : Int) < 2000) = true := decide_eq_true (by omega)
       generalize place L o = q at *
       clear c0 c1 c2 c3 hWA hbw hAr hwl hkept hbut ho
       go_wp2_with (go_at_call 11; refine (unhide HWI).mono ?_; rintro e w9 ⟨rfl, hw9⟩; obtain rfl := hw9.symm)
       go_region_held3 (fun w' => w'.cell? ⟨ga, o, none⟩ = some (.int .i64 (q : Nat)) ∧ w'.cell? ⟨b, off + k * 3 + 1, none⟩ = some (.int .i64 wf) ∧ w'.cell? ⟨b, off + k * 3 + 2, none⟩ = some (.int .u64 (wv : Int)))
             (first | exact ⟨ha0, d1, d2⟩ | assumption | exact unhide HK _ (by assumption))
             (first | (go_at_call 11; refine (within_int _ _ (by decide) (by decide) _).mono ?_; rintro e w9 ⟨rfl, hw9⟩; obtain rfl := hw9.symm) | (go_at_call 12; refine (unhide HSET).mono ?_; rintro e w7 ⟨c, ws', rfl, hA7, hwl7, hk7, hB7⟩))
       have hbut7 := unhide HBUT w7 hB7
       go_wp2
       go_roundw
       case rel => exact ⟨k + 1, ws', by omega, by go_num, hA7, hwl7, hk7, hbut7⟩
       case measure => simp [intOf]; omega
     · have hsub : (k < W.length ∧ 2000 ≤ k) ∨ W.length ≤ k := by omega
       have HH : Hid (∃ ws, Ar wr p bw bh ws hs (place L L.length) ∧ ws.length = place L L.length ∧ Kept L ws hs ∧ But [bw] w6 wr) := hide ⟨ws, hAr, hwl, hkept, hbut⟩
       clear hAr hwl hkept hbut hlt
       rcases hsub with ⟨h1, h2⟩ | h1
       · have f1 : decide ((k : Int) < (W.length : Int)) = true := decide_eq_true (by omega)
         have f2 : decide ((k : Int) < 2000) = false := decide_eq_false (by omega)
         go_wp2_with fail
         go_meet
         exact unhide HH
       · have f1 : decide ((k : Int) < (W.length : Int)) = false := decide_eq_false (by omega)
         go_wp2_with fail
         go_meet
         exact unhide HH
  case rest =>
    obtain ⟨ws, hAr, hwl, hkept, hbut⟩ := hcut
    rename World => wr
    have HIM := hide (image_any wr hAr)
    have HUS := fun w' (hb : Below wr.heap.size wr w') => used_any w' (hAr.below hb)
    have HU2 := hide HUS
    have hbw := hide (hbut.below (unhide HB6) (fun j hj => by simp at hj; omega) (unhide HB6).size)
    have hz0 := hkept.zero
    obtain ⟨u, hu⟩ : ∃ u, u = place L L.length := ⟨_, rfl⟩
    have hu2 : u ≤ 98050 := by rw [hu]; have := place_bound (unhide hgood) L.length (Nat.le_refl _); omega
    have hu1 : 1 ≤ u := by rw [hu]; exact place_pos L _
    have HAR := hide hAr
    have HKE := hide hkept
    have hat : Hid (∀ j, j < L.length → wr.cell? ⟨ga, j, none⟩ = some (.int .i64 (place L j : Nat))) := hide (fun j hj => (hbut.cell (q := ⟨ga, j, none⟩) hga2 (by simp; omega)).trans (unhide HAT j hj))
    have hgar : ga < wr.heap.size := Nat.lt_of_lt_of_le hga2 hbut.size
    have HU := hide hu
    have HBW := hide hbw
    rw [← hu] at HIM HU2 HAR
    clear hAr hkept hbut HUS hwl hu hbw HA HLD HAT HB6 hwl0 HSH6 HW
    go_wp2_with (go_at_call 16; refine (unhide HIM).mono ?_; rintro e w8 ⟨rfl, hs8, hi8, hb8⟩; have HI8 := hide hi8; have hi0 := hi8 0 (by omega); rw [hz0] at hi0; have HUS := hide (unhide HU2 w8 hb8); clear hi8)
    go_wp2_with (go_at_call 17; refine (unhide HUS).mono ?_; rintro e w9 ⟨rfl, hw9⟩; obtain rfl := hw9.symm)
    have HO8 : Hid (∀ (P : Int) w', Below w8.heap.size w8 w' → Ar w' p bw bh ws hs u) := hide (fun P w' hb => (unhide HAR).below (hb8.trans (hb.mono hb8.size)))
    have hat8 : Hid (∀ j, j < L.length → w8.cell? ⟨ga, j, none⟩ = some (.int .i64 (place L j : Nat))) := hide (fun j hj => (hb8.cell (p := ⟨ga, j, none⟩) hgar).trans (unhide hat j hj))
    have hga8 : ga < w8.heap.size := Nat.lt_of_lt_of_le hgar hb8.size
    have HB8 := hide hb8
    clear hb8 hi0 hat HUS HIM HU2
    go_loopw [11, 12, 13] (fun nx kk pp wq => ∃ (K : Nat) (P : Int), K ≤ L.length ∧ nx = .int .i64 (place L K : Nat) ∧ kk = .int .i64 K ∧ pp = .int .i64 P ∧ -2 ≤ P ∧ P ≤ u + 3 ∧ (∀ j, j < K → ((place L j : Nat) : Int) < P) ∧ (K < L.length → P ≤ (place L K : Nat)) ∧ Below w8.heap.size w8 wq) (fun _ _ pp _ => ((u : Int) + 3 - intOf pp).toNat)
    case atStart => exact ⟨0, -2, by omega, rfl, rfl, rfl, by omega, by omega, fun j hj => by omega, fun _ => by have := place_pos L 0; omega, Below.refl _ _⟩
    case round =>
      obtain ⟨K, P, hK, rfl, rfl, rfl, hP1, hP2, hlow, hhigh, hbq⟩ := hrel
      have hAq := unhide HO8 P _ hbq
      rename World => wq
      by_cases hPe : P < u + 3
      · have HOB := hide (object_any P wq hAq ((unhide HU) ▸ (unhide HKE).all (unhide hgood)))
        have e0 : decide (P < (u : Int) + 3) = true := decide_eq_true hPe
        by_cases hyes : K < L.length ∧ P = (place L K : Nat)
        · obtain ⟨hKl, rfl⟩ := hyes
          have hob := (unhide HKE).obj (unhide hgood) K hKl
          rw [← unhide HU] at hob
          rw [hob] at HOB
          obtain ⟨g1, g2, g3, g4⟩ := unhide hgood K hKl
          have hx := (unhide HKE).heads K hKl
          have hpl := place_lt L hKl
          have hwd : wd (L.getD K (0, 0, 0)) = 1 + (L.getD K (0, 0, 0)).2.1 + (L.getD K (0, 0, 0)).2.2 := rfl
          have hn1 : place L (K + 1) = place L K + (1 + (L.getD K (0, 0, 0)).2.1 + (L.getD K (0, 0, 0)).2.2) := rfl
          have hhd : headOf (L.getD K (0, 0, 0)) = (L.getD K (0, 0, 0)).1 + 256 * (L.getD K (0, 0, 0)).2.1 + 4294967296 * (L.getD K (0, 0, 0)).2.2 := rfl
          rw [hwd, ← unhide HU] at hpl
          have HHD := hide (fun w' => head_yes (L.getD K (0, 0, 0)).1 (L.getD K (0, 0, 0)).2.1 (L.getD K (0, 0, 0)).2.2 w' ⟨by omega, by omega, by omega, by omega, by omega, by omega⟩)
          have HGT : Hid (∀ m w', m < (L.getD K (0, 0, 0)).2.1 + (L.getD K (0, 0, 0)).2.2 → Below w8.heap.size w8 w' → Calls Try.prog 15 #[.pointer (some ⟨p, 0, none⟩), .int .i64 (place L K : Nat), .int .i64 (m : Nat)] w' fun e w'' => e = .returned (.tuple #[.int .u64 (ws.getD (place L K + 1 + m) 0 : Nat), .int .i64 0]) ∧ Below w'.heap.size w' w'') := hide (fun m w' hm hb => get_yes (place L K) m w' (unhide HO8 0 w' hb) ((unhide HU) ▸ (unhide HKE).all (unhide hgood)) (by rw [hob]) (by rw [hob]; exact hm))
          have hxi : (((L.getD K (0, 0, 0)).1 : Int) + 256 * ((L.getD K (0, 0, 0)).2.1 : Int) + 4294967296 * ((L.getD K (0, 0, 0)).2.2 : Int)) = ((headOf (L.getD K (0, 0, 0)) : Nat) : Int) := by rw [hhd]; omega
          rw [hxi] at HHD
          have hi1 := unhide HI8 (place L K) (by omega)
          rw [hx] at hi1
          have ha1 := unhide hat8 K hKl
          generalize headOf (L.getD K (0, 0, 0)) = x at *
          generalize (L.getD K (0, 0, 0)).1 = kd at *
          generalize (L.getD K (0, 0, 0)).2.1 = r at *
          generalize (L.getD K (0, 0, 0)).2.2 = t at *
          have HBQ := hide hbq
          have HLO := hide hlow
          have HN1 := hide hn1
          have e1 : decide ((u : Int) ≤ ((place L K : Nat) : Int)) = false := decide_eq_false (by omega)
          have e2 : decide ((L.length : Int) ≤ (K : Int)) = false := decide_eq_false (by omega)
          have e3 : decide (L.length ≤ K) = false := decide_eq_false (by omega)
          have HCC : Hid (∀ w', Below w8.heap.size w8 w' → w'.cell? ⟨wr.heap.size, place L K, none⟩ = some (.int .u64 (x : Int)) ∧ w'.cell? ⟨ga, K, none⟩ = some (.int .i64 ((place L K : Nat) : Int))) := hide (fun w' hb => ⟨(hb.cell (p := ⟨wr.heap.size, place L K, none⟩) hs8).trans hi1, (hb.cell (p := ⟨ga, K, none⟩) hga8).trans ha1⟩)
          clear hAq hob hx hwd hhd hn1 hxi hi1 ha1 hlow hhigh hbq g1 g2
          go_wp2_with (go_at_call 14; refine (unhide HOB).mono ?_; rintro e w9 ⟨rfl, hb9⟩)
          have hbq9 := (unhide HBQ).trans (hb9.mono (unhide HBQ).size)
          obtain ⟨y1, y2⟩ := unhide HCC w9 hbq9
          have HBQ9 := hide hbq9
          clear hbq9 hb9 HBQ HOB
          go_wp2_with (first
              | (go_at_call 18; refine (unhide HHD _).mono ?_; rintro e w' ⟨rfl, hw'⟩; obtain rfl := hw'.symm)
              | (go_at_call 13; refine (num_any _ _).mono ?_; rintro e w' ⟨rfl, hw'⟩; obtain rfl := hw'.symm))
          have hnx : decide ((u : Int) < ((place L K : Nat) : Int) + 1 + (r : Int) + (t : Int)) = false := decide_eq_false (by omega)
          clear y1 y2 HHD HCC hPe e0
          go_loopw [20] (fun i wz => ∃ m : Nat, m ≤ r + t ∧ i = .int .i64 m ∧ Below w8.heap.size w8 wz) (fun i _ => r + t - (intOf i).toNat)
          case atStart => exact ⟨0, by omega, rfl, unhide HBQ9⟩
          case round =>
            obtain ⟨m, hm, rfl, hbz⟩ := hrel
            rename World => wz
            by_cases hml : m < r + t
            · have HG1 := hide (unhide HGT m wz hml hbz)
              have f1 : decide ((m : Int) < (r : Int) + (t : Int)) = true := decide_eq_true (by omega)
              have HC1 : Hid (∀ w', Below w8.heap.size w8 w' → w'.cell? ⟨wr.heap.size, place L K + 1 + m, none⟩ = some (.int .u64 (ws.getD (place L K + 1 + m) 0 : Nat))) := hide (fun w' hb => (hb.cell (p := ⟨wr.heap.size, place L K + 1 + m, none⟩) hs8).trans (unhide HI8 _ (by omega)))
              generalize ws.getD (place L K + 1 + m) 0 = y at *
              have HBZ := hide hbz
              clear hbz
              go_wp2_with (go_at_call 15; refine (unhide HG1).mono ?_; rintro e w10 ⟨rfl, hb10⟩; have hbz10 := hide ((unhide HBZ).trans (hb10.mono (unhide HBZ).size)); have hy := unhide HC1 w10 (unhide hbz10); clear hb10)
              go_wp2_with (go_at_call 13; refine (num_any _ _).mono ?_; rintro e w' ⟨rfl, hw'⟩; obtain rfl := hw'.symm)
              go_roundw
              case rel => exact ⟨m + 1, by omega, by go_num, unhide hbz10⟩
              case measure => simp [intOf]; omega
            · have f1 : decide ((m : Int) < (r : Int) + (t : Int)) = false := decide_eq_false (by omega)
              have HBZ := hide hbz
              clear hbz
              go_wp2_with fail
              go_roundw
              case rel =>
                have h1 := unhide HN1
                exact ⟨K + 1, ((place L K : Nat) : Int) + 1, hKl, by rw [h1]; congr 1; omega, by go_num, by go_num, by omega, by omega, fun j hj => by
                  by_cases hjK : j < K
                  · have := unhide HLO j hjK; omega
                  · have : j = K := by omega
                    subst this; omega, fun _ => by rw [h1]; omega, unhide HBZ⟩
              case measure => simp [intOf]; omega
        · have hob : objRes ws hs u P = (0, 0, 0, 23) := by
            rw [unhide HU]
            apply (unhide HKE).other
            intro j hj e
            by_cases hjK : j < K
            · have := hlow j hjK; omega
            · have h1 := place_le L (show K ≤ j by omega)
              have h2 := hhigh (by omega)
              exact hyes ⟨by omega, by omega⟩
          rw [hob] at HOB
          have hcase : P ≠ (place L K : Nat) ∨ (P = (place L K : Nat) ∧ (u : Int) ≤ P) := by
            by_cases h : P = (place L K : Nat)
            · right
              have : K = L.length := by
                by_cases h' : K < L.length
                · exact absurd ⟨h', h⟩ hyes
                · omega
              exact ⟨h, by rw [h, this, ← unhide HU]; exact Int.le_refl _⟩
            · exact .inl h
          have hnext : K < L.length → P + 1 ≤ (place L K : Nat) := fun h => by
            have h1 := hhigh h
            have h2 : P ≠ (place L K : Nat) := fun h3 => hyes ⟨h, h3⟩
            omega
          have HNX := hide hnext
          have HLO := hide hlow
          have HBQ := hide hbq
          clear hAq hob hyes hlow hhigh hnext hbq
          have hw : IntKind.i64.wrap (P + 1) = P + 1 := by rw [IntKind.wrap_i64]; omega
          rcases hcase with hne | ⟨heq, hge⟩
          · have e1 : (P == ((place L K : Nat) : Int)) = false := by rw [beq_eq_false_iff_ne]; exact hne
            go_wp2_with (first
              | (go_at_call 14; refine (unhide HOB).mono ?_; rintro e w9 ⟨rfl, hb9⟩)
              | (go_at_call 13; refine (num_any _ _).mono ?_; rintro e w' ⟨rfl, hw'⟩; obtain rfl := hw'.symm))
            go_roundw
            case rel => exact ⟨K, P + 1, hK, rfl, rfl, by go_num, by omega, by omega, fun j hj => by have := unhide HLO j hj; omega, fun h => unhide HNX h, (unhide HBQ).trans (hb9.mono (unhide HBQ).size)⟩
            case measure => simp [intOf]; omega
          · subst heq
            have e2 : decide ((u : Int) ≤ ((place L K : Nat) : Int)) = true := decide_eq_true hge
            clear e0 hw
            have e0 : decide (((place L K : Nat) : Int) < (u : Int) + 3) = true := decide_eq_true hPe
            go_wp2_with (first
              | (go_at_call 14; refine (unhide HOB).mono ?_; rintro e w9 ⟨rfl, hb9⟩)
              | (go_at_call 13; refine (num_any _ _).mono ?_; rintro e w' ⟨rfl, hw'⟩; obtain rfl := hw'.symm))
            go_roundw
            case rel => exact ⟨K, ((place L K : Nat) : Int) + 1, hK, rfl, rfl, by go_num, by omega, by omega, fun j hj => by have := unhide HLO j hj; omega, fun h => unhide HNX h, (unhide HBQ).trans (hb9.mono (unhide HBQ).size)⟩
            case measure => simp [intOf]; omega
      · have e0 : decide (P < (u : Int) + 3) = false := decide_eq_false hPe
        have hKe : K = L.length := by
          by_cases h : K < L.length
          · have h1 := hhigh h
            have h2 := place_le L (show K ≤ L.length from hK)
            have h3 := unhide HU
            omega
          · omega
        subst hKe
        rw [← unhide HU]
        have HUS2 := hide (used_any wq hAq)
        have HBQ := hide hbq
        clear hAq hlow hhigh hbq
        go_wp2_with (go_at_call 17; refine (unhide HUS2).mono ?_; rintro e w' ⟨rfl, hw'⟩; obtain rfl := hw'.symm)
        go_ret
        exact ⟨rfl, (unhide (unhide HBW)).trans (((unhide HB8).trans ((unhide HBQ).mono (unhide HB8).size)).mono (unhide (unhide HBW)).size)⟩
end Go.Proofs.Ytdgdnpgjbphgaaa
