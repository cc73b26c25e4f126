/- ArenaBytes: the walk. -/
import Derived.Test.YtdgdnpgjbphgaaaTrio
namespace Go.Proofs.Ytdgdnpgjbphgaaa
open Go.ChangeShapes Go.WideShapes Go.ChangeAt Go.RowKit
set_option linter.unusedVariables false
set_option maxRecDepth 100000
set_option maxHeartbeats 8000000
theorem bytes_law (R S C : Int) (aP : Option Addr) (n cP : Nat) (w : World) (hP : Pieces w aP n) (hn : n ≤ 140737488355328) :
    Calls Try.prog 5 #[.agg #[.int .i64 R, .int .i64 S, .slice aP n cP, .int .i64 C]] w fun e w' => e = .returned (.bool true) ∧ Below w.heap.size w w' := by
  have hB0 := (Below.refl w.heap.size w).alloc (Nat.le_refl _) (.cells #[.int .i64 R, .int .i64 S, .slice aP n cP, .int .i64 C] 52)
  have HP := hide hP
  obtain ⟨r, hr⟩ : ∃ r : Nat, (r : Int) = R % 24 := ⟨(R % 24).toNat, by omega⟩
  obtain ⟨s, hs⟩ : ∃ s : Nat, (s : Int) = 1 + S % 24 := ⟨(1 + S % 24).toNat, by omega⟩
  have hr24 : r ≤ 24 := by omega
  have hs24 : s ≤ 24 := by omega
  have hs1 : 1 ≤ s := by omega
  have hw1 : IntKind.i64.wrap (1 + S % 24) = (s : Int) := by rw [IntKind.wrap_i64]; omega
  have HR := hide hr.symm
  have HW1 := hide hw1
  have hX : ∃ X, X = ((w.alloc (.cells #[.int .i64 R, .int .i64 S, .slice aP n cP, .int .i64 C] 52)).alloc (.cells #[.int .i64 2, .int .i64 0, .int .i64 3, .int .i64 3, .int .i64 r, .int .i64 s, .int .i64 4, .int .i64 2, .int .i64 1] 28)).drew := ⟨_, rfl⟩
  obtain ⟨X, hX⟩ := hX
  have hXb : X.heap[w.heap.size + 1]? = some (.cells #[.int .i64 2, .int .i64 0, .int .i64 3, .int .i64 3, .int .i64 r, .int .i64 s, .int .i64 4, .int .i64 2, .int .i64 1] 28 (0, 0)) := by
    have h := heap_alloc_new (w.alloc (.cells #[.int .i64 R, .int .i64 S, .slice aP n cP, .int .i64 C] 52)) (.cells #[.int .i64 2, .int .i64 0, .int .i64 3, .int .i64 3, .int .i64 r, .int .i64 s, .int .i64 4, .int .i64 2, .int .i64 1] 28)
    have s1 : (w.alloc (.cells #[.int .i64 R, .int .i64 S, .slice aP n cP, .int .i64 C] 52)).heap.size = w.heap.size + 1 := by simp
    rw [s1] at h
    rw [hX]
    exact h
  have hXs : X.heap.size = w.heap.size + 2 := by rw [hX]; simp
  have hBX : Below w.heap.size w X := by rw [hX]; exact ((hB0).alloc (by simp) _).drew
  have HF := hide (fill_any (w.heap.size + 1) 0 3 X (trio r s) (trio_good r s hr24 hs24) (by show 0 < 3; decide) (by show 3 ≤ 4000; decide) (by omega) (trio_shapes X (w.heap.size + 1) r s hXb))
  have HBX := hide hBX
  have HXE := hide hX
  clear hB0 hP hr hs hw1 hX hXb hBX
  go_enter Try.func5, Try.ntmps5
  go_wp2_with fail
  go_region_held3 (fun w' => w'.cell? ⟨w.heap.size, 0, none⟩ = some (.int .i64 R) ∧ w'.cell? ⟨w.heap.size, 1, none⟩ = some (.int .i64 S) ∧ w'.cell? ⟨w.heap.size, 2, none⟩ = some (.slice aP n cP) ∧ w'.cell? ⟨w.heap.size, 3, none⟩ = some (.int .i64 C)) (go_keep)
    (first
      | (go_at_call 11; refine (within_int _ _ (by decide) (by decide) _).mono ?_; rintro e w9 ⟨rfl, hw9⟩; obtain rfl := hw9.symm))
  rw [unhide HW1, unhide HR]
  go_wp2_with fail
  rw [← unhide HXE]
  refine (unhide HF).mono ?_
  rintro e w6 ⟨p, bw, bh, v2, ws0, hs, rfl, hA, hwl, hLd, ⟨base, hownA, hp1, hp2, hp3⟩, hp4, hp5, hp6, hb6⟩
  obtain ⟨ga, capa, rfl, hga1, hga2, hat⟩ := places_shape hownA (by show 0 < 3; decide)
  obtain ⟨q0, q1, q2, q3⟩ := trio_place r s
  rw [show (trio r s).length = 3 from rfl] at hA hwl hLd hat ⊢
  rw [q3] at hA hwl
  have ha0 := hat 0 (by decide)
  have ha1 := hat 1 (by decide)
  have ha2 := hat 2 (by decide)
  rw [q0] at ha0
  rw [q1] at ha1
  rw [q2] at ha2
  obtain ⟨q, hq⟩ : ∃ q, q = 6 + r + s := ⟨_, rfl⟩
  rw [← hq] at ha2
  have HA2 : Hid (∀ w' : World, w'.heap[ga]? = w6.heap[ga]? → w'.cell? ⟨ga, 0, none⟩ = some (.int .i64 1) ∧ w'.cell? ⟨ga, 1, none⟩ = some (.int .i64 5) ∧ w'.cell? ⟨ga, 2, none⟩ = some (.int .i64 q)) := hide (fun w' h => by
    unfold World.cell? at ha0 ha1 ha2 ⊢
    rw [h]
    exact ⟨ha0, ha1, ha2⟩)
  have HB6 := hide ((unhide HBX).trans (hb6.mono (by omega)))
  have HA := hide hA
  have HWL := hide hwl
  have HLD := hide hLd
  have HQ := hide hq
  have lp6 := hA.lp
  have lw6 := hA.lw
  have lh6 := hA.lh
  have hsz6 := hb6.size
  clear hA hwl hLd hat hownA ha0 ha1 ha2 hq q0 q1 q2 q3 hb6 HF HXE HW1 HR
  go_wp2_with fail
  go_loopw [10] (fun i wr => ∃ (k : Nat) (ws : List Nat), k ≤ 3 ∧ i = .int .i64 k ∧ Ar wr p bw bh ws hs (10 + r + s) ∧ Edged r s k ws0 ws ∧ But [bw] w6 wr) (fun i _ => 3 - (intOf i).toNat)
  case atStart => exact ⟨0, ws0, by omega, rfl, unhide HA, edged_start _ _ _, But.refl _ _⟩
  case round =>
    obtain ⟨k, ws, hk, rfl, hAr, hed, hbut⟩ := hrel
    have hgan : ga ∉ [bw] := by simp; omega
    obtain ⟨x0, x1, x2⟩ := unhide HA2 wr (hbut.block ga hga2 hgan)
    by_cases hlt : k < 3
    · have ht1 := edged_told hr24 hs24 hk (unhide HLD) hed
      have ht2 := edged_half hr24 hs24 hlt (unhide HWL) (unhide HLD) hed
      have hnx := edged_next hlt (unhide HWL) hed
      have HNX := hide hnx
      have HS1 : Hid (Calls Try.prog 12 #[.pointer (some ⟨p, 0, none⟩), .int .i64 1, .int .i64 k, .int .u64 18446744073709551615] wr fun e w' => e = .returned (.int .i64 0) ∧ Ar w' p bw bh (ws.set (2 + k) 18446744073709551615) hs (10 + r + s) ∧ But [bw] wr w') := hide (by
        have h := set_yes 1 k 18446744073709551615 wr (by decide) hAr ht1.all (by rw [show ((1 : Nat) : Int) = 1 from rfl, ht1.one]) (by rw [show ((1 : Nat) : Int) = 1 from rfl, ht1.one]; dsimp only; omega)
        exact h)
      have HS2 : Hid (∀ w', Ar w' p bw bh (ws.set (2 + k) 18446744073709551615) hs (10 + r + s) → Calls Try.prog 12 #[.pointer (some ⟨p, 0, none⟩), .int .i64 q, .int .i64 k, .int .u64 18446744073709551615] w' fun e w'' => e = .returned (.int .i64 0) ∧ Ar w'' p bw bh ((ws.set (2 + k) 18446744073709551615).set (7 + r + s + k) 18446744073709551615) hs (10 + r + s) ∧ But [bw] w' w'') := hide (fun w' hA => by
        have hq := unhide HQ
        subst hq
        have h := set_yes (6 + r + s) k 18446744073709551615 w' (by decide) hA ht2.all (by rw [ht2.three]) (by rw [ht2.three]; dsimp only; omega)
        rw [show 6 + r + s + 1 + k = 7 + r + s + k by omega] at h
        exact h)
      have HBU : Hid (∀ w' w'', But [bw] wr w' → But [bw] w' w'' → But [bw] w6 w'') := hide (fun w' w'' h1 h2 => (hbut.trans h1).trans h2)
      have HCB : Hid (∀ w', But [bw] wr w' → w'.cell? ⟨ga, 2, none⟩ = some (.int .i64 q)) := hide (fun w' h1 => (unhide HA2 w' ((hbut.trans h1).block ga hga2 hgan)).2.2)
      clear hAr hed hbut ht1 ht2 hnx
      go_wp2_with fail
      refine (unhide HS1).mono ?_
      rintro e w7 ⟨rfl, hA7, hB7⟩
      have x3 := unhide HCB w7 hB7
      have HC := hide (unhide HS2 w7 hA7)
      have HB7 := hide hB7
      clear hA7 hB7 x0 x1 x2
      go_wp2_with fail
      refine (unhide HC).mono ?_
      rintro e w8 ⟨rfl, hA8, hB8⟩
      have HA8 := hide hA8
      have HB8 := hide (unhide HBU w7 w8 (unhide HB7) hB8)
      clear hA8 hB8
      go_wp2_with fail
      go_roundw
      case rel => exact ⟨k + 1, _, by omega, by go_num, unhide HA8, unhide HNX, unhide HB8⟩
      case measure => simp [intOf]; omega
    · have hk3 : k = 3 := by omega
      subst hk3
      rw [show ((3 : Nat) : Int) = 3 from rfl]
      obtain ⟨T, hT⟩ : ∃ T, T = 8 * s := ⟨_, rfl⟩
      have hT2 : T ≤ 192 := by omega
      have m1 := fun w' => run_make_row' (P := Try.prog) 53 5 (.int .u8 0) 1 Try.underlying53 Try.info5 rfl .i64 .i64 T (by omega) (by omega) w'
      rw [show ((T : Nat) : Int) = 8 * (s : Int) from by omega] at m1
      have hsz7 := hbut.size
      have hinv : RowInv r s T ws p bw bh hs wr.heap.size (wr.alloc (.cells (madeCells #[.int .u8 0] T) 5)) (wr.alloc (.cells (madeCells #[.int .u8 0] T) 5)) ws (List.replicate T 0) := by
        have hg := heap_alloc_new wr (.cells (madeCells #[.int .u8 0] T) 5)
        have hbb := (Below.refl wr.heap.size wr).alloc (Nat.le_refl _) (.cells (madeCells #[.int .u8 0] T) 5)
        refine ⟨hAr.below hbb, hed.len.trans (unhide HWL), fun _ _ => rfl, by simp, fun i hi => ?_, fun q' hq' => ?_, But.refl _ _⟩
        · have hmk := made_cells (.int .u8 0) T
          have h1 : (madeCells #[.int .u8 0] T)[i]? = some (.int .u8 0) := by
            rw [← Array.getElem?_toList, hmk, List.getElem?_replicate, if_pos hi]
          rw [rep_at T i 0 0 hi]
          exact ⟨by simp only [World.cell?, hg]; exact h1, by simp only [World.frozen?, hg]; simp⟩
        · rw [rep_at T q' 0 0 hq']
          unfold rawByte
          have h1 := (unhide HLD).fields 1 (r + q' / 8) (by decide) (by show r + q' / 8 < r + s; omega)
          rw [(trio_place r s).2.1, show 5 + 1 + (r + q' / 8) = 6 + r + q' / 8 by omega] at h1
          rw [hed.at', if_neg (by omega), h1]
          simp
      have hb10 : Below w.heap.size w (wr.alloc (.cells (madeCells #[.int .u8 0] T) 5)) := (hbut.below (unhide HB6) (fun j hj => by simp at hj; omega) (unhide HB6).size).alloc (by have := (unhide HB6).size; omega) _
      have hga10 : (wr.alloc (.cells (madeCells #[.int .u8 0] T) 5)).heap[ga]? = w6.heap[ga]? := by
        rw [← hbut.block ga hga2 hgan]
        exact ((Below.refl wr.heap.size wr).alloc (Nat.le_refl _) _).block ga (by omega)
      have hs10 : (wr.alloc (.cells (madeCells #[.int .u8 0] T) 5)).heap.size = wr.heap.size + 1 := by simp
      have HINV := hide hinv
      have HB10 := hide hb10
      have HGA := hide hga10
      have HS10 := hide hs10
      have HED := hide hed
      have HT := hide hT
      have hwsz := (unhide HB6).size
      clear hinv hb10 hga10 hs10 hed hAr hbut x0 x1 x2 hT
      go_upto_block 2 with fail
      generalize wr.alloc (.cells (madeCells #[.int .u8 0] T) 5) = w10 at *
      obtain ⟨gr, hgr⟩ : ∃ gr, gr = wr.heap.size := ⟨_, rfl⟩
      rw [← hgr] at HINV HS10 ⊢
      have hg1 : p ≠ gr := by omega
      have hg2 : bw ≠ gr := by omega
      have hg3 : bh ≠ gr := by omega
      have hg4 : ga ≠ gr := by omega
      have hg5 : gr < w10.heap.size := by have := unhide HS10; omega
      have hg6 : w.heap.size ≤ gr := by omega
      have hgab : ga ∉ [bw, gr] := by simp; omega
      have hga10 : ga < w10.heap.size := by have := unhide HS10; omega
      clear hgr
      go_cut [12] (fun _ wc => ∃ ws' ρ, RowInv r s T ws p bw bh hs gr w10 wc ws' ρ)
      case first =>
        go_wp2_with fail
        go_loopw [12] (fun i wq => ∃ (k : Nat) (ws' ρ : List Nat), k ≤ n ∧ i = .int .i64 k ∧ RowInv r s T ws p bw bh hs gr w10 wq ws' ρ) (fun i _ => n - (intOf i).toNat)
        case atStart => exact ⟨0, ws, _, by omega, rfl, unhide HINV⟩
        case round =>
          obtain ⟨k, ws2, ρ, hk, rfl, hinv⟩ := hrel
          rename World => wq
          by_cases hlt : k < n ∧ k < 2000
          · obtain ⟨hkl, hk20⟩ := hlt
            have hcells : ∃ b off, aP = some ⟨b, off, none⟩ ∧ b < w.heap.size ∧ ∀ i, i < n → ∃ A l, PieceAt w b (off + i * 2) A l := by
              rcases unhide HP with h | h
              · omega
              · exact h
            obtain ⟨b, off, rfl, hb, hPA⟩ := hcells
            obtain ⟨A, l, hpc⟩ := hPA k hkl
            have hbw : Below w.heap.size w wq := hinv.but.below (unhide HB10) (fun j hj => by simp at hj; omega) (unhide HB10).size
            obtain ⟨a, cap, c0, c1, hBl, hsl, hlc, hcm, hl47⟩ := hpc
            have d0 := (hbw.cell (p := ⟨b, off + k * 2, none⟩) hb).trans c0
            have d1 := (hbw.cell (p := ⟨b, off + k * 2 + 1, none⟩) hb).trans c1
            have HBL : Hid (∀ w', But [bw] wq w' → Bytes w' a l) := hide (fun w' h => hBl.below ((hinv.but.trans (h.wide (by simp))).below (unhide HB10) (fun j hj => by simp at hj; omega) (unhide HB10).size))
            obtain ⟨f, hf⟩ : ∃ f : Nat, (f : Int) = A % ((T : Int) + 1) := ⟨(A % ((T : Int) + 1)).toNat, Int.toNat_of_nonneg (Int.emod_nonneg _ (by omega))⟩
            have hfT : f ≤ T := by
              have := Int.emod_lt_of_pos A (show (0 : Int) < (T : Int) + 1 by omega)
              omega
            have HWI := hide (within_int A ((T : Int) + 1) (by omega) (by omega) wq)
            rw [← hf] at HWI
            have htold := hinv.told hr24 hs24 (unhide HLD) (unhide HED)
            have hTT := unhide HT
            have HSET : Hid (∀ (wq' : World) (l' : List Nat) (a' : Option Addr) (cap' : Nat), Ar wq' p bw bh ws2 hs (10 + r + s) → f + l'.length ≤ T → Bytes wq' a' l' → Small l' → Calls Try.prog 19 #[.pointer (some ⟨p, 0, none⟩), .int .i64 5, .int .i64 f, .slice a' l'.length cap'] wq' fun e w' => ∃ ws', e = .returned (.int .i64 0) ∧ Ar w' p bw bh ws' hs (10 + r + s) ∧ But [bw] wq' w' ∧ Written ws2 ws' (6 + r) s f l') := hide (fun wq' l' a' cap' hA hl hB hS => by
              have h := setbytes_yes 5 f l' a' cap' wq' hA htold.all (by rw [show ((5 : Nat) : Int) = 5 from rfl, htold.two]) (by rw [show ((5 : Nat) : Int) = 5 from rfl, htold.two]; dsimp only; omega) hB hS
              rw [show ((5 : Nat) : Int) = 5 from rfl, htold.two] at h
              exact h)
            have HSNO : Hid (T < f + l.length → Calls Try.prog 19 #[.pointer (some ⟨p, 0, none⟩), .int .i64 5, .int .i64 f, .slice a l.length cap] wq fun e w' => e = .returned (.int .i64 25) ∧ Below wq.heap.size wq w') := hide (fun h => by
              refine setbytes_no 5 f a l.length cap wq (by omega) (by omega) hinv.ar htold.all 25 ?_ (by decide)
              unfold spanErr
              rw [htold.two, if_neg (by dsimp only; omega), if_neg (by dsimp only; omega)])
            have HGAQ : Hid (∀ w', But [bw] wq w' → w'.cell? ⟨ga, 1, none⟩ = some (.int .i64 5)) := hide (fun w' h => (unhide HA2 w' (((hinv.but.trans (h.wide (by simp))).block ga hga10 hgab).trans (unhide HGA))).2.1)
            have xa := unhide HGAQ wq (But.refl _ _)
            have HROW : Hid (∀ w', But [bw] wq w' → ∀ i, i < T → w'.cell? ⟨gr, i, none⟩ = some (.int .u8 (ρ.getD i 0 : Nat)) ∧ w'.frozen? ⟨gr, i, none⟩ = false) := hide (fun w' h i hi => by
              have hgq : gr < wq.heap.size := Nat.lt_of_lt_of_le hg5 hinv.but.size
              have hgn : gr ∉ [bw] := by simp; omega
              exact ⟨(h.cell (q := ⟨gr, i, none⟩) hgq hgn).trans (hinv.row i hi).1, (h.frozen (q := ⟨gr, i, none⟩) hgq hgn).trans (hinv.row i hi).2⟩)
            have HNX : Hid (∀ (l' : List Nat), f + l'.length ≤ T → ∀ w7 ws', Ar w7 p bw bh ws' hs (10 + r + s) → But [bw] wq w7 → Written ws2 ws' (6 + r) s f l' → RowInv r s T ws p bw bh hs gr w10 (w7.setCells gr f (cellsOf l')) ws' (patch ρ f l')) := hide (fun l' hl w7 ws' hA hB hW => hinv.next hTT hg1 hg2 hg3 hg5 hl hA hB hW)
            have HAR := hide hinv.ar
            have HSL := hide hsl
            have z0 : (0 : Int) ≤ (k : Int) := by omega
            have z1 : (k : Int) < (n : Int) := by omega
            have z2 : decide ((k : Int) < 2000) = true := decide_eq_true (by omega)
            clear hinv c0 c1 hPA hbw htold hTT hf hBl hsl
            by_cases hfit : f + l.length ≤ T
            · have e1 : decide ((T : Int) - (f : Int) < (l.length : Int)) = false := decide_eq_false (by omega)
              by_cases hfe : T = f
              · subst hfe
                have hl0 : l = [] := List.eq_nil_of_length_eq_zero (by omega)
                subst hl0
                have HC := hide (unhide HSET wq [] a cap (unhide HAR) hfit (unhide HBL wq (But.refl _ _)) (unhide HSL))
                have HNEXT := hide (unhide HNX [] hfit)
                have HCP : Hid (∀ w7, But [bw] wq w7 → ∀ d dLen dCap, (Builtin.copy_ #[53, 53] 3 #[.slice d dLen dCap, .slice a 0 cap]).run Try.prog w7 = .ok (goInt 0) w7) := hide (fun w7 h d dLen dCap => run_copy_none w7 53 53 3 5 d a dLen dCap 0 cap Try.underlying53 size5 (Nat.zero_min _))
                clear HSET HSNO HNX HROW HGAQ
                go_wp2_with fail
                refine (unhide HWI).mono ?_
                rintro e w9 ⟨rfl, hw9⟩
                obtain rfl := hw9.symm
                go_wp2_with fail
                refine (unhide HC).mono ?_
                rintro e w7 ⟨ws', rfl, hA7, hB7, hW7⟩
                have HN7 := hide (unhide HNEXT w7 ws' hA7 hB7 hW7)
                have hcp := unhide HCP w7 hB7
                clear hA7 hB7 hW7 HC
                go_wp2_with (go_at_call 13; refine (num_any _ _).mono ?_; rintro e w' ⟨rfl, hw'⟩; obtain rfl := hw'.symm)
                go_roundw
                case rel => exact ⟨k + 1, _, _, by omega, by go_num, unhide HN7⟩
                case measure => simp [intOf]; omega
              · have HC := hide (unhide HSET wq l a cap (unhide HAR) hfit (unhide HBL wq (But.refl _ _)) (unhide HSL))
                have HNEXT := hide (unhide HNX l hfit)
                have HCP : Hid (∀ w7, But [bw] wq w7 → (Builtin.copy_ #[53, 53] 3 #[.slice (some ⟨gr, f, none⟩) (T - f) (T - f), .slice a l.length cap]).run Try.prog w7 = .ok (goInt l.length) (w7.setCells gr f (cellsOf l))) := hide (fun w7 h => row_copy (unhide HBL w7 h) hfit (unhide HROW w7 h))
                clear HSET HSNO HNX HROW HGAQ
                go_wp2_with fail
                refine (unhide HWI).mono ?_
                rintro e w9 ⟨rfl, hw9⟩
                obtain rfl := hw9.symm
                go_wp2_with fail
                refine (unhide HC).mono ?_
                rintro e w7 ⟨ws', rfl, hA7, hB7, hW7⟩
                have HN7 := hide (unhide HNEXT w7 ws' hA7 hB7 hW7)
                have hcp := unhide HCP w7 hB7
                clear hA7 hB7 hW7 HC
                go_wp2_with (go_at_call 13; refine (num_any _ _).mono ?_; rintro e w' ⟨rfl, hw'⟩; obtain rfl := hw'.symm)
                go_roundw
                case rel => exact ⟨k + 1, _, _, by omega, by go_num, unhide HN7⟩
                case measure => simp [intOf]; omega
            · have e1 : decide ((T : Int) - (f : Int) < (l.length : Int)) = true := decide_eq_true (by omega)
              have HNO := hide (unhide HSNO (by omega))
              have ha : ∃ b2 o2, a = some ⟨b2, o2, none⟩ := by
                rcases unhide HBL wq (But.refl _ _) with h | ⟨b2, o2, h, _⟩
                · rw [h] at hfit; simp at hfit; omega
                · exact ⟨b2, o2, h⟩
              obtain ⟨b2, o2, rfl⟩ := ha
              have hlt : (l.take (T - f)).length = T - f := by rw [List.length_take]; omega
              have hfit2 : f + (l.take (T - f)).length ≤ T := by omega
              have HBT : Hid (∀ w', But [bw] wq w' → Bytes w' (some ⟨b2, o2, none⟩) (l.take (T - f))) := hide (fun w' h => by
                rcases unhide HBL w' h with h1 | ⟨b3, o3, h1, h2, h3⟩
                · left; rw [h1]; simp
                · refine .inr ⟨b3, o3, h1, h2, fun i hi => ?_⟩
                  rw [hlt] at hi
                  rw [h3 i (by omega), List.getD_eq_getElem?_getD, List.getD_eq_getElem?_getD, List.getElem?_take, if_pos hi])
              have HST : Hid (Small (l.take (T - f))) := hide (fun i hi => by
                rw [hlt] at hi
                rw [List.getD_eq_getElem?_getD, List.getElem?_take, if_pos hi, ← List.getD_eq_getElem?_getD]
                exact unhide HSL i (by omega))
              have HSE : Hid (∀ wn, Below wq.heap.size wq wn → Calls Try.prog 19 #[.pointer (some ⟨p, 0, none⟩), .int .i64 5, .int .i64 f, .slice (some ⟨b2, o2, none⟩) (T - f) cap] wn fun e w' => ∃ ws', e = .returned (.int .i64 0) ∧ Ar w' p bw bh ws' hs (10 + r + s) ∧ But [bw] wn w' ∧ Written ws2 ws' (6 + r) s f (l.take (T - f))) := hide (fun wn h => by
                have h1 := unhide HSET wn (l.take (T - f)) (some ⟨b2, o2, none⟩) cap ((unhide HAR).below h) hfit2 (unhide HBT wn (But.of_below h)) (unhide HST)
                rw [hlt] at h1
                exact h1)
              have HNEXT0 := hide (unhide HNX (l.take (T - f)) hfit2)
              have HCP0 : Hid (∀ w7, But [bw] wq w7 → f ≠ T → (Builtin.copy_ #[53, 53] 3 #[.slice (some ⟨gr, f, none⟩) (T - f) (T - f), .slice (some ⟨b2, o2, none⟩) (T - f) cap]).run Try.prog w7 = .ok (goInt (T - f : Nat)) (w7.setCells gr f (cellsOf (l.take (T - f))))) := hide (fun w7 h _ => by
                have h1 := row_copy (cap := cap) (unhide HBT w7 h) hfit2 (unhide HROW w7 h)
                rw [hlt] at h1
                exact h1)
              clear HSET HSNO HNX HROW HBT HST hfit2
              by_cases hfe : T = f
              · subst hfe
                have e2 : decide ((0 : Int) < (l.length : Int)) = true := decide_eq_true (by omega)
                have e3 : decide (0 < l.length) = true := decide_eq_true (by omega)
                rw [Nat.sub_self] at HSE HNEXT0
                rw [List.take_zero] at HSE HNEXT0
                have HCP : Hid (∀ w7 d dLen dCap, (Builtin.copy_ #[53, 53] 3 #[.slice d dLen dCap, .slice (some ⟨b2, o2, none⟩) 0 cap]).run Try.prog w7 = .ok (goInt 0) w7) := hide (fun w7 d dLen dCap => run_copy_none w7 53 53 3 5 d _ dLen dCap 0 cap Try.underlying53 size5 (Nat.zero_min _))
                clear HCP0 hlt e1
                go_wp2_with fail
                refine (unhide HWI).mono ?_
                rintro e w9 ⟨rfl, hw9⟩
                obtain rfl := hw9.symm
                go_wp2_with fail
                refine (unhide HNO).mono ?_
                rintro e wn ⟨rfl, hbn⟩
                have HC := hide (unhide HSE wn hbn)
                have xn := unhide HGAQ wn (But.of_below hbn)
                have HNEXT : Hid (∀ w7 ws', Ar w7 p bw bh ws' hs (10 + r + s) → But [bw] wn w7 → Written ws2 ws' (6 + r) s T [] → RowInv r s T ws p bw bh hs gr w10 w7 ws' (patch ρ T [])) := hide (fun w7 ws' h1 h2 h3 => unhide HNEXT0 w7 ws' h1 ((But.of_below hbn).trans h2) h3)
                clear hbn HGAQ HNEXT0 HSE
                go_wp2_with (go_at_call 13; refine (num_any _ _).mono ?_; rintro e w' ⟨rfl, hw'⟩; obtain rfl := hw'.symm)
                refine (unhide HC).mono ?_
                rintro e w7 ⟨ws', rfl, hA7, hB7, hW7⟩
                have HN7 := hide (unhide HNEXT w7 ws' hA7 hB7 hW7)
                have hcp := unhide HCP
                clear hA7 hB7 hW7 HC
                go_wp2_with (go_at_call 13; refine (num_any _ _).mono ?_; rintro e w' ⟨rfl, hw'⟩; obtain rfl := hw'.symm)
                go_roundw
                case rel => exact ⟨k + 1, _, _, by omega, by go_num, unhide HN7⟩
                case measure => simp [intOf]; omega
              · go_wp2_with fail
                refine (unhide HWI).mono ?_
                rintro e w9 ⟨rfl, hw9⟩
                obtain rfl := hw9.symm
                go_wp2_with fail
                refine (unhide HNO).mono ?_
                rintro e wn ⟨rfl, hbn⟩
                have HC := hide (unhide HSE wn hbn)
                have xn := unhide HGAQ wn (But.of_below hbn)
                have HNEXT : Hid (∀ w7 ws', Ar w7 p bw bh ws' hs (10 + r + s) → But [bw] wn w7 → Written ws2 ws' (6 + r) s f (l.take (T - f)) → RowInv r s T ws p bw bh hs gr w10 (w7.setCells gr f (cellsOf (l.take (T - f)))) ws' (patch ρ f (l.take (T - f)))) := hide (fun w7 ws' h1 h2 h3 => unhide HNEXT0 w7 ws' h1 ((But.of_below hbn).trans h2) h3)
                have HCP : Hid (∀ w7, But [bw] wn w7 → (Builtin.copy_ #[53, 53] 3 #[.slice (some ⟨gr, f, none⟩) (T - f) (T - f), .slice (some ⟨b2, o2, none⟩) (T - f) cap]).run Try.prog w7 = .ok (goInt (T - f : Nat)) (w7.setCells gr f (cellsOf (l.take (T - f))))) := hide (fun w7 h => unhide HCP0 w7 ((But.of_below hbn).trans h) (Ne.symm hfe))
                clear hbn HGAQ HNEXT0 HCP0 HSE
                go_wp2_with (go_at_call 13; refine (num_any _ _).mono ?_; rintro e w' ⟨rfl, hw'⟩; obtain rfl := hw'.symm)
                refine (unhide HC).mono ?_
                rintro e w7 ⟨ws', rfl, hA7, hB7, hW7⟩
                have HN7 := hide (unhide HNEXT w7 ws' hA7 hB7 hW7)
                have hcp := unhide HCP w7 hB7
                clear hA7 hB7 hW7 HC
                go_wp2_with (go_at_call 13; refine (num_any _ _).mono ?_; rintro e w' ⟨rfl, hw'⟩; obtain rfl := hw'.symm)
                go_roundw
                case rel => exact ⟨k + 1, _, _, by omega, by go_num, unhide HN7⟩
                case measure => simp [intOf]; omega
          · have hsub : (k < n ∧ 2000 ≤ k) ∨ n ≤ k := by omega
            have HH : Hid (∃ ws' ρ, RowInv r s T ws p bw bh hs gr w10 wq ws' ρ) := hide ⟨ws2, ρ, hinv⟩
            clear hinv hlt
            rcases hsub with ⟨h1, h2⟩ | h1
            · have f1 : decide ((k : Int) < (n : Int)) = true := decide_eq_true (by omega)
              have f2 : decide ((k : Int) < 2000) = false := decide_eq_false (by omega)
              go_wp2_with fail
              go_meet
              exact unhide HH
            · have f1 : decide ((k : Int) < (n : Int)) = false := decide_eq_false (by omega)
              go_wp2_with fail
              go_meet
              exact unhide HH
      case rest =>
        obtain ⟨ws2, ρ, hinv⟩ := hcut
        rename World => w11
        have htold := hinv.told hr24 hs24 (unhide HLD) (unhide HED)
        have hTT := unhide HT
        have hed := unhide HED
        have HB11 := hide (hinv.but.below (unhide HB10) (fun j hj => by simp at hj; omega) (unhide HB10).size)
        have HGAZ : Hid (∀ w', Below w11.heap.size w11 w' → w'.cell? ⟨ga, 0, none⟩ = some (.int .i64 1) ∧ w'.cell? ⟨ga, 1, none⟩ = some (.int .i64 5) ∧ w'.cell? ⟨ga, 2, none⟩ = some (.int .i64 q)) := hide (fun w' h => unhide HA2 w' ((h.block ga (Nat.lt_of_lt_of_le hga10 hinv.but.size)).trans ((hinv.but.block ga hga10 hgab).trans (unhide HGA))))
        have HG1 : Hid (∀ (j : Nat) w', j < r → Below w11.heap.size w11 w' → Calls Try.prog 15 #[.pointer (some ⟨p, 0, none⟩), .int .i64 5, .int .i64 j] w' fun e w'' => e = .returned (.tuple #[.int .u64 0, .int .i64 0]) ∧ Below w'.heap.size w' w'') := hide (fun j w' hj hb => by
          have h := get_yes 5 j w' (hinv.ar.below hb) htold.all (by rw [show ((5 : Nat) : Int) = 5 from rfl, htold.two]) (by rw [show ((5 : Nat) : Int) = 5 from rfl, htold.two]; dsimp only; omega)
          have h1 := (unhide HLD).fields 1 j (by decide) (by show j < r + s; omega)
          rw [(trio_place r s).2.1] at h1
          rw [hinv.out (5 + 1 + j) (by omega), hed.at', if_neg (by omega), h1] at h
          exact h)
        have HG0 : Hid (∀ (j : Nat) w', j < 3 → Below w11.heap.size w11 w' → Calls Try.prog 15 #[.pointer (some ⟨p, 0, none⟩), .int .i64 1, .int .i64 j] w' fun e w'' => e = .returned (.tuple #[.int .u64 18446744073709551615, .int .i64 0]) ∧ Below w'.heap.size w' w'') := hide (fun j w' hj hb => by
          have h := get_yes 1 j w' (hinv.ar.below hb) htold.all (by rw [show ((1 : Nat) : Int) = 1 from rfl, htold.one]) (by rw [show ((1 : Nat) : Int) = 1 from rfl, htold.one]; dsimp only; omega)
          rw [hinv.out (1 + 1 + j) (by omega), hed.at', if_pos (by omega)] at h
          exact h)
        have HG2 : Hid (∀ (j : Nat) w', j < 3 → Below w11.heap.size w11 w' → Calls Try.prog 15 #[.pointer (some ⟨p, 0, none⟩), .int .i64 q, .int .i64 j] w' fun e w'' => e = .returned (.tuple #[.int .u64 18446744073709551615, .int .i64 0]) ∧ Below w'.heap.size w' w'') := hide (fun j w' hj hb => by
          have hq := unhide HQ
          subst hq
          have h := get_yes (6 + r + s) j w' (hinv.ar.below hb) htold.all (by rw [htold.three]) (by rw [htold.three]; dsimp only; omega)
          rw [hinv.out (6 + r + s + 1 + j) (by omega), hed.at', if_pos (by omega)] at h
          exact h)
        obtain ⟨c, hc⟩ : ∃ c : Nat, (c : Int) = C % ((T : Int) + 1) := ⟨(C % ((T : Int) + 1)).toNat, Int.toNat_of_nonneg (Int.emod_nonneg _ (by omega))⟩
        have hcT : c ≤ T := by
          have := Int.emod_lt_of_pos C (show (0 : Int) < (T : Int) + 1 by omega)
          omega
        have HWI : Hid (∀ w', Calls Try.prog 11 #[.int .i64 C, .int .i64 (IntKind.i64.wrap ((T : Int) + 1))] w' fun e w'' => e = .returned (.int .i64 c) ∧ w'' = w') := hide (fun w' => by
          have e : IntKind.i64.wrap ((T : Int) + 1) = (T : Int) + 1 := by rw [IntKind.wrap_i64]; omega
          rw [e, hc]
          exact within_int C ((T : Int) + 1) (by omega) (by omega) w')
        have HRB : Hid (∀ w', Below w11.heap.size w11 w' → Calls Try.prog 20 #[.pointer (some ⟨p, 0, none⟩), .int .i64 5, .int .i64 r, .slice (some ⟨gr, 0, none⟩) T T, .int .i64 c] w' fun e w'' => e = .returned (.bool true) ∧ Below w'.heap.size w' w'') := hide (fun w' hb => by
          have hgl : gr < w11.heap.size := Nat.lt_of_lt_of_le hg5 hinv.but.size
          exact rowbytes_any 5 c gr 3 r s T ρ w' (hinv.ar.below hb) htold.all htold.two hs1 (by omega) hTT hinv.rl hcT (Nat.lt_of_lt_of_le hgl hb.size) (fun i hi => (hb.cell (p := ⟨gr, i, none⟩) hgl).trans (hinv.row i hi).1) hinv.agree)
        clear hinv htold hTT hed hc HINV HB10 HA HA2 HLD HED HP
        go_wp2_with fail
        go_loopw [17] (fun i wz => ∃ k : Nat, k ≤ r ∧ i = .int .i64 k ∧ Below w11.heap.size w11 wz) (fun i _ => r - (intOf i).toNat)
        case atStart => exact ⟨0, by omega, rfl, Below.refl _ _⟩
        case round =>
          obtain ⟨k, hk, rfl, hbz⟩ := hrel
          rename World => wz
          obtain ⟨y0, y1, y2⟩ := unhide HGAZ wz hbz
          by_cases hlt : k < r
          · have f1 : decide ((k : Int) < (r : Int)) = true := decide_eq_true (by omega)
            have f2 : decide (k < r) = true := decide_eq_true hlt
            have HC := hide (unhide HG1 k wz hlt hbz)
            have HBZ := hide hbz
            clear hbz
            go_wp2_with fail
            refine (unhide HC).mono ?_
            rintro e w12 ⟨rfl, hb12⟩
            have HB12 := hide ((unhide HBZ).trans (hb12.mono (unhide HBZ).size))
            clear hb12
            go_wp2_with (go_at_call 13; refine (num_any _ _).mono ?_; rintro e w' ⟨rfl, hw'⟩; obtain rfl := hw'.symm)
            go_roundw
            case rel => exact ⟨k + 1, by omega, by go_num, unhide HB12⟩
            case measure => simp [intOf]; omega
          · have f1 : decide ((k : Int) < (r : Int)) = false := decide_eq_false (by omega)
            have f2 : decide (k < r) = false := decide_eq_false hlt
            have hkr : k = r := by omega
            subst hkr
            have HBZ := hide hbz
            clear hbz y0 y1 y2
            go_wp2_with fail
            go_loopw [20] (fun i wy => ∃ k : Nat, k ≤ 3 ∧ i = .int .i64 k ∧ Below w11.heap.size w11 wy) (fun i _ => 3 - (intOf i).toNat)
            case atStart => exact ⟨0, by omega, rfl, unhide HBZ⟩
            case round =>
              obtain ⟨m, hm, rfl, hby⟩ := hrel
              rename World => wy
              obtain ⟨y0, y1, y2⟩ := unhide HGAZ wy hby
              by_cases hlt3 : m < 3
              · have f3 : decide ((m : Int) < 3) = true := decide_eq_true (by omega)
                have HC := hide (unhide HG0 m wy hlt3 hby)
                have HBY := hide hby
                clear hby
                go_wp2_with fail
                refine (unhide HC).mono ?_
                rintro e w12 ⟨rfl, hb12⟩
                have hb12' := (unhide HBY).trans (hb12.mono (unhide HBY).size)
                obtain ⟨v0, v1, v2⟩ := unhide HGAZ w12 hb12'
                have HC := hide (unhide HG2 m w12 hlt3 hb12')
                have HB12 := hide hb12'
                clear hb12 hb12' y0 y1 y2
                go_wp2_with fail
                refine (unhide HC).mono ?_
                rintro e w13 ⟨rfl, hb13⟩
                have HB13 := hide ((unhide HB12).trans (hb13.mono (unhide HB12).size))
                clear hb13
                go_wp2_with (go_at_call 13; refine (num_any _ _).mono ?_; rintro e w' ⟨rfl, hw'⟩; obtain rfl := hw'.symm)
                go_roundw
                case rel => exact ⟨m + 1, by omega, by go_num, unhide HB13⟩
                case measure => simp [intOf]; omega
              · have f3 : decide ((m : Int) < 3) = false := decide_eq_false (by omega)
                have HBY := hide hby
                have HRR := hide (unhide HRB wy.drew hby.drew)
                have HK9 : Hid (∀ w', Below wy.drew.heap.size wy.drew w' → w'.cell? ⟨ga, 1, none⟩ = some (.int .i64 5)) := hide (fun w' h => (unhide HGAZ w' (hby.drew.trans (h.mono hby.size))).2.1)
                clear hby y0 y2
                go_wp2_with fail
                go_region_held3 (fun w' => w'.cell? ⟨ga, 1, none⟩ = some (.int .i64 5)) (first | exact y1 | assumption | exact unhide HK9 _ (by assumption))
                  (first
                    | (go_at_call 11; refine (unhide HWI _).mono ?_; rintro e w9 ⟨rfl, hw9⟩; obtain rfl := hw9.symm)
                    | (go_at_call 20; refine (unhide HRR).mono ?_; rintro e w9 ⟨rfl, hw9⟩))
                go_wp2
                go_ret
                exact ⟨rfl, (unhide HB11).trans (((unhide HBY).drew.trans (hw9.mono (unhide HBY).size)).mono (unhide HB11).size)⟩
end Go.Proofs.Ytdgdnpgjbphgaaa
