/- copied. -/
import Derived.Test.YtdgdnpgjbphgaaaCopyStep
import Derived.Test.YtdgdnpgjbphgaaaReached
namespace Go.Proofs.Ytdgdnpgjbphgaaa
open Go.ChangeShapes Go.WideShapes Go.ChangeAt Go.RowKit
set_option linter.unusedVariables false
set_option maxRecDepth 100000
set_option maxHeartbeats 8000000

theorem Cop.gone {w0 w : World} {p bw bh p' bw' bh' : Nat} {L : List (Nat × Nat × Nat)} {E : List (List Int)} {R : List Nat} {N : Nat} {hsa : List Bool} {Q : List Nat} {sc c : Nat} {wsa wsb : List Nat} {hsb : List Bool} (h : Cop w0 w p bw bh p' bw' bh' L E R N hsa Q sc c wsa wsb hsb) (t : Nat) (ht : t ∈ Q) :
    Calls Try.prog 25 #[.pointer (some ⟨p, 0, none⟩), .int .i64 (place L t : Nat)] w fun e w' => e = .returned (.tuple #[.int .i64 (spot L Q (Q.idxOf t) : Nat), .bool true, .int .i64 0]) ∧ w' = w := by
  refine (movedcall_any (place L t : Nat) w h.a).mono ?_
  rintro e w' ⟨rfl, hw⟩
  rw [h.fr.moved t (h.mem t ht).1 ht]
  exact ⟨rfl, hw⟩
theorem getD_idx (Q : List Nat) (i : Nat) (h : i ∈ Q) : Q.getD (Q.idxOf i) 0 = i := by
  have hix := List.idxOf_lt_length_of_mem h
  rw [List.getD_eq_getElem?_getD, List.getElem?_eq_getElem hix]
  exact List.getElem_idxOf hix
/-- a field of a copy, when all were gone through -/
theorem Cop.field {w0 w : World} {p bw bh p' bw' bh' : Nat} {L : List (Nat × Nat × Nat)} {E : List (List Int)} {R : List Nat} {N : Nat} {hsa : List Bool} {Q : List Nat} {wsa wsb : List Nat} {hsb : List Bool} (h : Cop w0 w p bw bh p' bw' bh' L E R N hsa Q Q.length 0 wsa wsb hsb) (hg : Good L) (i f : Nat) (hi : i ∈ Q) (hf : f < fldsOf L i) :
    Calls Try.prog 15 #[.pointer (some ⟨p', 0, none⟩), .int .i64 (spot L Q (Q.idxOf i) : Nat), .int .i64 f] w fun e w' => e = .returned (.tuple #[.int .u64 ((if f < refsOf L i then refNew L Q (edgeN E L.length i f) else rawN i (f - refsOf L i) : Nat) : Int), .int .i64 0]) ∧ Below w.heap.size w w' := by
  have hix := List.idxOf_lt_length_of_mem hi
  have hgd := getD_idx Q i hi
  refine (h.get hg (Q.idxOf i) f hix (by rw [hgd]; exact hf)).mono ?_
  rintro e w' ⟨rfl, hb⟩
  refine ⟨?_, hb⟩
  unfold copyField
  rw [hgd]
  by_cases hr : f < refsOf L i
  · rw [if_pos hr, if_pos (Or.inl hix), if_pos hr]
  · rw [if_neg hr, if_neg hr]
theorem copied_any (aS aE aR : Option Addr) (nS cS cE nR cR : Nat) (E : List (List Int)) (bL cL ga ca : Nat) (L : List (Nat × Nat × Nat)) (R : List Nat) (p bw bh p' bw' bh' N : Nat) (Q : List Nat) (wsa wsb : List Nat) (hsa hsb : List Bool) (i : Nat) (w0 w : World) (hg : Good L) (hl : L.length ≤ 4000) (hbL : bL < w.heap.size) (hSh : ShapesAt w bL 0 (ints L)) (hE : NumRows w aE E) (hat : ∀ j, j < L.length → w.cell? ⟨ga, j, none⟩ = some (.int .i64 (place L j : Nat))) (hgal : ga < w.heap.size)
    (hc : Cop w0 w p bw bh p' bw' bh' L E R N hsa Q Q.length 0 wsa wsb hsb) (hi : i ∈ Q) :
    Calls Try.prog 30 #[.agg #[.slice aS nS cS, .slice aE E.length cE, .slice aR nR cR], .slice (some ⟨bL, 0, none⟩) L.length cL, .pointer (some ⟨p, 0, none⟩), .slice (some ⟨ga, 0, none⟩) L.length ca, .pointer (some ⟨p', 0, none⟩), .int .i64 i] w fun e w' => e = .returned (.bool true) ∧ Below w.heap.size w w' := by
  obtain ⟨W, hW⟩ : ∃ W, W = w.alloc (.cells #[.slice aS nS cS, .slice aE E.length cE, .slice aR nR cR] 78) := ⟨_, rfl⟩
  have hWb : W.heap[w.heap.size]? = some (.cells #[.slice aS nS cS, .slice aE E.length cE, .slice aR nR cR] 78 (0, 0)) := by rw [hW]; exact heap_alloc_new w _
  have hWs : W.heap.size = w.heap.size + 1 := by rw [hW]; simp
  have hb0 : Below w.heap.size w W := by rw [hW]; exact (Below.refl w.heap.size w).alloc (Nat.le_refl _) _
  have hil := (hc.mem i hi).1
  have hgi := hg i hil
  have HFC : Hid (∀ w', Below W.heap.size W w' → (w'.cell? ⟨w.heap.size, 0, none⟩ = some (.slice aS nS cS) ∧ w'.cell? ⟨w.heap.size, 1, none⟩ = some (.slice aE E.length cE) ∧ w'.cell? ⟨w.heap.size, 2, none⟩ = some (.slice aR nR cR)) ∧ (∀ j, j < L.length → w'.cell? ⟨ga, j, none⟩ = some (.int .i64 (place L j : Nat)) ∧ w'.cell? ⟨bL, j * 3, none⟩ = some (.int .i64 ((L.getD j (0, 0, 0)).1 : Nat)) ∧ w'.cell? ⟨bL, j * 3 + 1, none⟩ = some (.int .i64 (refsOf L j : Nat)) ∧ w'.cell? ⟨bL, j * 3 + 2, none⟩ = some (.int .i64 ((L.getD j (0, 0, 0)).2.2 : Nat))) ∧ NumRows w' aE E ∧ Cop w0 w' p bw bh p' bw' bh' L E R N hsa Q Q.length 0 wsa wsb hsb ∧ Below w.heap.size w w') := hide (fun w' h => by
    have hbb : Below w.heap.size w w' := hb0.trans (h.mono (by omega))
    have hh := (h.block w.heap.size (by omega)).trans hWb
    refine ⟨⟨by simp [World.cell?, hh], by simp [World.cell?, hh], by simp [World.cell?, hh]⟩, fun j hj => ?_, hE.below hbb, hc.below hbb, hbb⟩
    obtain ⟨x0, x1, x2⟩ := hSh j (by unfold ints; rw [List.length_map]; exact hj)
    rw [ints_at L j hj] at x0 x1 x2
    rw [Nat.zero_add] at x0 x1 x2
    exact ⟨(hbb.cell (p := ⟨ga, j, none⟩) hgal).trans (hat j hj), (hbb.cell (p := ⟨bL, j * 3, none⟩) hbL).trans x0, (hbb.cell (p := ⟨bL, j * 3 + 1, none⟩) hbL).trans x1, (hbb.cell (p := ⟨bL, j * 3 + 2, none⟩) hbL).trans x2⟩)
  have hrf : refsOf L i ≤ 24 := hgi.2.2.1
  have hrw : (L.getD i (0, 0, 0)).2.2 ≤ 24 := hgi.2.2.2
  have HFL : Hid (fldsOf L i = refsOf L i + (L.getD i (0, 0, 0)).2.2) := hide rfl
  have hix := List.idxOf_lt_length_of_mem hi
  have HGD := hide (getD_idx Q i hi)
  have hu2 := hc.b.u2
  have hsz := hc.b.sz
  have hsp : ∀ t, t ∈ Q → spot L Q (Q.idxOf t) ≤ 1048576 := fun t ht => by
    have h1 := List.idxOf_lt_length_of_mem ht
    have h2 := spot_le L Q h1 h1
    omega
  have hspi := hsp i hi
  have HSP := hide hsp
  have HCL : Hid (∀ k t, k < refsOf L i → edgeN E L.length i k = some t → t ∈ Q) := hide (fun k t hk he => hc.shut (Q.idxOf i) k t hix (by rw [getD_idx Q i hi]; exact hk) (.inl hix) (by rw [getD_idx Q i hi]; exact he))
  have HG := hide hg
  have HI := hide hi
  have HWE := hide hW
  have y0 : (0 : Int) ≤ (i : Int) := by omega
  have y1 : (i : Int) < (L.length : Int) := by omega
  obtain ⟨⟨g0, g1, g2⟩, hfl, _, hcW, _⟩ := unhide HFC W (Below.refl _ _)
  obtain ⟨a0, a1, a2, a3⟩ := hfl i hil
  have HMV := hide (hcW.gone i hi)
  have HOB := hcW.object hg (Q.idxOf i) hix
  rw [getD_idx Q i hi] at HOB
  rw [show (L.getD i (0, 0, 0)).2.1 = refsOf L i from rfl] at HOB
  have HOB' := hide HOB
  have HFD := hide (fun w' (hb : Below W.heap.size W w') f hf => ((unhide HFC w' hb).2.2.2.1).field hg i f hi hf)
  have HSIZE := hide hWs
  clear hW hWb hb0 hSh hE hat hc hg hgi hfl hcW HOB hix hu2 hsz hsp hWs hi
  generalize spot L Q (Q.idxOf i) = T at *
  generalize hsr : (L.getD i (0, 0, 0)).2.2 = sr at *
  generalize hkd : (L.getD i (0, 0, 0)).1 = kd at *
  generalize hpi : place L i = pi at *
  go_enter Try.func30, Try.ntmps30
  go_upto_region 1 with fail
  rw [← unhide HWE]
  clear HWE
  go_wp2_with fail
  refine (unhide HMV).mono ?_
  rintro e w' ⟨rfl, hw'⟩
  obtain rfl := hw'.symm
  go_wp2_with (go_at_call 13; refine (num_any _ _).mono ?_; rintro e w' ⟨rfl, hw'⟩; obtain rfl := hw'.symm)
  refine (unhide HOB').mono ?_
  rintro e w8 ⟨rfl, hb8⟩
  have HB8 := hide hb8
  obtain ⟨⟨q0, q1, q2⟩, hfl8, _, _, _⟩ := unhide HFC w8 hb8
  obtain ⟨b0, b1, b2, b3⟩ := hfl8 i hil
  rw [hkd] at b1
  rw [hsr] at b3
  clear hb8 hfl8 HMV HOB' a0 a1 a2 a3 g0 g1 g2
  go_wp2_with (go_at_call 13; refine (num_any _ _).mono ?_; rintro e w' ⟨rfl, hw'⟩; obtain rfl := hw'.symm)
  go_loopw [20, 21] (fun k _ wq => ∃ c : Nat, c ≤ refsOf L i ∧ k = .int .i64 c ∧ Below W.heap.size W wq) (fun k _ _ => refsOf L i - (intOf k).toNat)
  case atStart => exact ⟨0, by omega, rfl, unhide HB8⟩
  case round =>
    obtain ⟨c, hcr, rfl, hbq⟩ := hrel
    rename World => wq
    have HBQ := hide hbq
    obtain ⟨⟨g0, g1, g2⟩, hfl, hrows, hcq, _⟩ := unhide HFC wq hbq
    by_cases hlt : c < refsOf L i
    · have f2 : decide ((c : Int) < (refsOf L i : Int)) = true := decide_eq_true (by omega)
      have f2' : decide (c < refsOf L i) = true := decide_eq_true hlt
      have HED := hide (edge_any (.slice aS nS cS) (.slice aR nR cR) aE cE E L.length i c wq (by omega) hrows)
      have hcf : c < fldsOf L i := by have := unhide HFL; omega
      cases hen : edgeN E L.length i c with
      | none =>
        rw [hen] at HED
        clear hfl hrows hcq hbq
        go_wp2_with fail
        refine (unhide HED).mono ?_
        rintro e w9 ⟨rfl, hb9⟩
        have hb9' := (unhide HBQ).trans (hb9.mono (unhide HBQ).size)
        have HGT := unhide HFD w9 hb9' c hcf
        rw [if_pos hlt, hen] at HGT
        rw [show refNew L Q none = 0 from rfl] at HGT
        have HG9 := hide HGT
        have HB9 := hide hb9'
        have f4 : decide ((0 : Int) ≤ edgeV none) = false := by decide
        clear hb9 hb9' HGT hen
        go_wp2_with fail
        refine (unhide HG9).mono ?_
        rintro e w7 ⟨rfl, hb7⟩
        have HB7 := hide ((unhide HB9).trans (hb7.mono (unhide HB9).size))
        clear hb7 HG9
        go_wp2_with (go_at_call 13; refine (num_any _ _).mono ?_; rintro e w' ⟨rfl, hw'⟩; obtain rfl := hw'.symm)
        go_roundw
        case rel => exact ⟨c + 1, by omega, by go_num, unhide HB7⟩
        case measure => simp [intOf]; omega
      | some t =>
        rw [hen] at HED
        have htq := unhide HCL c t hlt hen
        have htl := edgeN_lt hen
        have htb := unhide HSP t htq
        clear hfl hrows hcq hbq
        go_wp2_with fail
        refine (unhide HED).mono ?_
        rintro e w9 ⟨rfl, hb9⟩
        have hb9' := (unhide HBQ).trans (hb9.mono (unhide HBQ).size)
        obtain ⟨_, hfl9, _, hc9, _⟩ := unhide HFC w9 hb9'
        have ct := (hfl9 t htl).1
        have HMT := hide (hc9.gone t htq)
        have HGT := unhide HFD w9 hb9' c hcf
        rw [if_pos hlt, hen] at HGT
        rw [show refNew L Q (some t) = spot L Q (Q.idxOf t) from rfl] at HGT
        have HG9 := hide HGT
        have HB9 := hide hb9'
        have f4 : decide ((0 : Int) ≤ (t : Int)) = true := decide_eq_true (by omega)
        have z0 : (0 : Int) ≤ (t : Int) := by omega
        have z1 : (t : Int) < (L.length : Int) := by omega
        rw [show edgeV (some t) = (t : Int) from rfl]
        generalize spot L Q (Q.idxOf t) = tv at *
        generalize place L t = pt at *
        clear hb9 hb9' HGT hen hfl9 hc9 HED
        go_wp2_with fail
        refine (unhide HMT).mono ?_
        rintro e w' ⟨rfl, hw'⟩
        obtain rfl := hw'.symm
        go_wp2_with (go_at_call 13; refine (num_any _ _).mono ?_; rintro e w' ⟨rfl, hw'⟩; obtain rfl := hw'.symm)
        refine (unhide HG9).mono ?_
        rintro e w7 ⟨rfl, hb7⟩
        have HB7 := hide ((unhide HB9).trans (hb7.mono (unhide HB9).size))
        clear hb7 HG9 HMT
        go_wp2_with (go_at_call 13; refine (num_any _ _).mono ?_; rintro e w' ⟨rfl, hw'⟩; obtain rfl := hw'.symm)
        go_roundw
        case rel => exact ⟨c + 1, by omega, by go_num, unhide HB7⟩
        case measure => simp [intOf]; omega
    · have f2 : decide ((c : Int) < (refsOf L i : Int)) = false := decide_eq_false (by omega)
      have f2' : decide (c < refsOf L i) = false := decide_eq_false hlt
      clear hfl hrows hcq hbq
      go_wp2_with fail
      go_loopw [28] (fun k wq => ∃ d : Nat, d ≤ sr ∧ k = .int .i64 d ∧ Below W.heap.size W wq) (fun k _ => sr - (intOf k).toNat)
      case atStart => exact ⟨0, by omega, rfl, unhide HBQ⟩
      case round =>
        obtain ⟨d, hds, rfl, hbz⟩ := hrel
        rename World => wz
        by_cases hdl : d < sr
        · have f3 : decide ((d : Int) < (sr : Int)) = true := decide_eq_true (by omega)
          have f3' : decide (d < sr) = true := decide_eq_true hdl
          have HGT := unhide HFD wz hbz (refsOf L i + d) (by have := unhide HFL; omega)
          rw [if_neg (by omega), Nat.add_sub_cancel_left] at HGT
          have e1 : ((refsOf L i + d : Nat) : Int) = (refsOf L i : Int) + (d : Int) := by omega
          rw [e1] at HGT
          have HGZ := hide HGT
          have HBZ := hide hbz
          have HRW := hide (fun w' => raw_any i d w' (by omega) (by omega))
          have hrn : rawN i d < 18446744073709551616 := by unfold rawN; omega
          generalize rawN i d = rv at *
          clear HGT hbz e1
          go_wp2_with fail
          refine (unhide HGZ).mono ?_
          rintro e w7 ⟨rfl, hb7⟩
          have HB7 := hide ((unhide HBZ).trans (hb7.mono (unhide HBZ).size))
          clear hb7 HGZ
          go_wp2_with (first | (go_at_call 13; refine (num_any _ _).mono ?_; rintro e w' ⟨rfl, hw'⟩; obtain rfl := hw'.symm) | (go_at_call 48; refine (unhide HRW _).mono ?_; rintro e w' ⟨rfl, hw'⟩; obtain rfl := hw'.symm))
          go_roundw
          case rel => exact ⟨d + 1, by omega, by go_num, unhide HB7⟩
          case measure => simp [intOf]; omega
        · have f3 : decide ((d : Int) < (sr : Int)) = false := decide_eq_false (by omega)
          have f3' : decide (d < sr) = false := decide_eq_false hdl
          have HEN := hide (unhide HFC wz hbz).2.2.2.2
          clear hbz
          go_wp2
          go_ret
          exact ⟨rfl, unhide HEN⟩
end Go.Proofs.Ytdgdnpgjbphgaaa
