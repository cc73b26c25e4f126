/- members. -/
import Derived.Test.YtjmnddcombepaaaMem
namespace Go.Proofs.Ytjmnddcombepaaa
open Go.ChangeShapes Go.WideShapes Go.ChangeAt Go.RowKit
set_option linter.unusedVariables false
set_option maxRecDepth 20000

theorem results_cell_tmp {P : Program} {fn : Func} {p q : Tmp} {ty : TypeId} (h : fn.results = #[.cell p ty, .tmp q]) (tmps : Array Value) (w : World) (g : Nat) (t : TypeId) (cs : Array Value) (fr : Nat × Nat) (d : TypeDesc)
    (hp : tmps.getD p undef = .pointer (some ⟨g, 0, none⟩)) (hg : w.heap[g]? = some (.cells cs t fr))
    (hu : P.underlying ty = some d) (hd : (match d with | .struct _ | .array _ _ => true | _ => false) = true) (hi : (P.info? ty).map (·.size) = some cs.size) (v : Value) (hv : tmps.getD q undef = v) :
    (results fn tmps).run P w = .ok (.tuple #[.agg cs, v]) w := by
  have hp' : tmps[p]?.getD undef = .pointer (some ⟨g, 0, none⟩) := by simpa using hp
  have hv' : tmps[q]?.getD undef = v := by simpa using hv
  simp [results, h, hp', hv', asAddr, run_loadVar_row w g t ty cs fr d hg hu hd hi]
theorem ret_cls {ys : List Nat} {a b : Int} (h : a = b) : Ending.returned (.tuple #[clsV ys, .int .i64 a]) = .returned (.tuple #[clsV ys, .int .i64 b]) := by rw [h]
theorem At4.keep {w w' : World} {g : Nat} {xs : List Nat} (h : At4 w g xs) (hb : Below w.heap.size w w') : At4 w' g xs := (hb.block g h.lt).trans h
theorem chain {B : Nat} {w w1 w2 : World} (h : Below B w w1) (h2 : Below w1.heap.size w1 w2) (hB : B ≤ w.heap.size) : Below B w w2 := h.trans (h2.mono (Nat.le_trans hB h.size))

theorem members_in (b off : Nat) (cap : Nat) (w : World) (p : List Nat) (i : Nat) (hl : p.length ≤ 140737488355328) (hs : Small p) (hb : b < w.heap.size) (hc : ∀ i, i < p.length → w.cell? ⟨b, off + i, none⟩ = some (.int .u8 (p.getD i 0 : Nat))) (hi : i ≤ p.length) (hil : i < p.length) (h94 : p.getD i 0 ≠ 94) :
    Calls Try.prog 61 #[.slice (some ⟨b, off, none⟩) p.length cap, .int .i64 i] w fun e w' => ∃ ys, e = .returned (.tuple #[clsV ys, .int .i64 ((Larder.clsAt p i).2 : Nat)]) ∧ Larder.IsC ys (Larder.clsAt p i).1 ∧ Below w.heap.size w w' := by
  have hB : Bytes w (some ⟨b, off, none⟩) p := .inr ⟨b, off, rfl, hb, hc⟩
  have hct : Larder.caret p i = false := decide_eq_false (fun h => h94 h.2)
  have HR : Hid (Larder.clsAt p i = ((Larder.memsK p p.length i (fun _ => false)).1, min ((Larder.memsK p p.length i (fun _ => false)).2 + 1) p.length)) := hide (by unfold Larder.clsAt; rw [hct]; rfl)
  rw [unhide HR]
  clear HR
  generalize hR0 : Larder.memsK p p.length i (fun _ => false) = R
  have HR := hide hR0
  clear hR0
  have HB := hide hB
  have HC := hide hc
  have HS := hide hs
  have ci := hc i hil
  have ki := hs i hil
  generalize p.getD i 0 = d0 at ci ki h94
  have hd94 : ((d0 : Int) == 94) = false := by rw [beq_eq_false_iff_ne]; omega
  clear hc hB hs hct
  go_enter Try.func61, Try.ntmps61
  go_wp2
  go_loopw [1, 8, 9] (fun j _ _ wr => ∃ (k n : Nat) (ys : List Nat) (S : Nat → Bool), k ≤ p.length ∧ p.length - k ≤ n ∧ Larder.memsK p n k S = R ∧ j = .int .i64 k ∧ Larder.IsC ys S ∧ At4 wr (w.heap.size + 1) ys ∧ At4 wr w.heap.size [0, 0, 0, 0] ∧ Below w.heap.size w wr) (fun j _ _ _ => p.length - (intOf j).toNat)
  case atStart =>
    exact ⟨i, p.length, [0, 0, 0, 0], _, by omega, by omega, unhide HR, by exact rfl, Larder.IsC.zero, cls_second w [0, 0, 0, 0] [0, 0, 0, 0], cls_first w [0, 0, 0, 0] [0, 0, 0, 0], ((Below.refl _ _).alloc (Nat.le_refl _) _).alloc (by simp) _⟩
  case round =>
    obtain ⟨k, n, ys, S, hk, hn, hM, rfl, hI, hA, hR0, hbl⟩ := hrel
    have HB2 := hide ((unhide HB).below hbl)
    by_cases hlt : k < p.length
    · have c0 := (hbl.cell (p := ⟨b, off + k, none⟩) hb).trans (unhide HC k hlt)
      have k0 := unhide HS k hlt
      by_cases h93 : p.getD k 0 = 93
      · rw [Larder.memsK_done p n k S (fun h => h.2 h93)] at hM
        rw [h93] at c0
        subst hM
        have hI := hI
        obtain ⟨y0, y1, y2, y3, rfl⟩ := Larder.four hI.1
        obtain ⟨a0, a1, a2, a3⟩ := hA.cells
        obtain ⟨b0, b1, b2, b3, f0, f1, f2, f3⟩ := hR0.cells8
        have HI := hide hI
        have HR := hide hR0
        have HBL := hide hbl
        clear hI hR0 hbl hA
        go_wp2
        all_goals
          refine bodyPost_ret (results_cell_tmp (p := 4) (q := 5) (ty := 88) rfl _ _ w.heap.size 88 _ (0, 0) _ rfl ((unhide HR).store4 y0 y1 y2 y3) Try.underlying88 rfl (by kernel_rfl) _ rfl) rfl ?_
          refine ⟨[y0, y1, y2, y3], ?_, unhide HI, ((((unhide HBL).setCell (Nat.le_refl _) _).setCell (Nat.le_refl _) _).setCell (Nat.le_refl _) _).setCell (Nat.le_refl _) _⟩
          refine ret_cls (ys := [y0, y1, y2, y3]) ?_
          go_light
          first | done | omega | (split <;> omega)
      · have hp1 := Larder.memAt_prog p k hlt
        have hs1 := Larder.memAt_small p k (fun j => by
          by_cases hj : j < p.length
          · exact unhide HS j hj
          · rw [List.getD_eq_getElem?_getD, List.getElem?_eq_none (by omega)]; decide)
        obtain ⟨n, rfl⟩ : ∃ m, n = m + 1 := ⟨n - 1, by omega⟩
        rw [Larder.memsK_step p n k S hlt h93] at hM
        have H1 := hide (member_any (some ⟨b, off, none⟩) cap wr p k hl (unhide HS) (unhide HB2) hlt)
        have H2 := hide (with_any ys S hI (Larder.memAt p k).1 (Larder.memAt p k).2.1 wr hs1.1 hs1.2)
        have HM := hide hM
        have h4 := hI.1
        have hs11 := hs1.1
        have hs12 := hs1.2
        clear hM hI hs1
        generalize Larder.memAt p k = M at *
        generalize p.getD k 0 = d at *
        have hd : ((d : Int) != 93) = true := by rw [bne_iff_ne]; omega
        obtain ⟨y0, y1, y2, y3, rfl⟩ := Larder.four h4
        obtain ⟨a0, a1, a2, a3⟩ := hA.cells
        have HA := hide hA
        have HR := hide hR0
        have HBL := hide hbl
        clear hA hR0 hbl
        go_wp2_with fail
        refine (unhide H1).mono ?_
        rintro e w1 ⟨rfl, h⟩; obtain rfl := h.symm
        go_wp2_with fail
        refine (unhide H2).mono ?_
        rintro e w2 ⟨zs, rfl, hJ, hb2⟩
        obtain ⟨z0, z1, z2, z3, rfl⟩ := Larder.four hJ.1
        have hA2 := (unhide HA).keep hb2
        obtain ⟨b0, b1, b2, b3, f0, f1, f2, f3⟩ := hA2.cells8
        have HA2 := hide hA2
        have HR2 := hide ((unhide HR).keep hb2)
        have HB3 := hide (chain (unhide HBL) hb2 (Nat.le_refl _))
        have HJ := hide hJ
        clear hA2 hb2 hJ a0 a1 a2 a3
        unfold clsV wc
        go_wp2
        go_roundw
        case rel => exact ⟨M.2.2, n, [z0, z1, z2, z3], _, hp1.2, by omega, unhide HM, rfl, unhide HJ, (unhide HA2).store4 z0 z1 z2 z3, ((((unhide HR2).other (by omega)).other (by omega)).other (by omega)).other (by omega), ((((unhide HB3).setCell (by simp) _).setCell (by simp) _).setCell (by simp) _).setCell (by simp) _⟩
        case measure => simp [intOf]; omega
    · obtain rfl : k = p.length := by omega
      rw [Larder.memsK_done p n p.length S (fun h => absurd h.1 (Nat.lt_irrefl _))] at hM
      subst hM
      have hI := hI
      obtain ⟨y0, y1, y2, y3, rfl⟩ := Larder.four hI.1
      obtain ⟨a0, a1, a2, a3⟩ := hA.cells
      obtain ⟨b0, b1, b2, b3, f0, f1, f2, f3⟩ := hR0.cells8
      have HI := hide hI
      have HR := hide hR0
      have HBL := hide hbl
      clear hI hR0 hbl hA
      go_wp2
      all_goals
        refine bodyPost_ret (results_cell_tmp (p := 4) (q := 5) (ty := 88) rfl _ _ w.heap.size 88 _ (0, 0) _ rfl ((unhide HR).store4 y0 y1 y2 y3) Try.underlying88 rfl (by kernel_rfl) _ rfl) rfl ?_
        refine ⟨[y0, y1, y2, y3], ?_, unhide HI, ((((unhide HBL).setCell (Nat.le_refl _) _).setCell (Nat.le_refl _) _).setCell (Nat.le_refl _) _).setCell (Nat.le_refl _) _⟩
        refine ret_cls (ys := [y0, y1, y2, y3]) ?_
        go_light
        first | done | omega | (split <;> omega)

theorem members_end (b off : Nat) (cap : Nat) (w : World) (p : List Nat) (i : Nat) (hl : p.length ≤ 140737488355328) (hs : Small p) (hb : b < w.heap.size) (hc : ∀ i, i < p.length → w.cell? ⟨b, off + i, none⟩ = some (.int .u8 (p.getD i 0 : Nat))) (hi : i ≤ p.length) (hil : ¬ i < p.length) :
    Calls Try.prog 61 #[.slice (some ⟨b, off, none⟩) p.length cap, .int .i64 i] w fun e w' => ∃ ys, e = .returned (.tuple #[clsV ys, .int .i64 ((Larder.clsAt p i).2 : Nat)]) ∧ Larder.IsC ys (Larder.clsAt p i).1 ∧ Below w.heap.size w w' := by
  have hB : Bytes w (some ⟨b, off, none⟩) p := .inr ⟨b, off, rfl, hb, hc⟩
  have hct : Larder.caret p i = false := decide_eq_false (fun h => hil h.1)
  have HR : Hid (Larder.clsAt p i = ((Larder.memsK p p.length i (fun _ => false)).1, min ((Larder.memsK p p.length i (fun _ => false)).2 + 1) p.length)) := hide (by unfold Larder.clsAt; rw [hct]; rfl)
  rw [unhide HR]
  clear HR
  generalize hR0 : Larder.memsK p p.length i (fun _ => false) = R
  have HR := hide hR0
  clear hR0
  have HB := hide hB
  have HC := hide hc
  have HS := hide hs
  have hd94 : decide ((i : Int) < (p.length : Int)) = false := decide_eq_false (by omega)
  clear hc hB hs hct
  go_enter Try.func61, Try.ntmps61
  go_wp2
  go_loopw [1, 8, 9] (fun j _ _ wr => ∃ (k n : Nat) (ys : List Nat) (S : Nat → Bool), k ≤ p.length ∧ p.length - k ≤ n ∧ Larder.memsK p n k S = R ∧ j = .int .i64 k ∧ Larder.IsC ys S ∧ At4 wr (w.heap.size + 1) ys ∧ At4 wr w.heap.size [0, 0, 0, 0] ∧ Below w.heap.size w wr) (fun j _ _ _ => p.length - (intOf j).toNat)
  case atStart =>
    exact ⟨i, p.length, [0, 0, 0, 0], _, by omega, by omega, unhide HR, by exact rfl, Larder.IsC.zero, cls_second w [0, 0, 0, 0] [0, 0, 0, 0], cls_first w [0, 0, 0, 0] [0, 0, 0, 0], ((Below.refl _ _).alloc (Nat.le_refl _) _).alloc (by simp) _⟩
  case round =>
    obtain ⟨k, n, ys, S, hk, hn, hM, rfl, hI, hA, hR0, hbl⟩ := hrel
    have HB2 := hide ((unhide HB).below hbl)
    by_cases hlt : k < p.length
    · have c0 := (hbl.cell (p := ⟨b, off + k, none⟩) hb).trans (unhide HC k hlt)
      have k0 := unhide HS k hlt
      by_cases h93 : p.getD k 0 = 93
      · rw [Larder.memsK_done p n k S (fun h => h.2 h93)] at hM
        rw [h93] at c0
        subst hM
        have hI := hI
        obtain ⟨y0, y1, y2, y3, rfl⟩ := Larder.four hI.1
        obtain ⟨a0, a1, a2, a3⟩ := hA.cells
        obtain ⟨b0, b1, b2, b3, f0, f1, f2, f3⟩ := hR0.cells8
        have HI := hide hI
        have HR := hide hR0
        have HBL := hide hbl
        clear hI hR0 hbl hA
        go_wp2
        all_goals
          refine bodyPost_ret (results_cell_tmp (p := 4) (q := 5) (ty := 88) rfl _ _ w.heap.size 88 _ (0, 0) _ rfl ((unhide HR).store4 y0 y1 y2 y3) Try.underlying88 rfl (by kernel_rfl) _ rfl) rfl ?_
          refine ⟨[y0, y1, y2, y3], ?_, unhide HI, ((((unhide HBL).setCell (Nat.le_refl _) _).setCell (Nat.le_refl _) _).setCell (Nat.le_refl _) _).setCell (Nat.le_refl _) _⟩
          refine ret_cls (ys := [y0, y1, y2, y3]) ?_
          go_light
          first | done | omega | (split <;> omega)
      · have hp1 := Larder.memAt_prog p k hlt
        have hs1 := Larder.memAt_small p k (fun j => by
          by_cases hj : j < p.length
          · exact unhide HS j hj
          · rw [List.getD_eq_getElem?_getD, List.getElem?_eq_none (by omega)]; decide)
        obtain ⟨n, rfl⟩ : ∃ m, n = m + 1 := ⟨n - 1, by omega⟩
        rw [Larder.memsK_step p n k S hlt h93] at hM
        have H1 := hide (member_any (some ⟨b, off, none⟩) cap wr p k hl (unhide HS) (unhide HB2) hlt)
        have H2 := hide (with_any ys S hI (Larder.memAt p k).1 (Larder.memAt p k).2.1 wr hs1.1 hs1.2)
        have HM := hide hM
        have h4 := hI.1
        have hs11 := hs1.1
        have hs12 := hs1.2
        clear hM hI hs1
        generalize Larder.memAt p k = M at *
        generalize p.getD k 0 = d at *
        have hd : ((d : Int) != 93) = true := by rw [bne_iff_ne]; omega
        obtain ⟨y0, y1, y2, y3, rfl⟩ := Larder.four h4
        obtain ⟨a0, a1, a2, a3⟩ := hA.cells
        have HA := hide hA
        have HR := hide hR0
        have HBL := hide hbl
        clear hA hR0 hbl
        go_wp2_with fail
        refine (unhide H1).mono ?_
        rintro e w1 ⟨rfl, h⟩; obtain rfl := h.symm
        go_wp2_with fail
        refine (unhide H2).mono ?_
        rintro e w2 ⟨zs, rfl, hJ, hb2⟩
        obtain ⟨z0, z1, z2, z3, rfl⟩ := Larder.four hJ.1
        have hA2 := (unhide HA).keep hb2
        obtain ⟨b0, b1, b2, b3, f0, f1, f2, f3⟩ := hA2.cells8
        have HA2 := hide hA2
        have HR2 := hide ((unhide HR).keep hb2)
        have HB3 := hide (chain (unhide HBL) hb2 (Nat.le_refl _))
        have HJ := hide hJ
        clear hA2 hb2 hJ a0 a1 a2 a3
        unfold clsV wc
        go_wp2
        go_roundw
        case rel => exact ⟨M.2.2, n, [z0, z1, z2, z3], _, hp1.2, by omega, unhide HM, rfl, unhide HJ, (unhide HA2).store4 z0 z1 z2 z3, ((((unhide HR2).other (by omega)).other (by omega)).other (by omega)).other (by omega), ((((unhide HB3).setCell (by simp) _).setCell (by simp) _).setCell (by simp) _).setCell (by simp) _⟩
        case measure => simp [intOf]; omega
    · obtain rfl : k = p.length := by omega
      rw [Larder.memsK_done p n p.length S (fun h => absurd h.1 (Nat.lt_irrefl _))] at hM
      subst hM
      have hI := hI
      obtain ⟨y0, y1, y2, y3, rfl⟩ := Larder.four hI.1
      obtain ⟨a0, a1, a2, a3⟩ := hA.cells
      obtain ⟨b0, b1, b2, b3, f0, f1, f2, f3⟩ := hR0.cells8
      have HI := hide hI
      have HR := hide hR0
      have HBL := hide hbl
      clear hI hR0 hbl hA
      go_wp2
      all_goals
        refine bodyPost_ret (results_cell_tmp (p := 4) (q := 5) (ty := 88) rfl _ _ w.heap.size 88 _ (0, 0) _ rfl ((unhide HR).store4 y0 y1 y2 y3) Try.underlying88 rfl (by kernel_rfl) _ rfl) rfl ?_
        refine ⟨[y0, y1, y2, y3], ?_, unhide HI, ((((unhide HBL).setCell (Nat.le_refl _) _).setCell (Nat.le_refl _) _).setCell (Nat.le_refl _) _).setCell (Nat.le_refl _) _⟩
        refine ret_cls (ys := [y0, y1, y2, y3]) ?_
        go_light
        first | done | omega | (split <;> omega)

theorem members_not (b off : Nat) (cap : Nat) (w : World) (p : List Nat) (i : Nat) (hl : p.length ≤ 140737488355328) (hs : Small p) (hb : b < w.heap.size) (hc : ∀ i, i < p.length → w.cell? ⟨b, off + i, none⟩ = some (.int .u8 (p.getD i 0 : Nat))) (hi : i ≤ p.length) (hil : i < p.length) (h94 : p.getD i 0 = 94) :
    Calls Try.prog 61 #[.slice (some ⟨b, off, none⟩) p.length cap, .int .i64 i] w fun e w' => ∃ ys, e = .returned (.tuple #[clsV ys, .int .i64 ((Larder.clsAt p i).2 : Nat)]) ∧ Larder.IsC ys (Larder.clsAt p i).1 ∧ Below w.heap.size w w' := by
  have hB : Bytes w (some ⟨b, off, none⟩) p := .inr ⟨b, off, rfl, hb, hc⟩
  have hct : Larder.caret p i = true := decide_eq_true ⟨hil, h94⟩
  have HR : Hid (Larder.clsAt p i = (fun c => !(Larder.memsK p p.length (i + 1) (fun _ => false)).1 c, min ((Larder.memsK p p.length (i + 1) (fun _ => false)).2 + 1) p.length)) := hide (by unfold Larder.clsAt; rw [hct]; rfl)
  rw [unhide HR]
  clear HR
  generalize hR0 : Larder.memsK p p.length (i + 1) (fun _ => false) = R
  have HR := hide hR0
  clear hR0
  have HB := hide hB
  have HC := hide hc
  have HS := hide hs
  have ci := hc i hil
  rw [h94] at ci
  clear h94
  clear hc hB hs hct
  go_enter Try.func61, Try.ntmps61
  go_wp2
  go_loopw [1, 8, 9] (fun j _ _ wr => ∃ (k n : Nat) (ys : List Nat) (S : Nat → Bool), k ≤ p.length ∧ p.length - k ≤ n ∧ Larder.memsK p n k S = R ∧ j = .int .i64 k ∧ Larder.IsC ys S ∧ At4 wr (w.heap.size + 1) ys ∧ At4 wr w.heap.size [0, 0, 0, 0] ∧ Below w.heap.size w wr) (fun j _ _ _ => p.length - (intOf j).toNat)
  case atStart =>
    exact ⟨(i + 1), p.length, [0, 0, 0, 0], _, by omega, by omega, unhide HR, by go_num, Larder.IsC.zero, cls_second w [0, 0, 0, 0] [0, 0, 0, 0], cls_first w [0, 0, 0, 0] [0, 0, 0, 0], ((Below.refl _ _).alloc (Nat.le_refl _) _).alloc (by simp) _⟩
  case round =>
    obtain ⟨k, n, ys, S, hk, hn, hM, rfl, hI, hA, hR0, hbl⟩ := hrel
    have HB2 := hide ((unhide HB).below hbl)
    by_cases hlt : k < p.length
    · have c0 := (hbl.cell (p := ⟨b, off + k, none⟩) hb).trans (unhide HC k hlt)
      have k0 := unhide HS k hlt
      by_cases h93 : p.getD k 0 = 93
      · rw [Larder.memsK_done p n k S (fun h => h.2 h93)] at hM
        rw [h93] at c0
        subst hM
        have H3 := hide (others_any ys S hI wr)
        obtain ⟨y0, y1, y2, y3, rfl⟩ := Larder.four hI.1
        obtain ⟨a0, a1, a2, a3⟩ := hA.cells
        have HA := hide hA
        have HR := hide hR0
        have HBL := hide hbl
        clear hI hR0 hbl hA
        go_wp2_with fail
        refine (unhide H3).mono ?_
        rintro e w2 ⟨zs, rfl, hJ, hb2⟩
        obtain ⟨z0, z1, z2, z3, rfl⟩ := Larder.four hJ.1
        have hA2 := (unhide HA).keep hb2
        have hR2 := (unhide HR).keep hb2
        obtain ⟨b0, b1, b2, b3, f0, f1, f2, f3⟩ := hA2.cells8
        obtain ⟨d0, d1, d2, d3, g0, g1, g2, g3⟩ := hR2.cells8
        have HR2 := hide hR2
        have HB3 := hide (chain (unhide HBL) hb2 (Nat.le_refl _))
        have HJ := hide hJ
        clear hA2 hb2 hJ hR2 a0 a1 a2 a3
        unfold clsV wc
        go_wp2
        all_goals
          refine bodyPost_ret (results_cell_tmp (p := 4) (q := 5) (ty := 88) rfl _ _ w.heap.size 88 _ (0, 0) _ rfl ((((((unhide HR2).other (by omega)).other (by omega)).other (by omega)).other (by omega)).store4 z0 z1 z2 z3) Try.underlying88 rfl (by kernel_rfl) _ rfl) rfl ?_
          refine ⟨[z0, z1, z2, z3], ?_, unhide HJ, ((((((((unhide HB3).setCell (by simp) _).setCell (by simp) _).setCell (by simp) _).setCell (by simp) _).setCell (Nat.le_refl _) _).setCell (Nat.le_refl _) _).setCell (Nat.le_refl _) _).setCell (Nat.le_refl _) _⟩
          refine ret_cls (ys := [z0, z1, z2, z3]) ?_
          go_light
          first | done | omega | (split <;> omega)
      · have hp1 := Larder.memAt_prog p k hlt
        have hs1 := Larder.memAt_small p k (fun j => by
          by_cases hj : j < p.length
          · exact unhide HS j hj
          · rw [List.getD_eq_getElem?_getD, List.getElem?_eq_none (by omega)]; decide)
        obtain ⟨n, rfl⟩ : ∃ m, n = m + 1 := ⟨n - 1, by omega⟩
        rw [Larder.memsK_step p n k S hlt h93] at hM
        have H1 := hide (member_any (some ⟨b, off, none⟩) cap wr p k hl (unhide HS) (unhide HB2) hlt)
        have H2 := hide (with_any ys S hI (Larder.memAt p k).1 (Larder.memAt p k).2.1 wr hs1.1 hs1.2)
        have HM := hide hM
        have h4 := hI.1
        have hs11 := hs1.1
        have hs12 := hs1.2
        clear hM hI hs1
        generalize Larder.memAt p k = M at *
        generalize p.getD k 0 = d at *
        have hd : ((d : Int) != 93) = true := by rw [bne_iff_ne]; omega
        obtain ⟨y0, y1, y2, y3, rfl⟩ := Larder.four h4
        obtain ⟨a0, a1, a2, a3⟩ := hA.cells
        have HA := hide hA
        have HR := hide hR0
        have HBL := hide hbl
        clear hA hR0 hbl
        go_wp2_with fail
        refine (unhide H1).mono ?_
        rintro e w1 ⟨rfl, h⟩; obtain rfl := h.symm
        go_wp2_with fail
        refine (unhide H2).mono ?_
        rintro e w2 ⟨zs, rfl, hJ, hb2⟩
        obtain ⟨z0, z1, z2, z3, rfl⟩ := Larder.four hJ.1
        have hA2 := (unhide HA).keep hb2
        obtain ⟨b0, b1, b2, b3, f0, f1, f2, f3⟩ := hA2.cells8
        have HA2 := hide hA2
        have HR2 := hide ((unhide HR).keep hb2)
        have HB3 := hide (chain (unhide HBL) hb2 (Nat.le_refl _))
        have HJ := hide hJ
        clear hA2 hb2 hJ a0 a1 a2 a3
        unfold clsV wc
        go_wp2
        go_roundw
        case rel => exact ⟨M.2.2, n, [z0, z1, z2, z3], _, hp1.2, by omega, unhide HM, rfl, unhide HJ, (unhide HA2).store4 z0 z1 z2 z3, ((((unhide HR2).other (by omega)).other (by omega)).other (by omega)).other (by omega), ((((unhide HB3).setCell (by simp) _).setCell (by simp) _).setCell (by simp) _).setCell (by simp) _⟩
        case measure => simp [intOf]; omega
    · obtain rfl : k = p.length := by omega
      rw [Larder.memsK_done p n p.length S (fun h => absurd h.1 (Nat.lt_irrefl _))] at hM
      subst hM
      have H3 := hide (others_any ys S hI wr)
      obtain ⟨y0, y1, y2, y3, rfl⟩ := Larder.four hI.1
      obtain ⟨a0, a1, a2, a3⟩ := hA.cells
      have HA := hide hA
      have HR := hide hR0
      have HBL := hide hbl
      clear hI hR0 hbl hA
      go_wp2_with fail
      refine (unhide H3).mono ?_
      rintro e w2 ⟨zs, rfl, hJ, hb2⟩
      obtain ⟨z0, z1, z2, z3, rfl⟩ := Larder.four hJ.1
      have hA2 := (unhide HA).keep hb2
      have hR2 := (unhide HR).keep hb2
      obtain ⟨b0, b1, b2, b3, f0, f1, f2, f3⟩ := hA2.cells8
      obtain ⟨d0, d1, d2, d3, g0, g1, g2, g3⟩ := hR2.cells8
      have HR2 := hide hR2
      have HB3 := hide (chain (unhide HBL) hb2 (Nat.le_refl _))
      have HJ := hide hJ
      clear hA2 hb2 hJ hR2 a0 a1 a2 a3
      unfold clsV wc
      go_wp2
      all_goals
        refine bodyPost_ret (results_cell_tmp (p := 4) (q := 5) (ty := 88) rfl _ _ w.heap.size 88 _ (0, 0) _ rfl ((((((unhide HR2).other (by omega)).other (by omega)).other (by omega)).other (by omega)).store4 z0 z1 z2 z3) Try.underlying88 rfl (by kernel_rfl) _ rfl) rfl ?_
        refine ⟨[z0, z1, z2, z3], ?_, unhide HJ, ((((((((unhide HB3).setCell (by simp) _).setCell (by simp) _).setCell (by simp) _).setCell (by simp) _).setCell (Nat.le_refl _) _).setCell (Nat.le_refl _) _).setCell (Nat.le_refl _) _).setCell (Nat.le_refl _) _⟩
        refine ret_cls (ys := [z0, z1, z2, z3]) ?_
        go_light
        first | done | omega | (split <;> omega)

theorem members_any (a : Option Addr) (cap : Nat) (w : World) (p : List Nat) (i : Nat) (hl : p.length ≤ 140737488355328) (hs : Small p) (hB : Bytes w a p) (hp : 0 < p.length) (hi : i ≤ p.length) :
    Calls Try.prog 61 #[.slice a p.length cap, .int .i64 i] w fun e w' => ∃ ys, e = .returned (.tuple #[clsV ys, .int .i64 ((Larder.clsAt p i).2 : Nat)]) ∧ Larder.IsC ys (Larder.clsAt p i).1 ∧ Below w.heap.size w w' := by
  obtain ⟨b, off, rfl, hb, hc⟩ := hB.at hp
  by_cases hil : i < p.length
  · by_cases h94 : p.getD i 0 = 94
    · exact members_not b off cap w p i hl hs hb hc hi hil h94
    · exact members_in b off cap w p i hl hs hb hc hi hil h94
  · exact members_end b off cap w p i hl hs hb hc hi hil
end Go.Proofs.Ytjmnddcombepaaa
