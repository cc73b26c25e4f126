/- lay. -/
import Derived.Test.YtdgdnpgjbphgaaaLaid
import Derived.Deep.RegionHeld3
import Derived.BigQuiet
namespace Go.Proofs.Ytdgdnpgjbphgaaa
open Go.ChangeShapes Go.WideShapes Go.ChangeAt Go.RowKit
set_option linter.unusedVariables false
set_option maxRecDepth 100000
set_option maxHeartbeats 8000000

theorem lay_any (aS aE aR : Option Addr) (nS cS cE nR cR : Nat) (E : List (List Int)) (bL cL : Nat) (L : List (Nat × Nat × Nat)) (w : World) (hg : Good L) (hpos : 0 < L.length) (hl : L.length ≤ 4000) (hbL : bL < w.heap.size) (hSh : ShapesAt w bL 0 (ints L)) (hE : NumRows w aE E) :
    Calls Try.prog 28 #[.agg #[.slice aS nS cS, .slice aE E.length cE, .slice aR nR cR], .slice (some ⟨bL, 0, none⟩) L.length cL] w fun e w' => ∃ p bw bh ga ca ws hs, e = .returned (.tuple #[.pointer (some ⟨p, 0, none⟩), .slice (some ⟨ga, 0, none⟩) L.length ca, .bool true]) ∧ Ar w' p bw bh ws hs (place L L.length) ∧ ws.length = place L L.length ∧ Kept L ws hs ∧ Part L E L.length 0 ws ∧
      (∀ j, j < L.length → w'.cell? ⟨ga, j, none⟩ = some (.int .i64 (place L j : Nat))) ∧ ga ∉ [p, bw, bh] ∧ w.heap.size ≤ ga ∧ ga < w'.heap.size ∧ w.heap.size ≤ p ∧ w.heap.size ≤ bw ∧ w.heap.size ≤ bh ∧ Below w.heap.size w w' := by
  obtain ⟨W, hW⟩ : ∃ W, W = w.alloc (.cells #[.slice aS nS cS, .slice aE E.length cE, .slice aR nR cR] 78) := ⟨_, rfl⟩
  have hWb : W.heap[w.heap.size]? = some (.cells #[.slice aS nS cS, .slice aE E.length cE, .slice aR nR cR] 78 (0, 0)) := by rw [hW]; exact heap_alloc_new w _
  have hWs : W.heap.size = w.heap.size + 1 := by rw [hW]; simp
  have hb0 : Below w.heap.size w W := by rw [hW]; exact (Below.refl w.heap.size w).alloc (Nat.le_refl _) _
  have hS0 : ShapesAt W bL 0 (ints L) := fun i hi => by
    obtain ⟨x0, x1, x2⟩ := hSh i hi
    exact ⟨(hb0.cell (p := ⟨bL, 0 + i * 3, none⟩) hbL).trans x0, (hb0.cell (p := ⟨bL, 0 + i * 3 + 1, none⟩) hbL).trans x1, (hb0.cell (p := ⟨bL, 0 + i * 3 + 2, none⟩) hbL).trans x2⟩
  have HF := hide (fill_any bL 0 cL W L hg hpos hl (by omega) hS0)
  have HSH := hide hS0
  have HB0 := hide hb0
  have HWB := hide hWb
  have HWE := hide hW
  have HG := hide hg
  have HE := hide (hE.below hb0)
  clear hW hWb hb0 hS0 hSh hg hE
  go_enter Try.func28, Try.ntmps28
  go_upto_region 1 with fail
  rw [← unhide HWE]
  go_wp2_with fail
  refine (unhide HF).mono ?_
  rintro e w6 ⟨p, bw, bh, v2, ws0, hs, rfl, hA, hwl, hLd, ⟨base, hownA, hp1, hp2, hp3⟩, hp4, hp5, hp6, hb6⟩
  obtain ⟨ga, capa, rfl, hga1, hga2, hat⟩ := places_shape hownA hpos
  have HGR : Hid (GrAt w6 w6 p bw bh L E hs 0 0 ws0) := hide ⟨hA, hwl, hLd.kept, Part.start hLd, But.refl _ _⟩
  have hs6 := hb6.size
  have lp6 := hA.lp
  have lw6 := hA.lw
  have lh6 := hA.lh
  have HFA : Hid (∀ w', But [bw] w6 w' → (w'.cell? ⟨w.heap.size, 0, none⟩ = some (.slice aS nS cS) ∧ w'.cell? ⟨w.heap.size, 1, none⟩ = some (.slice aE E.length cE) ∧ w'.cell? ⟨w.heap.size, 2, none⟩ = some (.slice aR nR cR)) ∧ (∀ j, j < L.length → w'.cell? ⟨ga, j, none⟩ = some (.int .i64 (place L j : Nat)) ∧ w'.cell? ⟨bL, j * 3 + 1, none⟩ = some (.int .i64 (refsOf L j : Nat)) ∧ w'.cell? ⟨bL, j * 3 + 2, none⟩ = some (.int .i64 ((L.getD j (0, 0, 0)).2.2 : Nat))) ∧ NumRows w' aE E ∧ Below w.heap.size w w') := hide (fun w' h => by
    have hbb : Below W.heap.size W w' := h.below hb6 (fun j hj => by simp at hj; omega) hb6.size
    have hh := (hbb.block w.heap.size (by omega)).trans (unhide HWB)
    refine ⟨⟨by simp [World.cell?, hh], by simp [World.cell?, hh], by simp [World.cell?, hh]⟩, fun j hj => ?_, (unhide HE).below hbb, (unhide HB0).trans (hbb.mono (by omega))⟩
    obtain ⟨x0, x1, x2⟩ := unhide HSH j (by unfold ints; rw [List.length_map]; exact hj)
    rw [ints_at L j hj] at x1 x2
    rw [Nat.zero_add] at x1 x2
    have hgn : ga ∉ [bw] := by simp; omega
    exact ⟨(h.cell (q := ⟨ga, j, none⟩) hga2 hgn).trans (hat j hj), (hbb.cell (p := ⟨bL, j * 3 + 1, none⟩) (by show bL < _; omega)).trans x1, (hbb.cell (p := ⟨bL, j * 3 + 2, none⟩) (by show bL < _; omega)).trans x2⟩)
  have hgan : ga ∉ [p, bw, bh] := by simp; omega
  have hga3 : w.heap.size ≤ ga := by omega
  have HN2 : Hid (ga ∉ [p, bw, bh]) := hide hgan
  clear hA hwl hLd hat hownA hb6 HF HSH HB0 HWB HWE HE hgan
  go_wp2_with fail
  go_loopw [10] (fun i wq => ∃ (k : Nat) (ws : List Nat), k ≤ L.length ∧ i = .int .i64 k ∧ GrAt w6 wq p bw bh L E hs k 0 ws) (fun i _ => L.length - (intOf i).toNat)
  case atStart => exact ⟨0, ws0, by omega, rfl, unhide HGR⟩
  case round =>
    obtain ⟨k, ws, hk, rfl, hgr⟩ := hrel
    rename World => wq
    by_cases hlt : k < L.length
    · have f1 : decide ((k : Int) < (L.length : Int)) = true := decide_eq_true (by omega)
      have f1' : decide (k < L.length) = true := decide_eq_true hlt
      have y0 : (0 : Int) ≤ (k : Int) := by omega
      have y1 : (k : Int) < (L.length : Int) := by omega
      have hgk := unhide HG k hlt
      have hrf : refsOf L k ≤ 24 := hgk.2.2.1
      have hrw : (L.getD k (0, 0, 0)).2.2 ≤ 24 := hgk.2.2.2
      have HFL : Hid (fldsOf L k = refsOf L k + (L.getD k (0, 0, 0)).2.2) := hide rfl
      have HGQ := hide hgr
      clear hgr hgk
      generalize hrs : (L.getD k (0, 0, 0)).2.2 = s at *
      go_wp2_with fail
      go_loopw [11] (fun i wz => ∃ (c : Nat) (ws : List Nat), c ≤ refsOf L k ∧ i = .int .i64 c ∧ GrAt w6 wz p bw bh L E hs k c ws) (fun i _ => refsOf L k - (intOf i).toNat)
      case atStart => exact ⟨0, ws, by omega, rfl, unhide HGQ⟩
      case round =>
        obtain ⟨c, ws1, hc, rfl, hgr⟩ := hrel
        rename World => wz
        obtain ⟨⟨g0, g1, g2⟩, hfl, hrows, _⟩ := unhide HFA wz hgr.but
        obtain ⟨ck, cr, cs⟩ := hfl k hlt
        by_cases hcr : c < refsOf L k
        · have f2 : decide ((c : Int) < (refsOf L k : Int)) = true := decide_eq_true (by omega)
          have f2' : decide (c < refsOf L k) = true := decide_eq_true hcr
          have HED := hide (edge_any (.slice aS nS cS) (.slice aR nR cR) aE cE E L.length k c wz (by omega) hrows)
          have hfo : fieldOf L E k c = refTo L (edgeN E L.length k c) := by unfold fieldOf; rw [if_pos hcr]
          have hcf : c < fldsOf L k := by have := unhide HFL; omega
          have HGZ := hide hgr
          cases hen : edgeN E L.length k c with
          | none =>
            rw [hen] at HED hfo
            clear hgr hfl hrows
            go_wp2_with fail
            refine (unhide HED).mono ?_
            rintro e w7 ⟨rfl, hb7⟩
            have HEN : Hid (GrAt w6 w7 p bw bh L E hs k (c + 1) ws1) := hide (by
              have h1 := (unhide HGZ).below hb7
              exact ⟨h1.ar, h1.len, h1.kept, h1.part.skip hfo, h1.but⟩)
            have f3 : decide ((0 : Int) ≤ edgeV none) = false := by decide
            clear hb7
            go_wp2_with fail
            go_roundw
            case rel => exact ⟨c + 1, ws1, by omega, by go_num, unhide HEN⟩
            case measure => simp [intOf]; omega
          | some t =>
            rw [hen] at HED hfo
            have ht := edgeN_lt hen
            have ctt := (hfl t ht).1
            clear hgr hfl hrows
            go_wp2_with fail
            refine (unhide HED).mono ?_
            rintro e w7 ⟨rfl, hb7⟩
            have hg7 := (unhide HGZ).below hb7
            obtain ⟨_, hfl7, _, _⟩ := unhide HFA w7 hg7.but
            have c7k := (hfl7 k hlt).1
            have c7t := (hfl7 t ht).1
            have hg7d : GrAt w6 w7.drew p bw bh L E hs k c ws1 := ⟨hg7.ar.drawn 1, hg7.len, hg7.kept, hg7.part, ⟨hg7.but.os, hg7.but.tape, hg7.but.output, hg7.but.size, hg7.but.block⟩⟩
            have hpt := place_bound (unhide HG) t (by omega)
            have HSET : Hid (Calls Try.prog 12 #[.pointer (some ⟨p, 0, none⟩), .int .i64 (place L k : Nat), .int .i64 c, .int .u64 (IntKind.u64.wrap ((place L t : Nat) : Int))] w7.drew fun e w' => e = .returned (.int .i64 0) ∧ ∃ ws', GrAt w6 w' p bw bh L E hs k (c + 1) ws') := hide (by
              have e1 : IntKind.u64.wrap ((place L t : Nat) : Int) = ((place L t : Nat) : Int) := by rw [IntKind.wrap_u64]; omega
              rw [e1]
              exact hg7d.set (unhide HG) hl hlt hcf (place L t) hfo.symm)
            have HK : Hid (∀ w' ws', GrAt w6 w' p bw bh L E hs k (c + 1) ws' → w'.cell? ⟨ga, k, none⟩ = some (.int .i64 (place L k : Nat)) ∧ w'.cell? ⟨ga, t, none⟩ = some (.int .i64 (place L t : Nat))) := hide (fun w' ws' h => ⟨((unhide HFA w' h.but).2.1 k hlt).1, ((unhide HFA w' h.but).2.1 t ht).1⟩)
            have f3 : decide ((0 : Int) ≤ (t : Int)) = true := decide_eq_true (by omega)
            have z0 : (0 : Int) ≤ (t : Int) := by omega
            have z1 : (t : Int) < (L.length : Int) := by omega
            rw [show edgeV (some t) = (t : Int) from rfl]
            generalize place L k = pk at *
            generalize place L t = pt at *
            clear hb7 hg7 hg7d hfl7 hpt hfo ck ctt g0 g1 g2
            go_wp2_with fail
            go_region_held3 (fun w' => w'.cell? ⟨ga, k, none⟩ = some (.int .i64 (pk : Nat)) ∧ w'.cell? ⟨ga, t, none⟩ = some (.int .i64 (pt : Nat)))
              (first | exact ⟨c7k, c7t⟩ | assumption | exact unhide HK _ _ (by assumption))
              (first | (go_at_call 12; refine (unhide HSET).mono ?_; rintro e w8 ⟨rfl, ws8, hg8⟩))
            have HG8 := hide hg8
            clear hg8 c7k c7t
            go_wp2_with (go_at_call 13; refine (num_any _ _).mono ?_; rintro e w' ⟨rfl, hw'⟩; obtain rfl := hw'.symm)
            go_roundw
            case rel => exact ⟨c + 1, ws8, by omega, by go_num, unhide HG8⟩
            case measure => simp [intOf]; omega
        · have hce : c = refsOf L k := by omega
          subst hce
          have f2 : decide ((refsOf L k : Int) < (refsOf L k : Int)) = false := decide_eq_false (by omega)
          have f2' : decide (refsOf L k < refsOf L k) = false := decide_eq_false hcr
          have HGZ : Hid (GrAt w6 wz p bw bh L E hs k (refsOf L k + 0) ws1) := hide (by rw [Nat.add_zero]; exact hgr)
          clear hgr hfl hrows
          go_wp2_with fail
          go_loopw [14] (fun i wy => ∃ (d : Nat) (ws : List Nat), d ≤ s ∧ i = .int .i64 d ∧ GrAt w6 wy p bw bh L E hs k (refsOf L k + d) ws) (fun i _ => s - (intOf i).toNat)
          case atStart => exact ⟨0, ws1, by omega, rfl, unhide HGZ⟩
          case round =>
            obtain ⟨d, ws3, hd, rfl, hgr⟩ := hrel
            rename World => wy
            obtain ⟨_, hfl, _, _⟩ := unhide HFA wy hgr.but
            obtain ⟨dk, dr, ds⟩ := hfl k hlt
            rw [hrs] at ds
            by_cases hds : d < s
            · have f3 : decide ((d : Int) < (s : Int)) = true := decide_eq_true (by omega)
              have f3' : decide (d < s) = true := decide_eq_true hds
              have hgd : GrAt w6 wy.drew p bw bh L E hs k (refsOf L k + d) ws3 := ⟨hgr.ar.drawn 1, hgr.len, hgr.kept, hgr.part, ⟨hgr.but.os, hgr.but.tape, hgr.but.output, hgr.but.size, hgr.but.block⟩⟩
              have hcf : refsOf L k + d < fldsOf L k := by have := unhide HFL; omega
              have hfo : rawN k d = fieldOf L E k (refsOf L k + d) := by unfold fieldOf; rw [if_neg (by omega), Nat.add_sub_cancel_left]
              have HSET : Hid (Calls Try.prog 12 #[.pointer (some ⟨p, 0, none⟩), .int .i64 (place L k : Nat), .int .i64 (IntKind.i64.wrap ((refsOf L k : Int) + (d : Int))), .int .u64 (rawN k d : Nat)] wy.drew fun e w' => e = .returned (.int .i64 0) ∧ ∃ ws', GrAt w6 w' p bw bh L E hs k (refsOf L k + (d + 1)) ws') := hide (by
                have e1 : IntKind.i64.wrap ((refsOf L k : Int) + (d : Int)) = ((refsOf L k + d : Nat) : Int) := by rw [IntKind.wrap_i64]; omega
                rw [e1]
                exact hgd.set (unhide HG) hl hlt hcf (rawN k d) hfo)
              have HK : Hid (∀ w' ws', GrAt w6 w' p bw bh L E hs k (refsOf L k + (d + 1)) ws' → w'.cell? ⟨ga, k, none⟩ = some (.int .i64 (place L k : Nat)) ∧ w'.cell? ⟨bL, k * 3 + 1, none⟩ = some (.int .i64 (refsOf L k : Nat))) := hide (fun w' ws' h => ⟨((unhide HFA w' h.but).2.1 k hlt).1, ((unhide HFA w' h.but).2.1 k hlt).2.1⟩)
              have HRW := hide (fun w' => raw_any k d w' (by omega) (by omega))
              generalize place L k = pk at *
              generalize rawN k d = rv at *
              clear hgr hgd hfl hfo
              go_wp2_with fail
              go_region_held3 (fun w' => w'.cell? ⟨ga, k, none⟩ = some (.int .i64 (pk : Nat)) ∧ w'.cell? ⟨bL, k * 3 + 1, none⟩ = some (.int .i64 (refsOf L k : Nat)))
                (first | exact ⟨dk, dr⟩ | assumption | exact unhide HK _ _ (by assumption))
                (first
                  | (go_at_call 48; refine (unhide HRW _).mono ?_; rintro e w9 ⟨rfl, hw9⟩; obtain rfl := hw9.symm)
                  | (go_at_call 12; refine (unhide HSET).mono ?_; rintro e w8 ⟨rfl, ws8, hg8⟩))
              have HG8 := hide hg8
              clear hg8 dk dr ds
              go_wp2_with (go_at_call 13; refine (num_any _ _).mono ?_; rintro e w' ⟨rfl, hw'⟩; obtain rfl := hw'.symm)
              go_roundw
              case rel => exact ⟨d + 1, ws8, by omega, by go_num, unhide HG8⟩
              case measure => simp [intOf]; omega
            · have f3 : decide ((d : Int) < (s : Int)) = false := decide_eq_false (by omega)
              have f3' : decide (d < s) = false := decide_eq_false hds
              have HEN : Hid (GrAt w6 wy p bw bh L E hs (k + 1) 0 ws3) := hide (by
                have he : refsOf L k + d = fldsOf L k := by have := unhide HFL; omega
                rw [he] at hgr
                exact ⟨hgr.ar, hgr.len, hgr.kept, hgr.part.next, hgr.but⟩)
              clear hgr hfl
              go_wp2_with fail
              go_roundw
              case rel => exact ⟨k + 1, ws3, by omega, by go_num, unhide HEN⟩
              case measure => simp [intOf]; omega
    · have f1 : decide ((k : Int) < (L.length : Int)) = false := decide_eq_false (by omega)
      have f1' : decide (k < L.length) = false := decide_eq_false hlt
      have hke : k = L.length := by omega
      have HEN : Hid (Ar wq p bw bh ws hs (place L L.length) ∧ ws.length = place L L.length ∧ Kept L ws hs ∧ Part L E L.length 0 ws ∧ (∀ j, j < L.length → wq.cell? ⟨ga, j, none⟩ = some (.int .i64 (place L j : Nat))) ∧ ga ∉ [p, bw, bh] ∧ w.heap.size ≤ ga ∧ ga < wq.heap.size ∧ w.heap.size ≤ p ∧ w.heap.size ≤ bw ∧ w.heap.size ≤ bh ∧ Below w.heap.size w wq) := hide (by
        have hp := hgr.part
        rw [hke] at hp
        obtain ⟨_, hfl, _, hbb⟩ := unhide HFA wq hgr.but
        exact ⟨hgr.ar, hgr.len, hgr.kept, hp, fun j hj => (hfl j hj).1, unhide HN2, hga3, Nat.lt_of_lt_of_le hga2 hgr.but.size, by omega, by omega, by omega, hbb⟩)
      clear hgr
      go_wp2
      go_ret3
      exact ⟨p, bw, bh, ga, capa, ws, hs, rfl, unhide HEN⟩
end Go.Proofs.Ytdgdnpgjbphgaaa
