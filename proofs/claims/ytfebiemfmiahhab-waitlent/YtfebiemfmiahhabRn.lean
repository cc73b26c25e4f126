/- WaitLent: lentMarked. -/
import Derived.Test.YtfebiemfmiahhabRs
import Derived.Deep.CutRange
namespace Go.Proofs.Ytfebiemfmiahhab
open Go.ChangeShapes Go.WideShapes Go.ChangeAt Go.RowKit Go.Maps
set_option linter.unusedVariables false
set_option linter.unusedSimpArgs false
set_option maxRecDepth 100000
set_option maxHeartbeats 8000000
theorem marked_law (W : World) (many : Int) (oa : Option Addr) (ocap n : Nat) (l : List Ol) (hn : n = l.length) (hn2 : n ≤ 9223372036854775807) (h : OpsAt W oa l) :
    Calls Try.prog 7 #[.agg #[.int .i64 many, .slice oa n ocap]] W fun e w' => e = .returned (.bool true) ∧ Hid (Below W.heap.size W w') := by
  have HN := hide hn
  obtain ⟨w0, hw0⟩ : ∃ w0, W.alloc (Obj.cells #[Value.int IntKind.i64 many, Value.slice oa n ocap] 24) = w0 := ⟨_, rfl⟩
  have HW : Hid (Below W.heap.size W w0 ∧ OpsAt w0 oa l ∧ w0.heap[W.heap.size]? = some (.cells #[.int .i64 many, .slice oa n ocap] 24 (0, 0))) := by
    rw [← hw0]
    have hb := (Below.refl W.heap.size W).alloc (Nat.le_refl _) (Obj.cells #[Value.int IntKind.i64 many, Value.slice oa n ocap] 24)
    exact hide ⟨hb, h.below hb, heap_alloc_new _ _⟩
  have C9 := wa_new w0 w0 (Below.refl _ _)
  clear h hn
  go_enter Try.func7, Try.ntmps7
  go_wp2_with (go_at_call 9; refine C9.mono ?_; clear C9; rintro e w2 ⟨p, rfl, H2⟩)
  obtain ⟨W3, hW3⟩ : ∃ W3, (w2.alloc (.cells #[.slice none 0 0] 35)).alloc (.cells #[.pointer (some ⟨p, 0, none⟩), .pointer (some ⟨w2.heap.size, 0, none⟩)] 37) = W3 := ⟨_, rfl⟩
  go_loopw [4, 5, 6, 7, 8, 9] (fun v4 v5 v6 v7 v8 v9 wr => ∃ (D : LD) (lf : Int) (i : Nat), v4 = .slice D.aa D.na D.ac ∧ v5 = .slice D.ma D.mn D.mc ∧ v6 = .slice D.ba D.nb D.bc ∧ v7 = .slice D.ca D.nn D.nc ∧ v8 = .int .i64 lf ∧ v9 = .int .i64 ((i : Nat) : Int) ∧ i ≤ n ∧ i ≤ 60 ∧ lf ≤ 20000 ∧ -10000000000000 * (i : Int) ≤ lf ∧ Hid (Hd w0 wr (w2.heap.size + 1) p w2.heap.size D i)) (fun _ _ _ _ _ v9 _ => 60 - (intOf v9).toNat)
  case atStart =>
    refine ⟨ld0, 20000, 0, rfl, rfl, rfl, rfl, rfl, rfl, Nat.zero_le _, Nat.zero_le _, by omega, by omega, ?_⟩
    obtain ⟨O, k1, k2, k3⟩ := unhide H2
    have s := sd_new (w0 := w0) (w := w0) (Below.refl _ _) k1 k2 k3
    exact hide ⟨_, 0, [], ls_new s, li_new, Nat.le_refl _⟩
  case round =>
    obtain ⟨D, lf, i, rfl, rfl, rfl, rfl, rfl, rfl, hi, hi2, hl1, hl2, HD⟩ := hrel
    clear hW3 H2 W3 hw0
    have c0 : wr.cell? ⟨W.heap.size, 1, none⟩ = some (.slice oa n ocap) := by
      obtain ⟨X, T, E, h, -, -⟩ := unhide HD
      obtain ⟨-, -, q⟩ := unhide HW
      exact (h.bel.cell (p := ⟨W.heap.size, 1, none⟩) (blk_lt q)).trans (cell_blk q 1)
    obtain ⟨x0, x1⟩ := (unhide HD).cells
    by_cases hin : i < n ∧ i < 60
    rotate_left
    · as_aux_lemma =>
        by_cases h1 : i < n
        · have f2 : decide ((i : Int) < (n : Int)) = true := decide_eq_true (by omega)
          have f3 : decide ((i : Int) < 60) = false := decide_eq_false (by omega)
          go_wp2_with fail
          go_region_held3 (fun W => W.cell? ⟨w2.heap.size + 1, 0, none⟩ = some (.pointer (some ⟨p, 0, none⟩)) ∧ W.cell? ⟨w2.heap.size + 1, 1, none⟩ = some (.pointer (some ⟨w2.heap.size, 0, none⟩))) (go_keep) (first | (go_at_call 17; refine (hd_waiting (hide (unhide HD).drew)).mono ?_; rintro e we ⟨gw, nw, rfl, x0, x1, HE1⟩) | (go_at_call 21; refine (hd_rwaiting HE1).mono ?_; rintro e wf ⟨aw, cw, rfl, x0, x1, HE2⟩) | (go_at_call 19; refine (hd_ints HE2).mono ?_; rintro e wg ⟨rfl, x0, x1, HE3⟩) | (go_at_call 24; refine (hd_kept (by omega) HE3).mono ?_; rintro e wh ⟨rfl, x0, x1, HE4⟩))
          all_goals go_wp2_with fail
          all_goals go_ret
          all_goals exact ⟨rfl, hide ((unhide HW).1.trans ((unhide HE4).bel.mono (unhide HW).1.size))⟩
        · have f2 : decide ((i : Int) < (n : Int)) = false := decide_eq_false (by omega)
          go_wp2_with fail
          go_region_held3 (fun W => W.cell? ⟨w2.heap.size + 1, 0, none⟩ = some (.pointer (some ⟨p, 0, none⟩)) ∧ W.cell? ⟨w2.heap.size + 1, 1, none⟩ = some (.pointer (some ⟨w2.heap.size, 0, none⟩))) (go_keep) (first | (go_at_call 17; refine (hd_waiting (hide (unhide HD).drew)).mono ?_; rintro e we ⟨gw, nw, rfl, x0, x1, HE1⟩) | (go_at_call 21; refine (hd_rwaiting HE1).mono ?_; rintro e wf ⟨aw, cw, rfl, x0, x1, HE2⟩) | (go_at_call 19; refine (hd_ints HE2).mono ?_; rintro e wg ⟨rfl, x0, x1, HE3⟩) | (go_at_call 24; refine (hd_kept (by omega) HE3).mono ?_; rintro e wh ⟨rfl, x0, x1, HE4⟩))
          all_goals go_wp2_with fail
          all_goals go_ret
          all_goals exact ⟨rfl, hide ((unhide HW).1.trans ((unhide HE4).bel.mono (unhide HW).1.size))⟩
    · have f2 : decide ((i : Int) < (n : Int)) = true := decide_eq_true (by omega)
      have f3 : decide ((i : Int) < 60) = true := decide_eq_true (by omega)
      have g1 : (0 : Int) ≤ (i : Int) := by omega
      have g2 : (i : Int) < (n : Int) := by omega
      obtain ⟨o, ho⟩ : ∃ o, l[i]? = some o := ⟨_, List.getElem?_eq_getElem (by have := unhide HN; omega)⟩
      obtain ⟨-, q, -⟩ := unhide HW
      have hbel : Below w0.heap.size w0 wr := by
        obtain ⟨X, T, E, h, -, -⟩ := unhide HD
        exact h.bel
      obtain ⟨b, off, rfl, -, d0, d1, d2, d3, d4, d5⟩ := (q.below hbel).at ho
      have HK := hide (q.ok o (List.mem_of_getElem? ho))
      clear q ho hbel
      obtain ⟨j, hj⟩ : ∃ j, j = o.pl.length := ⟨_, rfl⟩
      rw [← hj] at d4
      have HJ := hide hj
      clear hj
      go_wp2_with fail
      obtain ⟨W1, hW1⟩ : ∃ W1, W1 = wr.alloc (.cells #[.int .i64 o.on, .int .i64 o.act, .int .i64 o.conn, .int .i64 o.kind, .slice o.a j o.cap, .int .u64 (o.time : Nat)] 41) := ⟨_, rfl⟩
      have HB1 : Hid (Below wr.heap.size wr W1 ∧ W1.heap.size = wr.heap.size + 1) := by rw [hW1]; exact hide ⟨(Below.refl _ _).alloc (Nat.le_refl _) _, by simp⟩
      have HQ1 : Hid (W1.heap[wr.heap.size]? = some (.cells #[.int .i64 o.on, .int .i64 o.act, .int .i64 o.conn, .int .i64 o.kind, .slice o.a j o.cap, .int .u64 (o.time : Nat)] 41 (0, 0))) := by rw [hW1]; exact hide (heap_alloc_new _ _)
      rw [← hW1]
      have y4 : W1.cell? ⟨wr.heap.size, 4, none⟩ = some (.slice o.a j o.cap) := cell_blk (unhide HQ1) 4
      have m1 := make_room j (by rw [unhide HJ]; exact (unhide HK).len)
      have hw1 : IntKind.i64.wrap ((j : Int) + 1) = (j : Int) + 1 := by
        have := (unhide HK).len
        have := unhide HJ
        rw [IntKind.wrap_i64]; omega
      clear hW1 c0 x0 x1 d0 d1 d2 d3 d4 d5
      have HBM : Hid (Blk (W1.drew.alloc (.cells (madeCells #[.int .i64 0, .string (bs [])] ((j + 1) * 2)) 46)) W1.heap.size (j + 1) []) := hide (blk_made W1.drew (j + 1))
      have HBB : Hid (Below W1.heap.size W1 (W1.alloc (.cells (madeCells #[.int .i64 0, .string (bs [])] ((j + 1) * 2)) 46)).drew) := by
        have hb := (Below.refl W1.heap.size W1).alloc (Nat.le_refl _) (.cells (madeCells #[.int .i64 0, .string (bs [])] ((j + 1) * 2)) 46)
        exact hide ⟨hb.os, hb.tape, hb.output, hb.size, hb.block⟩
      have HPL : Hid (∀ w', Below W1.heap.size W1 w' → ∀ ad, o.a = some ad → ∀ (z : Nat) (u : Value), (o.pl.flatMap plC)[z]? = some u → w'.cell? (ad.add z) = some u) := by
        refine hide fun w' hb ad ha z u hz => ?_
        have hb0 : Below w0.heap.size w0 wr := by
          obtain ⟨X, T, E, h, -, -⟩ := unhide HD
          exact h.bel
        have hp := ((((unhide HK).pls).below hb0).below (unhide HB1).1).below hb
        rcases hp with h0 | ⟨pb, po, e, hlt, hc⟩
        · rw [h0] at hz; simp at hz
        · rw [ha] at e
          cases e
          exact PlsAt.cells hc z u hz
      go_region_held3 (fun W => W.cell? ⟨wr.heap.size, 4, none⟩ = some (.slice o.a j o.cap)) (first | exact alloc_keep (by assumption) | go_keep) (first | (refine step_room rfl _ _ rfl W1.heap.size 0 (j + 1) [] (unhide HBM) rfl (by simp [Act.eval, Act.put]) o.a j o.cap (by simp [Act.eval, Act.put]) (o.pl.flatMap plC) (by rw [flatP_len, unhide HJ]) (fun h0 => by have := ((unhide HK).nil h0).2; rw [unhide HJ, this]; rfl) (unhide HPL _ (unhide HBB)) (plC_one _) (by omega) ?_; intro w5 hb5 ho5; have y4 : w5.cell? ⟨wr.heap.size, 4, none⟩ = some (.slice o.a j o.cap) := (by have := (unhide HB1).2; exact cell_blk (ho5.cell (((unhide HBB).block wr.heap.size (by omega)).trans (unhide HQ1)) (by omega)) 4); have H5 : Hid (Blk w5 W1.heap.size (j + 1) (o.pl.flatMap plC) ∧ Below W1.heap.size W1 w5) := (hide ⟨hb5, (unhide HBB).trans (ho5.below (Nat.le_refl _))⟩); clear hb5 ho5))
      clear HBM HBB HPL
      go_upto_if 63 with (first
        | (at_builtin; refine list_room rfl _ _ rfl W1.heap.size j (j + 1) (o.pl.flatMap plC) ((unhide H5).1.below ((Below.refl _ _).alloc (Nat.le_refl _) _)) (by rw [flatP_len, unhide HJ]) rfl (some ⟨w5.heap.size, 0, none⟩) 1 1 rfl spC rfl (fun h0 => by cases h0) (fun ad ha z u hz => by cases ha; rw [addr0]; exact made_cells w5 spC 46 z u hz) (by simp [spC, Value.oneCell']) (by omega) ?_
           intro w6 hb6 ho6
           have H6 : Hid (Lx w0 w6 (w2.heap.size + 1) p w2.heap.size D i i wr.heap.size W1.heap.size o) := (by
             obtain ⟨q1, q2⟩ := unhide HB1
             obtain ⟨q3, q4⟩ := unhide H5
             have b5 := q1.trans (q4.mono (by omega))
             have b6 := (b5.trans (((Below.refl w5.heap.size w5).alloc (Nat.le_refl _) (.cells spC.toArray 46)).mono b5.size)).trans (ho6.below (B := wr.heap.size) (by omega))
             have hop : OpBk W1 wr.heap.size o := (by unfold OpBk opC; rw [← unhide HJ]; exact unhide HQ1)
             refine Lx.begin2 (unhide HD) (unhide HK) b6 ?_ q2 ?_
             · have h5 := hop.keep q4 (by omega)
               have h6 := h5.below ((Below.refl w5.heap.size w5).alloc (Nat.le_refl _) (.cells spC.toArray 46))
               exact ho6.cell h6 (by omega)
             · rw [← unhide HJ]; exact hb6)
           have HC := (unhide H6).cs HJ
           obtain ⟨x0, x1, y0, y1, y2, y3, y4, y5⟩ := HC
           clear hb6 ho6; go_frame))
      have HT : Hid (i + 1 < 1099511627776) := hide (by omega)
      go_cut [13, 14] from 28 to 234 (fun v13 v14 wx => Hid (Lx w0 wx (w2.heap.size + 1) p w2.heap.size D i (i + 1) wr.heap.size W1.heap.size o))
      case first =>
        by_cases hk : o.act = 1
        · have f4 : (o.act == 1) = true := by rw [hk]; rfl
          clear hk
          go_wp2_with fail
          go_region_held3 (fun W => W.cell? ⟨w2.heap.size + 1, 0, none⟩ = some (.pointer (some ⟨p, 0, none⟩)) ∧ W.cell? ⟨w2.heap.size + 1, 1, none⟩ = some (.pointer (some ⟨w2.heap.size, 0, none⟩)) ∧ W.cell? ⟨wr.heap.size, 0, none⟩ = some (.int .i64 o.on) ∧ W.cell? ⟨wr.heap.size, 1, none⟩ = some (.int .i64 o.act) ∧ W.cell? ⟨wr.heap.size, 2, none⟩ = some (.int .i64 o.conn) ∧ W.cell? ⟨wr.heap.size, 3, none⟩ = some (.int .i64 o.kind) ∧ W.cell? ⟨wr.heap.size, 4, none⟩ = some (.slice o.a j o.cap) ∧ W.cell? ⟨wr.heap.size, 5, none⟩ = some (.int .u64 (o.time : Nat))) (go_keep) (first | (go_at_call 11; refine (lx_block HJ (by have := unhide HT; omega) (hide (unhide H6).drew)).mono ?_; rintro e w7 ⟨rv, rfl, ⟨x0, x1, y0, y1, y2, y3, y4, y5⟩, H7⟩))
          all_goals go_wp2_with fail
          all_goals go_region_held3 (fun W => W.cell? ⟨w2.heap.size + 1, 0, none⟩ = some (.pointer (some ⟨p, 0, none⟩)) ∧ W.cell? ⟨w2.heap.size + 1, 1, none⟩ = some (.pointer (some ⟨w2.heap.size, 0, none⟩)) ∧ W.cell? ⟨wr.heap.size, 0, none⟩ = some (.int .i64 o.on) ∧ W.cell? ⟨wr.heap.size, 1, none⟩ = some (.int .i64 o.act) ∧ W.cell? ⟨wr.heap.size, 2, none⟩ = some (.int .i64 o.conn) ∧ W.cell? ⟨wr.heap.size, 3, none⟩ = some (.int .i64 o.kind) ∧ W.cell? ⟨wr.heap.size, 4, none⟩ = some (.slice o.a j o.cap) ∧ W.cell? ⟨wr.heap.size, 5, none⟩ = some (.int .u64 (o.time : Nat))) (go_keep) (first | (go_at_call 13; refine (lx_rblock HJ (hide (unhide H7).drew)).mono ?_; rintro e w8 ⟨rfl, ⟨x0, x1, y0, y1, y2, y3, y4, y5⟩, H8⟩))
          all_goals (have f5 : (rv != rv) = false := by simp)
          all_goals go_wp2_with fail
          all_goals go_meet
          all_goals exact H8
        · have f4 : (o.act == 1) = false := by simpa using hk
          go_wp2_with (go_at_call 10; refine (lx_plays HJ (by have := unhide HT; omega) H6).mono ?_; rintro e w7 ⟨rfl, ⟨z0, z1, z2, z3, z4, z5, z6, z7⟩, H7⟩)
          go_meet
          case rel => exact H7
      case rest =>
        clear x0 x1 y0 y1 y2 y3 y4 y5 H6 H5 HQ1
        have HF : Hid (W1.heap.size = wr.heap.size + 1) := hide (unhide HB1).2
        obtain ⟨x0, x1, y0, y1, y2, y3, y4, y5⟩ := (unhide hcut).cs HJ
        have g3 : (0 : Int) ≤ (j : Int) := by omega
        have g4 : (j : Int) < (((j + 1 : Nat)) : Int) := by omega
        have g5 : (j : Int) < (j : Int) + 1 := by omega
        go_wp2_with (go_at_call 14; refine (lx_same HJ hcut).mono ?_; rintro e w9 ⟨rfl, ⟨x0, x1, y0, y1, y2, y3, y4, y5⟩, s0, s1, H9⟩)
        go_region_held3 (fun W => W.cell? ⟨w2.heap.size + 1, 0, none⟩ = some (.pointer (some ⟨p, 0, none⟩)) ∧ W.cell? ⟨w2.heap.size + 1, 1, none⟩ = some (.pointer (some ⟨w2.heap.size, 0, none⟩)) ∧ W.cell? ⟨wr.heap.size, 0, none⟩ = some (.int .i64 o.on) ∧ W.cell? ⟨wr.heap.size, 1, none⟩ = some (.int .i64 o.act) ∧ W.cell? ⟨wr.heap.size, 2, none⟩ = some (.int .i64 o.conn) ∧ W.cell? ⟨wr.heap.size, 3, none⟩ = some (.int .i64 o.kind) ∧ W.cell? ⟨wr.heap.size, 4, none⟩ = some (.slice o.a j o.cap) ∧ W.cell? ⟨wr.heap.size, 5, none⟩ = some (.int .u64 (o.time : Nat))) (go_keep) (first | (go_at_call 15; refine (lx_places HJ (hide (unhide H9).drew)).mono ?_; rintro e wa ⟨gl, nl, rfl, ⟨x0, x1, y0, y1, y2, y3, y4, y5⟩, HA⟩) | (go_at_call 16; refine (lx_due HJ HA).mono ?_; rintro e wb ⟨gd, nd, rfl, ⟨x0, x1, y0, y1, y2, y3, y4, y5⟩, HB⟩) | (go_at_call 17; refine (lx_waiting HJ HB).mono ?_; rintro e wd ⟨gn, nn, rfl, ⟨x0, x1, y0, y1, y2, y3, y4, y5⟩, HC⟩))
        all_goals go_wp2_with fail
        all_goals go_region_held3 (fun W => W.cell? ⟨w2.heap.size + 1, 0, none⟩ = some (.pointer (some ⟨p, 0, none⟩)) ∧ W.cell? ⟨w2.heap.size + 1, 1, none⟩ = some (.pointer (some ⟨w2.heap.size, 0, none⟩)) ∧ W.cell? ⟨wr.heap.size, 0, none⟩ = some (.int .i64 o.on) ∧ W.cell? ⟨wr.heap.size, 1, none⟩ = some (.int .i64 o.act) ∧ W.cell? ⟨wr.heap.size, 2, none⟩ = some (.int .i64 o.conn) ∧ W.cell? ⟨wr.heap.size, 3, none⟩ = some (.int .i64 o.kind) ∧ W.cell? ⟨wr.heap.size, 4, none⟩ = some (.slice o.a j o.cap) ∧ W.cell? ⟨wr.heap.size, 5, none⟩ = some (.int .u64 (o.time : Nat))) (go_keep) (first | (go_at_call 18; refine (lx_rplaces HJ (hide (unhide HC).drew)).mono ?_; rintro e we ⟨ap, cp, rfl, ⟨x0, x1, y0, y1, y2, y3, y4, y5⟩, HP⟩) | (go_at_call 14; refine (lx_same2 HJ HP).mono ?_; rintro e wf ⟨rfl, ⟨x0, x1, y0, y1, y2, y3, y4, y5⟩, HA4⟩) | (go_at_call 20; refine (lx_rdue HJ HA4).mono ?_; rintro e wg ⟨ad, cd, rfl, ⟨x0, x1, y0, y1, y2, y3, y4, y5⟩, HD5⟩) | (go_at_call 21; refine (lx_rwaiting HJ HA6).mono ?_; rintro e wi ⟨aw, cw, rfl, ⟨x0, x1, y0, y1, y2, y3, y4, y5⟩, HB7⟩) | (go_at_call 19; refine (lx_ints3 HJ HB7).mono ?_; rintro e wk ⟨rfl, ⟨x0, x1, y0, y1, y2, y3, y4, y5⟩, HA8⟩) | (go_at_call 19; refine (lx_ints2 HJ HD5).mono ?_; rintro e wh ⟨rfl, ⟨x0, x1, y0, y1, y2, y3, y4, y5⟩, HA6⟩))
        clear x0 x1 y0 y1 y2 y3 y5 HA HB HC HP HA4 HD5 HA6 HB7 H9
        obtain ⟨l1, l2, l3⟩ := (unhide HA8).few
        have l4 : j ≤ 5864062014805 := by rw [unhide HJ]; exact (unhide HK).len
        have v1 : IntKind.i64.wrap (lf - (nl : Int)) = lf - (nl : Int) := by rw [IntKind.wrap_i64]; omega
        have v2 : IntKind.i64.wrap (lf - (nl : Int) - (j : Int)) = lf - (nl : Int) - (j : Int) := by rw [IntKind.wrap_i64]; omega
        have v3 : IntKind.i64.wrap (lf - (nl : Int) - (j : Int) - (nd : Int)) = lf - (nl : Int) - (j : Int) - (nd : Int) := by rw [IntKind.wrap_i64]; omega
        have v4 : IntKind.i64.wrap (lf - (nl : Int) - (j : Int) - (nd : Int) - (nn : Int)) = lf - (nl : Int) - (j : Int) - (nd : Int) - (nn : Int) := by rw [IntKind.wrap_i64]; omega
        have w1 : wrap64 (lf - (nl : Int)) = lf - (nl : Int) := by unfold wrap64; omega
        have w2' : wrap64 (lf - (nl : Int) - (j : Int)) = lf - (nl : Int) - (j : Int) := by unfold wrap64; omega
        have w3 : wrap64 (lf - (nl : Int) - (j : Int) - (nd : Int)) = lf - (nl : Int) - (j : Int) - (nd : Int) := by unfold wrap64; omega
        have w4 : wrap64 (lf - (nl : Int) - (j : Int) - (nd : Int) - (nn : Int)) = lf - (nl : Int) - (j : Int) - (nd : Int) - (nn : Int) := by unfold wrap64; omega
        by_cases hneg : lf - (nl : Int) - (j : Int) - (nd : Int) - (nn : Int) < 0
        · have f6 : decide (lf - (nl : Int) - (j : Int) - (nd : Int) - (nn : Int) < 0) = true := decide_eq_true hneg
          go_wp2_with fail
          exact ⟨⟨D, lf - (nl : Int) - (j : Int) - (nd : Int) - (nn : Int), i + 1, rfl, rfl, rfl, rfl, rfl, congrArg (Value.int .i64) (by omega), by omega, by omega, by omega, by omega, hide ((unhide HA8).skip (Nat.le_refl _))⟩, by simp [intOf]; omega⟩
        · have f6 : decide (lf - (nl : Int) - (j : Int) - (nd : Int) - (nn : Int) < 0) = false := decide_eq_false hneg
          clear v1 v2 v3 v4 w1 w2' w3 w4
          have hjl : j ≤ 100000 := by omega
          obtain ⟨K0, hLI, ⟨fl, R1⟩, ⟨ff, R2⟩, ⟨fd, R3⟩, ⟨fn, R4⟩, e1, e2, e3⟩ := (unhide HA8).pk (unhide HJ) hjl (Nat.le_refl (i + 1))
          have p1 : IntKind.i64.wrap (1000 + (i : Int)) = 1000 + (i : Int) := by rw [IntKind.wrap_i64]; omega
          have p2 : IntKind.i64.wrap (-1000 - (i : Int)) = -1000 - (i : Int) := by rw [IntKind.wrap_i64]; omega
          have p3 : IntKind.i64.wrap (2000 + (i : Int)) = 2000 + (i : Int) := by rw [IntKind.wrap_i64]; omega
          have p4 : IntKind.i64.wrap (-2000 - (i : Int)) = -2000 - (i : Int) := by rw [IntKind.wrap_i64]; omega
          have z1 : D.na ≤ 600 := by have := hLI.na; have := hLI.la; have := hLI.fa; omega
          have z2 : D.nb ≤ 600 := by have := hLI.nb; have := hLI.lb; have := hLI.fb; omega
          have z3 : D.mn ≤ 600 := by have := hLI.ma; have := hLI.fa; omega
          have z4 : D.nn ≤ 600 := by have := hLI.mb; have := hLI.fb; omega
          obtain ⟨i8, ha0, ha1, ha2, ha3⟩ := info_parts4 info38
          obtain ⟨i9, hb0, hb1, hb2, hb3⟩ := info_parts4 info51
          obtain ⟨i4, hc0, hc1, hc2, hc3⟩ := info_parts4 info46
          obtain ⟨i3, hd0, hd1, hd2, hd3⟩ := info_parts4 info3
          have K0 := hide K0
          have HLI := hide hLI
          have R1 := hide R1
          have R2 := hide R2
          have R3 := hide R3
          have R4 := hide R4
          have HG1 : Hid (∀ b ∈ [W1.heap.size, gd, gn], b ≠ gl) := hide (by intro b hb; simp only [List.mem_cons, List.not_mem_nil, or_false] at hb; omega)
          have HG2 : Hid (∀ b ∈ [gd, gn], b ≠ W1.heap.size) := hide (by intro b hb; simp only [List.mem_cons, List.not_mem_nil, or_false] at hb; omega)
          have HG3 : Hid (∀ b ∈ [gn], b ≠ gd) := hide (by intro b hb; simp only [List.mem_cons, List.not_mem_nil, or_false] at hb; omega)
          clear hLI e1 e2 e3 HA8
          go_wp2_with (first
            | (go_at_call 24; refine (hd_kept (i := i + 1) (by omega) Q6).mono ?_; rintro e xk ⟨rfl, x0, x1, HK9⟩)
            | (at_builtin; refine append_rws rfl _ _ 51 rfl 3 i3 _ 1 8 Try.underlying51 hd0 hd1 hd2 hd3 rfl 3 (.slice D.ca (D.nn) D.nc) (D.nn) _ rfl (pk_app7 (D := { D with A := D.A ++ M1 ++ M2, aa := a2, na := D.na + 5 + 5, ac := c2, CA := D.CA ++ [[.int .i64 (1000 + (i : Int)), .string (bs [109, 97, 114, 107])], [.int .i64 (-1000 - (i : Int)), .string (bs [108, 101, 110, 116])]], ma := a3, mn := D.mn + 2, mc := c3, B := D.B ++ N1 ++ N2, ba := a5, nb := D.nb + 5 + 5, bc := c5 }) ((unhide Q5).below ((Below.refl _ _).alloc (Nat.le_refl _) _)) (unhide HLI).two.2 (unhide HLI).mb ((2000 : Int) + (i : Int)) ((-2000 : Int) - (i : Int))).1 (.inl rfl) _ 2 rfl [.int .i64 (2000 + (i : Int)), .int .i64 (-2000 - (i : Int))] (by decide) rfl (made_cells _ [.int .i64 (2000 + (i : Int)), .int .i64 (-2000 - (i : Int))] 3) (by simp [Value.oneCell']) (by omega) (by omega) ?_; intro v5 xz h5 k5; obtain ⟨a6, c6, rfl, q⟩ := (pk_app7 (D := { D with A := D.A ++ M1 ++ M2, aa := a2, na := D.na + 5 + 5, ac := c2, CA := D.CA ++ [[.int .i64 (1000 + (i : Int)), .string (bs [109, 97, 114, 107])], [.int .i64 (-1000 - (i : Int)), .string (bs [108, 101, 110, 116])]], ma := a3, mn := D.mn + 2, mc := c3, B := D.B ++ N1 ++ N2, ba := a5, nb := D.nb + 5 + 5, bc := c5 }) ((unhide Q5).below ((Below.refl _ _).alloc (Nat.le_refl _) _)) (unhide HLI).two.2 (unhide HLI).mb ((2000 : Int) + (i : Int)) ((-2000 : Int) - (i : Int))).2 _ _ h5 k5; have Q6 := hide ((q.hd ((unhide HLI).more (m1 := ((1000 : Int) + (i : Int), [109, 97, 114, 107])) (m2 := ((-1000 : Int) - (i : Int), [108, 101, 110, 116])) (k1 := (2000 : Int) + (i : Int)) (k2 := (-2000 : Int) - (i : Int)) (unhide F1).1 (unhide F2).1 (unhide F4).1 (unhide F5).1 (unhide F1).2 (unhide F2).2 (unhide F4).2 (unhide F5).2 (by omega) (by omega) (by omega) (by omega)))); clear q Q5; clear h5 k5; go_frame)
            | (at_builtin; refine append_rws rfl _ _ 50 rfl 51 i9 _ 1 24 Try.underlying50 hb0 hb1 hb2 hb3 rfl 51 (.slice a4 (D.nb + 5) c4) (D.nb + 5) _ rfl (pk_app6 (D := { D with A := D.A ++ M1 ++ M2, aa := a2, na := D.na + 5 + 5, ac := c2, CA := D.CA ++ [[.int .i64 (1000 + (i : Int)), .string (bs [109, 97, 114, 107])], [.int .i64 (-1000 - (i : Int)), .string (bs [108, 101, 110, 116])]], ma := a3, mn := D.mn + 2, mc := c3, B := D.B ++ N1, ba := a4, nb := D.nb + 5, bc := c4 }) (A := D.B ++ N1) (M := N2) (unhide K5).2.1 (by show D.nb + 5 = (D.B ++ N1).length; have := (unhide F4).1; have := (unhide HLI).nb; rw [List.length_append]; omega) (unhide K5).1).1 (.inl rfl) gd2 5 rfl (N2.map (·.v)) (by decide) (unhide K5).1.len (unhide K5).2.2 (unhide K5).1.one (by omega) (by omega) ?_; intro v5 xz h5 k5; obtain ⟨a5, c5, rfl, q⟩ := (pk_app6 (D := { D with A := D.A ++ M1 ++ M2, aa := a2, na := D.na + 5 + 5, ac := c2, CA := D.CA ++ [[.int .i64 (1000 + (i : Int)), .string (bs [109, 97, 114, 107])], [.int .i64 (-1000 - (i : Int)), .string (bs [108, 101, 110, 116])]], ma := a3, mn := D.mn + 2, mc := c3, B := D.B ++ N1, ba := a4, nb := D.nb + 5, bc := c4 }) (A := D.B ++ N1) (M := N2) (unhide K5).2.1 (by show D.nb + 5 = (D.B ++ N1).length; have := (unhide F4).1; have := (unhide HLI).nb; rw [List.length_append]; omega) (unhide K5).1).2 _ _ h5 k5; have Q5 := hide q; have F5 := hide (unhide K5).1; clear q K5; clear h5 k5; go_frame)
            | (go_at_call 23; refine (pk_number (D := { D with A := D.A ++ M1 ++ M2, aa := a2, na := D.na + 5 + 5, ac := c2, CA := D.CA ++ [[.int .i64 (1000 + (i : Int)), .string (bs [109, 97, 114, 107])], [.int .i64 (-1000 - (i : Int)), .string (bs [108, 101, 110, 116])]], ma := a3, mn := D.mn + 2, mc := c3, B := D.B ++ N1, ba := a4, nb := D.nb + 5, bc := c4 }) (unhide Q4) (unhide R4) (fun b hb => by cases hb) (by omega) ((-2000 : Int) - (i : Int))).mono ?_; rintro e xh ⟨gd2, N2, rfl, K5⟩)
            | (at_builtin; refine append_rws rfl _ _ 50 rfl 51 i9 _ 1 24 Try.underlying50 hb0 hb1 hb2 hb3 rfl 51 (.slice D.ba (D.nb) D.bc) (D.nb) _ rfl (pk_app6 (D := { D with A := D.A ++ M1 ++ M2, aa := a2, na := D.na + 5 + 5, ac := c2, CA := D.CA ++ [[.int .i64 (1000 + (i : Int)), .string (bs [109, 97, 114, 107])], [.int .i64 (-1000 - (i : Int)), .string (bs [108, 101, 110, 116])]], ma := a3, mn := D.mn + 2, mc := c3 }) (A := D.B) (M := N1) (unhide K4).2.1 (unhide HLI).nb (unhide K4).1).1 (.inl rfl) gc 5 rfl (N1.map (·.v)) (by decide) (unhide K4).1.len (unhide K4).2.2 (unhide K4).1.one (by omega) (by omega) ?_; intro v5 xz h5 k5; obtain ⟨a4, c4, rfl, q⟩ := (pk_app6 (D := { D with A := D.A ++ M1 ++ M2, aa := a2, na := D.na + 5 + 5, ac := c2, CA := D.CA ++ [[.int .i64 (1000 + (i : Int)), .string (bs [109, 97, 114, 107])], [.int .i64 (-1000 - (i : Int)), .string (bs [108, 101, 110, 116])]], ma := a3, mn := D.mn + 2, mc := c3 }) (A := D.B) (M := N1) (unhide K4).2.1 (unhide HLI).nb (unhide K4).1).2 _ _ h5 k5; have Q4 := hide q; have F4 := hide (unhide K4).1; clear q K4; clear h5 k5; go_frame)
            | (go_at_call 23; refine (pk_number (D := { D with A := D.A ++ M1 ++ M2, aa := a2, na := D.na + 5 + 5, ac := c2, CA := D.CA ++ [[.int .i64 (1000 + (i : Int)), .string (bs [109, 97, 114, 107])], [.int .i64 (-1000 - (i : Int)), .string (bs [108, 101, 110, 116])]], ma := a3, mn := D.mn + 2, mc := c3 }) (unhide Q3) (unhide R3) (unhide HG3) (by omega) ((2000 : Int) + (i : Int))).mono ?_; rintro e xf ⟨gc, N1, rfl, K4⟩)
            | (at_builtin; refine append_rws rfl _ _ 38 rfl 46 i4 _ 2 24 Try.underlying38 hc0 hc1 hc2 hc3 rfl 46 (.slice D.ma (D.mn) D.mc) (D.mn) _ rfl (pk_app5 (D := { D with A := D.A ++ M1 ++ M2, aa := a2, na := D.na + 5 + 5, ac := c2 }) ((unhide Q2).below ((Below.refl _ _).alloc (Nat.le_refl _) _)) (unhide HLI).two.1 (unhide HLI).ma ((1000 : Int) + (i : Int), [109, 97, 114, 107]) ((-1000 : Int) - (i : Int), [108, 101, 110, 116])).1 (.inl rfl) _ 2 rfl [.int .i64 (1000 + (i : Int)), .string (bs [109, 97, 114, 107]), .int .i64 (-1000 - (i : Int)), .string (bs [108, 101, 110, 116])] (by decide) rfl (made_cells _ [.int .i64 (1000 + (i : Int)), .string (bs [109, 97, 114, 107]), .int .i64 (-1000 - (i : Int)), .string (bs [108, 101, 110, 116])] 46) (by simp [Value.oneCell']) (by omega) (by omega) ?_; intro v5 xz h5 k5; obtain ⟨a3, c3, rfl, q⟩ := (pk_app5 (D := { D with A := D.A ++ M1 ++ M2, aa := a2, na := D.na + 5 + 5, ac := c2 }) ((unhide Q2).below ((Below.refl _ _).alloc (Nat.le_refl _) _)) (unhide HLI).two.1 (unhide HLI).ma ((1000 : Int) + (i : Int), [109, 97, 114, 107]) ((-1000 : Int) - (i : Int), [108, 101, 110, 116])).2 _ _ h5 k5; have Q3 := hide q; clear q Q2; clear h5 k5; go_frame)
            | (at_builtin; refine append_rws rfl _ _ 49 rfl 38 i8 _ 1 24 Try.underlying49 ha0 ha1 ha2 ha3 rfl 38 (.slice a1 (D.na + 5) c1) (D.na + 5) _ rfl (pk_app4 (D := { D with A := D.A ++ M1, aa := a1, na := D.na + 5, ac := c1 }) (A := D.A ++ M1) (M := M2) (unhide K2).2.1 (by show D.na + 5 = (D.A ++ M1).length; have := (unhide F1).1; have := (unhide HLI).na; rw [List.length_append]; omega) (unhide K2).1).1 (.inl rfl) gb 5 rfl (M2.map (·.v)) (by decide) (unhide K2).1.len (unhide K2).2.2 (unhide K2).1.one (by omega) (by omega) ?_; intro v5 xz h5 k5; obtain ⟨a2, c2, rfl, q⟩ := (pk_app4 (D := { D with A := D.A ++ M1, aa := a1, na := D.na + 5, ac := c1 }) (A := D.A ++ M1) (M := M2) (unhide K2).2.1 (by show D.na + 5 = (D.A ++ M1).length; have := (unhide F1).1; have := (unhide HLI).na; rw [List.length_append]; omega) (unhide K2).1).2 _ _ h5 k5; have Q2 := hide q; have F2 := hide (unhide K2).1; clear q K2; clear h5 k5; go_frame)
            | (go_at_call 22; refine (pk_mark (D := { D with A := D.A ++ M1, aa := a1, na := D.na + 5, ac := c1 }) (unhide Q1) (unhide R2) (unhide HG2) (by omega) ((-1000 : Int) - (i : Int), [108, 101, 110, 116])).mono ?_; rintro e xc ⟨gb, M2, rfl, K2⟩)
            | (at_builtin; refine append_rws rfl _ _ 49 rfl 38 i8 _ 1 24 Try.underlying49 ha0 ha1 ha2 ha3 rfl 38 (.slice D.aa (D.na) D.ac) (D.na) _ rfl (pk_app4 (D := D) (A := D.A) (M := M1) (unhide K1).2.1 (unhide HLI).na (unhide K1).1).1 (.inl rfl) ga 5 rfl (M1.map (·.v)) (by decide) (unhide K1).1.len (unhide K1).2.2 (unhide K1).1.one (by omega) (by omega) ?_; intro v5 xz h5 k5; obtain ⟨a1, c1, rfl, q⟩ := (pk_app4 (D := D) (A := D.A) (M := M1) (unhide K1).2.1 (unhide HLI).na (unhide K1).1).2 _ _ h5 k5; have Q1 := hide q; have F1 := hide (unhide K1).1; clear q K1; clear h5 k5; go_frame)
            | (go_at_call 22; refine (pk_mark (unhide K0) (unhide R1) (unhide HG1) (by omega) ((1000 : Int) + (i : Int), [109, 97, 114, 107])).mono ?_; rintro e xa ⟨ga, M1, rfl, K1⟩))
          exact ⟨⟨{ D with A := D.A ++ M1 ++ M2, aa := a2, na := D.na + 5 + 5, ac := c2, CA := D.CA ++ [[.int .i64 (1000 + (i : Int)), .string (bs [109, 97, 114, 107])], [.int .i64 (-1000 - (i : Int)), .string (bs [108, 101, 110, 116])]], ma := a3, mn := D.mn + 2, mc := c3, B := D.B ++ N1 ++ N2, ba := a5, nb := D.nb + 5 + 5, bc := c5, CB := D.CB ++ [[.int .i64 (2000 + (i : Int))], [.int .i64 (-2000 - (i : Int))]], ca := a6, nn := D.nn + 2, nc := c6 }, lf - (nl : Int) - (j : Int) - (nd : Int) - (nn : Int), i + 1, rfl, rfl, rfl, rfl, rfl, congrArg (Value.int .i64) (by omega), by omega, by omega, by omega, by omega, HK9⟩, by simp [intOf]; omega⟩
end Go.Proofs.Ytfebiemfmiahhab
