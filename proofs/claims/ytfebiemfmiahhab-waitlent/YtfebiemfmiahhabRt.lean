/- WaitLent: lentHeld. -/
import Derived.Test.YtfebiemfmiahhabSg
import Derived.Deep.CutRange
import Derived.Deep.CutBlock
namespace Go.Proofs.Ytfebiemfmiahhab
open Go.ChangeShapes Go.WideShapes Go.ChangeAt Go.RowKit Go.Maps
set_option linter.unusedVariables false
set_option linter.unusedSimpArgs false
set_option maxRecDepth 100000
set_option maxHeartbeats 8000000
/-- how many lists there are -/
structure HP (C : HC) (q : Nat) : Prop where
  hn : C.hn = q
  hl : C.H.length = q
  wn : C.wn = q
  wl : C.Wd.length = q
  nn : C.nn = 2 * q
  nl : C.N.length = 2 * q
  dn : C.dn = 2 * q
  dl : C.Dd.length = 2 * q
def hc0 : HC := ⟨[], [], [], [], none, 0, 0, none, 0, 0, none, 0, 0, none, 0, 0, none, 0, 0, []⟩
theorem hp_new : HP hc0 0 := ⟨rfl, rfl, rfl, rfl, rfl, rfl, rfl, rfl⟩
theorem RL.nil (W : World) (X : Nat → Nat) (e le : TypeId) (s k : Nat) : RL W X e le s k [] none 0 0 :=
  ⟨Nat.le_refl _, .inl ⟨rfl, rfl⟩, fun g hg => (by cases hg), fun x hx => (by cases hx), List.Pairwise.nil⟩
theorem hh_new {w0 W : World} {P Q : Nat → Prop} {ps p r : Nat} (s : Sd w0 P Q W ps p r 0 [] []) : Hh w0 W ps p r hc0 0 :=
  ⟨_, 0, [], ls_new s, ⟨RL.nil _ _ _ _ _ _, RL.nil _ _ _ _ _ _, RL.nil _ _ _ _ _ _, RL.nil _ _ _ _ _ _, .inl ⟨rfl, rfl⟩, fun g hg => (by cases hg), fun x hx => (by cases hx), fun x hx => (by cases hx)⟩, Nat.le_refl _, rfl, rfl⟩
theorem Hh.mono {w0 W : World} {ps p r i j : Nat} {C : HC} (h : Hh w0 W ps p r C i) (hi : i ≤ j) : Hh w0 W ps p r C j := by
  obtain ⟨X, T, E, a, b, c, d⟩ := h
  exact ⟨X, T, E, a, b, Nat.le_trans c hi, d⟩
theorem hx_two {w0 W : World} {ps p r k t bo : Nat} {o : Ol} {C : HC} {A : List LV} {x y : LV} (h : Hx k w0 W ps p r { C with N := A ++ [x] ++ [y] } t bo o) : Hx k w0 W ps p r { C with N := A ++ [x, y] } t bo o := by
  rw [List.append_assoc] at h
  exact h
theorem hd_two {w0 W : World} {ps p r k t bo : Nat} {o : Ol} {C : HC} {A : List LV} {x y : LV} (h : Hx k w0 W ps p r { C with Dd := A ++ [x] ++ [y] } t bo o) : Hx k w0 W ps p r { C with Dd := A ++ [x, y] } t bo o := by
  rw [List.append_assoc] at h
  exact h
theorem HP.more {C : HC} {q : Nat} (h : HP C q) {x1 x2 x3 x4 x5 x6 : LV} {a1 a2 a3 a4 : Option Addr} {b1 b2 b3 b4 : Nat} : HP { C with H := C.H ++ [x1], ha := a1, hn := C.hn + 1, hc := b1, Wd := C.Wd ++ [x2], wa := a2, wn := C.wn + 1, wc := b2, N := C.N ++ [x3, x4], na := a3, nn := C.nn + 2, nc := b3, Dd := C.Dd ++ [x5, x6], da := a4, dn := C.dn + 2, dc := b4 } (q + 1) :=
  ⟨congrArg (· + 1) h.hn, by rw [List.length_append, h.hl]; rfl, congrArg (· + 1) h.wn, by rw [List.length_append, h.wl]; rfl, by show C.nn + 2 = _; rw [h.nn]; omega, by rw [List.length_append, h.nl]; show 2 * q + 2 = _; omega, by show C.dn + 2 = _; rw [h.dn]; omega, by rw [List.length_append, h.dl]; show 2 * q + 2 = _; omega⟩
theorem cell_lt {w : World} {p : Addr} {v : Value} (h : w.cell? p = some v) : p.block < w.heap.size := by
  by_cases z : p.block < w.heap.size
  · exact z
  · have : w.heap[p.block]? = none := Array.getElem?_eq_none (by omega)
    simp [World.cell?, this] at h
theorem held_law (W : World) (many : Int) (oa : Option Addr) (ocap n : Nat) (l : List Ol) (hn : n = l.length) (hn2 : n ≤ 9223372036854775807) (h : OpsAt W oa l) :
    Calls Try.prog 8 #[.agg #[.int .i64 many, .slice oa n ocap]] W fun e w' => e = .returned (.bool true) ∧ Hid (Below W.heap.size W w') := by
  have HN := hide hn
  obtain ⟨w0, hw0⟩ : ∃ w0, W.alloc (Obj.cells #[Value.int IntKind.i64 many, Value.slice oa n ocap] 24) = w0 := ⟨_, rfl⟩
  have HW : Hid (Below W.heap.size W w0 ∧ OpsAt w0 oa l ∧ w0.heap[W.heap.size]? = some (.cells #[.int .i64 many, .slice oa n ocap] 24 (0, 0))) := by
    rw [← hw0]
    have hb := (Below.refl W.heap.size W).alloc (Nat.le_refl _) (Obj.cells #[Value.int IntKind.i64 many, Value.slice oa n ocap] 24)
    exact hide ⟨hb, h.below hb, heap_alloc_new _ _⟩
  have C9 := wa_new w0 w0 (Below.refl _ _)
  clear h hn
  go_enter Try.func8, Try.ntmps8
  go_upto_block 0 with (go_at_call 9; refine C9.mono ?_; clear C9; rintro e w2 ⟨p, rfl, H2⟩)
  clear hw0
  go_cut [4, 5, 6, 7, 8, 9, 10, 11, 12, 13] from 34 to 275 (fun v4 v5 v6 v7 v8 v9 v10 v11 v12 v13 wx => ∃ (sa : Option Addr) (sc : Nat) (ta : Option Addr) (tc : Nat) (na : Option Addr) (nc : Nat) (da : Option Addr) (dc m m2 : Nat), v4 = .slice sa m sc ∧ v5 = .slice ta m tc ∧ v6 = .slice na m2 nc ∧ v7 = .slice da m2 dc ∧ m ≤ 4000 ∧ Hid (m2 = 2 * m ∧ Hc w0 wx (w2.heap.size + 1) p w2.heap.size sa sc ta tc na nc da dc m))
  case first =>
    as_aux_lemma =>
      obtain ⟨W3, hW3⟩ : ∃ W3, (w2.alloc (.cells #[.slice none 0 0] 35)).alloc (.cells #[.pointer (some ⟨p, 0, none⟩), .pointer (some ⟨w2.heap.size, 0, none⟩)] 37) = W3 := ⟨_, rfl⟩
      go_wp2_with fail
      go_loopw [4, 5, 6, 7, 8, 9] (fun v4 v5 v6 v7 v8 v9 wr => ∃ (C : HC) (i : Nat), v4 = .slice C.ha C.hn C.hc ∧ v5 = .slice C.wa C.wn C.wc ∧ v6 = .slice C.na C.nn C.nc ∧ v7 = .slice C.da C.dn C.dc ∧ v8 = .slice C.la C.ln C.lc ∧ v9 = .int .i64 ((i : Nat) : Int) ∧ i ≤ n ∧ i ≤ 2000 ∧ HP C (2 * i) ∧ Hid (Hh w0 wr (w2.heap.size + 1) p w2.heap.size C i)) (fun _ _ _ _ _ v9 _ => 2000 - (intOf v9).toNat)
      case atStart =>
        refine ⟨hc0, 0, rfl, rfl, rfl, rfl, rfl, rfl, Nat.zero_le _, Nat.zero_le _, hp_new, ?_⟩
        obtain ⟨O, k1, k2, k3⟩ := unhide H2
        have s := sd_new (w0 := w0) (w := w0) (Below.refl _ _) k1 k2 k3
        exact hide (hh_new s)
      case round =>
        obtain ⟨C, i, rfl, rfl, rfl, rfl, rfl, rfl, hi, hi2, hP, HD⟩ := hrel
        clear hW3 H2 W3
        have c0 : wr.cell? ⟨W.heap.size, 1, none⟩ = some (.slice oa n ocap) := by
          obtain ⟨-, -, q⟩ := unhide HW
          exact ((unhide HD).bel.cell (p := ⟨W.heap.size, 1, none⟩) (blk_lt q)).trans (cell_blk q 1)
        obtain ⟨x0, x1⟩ := (unhide HD).cells
        by_cases hin : i < n ∧ i < 2000
        rotate_left
        · skip
          as_aux_lemma =>
            by_cases h1 : i < n
            · have f2 : decide ((i : Int) < (n : Int)) = true := decide_eq_true (by omega)
              have f3 : decide ((i : Int) < 2000) = false := decide_eq_false (by omega)
              go_wp2_with fail
              go_meet
              exact ⟨C.ha, C.hc, C.wa, C.wc, C.na, C.nc, C.da, C.dc, 2 * i, 2 * (2 * i), by rw [hP.hn], by rw [hP.wn], by rw [hP.nn], by rw [hP.dn], by omega, hide ⟨rfl, (unhide HD).fin hi2 hP.hn hP.hl hP.wn hP.nn hP.nl hP.dn⟩⟩
            · have f2 : decide ((i : Int) < (n : Int)) = false := decide_eq_false (by omega)
              go_wp2_with fail
              go_meet
              exact ⟨C.ha, C.hc, C.wa, C.wc, C.na, C.nc, C.da, C.dc, 2 * i, 2 * (2 * i), by rw [hP.hn], by rw [hP.wn], by rw [hP.nn], by rw [hP.dn], by omega, hide ⟨rfl, (unhide HD).fin hi2 hP.hn hP.hl hP.wn hP.nn hP.nl hP.dn⟩⟩
        · have f2 : decide ((i : Int) < (n : Int)) = true := decide_eq_true (by omega)
          have f3 : decide ((i : Int) < 2000) = true := decide_eq_true (by omega)
          have g1 : (0 : Int) ≤ (i : Int) := by omega
          have g2 : (i : Int) < (n : Int) := by omega
          obtain ⟨o, ho⟩ : ∃ o, l[i]? = some o := ⟨_, List.getElem?_eq_getElem (by have := unhide HN; omega)⟩
          obtain ⟨-, q, -⟩ := unhide HW
          have hbel : Below w0.heap.size w0 wr := (unhide HD).bel
          obtain ⟨b, off, rfl, -, d0, d1, d2, d3, d4, d5⟩ := (q.below hbel).at ho
          have HK := hide (q.ok o (List.mem_of_getElem? ho))
          clear q ho hbel
          obtain ⟨j, hj⟩ : ∃ j, j = o.pl.length := ⟨_, rfl⟩
          rw [← hj] at d4
          have HJ := hide hj
          clear hj
          obtain ⟨i4, hc0, hc1, hc2, hc3⟩ := info_parts4 info46
          have hlen : j ≤ 5864062014805 := by rw [unhide HJ]; exact (unhide HK).len
          go_wp2_with fail
          obtain ⟨W1, hW1⟩ : ∃ W1, W1 = wr.alloc (.cells #[.int .i64 o.on, .int .i64 o.act, .int .i64 o.conn, .int .i64 o.kind, .slice o.a j o.cap, .int .u64 (o.time : Nat)] 41) := ⟨_, rfl⟩
          have HX1 : Hid (Hx 0 w0 W1 (w2.heap.size + 1) p w2.heap.size C i wr.heap.size o) := by
            rw [hW1]
            exact hide ((unhide HD).begin (unhide HK) ((Below.refl _ _).alloc (Nat.le_refl _) _) (by unfold OpBk opC; rw [← unhide HJ]; exact heap_alloc_new _ _))
          have HB1 : Hid (Below wr.heap.size wr W1) := by rw [hW1]; exact hide ((Below.refl _ _).alloc (Nat.le_refl _) _)
          rw [← hW1]
          clear hW1 c0 d0 d1 d2 d3 d4 d5 x0 x1
          have HPL : Hid ((o.a = none → j = 0) ∧ ∀ ad, o.a = some ad → ∀ (z : Nat) (u : Value), (o.pl.flatMap plC)[z]? = some u → W1.cell? (ad.add z) = some u) := by
            refine hide ⟨fun h0 => by rw [unhide HJ, ((unhide HK).nil h0).2]; rfl, fun ad ha z u hz => ?_⟩
            have hp := ((unhide HK).pls.below (unhide HD).bel).below (unhide HB1)
            rcases hp with h0 | ⟨pb, po, e, hlt, hc⟩
            · rw [h0] at hz; simp at hz
            · rw [ha] at e
              cases e
              exact PlsAt.cells hc z u hz
          obtain ⟨x0, x1, y0, y1, y2, y3, y4, y5⟩ := (unhide HX1).cs HJ
          go_region_held3 (fun W => W.cell? ⟨w2.heap.size + 1, 0, none⟩ = some (.pointer (some ⟨p, 0, none⟩)) ∧ W.cell? ⟨w2.heap.size + 1, 1, none⟩ = some (.pointer (some ⟨w2.heap.size, 0, none⟩)) ∧ W.cell? ⟨wr.heap.size, 0, none⟩ = some (.int .i64 o.on) ∧ W.cell? ⟨wr.heap.size, 1, none⟩ = some (.int .i64 o.act) ∧ W.cell? ⟨wr.heap.size, 2, none⟩ = some (.int .i64 o.conn) ∧ W.cell? ⟨wr.heap.size, 3, none⟩ = some (.int .i64 o.kind) ∧ W.cell? ⟨wr.heap.size, 4, none⟩ = some (.slice o.a j o.cap) ∧ W.cell? ⟨wr.heap.size, 5, none⟩ = some (.int .u64 (o.time : Nat))) (go_keep) (first | (refine step_append_any rfl _ _ 38 rfl 46 i4 _ 2 24 Try.underlying38 hc0 hc1 hc2 hc3 rfl (.slice C.la 0 C.lc) 0 (fun k => C.lf.getD k undef) (by simp [Act.eval, Act.put]) (unhide HX1).drew.lent.1 o.a j o.cap (by simp [Act.eval, Act.put]) (o.pl.flatMap plC) (by rw [flatP_len, unhide HJ]) (unhide HPL).1 (unhide HPL).2 (plC_one _) (by omega) (by simp only [maxLen]; omega) ?_; intro v5 w5 h5 k5; obtain ⟨la, lc, rfl, q⟩ := (unhide HX1).drew.lent.2 _ _ _ _ rfl (unhide HJ) h5 k5; obtain ⟨x0, x1, y0, y1, y2, y3, y4, y5⟩ := q.cs HJ; have HX2 := hide q; clear h5 k5 q))
          have hti : i < 1099511627776 := by omega
          clear HX1 HPL HB1 hlen g1 g2
          go_upto_if 57 with fail
          go_cut [11, 12] from 34 to 156 (fun v11 v12 wx => Hid (Hx 0 w0 wx (w2.heap.size + 1) p w2.heap.size { C with la := la, ln := j, lc := lc, lf := o.pl.flatMap plC } (i + 1) wr.heap.size o))
          case first =>
            as_aux_lemma =>
              by_cases hk : o.act = 1
              · have f4 : (o.act == 1) = true := by rw [hk]; rfl
                clear hk
                go_wp2_with fail
                go_region_held3 (fun W => W.cell? ⟨w2.heap.size + 1, 0, none⟩ = some (.pointer (some ⟨p, 0, none⟩)) ∧ W.cell? ⟨w2.heap.size + 1, 1, none⟩ = some (.pointer (some ⟨w2.heap.size, 0, none⟩)) ∧ W.cell? ⟨wr.heap.size, 0, none⟩ = some (.int .i64 o.on) ∧ W.cell? ⟨wr.heap.size, 1, none⟩ = some (.int .i64 o.act) ∧ W.cell? ⟨wr.heap.size, 2, none⟩ = some (.int .i64 o.conn) ∧ W.cell? ⟨wr.heap.size, 3, none⟩ = some (.int .i64 o.kind) ∧ W.cell? ⟨wr.heap.size, 4, none⟩ = some (.slice o.a j o.cap) ∧ W.cell? ⟨wr.heap.size, 5, none⟩ = some (.int .u64 (o.time : Nat))) (go_keep) (first | (go_at_call 11; refine (hx_block HJ hti (hide (unhide HX2).drew)).mono ?_; rintro e w7 ⟨rv, rfl, ⟨x0, x1, y0, y1, y2, y3, y4, y5⟩, H7⟩))
                all_goals go_wp2_with fail
                all_goals go_region_held3 (fun W => W.cell? ⟨w2.heap.size + 1, 0, none⟩ = some (.pointer (some ⟨p, 0, none⟩)) ∧ W.cell? ⟨w2.heap.size + 1, 1, none⟩ = some (.pointer (some ⟨w2.heap.size, 0, none⟩)) ∧ W.cell? ⟨wr.heap.size, 0, none⟩ = some (.int .i64 o.on) ∧ W.cell? ⟨wr.heap.size, 1, none⟩ = some (.int .i64 o.act) ∧ W.cell? ⟨wr.heap.size, 2, none⟩ = some (.int .i64 o.conn) ∧ W.cell? ⟨wr.heap.size, 3, none⟩ = some (.int .i64 o.kind) ∧ W.cell? ⟨wr.heap.size, 4, none⟩ = some (.slice o.a j o.cap) ∧ W.cell? ⟨wr.heap.size, 5, none⟩ = some (.int .u64 (o.time : Nat))) (go_keep) (first | (go_at_call 13; refine (hx_rblock HJ (hide (unhide H7).drew)).mono ?_; rintro e w8 ⟨rfl, ⟨x0, x1, y0, y1, y2, y3, y4, y5⟩, H8⟩))
                all_goals (have f5 : (rv != rv) = false := by simp)
                all_goals go_wp2_with (go_at_call 14; refine (hx_same HJ H8).mono ?_; rintro e w9 ⟨rfl, ⟨x0, x1, y0, y1, y2, y3, y4, y5⟩, H9⟩)
                all_goals go_meet
                all_goals exact H9
              · have f4 : (o.act == 1) = false := by simpa using hk
                go_wp2_with (go_at_call 10; refine (hx_plays HJ hti HX2).mono ?_; rintro e w7 ⟨rfl, ⟨z0, z1, z2, z3, z4, z5, z6, z7⟩, H7⟩)
                go_meet
                case rel => exact H7
          case rest =>
            clear x0 x1 y0 y1 y2 y3 y4 y5 HX2 HD f2 f3
            generalize wr.heap.size = bo at hcut ⊢
            go_wp2_with fail
            go_loopw [4, 5, 6, 7, 13] (fun v4 v5 v6 v7 v13 wk => ∃ (C' : HC) (k : Nat), v4 = .slice C'.ha C'.hn C'.hc ∧ v5 = .slice C'.wa C'.wn C'.wc ∧ v6 = .slice C'.na C'.nn C'.nc ∧ v7 = .slice C'.da C'.dn C'.dc ∧ v13 = .int .i64 ((k : Nat) : Int) ∧ k ≤ 2 ∧ C'.la = la ∧ C'.ln = j ∧ C'.lc = lc ∧ HP C' (2 * i + k) ∧ Hid (Hx 0 w0 wk (w2.heap.size + 1) p w2.heap.size C' (i + 1) bo o)) (fun _ _ _ _ v13 _ => 2 - (intOf v13).toNat)
            case atStart =>
              exact ⟨{ C with la := la, ln := j, lc := lc, lf := o.pl.flatMap plC }, 0, rfl, rfl, rfl, rfl, rfl, Nat.zero_le _, rfl, rfl, rfl, ⟨hP.hn, hP.hl, hP.wn, hP.wl, hP.nn, hP.nl, hP.dn, hP.dl⟩, hcut⟩
            case round =>
              obtain ⟨C', k, rfl, rfl, rfl, rfl, rfl, hk, q1, q2, q3, hP', HX⟩ := hrel
              clear hcut hP
              by_cases hk2 : k < 2
              rotate_left
              · obtain rfl : k = 2 := by omega
                have f4 : decide (((2 : Nat) : Int) < 2) = false := by decide
                go_wp2_with fail
                exact ⟨⟨C', i + 1, rfl, rfl, rfl, rfl, by rw [q1, q2, q3], congrArg (Value.int .i64) (by omega), by omega, by omega, hP', hide (unhide HX).head⟩, by simp [intOf]; omega⟩
              · have f4 : decide ((k : Int) < 2) = true := decide_eq_true (by omega)
                have f5 : decide (k < 2) = true := decide_eq_true hk2
                go_wp2_with fail
                as_aux_lemma =>
                  obtain ⟨i8, ha0, ha1, ha2, ha3⟩ := info_parts4 info38
                  obtain ⟨i9, hb0, hb1, hb2, hb3⟩ := info_parts4 info51
                  obtain ⟨i3, hd0, hd1, hd2, hd3⟩ := info_parts4 info3
                  have m1 : C'.hn ≤ 4001 := by rw [hP'.hn]; omega
                  have m2 : C'.wn ≤ 4001 := by rw [hP'.wn]; omega
                  have m3 : C'.nn ≤ 8002 := by rw [hP'.nn]; omega
                  have m4 : C'.dn ≤ 8002 := by rw [hP'.dn]; omega
                  have e1 : Hid (C'.hn = C'.H.length) := hide (by rw [hP'.hn, hP'.hl])
                  have e2 : Hid (C'.wn = C'.Wd.length) := hide (by rw [hP'.wn, hP'.wl])
                  have e3 : Hid (C'.nn = C'.N.length) := hide (by rw [hP'.nn, hP'.nl])
                  have e4 : Hid (C'.dn = C'.Dd.length) := hide (by rw [hP'.dn, hP'.dl])
                  clear x0 x1 hti HK
                  obtain ⟨x0, x1, y0, y1, y2, y3, y4, y5⟩ := (unhide HX).cs HJ
                  all_goals go_region_held3 (fun W => W.cell? ⟨w2.heap.size + 1, 0, none⟩ = some (.pointer (some ⟨p, 0, none⟩)) ∧ W.cell? ⟨w2.heap.size + 1, 1, none⟩ = some (.pointer (some ⟨w2.heap.size, 0, none⟩)) ∧ W.cell? ⟨bo, 0, none⟩ = some (.int .i64 o.on) ∧ W.cell? ⟨bo, 1, none⟩ = some (.int .i64 o.act) ∧ W.cell? ⟨bo, 2, none⟩ = some (.int .i64 o.conn) ∧ W.cell? ⟨bo, 3, none⟩ = some (.int .i64 o.kind) ∧ W.cell? ⟨bo, 4, none⟩ = some (.slice o.a j o.cap) ∧ W.cell? ⟨bo, 5, none⟩ = some (.int .u64 (o.time : Nat))) (first | exact alloc_keep (by assumption) | go_keep) (first | (refine step_append_rws rfl _ _ 49 rfl 38 i8 _ 1 24 Try.underlying49 ha0 ha1 ha2 ha3 rfl 38 (.slice C'.ha C'.hn C'.hc) (C'.hn) _ (by simp [Act.eval, Act.put]) (hx_apph (C := C') (L := C'.H) (M := [⟨.slice (some ⟨gl, 0, none⟩) nl nl, nl, cl⟩]) ((unhide HA).below ((Below.refl _ _).alloc (Nat.le_refl _) _)) (unhide e1)).1 (.inl rfl) _ 1 (by simp [Act.eval, Act.put]) [.slice (some ⟨gl, 0, none⟩) nl nl] (by decide) rfl (made_cells _ [.slice (some ⟨gl, 0, none⟩) nl nl] 38) (by simp [Value.oneCell']) (by omega) (by omega) ?_; intro v5 w5 h5 k5; obtain ⟨a1, b1, rfl, q⟩ := (hx_apph (C := C') (L := C'.H) (M := [⟨.slice (some ⟨gl, 0, none⟩) nl nl, nl, cl⟩]) ((unhide HA).below ((Below.refl _ _).alloc (Nat.le_refl _) _)) (unhide e1)).2 _ _ h5 k5; obtain ⟨x0, x1, y0, y1, y2, y3, y4, y5⟩ := q.cs HJ; have HB := hide q; clear h5 k5 q HA) | (go_at_call 15; refine (hx_places HJ (hide (unhide HX).drew)).mono ?_; rintro e wa ⟨gl, nl, cl, rfl, ⟨x0, x1, y0, y1, y2, y3, y4, y5⟩, HA⟩))
                  all_goals go_wp2_with fail
                  go_cut [5] from 97 to 156 (fun v5 wx => ∃ gw nd cw ld a2 b2, v5 = .slice a2 (C'.wn + 1) b2 ∧ Hid (Hx 0 w0 wx (w2.heap.size + 1) p w2.heap.size { C' with H := C'.H ++ [⟨.slice (some ⟨gl, 0, none⟩) nl nl, nl, cl⟩], ha := a1, hn := C'.hn + 1, hc := b1, Wd := C'.Wd ++ [⟨.slice (some ⟨gw, 0, none⟩) nd cw, nd, cP ld⟩], wa := a2, wn := C'.wn + 1, wc := b2 } (i + 1) bo o))
                  case first =>
                    as_aux_lemma =>
                      all_goals go_region_held3 (fun W => W.cell? ⟨w2.heap.size + 1, 0, none⟩ = some (.pointer (some ⟨p, 0, none⟩)) ∧ W.cell? ⟨w2.heap.size + 1, 1, none⟩ = some (.pointer (some ⟨w2.heap.size, 0, none⟩)) ∧ W.cell? ⟨bo, 0, none⟩ = some (.int .i64 o.on) ∧ W.cell? ⟨bo, 1, none⟩ = some (.int .i64 o.act) ∧ W.cell? ⟨bo, 2, none⟩ = some (.int .i64 o.conn) ∧ W.cell? ⟨bo, 3, none⟩ = some (.int .i64 o.kind) ∧ W.cell? ⟨bo, 4, none⟩ = some (.slice o.a j o.cap) ∧ W.cell? ⟨bo, 5, none⟩ = some (.int .u64 (o.time : Nat))) (first | exact alloc_keep (by assumption) | go_keep) (first | (refine step_append_rws rfl _ _ 49 rfl 38 i8 _ 1 24 Try.underlying49 ha0 ha1 ha2 ha3 rfl 38 (.slice C'.wa C'.wn C'.wc) (C'.wn) _ (by simp [Act.eval, Act.put]) (hx_appw (C := { C' with H := C'.H ++ [⟨.slice (some ⟨gl, 0, none⟩) nl nl, nl, cl⟩], ha := a1, hn := C'.hn + 1, hc := b1 }) (L := C'.Wd) (M := [⟨.slice (some ⟨gw, 0, none⟩) nd cw, nd, cP ld⟩]) ((unhide HE5).hx.below ((Below.refl _ _).alloc (Nat.le_refl _) _)) (unhide e2)).1 (.inl rfl) _ 1 (by simp [Act.eval, Act.put]) [.slice (some ⟨gw, 0, none⟩) nd cw] (by decide) rfl (made_cells _ [.slice (some ⟨gw, 0, none⟩) nd cw] 38) (by simp [Value.oneCell']) (by omega) (by omega) ?_; intro v5 w5 h5 k5; obtain ⟨a2, b2, rfl, q⟩ := (hx_appw (C := { C' with H := C'.H ++ [⟨.slice (some ⟨gl, 0, none⟩) nl nl, nl, cl⟩], ha := a1, hn := C'.hn + 1, hc := b1 }) (L := C'.Wd) (M := [⟨.slice (some ⟨gw, 0, none⟩) nd cw, nd, cP ld⟩]) ((unhide HE5).hx.below ((Below.refl _ _).alloc (Nat.le_refl _) _)) (unhide e2)).2 _ _ h5 k5; obtain ⟨x0, x1, y0, y1, y2, y3, y4, y5⟩ := q.cs HJ; have HF := hide q; clear h5 k5 q) | (first | (refine step_append_any rfl _ _ 38 rfl 46 i4 _ 2 24 Try.underlying38 hc0 hc1 hc2 hc3 rfl (.slice (some ⟨_, 0, none⟩) 0 0) 0 (fun _ => undef) rfl ((unhide HD).rws (by simp) (by first | (simp; done) | (simpa using (unhide HD).nd2) | (simpa using (unhide HD).nd2.symm))) ad nd cd rfl (cP ld) (unhide HD).srcP.1 (unhide HD).srcP.2.1 (unhide HD).srcP.2.2.1 (plC_one _) (by have := (unhide HD).srcP.2.2.2; omega) (by have := (unhide HD).srcP.2.2.2; simp only [maxLen]; omega) ?_; intro v5 w5 h5 k5; obtain ⟨gw, cw, rfl, q⟩ := (unhide HD).copied (by simp) (by first | (simp; done) | (simpa using (unhide HD).nd2) | (simpa using (unhide HD).nd2.symm)) h5 k5; obtain ⟨x0, x1, y0, y1, y2, y3, y4, y5⟩ := q.cs HJ; have HE5 := hide q; clear h5 k5 q) | (refine step_append_any rfl _ _ 38 rfl 46 i4 _ 2 24 Try.underlying38 hc0 hc1 hc2 hc3 rfl (.slice (some ⟨_, 0, none⟩) 0 0) 0 (fun _ => undef) rfl ((unhide HD).alloc.rws (by simp) (by first | (simp; done) | (simpa using (unhide HD).alloc.nd2) | (simpa using (unhide HD).alloc.nd2.symm))) ad nd cd rfl (cP ld) (unhide HD).alloc.srcP.1 (unhide HD).alloc.srcP.2.1 (unhide HD).alloc.srcP.2.2.1 (plC_one _) (by have := (unhide HD).alloc.srcP.2.2.2; omega) (by have := (unhide HD).alloc.srcP.2.2.2; simp only [maxLen]; omega) ?_; intro v5 w5 h5 k5; obtain ⟨gw, cw, rfl, q⟩ := (unhide HD).alloc.copied (by simp) (by first | (simp; done) | (simpa using (unhide HD).alloc.nd2) | (simpa using (unhide HD).alloc.nd2.symm)) h5 k5; obtain ⟨x0, x1, y0, y1, y2, y3, y4, y5⟩ := q.cs HJ; have HE5 := hide q; clear h5 k5 q)) | (go_at_call 18; refine (he_rplaces HJ (hide (by first | exact (unhide HB).he.drew | exact (unhide HB).he.alloc.drew | exact (unhide HB).he.drew.alloc))).mono ?_; rintro e wb ⟨ad, nd, cd, ld, rfl, ⟨x0, x1, y0, y1, y2, y3, y4, y5⟩, HD⟩))
                      all_goals go_wp2_with fail
                      all_goals go_meet
                      all_goals exact ⟨gw, nd, cw, ld, a2, b2, rfl, HF⟩
                  case rest =>
                    obtain ⟨gw, nd, cw, ld, a2, b2, rfl, HF⟩ := hcut
                    obtain ⟨x0, x1, y0, y1, y2, y3, y4, y5⟩ := (unhide HF).cs HJ
                    go_wp2_with fail
                    all_goals go_region_held3 (fun W => W.cell? ⟨w2.heap.size + 1, 0, none⟩ = some (.pointer (some ⟨p, 0, none⟩)) ∧ W.cell? ⟨w2.heap.size + 1, 1, none⟩ = some (.pointer (some ⟨w2.heap.size, 0, none⟩)) ∧ W.cell? ⟨bo, 0, none⟩ = some (.int .i64 o.on) ∧ W.cell? ⟨bo, 1, none⟩ = some (.int .i64 o.act) ∧ W.cell? ⟨bo, 2, none⟩ = some (.int .i64 o.conn) ∧ W.cell? ⟨bo, 3, none⟩ = some (.int .i64 o.kind) ∧ W.cell? ⟨bo, 4, none⟩ = some (.slice o.a j o.cap) ∧ W.cell? ⟨bo, 5, none⟩ = some (.int .u64 (o.time : Nat))) (first | exact alloc_keep (by assumption) | go_keep) (first | (refine step_append_rws rfl _ _ 50 rfl 51 i9 _ 1 24 Try.underlying50 hb0 hb1 hb2 hb3 rfl 51 (.slice C'.na C'.nn C'.nc) (C'.nn) _ (by simp [Act.eval, Act.put]) (hx_appn (C := { C' with H := C'.H ++ [⟨.slice (some ⟨gl, 0, none⟩) nl nl, nl, cl⟩], ha := a1, hn := C'.hn + 1, hc := b1, Wd := C'.Wd ++ [⟨.slice (some ⟨gw, 0, none⟩) nd cw, nd, cP ld⟩], wa := a2, wn := C'.wn + 1, wc := b2 }) (L := C'.N) (M := [⟨.slice (some ⟨gd, 0, none⟩) n3 n3, n3, c3⟩, ⟨.slice (some ⟨gn, 0, none⟩) n4 n4, n4, c4⟩]) ((hx_two (unhide HH)).below ((Below.refl _ _).alloc (Nat.le_refl _) _)) (unhide e3)).1 (.inl rfl) _ 2 (by simp [Act.eval, Act.put]) [.slice (some ⟨gd, 0, none⟩) n3 n3, .slice (some ⟨gn, 0, none⟩) n4 n4] (by decide) rfl (made_cells _ [.slice (some ⟨gd, 0, none⟩) n3 n3, .slice (some ⟨gn, 0, none⟩) n4 n4] 51) (by simp [Value.oneCell']) (by omega) (by omega) ?_; intro v5 w5 h5 k5; obtain ⟨a3, b3, rfl, q⟩ := (hx_appn (C := { C' with H := C'.H ++ [⟨.slice (some ⟨gl, 0, none⟩) nl nl, nl, cl⟩], ha := a1, hn := C'.hn + 1, hc := b1, Wd := C'.Wd ++ [⟨.slice (some ⟨gw, 0, none⟩) nd cw, nd, cP ld⟩], wa := a2, wn := C'.wn + 1, wc := b2 }) (L := C'.N) (M := [⟨.slice (some ⟨gd, 0, none⟩) n3 n3, n3, c3⟩, ⟨.slice (some ⟨gn, 0, none⟩) n4 n4, n4, c4⟩]) ((hx_two (unhide HH)).below ((Below.refl _ _).alloc (Nat.le_refl _) _)) (unhide e3)).2 _ _ h5 k5; obtain ⟨x0, x1, y0, y1, y2, y3, y4, y5⟩ := q.cs HJ; have HI := hide q; clear h5 k5 q HG HH HF) | (go_at_call 17; refine (hx_waiting HJ HG).mono ?_; rintro e wf ⟨gn, n4, c4, rfl, ⟨x0, x1, y0, y1, y2, y3, y4, y5⟩, HH⟩) | (go_at_call 16; refine (hx_due HJ (hide (unhide HF).drew)).mono ?_; rintro e wd ⟨gd, n3, c3, rfl, ⟨x0, x1, y0, y1, y2, y3, y4, y5⟩, HG⟩))
                    all_goals go_wp2_with fail
                    all_goals go_region_held3 (fun W => W.cell? ⟨w2.heap.size + 1, 0, none⟩ = some (.pointer (some ⟨p, 0, none⟩)) ∧ W.cell? ⟨w2.heap.size + 1, 1, none⟩ = some (.pointer (some ⟨w2.heap.size, 0, none⟩)) ∧ W.cell? ⟨bo, 0, none⟩ = some (.int .i64 o.on) ∧ W.cell? ⟨bo, 1, none⟩ = some (.int .i64 o.act) ∧ W.cell? ⟨bo, 2, none⟩ = some (.int .i64 o.conn) ∧ W.cell? ⟨bo, 3, none⟩ = some (.int .i64 o.kind) ∧ W.cell? ⟨bo, 4, none⟩ = some (.slice o.a j o.cap) ∧ W.cell? ⟨bo, 5, none⟩ = some (.int .u64 (o.time : Nat))) (first | exact alloc_keep (by assumption) | go_keep) (first | (refine step_append_rws rfl _ _ 50 rfl 51 i9 _ 1 24 Try.underlying50 hb0 hb1 hb2 hb3 rfl 51 (.slice C'.da C'.dn C'.dc) (C'.dn) _ (by simp [Act.eval, Act.put]) (hx_appd (C := { C' with H := C'.H ++ [⟨.slice (some ⟨gl, 0, none⟩) nl nl, nl, cl⟩], ha := a1, hn := C'.hn + 1, hc := b1, Wd := C'.Wd ++ [⟨.slice (some ⟨gw, 0, none⟩) nd cw, nd, cP ld⟩], wa := a2, wn := C'.wn + 1, wc := b2, N := C'.N ++ [⟨.slice (some ⟨gd, 0, none⟩) n3 n3, n3, c3⟩, ⟨.slice (some ⟨gn, 0, none⟩) n4 n4, n4, c4⟩], na := a3, nn := C'.nn + 2, nc := b3 }) (L := C'.Dd) (M := [⟨.slice (some ⟨g5, 0, none⟩) n5 p5, n5, cI l5⟩, ⟨.slice (some ⟨g6, 0, none⟩) n6 p6, n6, cI l6⟩]) ((hd_two (unhide HK6).hx).below ((Below.refl _ _).alloc (Nat.le_refl _) _)) (unhide e4)).1 (.inl rfl) _ 2 (by simp [Act.eval, Act.put]) [.slice (some ⟨g5, 0, none⟩) n5 p5, .slice (some ⟨g6, 0, none⟩) n6 p6] (by decide) rfl (made_cells _ [.slice (some ⟨g5, 0, none⟩) n5 p5, .slice (some ⟨g6, 0, none⟩) n6 p6] 51) (by simp [Value.oneCell']) (by omega) (by omega) ?_; intro v5 w5 h5 k5; obtain ⟨a4, b4, rfl, q⟩ := (hx_appd (C := { C' with H := C'.H ++ [⟨.slice (some ⟨gl, 0, none⟩) nl nl, nl, cl⟩], ha := a1, hn := C'.hn + 1, hc := b1, Wd := C'.Wd ++ [⟨.slice (some ⟨gw, 0, none⟩) nd cw, nd, cP ld⟩], wa := a2, wn := C'.wn + 1, wc := b2, N := C'.N ++ [⟨.slice (some ⟨gd, 0, none⟩) n3 n3, n3, c3⟩, ⟨.slice (some ⟨gn, 0, none⟩) n4 n4, n4, c4⟩], na := a3, nn := C'.nn + 2, nc := b3 }) (L := C'.Dd) (M := [⟨.slice (some ⟨g5, 0, none⟩) n5 p5, n5, cI l5⟩, ⟨.slice (some ⟨g6, 0, none⟩) n6 p6, n6, cI l6⟩]) ((hd_two (unhide HK6).hx).below ((Below.refl _ _).alloc (Nat.le_refl _) _)) (unhide e4)).2 _ _ h5 k5; obtain ⟨x0, x1, y0, y1, y2, y3, y4, y5⟩ := q.cs HJ; have HL := hide q; clear h5 k5 q) | (first | (refine step_append_any rfl _ _ 51 rfl 3 i3 _ 1 8 Try.underlying51 hd0 hd1 hd2 hd3 rfl (.slice (some ⟨_, 0, none⟩) 0 0) 0 (fun _ => undef) rfl ((unhide HJ6).rws (by simp) (by first | (simp; done) | (simpa using (unhide HJ6).nd2) | (simpa using (unhide HJ6).nd2.symm))) a6 n6 t6 rfl (cI l6) (unhide HJ6).srcN.1 (unhide HJ6).srcN.2.1 (unhide HJ6).srcN.2.2.1 (cI_one _) (by have := (unhide HJ6).srcN.2.2.2; omega) (by have := (unhide HJ6).srcN.2.2.2; simp only [maxLen]; omega) ?_; intro v5 w5 h5 k5; obtain ⟨g6, p6, rfl, q⟩ := (unhide HJ6).copied4 (by simp) (by first | (simp; done) | (simpa using (unhide HJ6).nd2) | (simpa using (unhide HJ6).nd2.symm)) h5 k5; obtain ⟨x0, x1, y0, y1, y2, y3, y4, y5⟩ := q.cs HJ; have HK6 := hide q; clear h5 k5 q) | (refine step_append_any rfl _ _ 51 rfl 3 i3 _ 1 8 Try.underlying51 hd0 hd1 hd2 hd3 rfl (.slice (some ⟨_, 0, none⟩) 0 0) 0 (fun _ => undef) rfl ((unhide HJ6).alloc.rws (by simp) (by first | (simp; done) | (simpa using (unhide HJ6).alloc.nd2) | (simpa using (unhide HJ6).alloc.nd2.symm))) a6 n6 t6 rfl (cI l6) (unhide HJ6).alloc.srcN.1 (unhide HJ6).alloc.srcN.2.1 (unhide HJ6).alloc.srcN.2.2.1 (cI_one _) (by have := (unhide HJ6).alloc.srcN.2.2.2; omega) (by have := (unhide HJ6).alloc.srcN.2.2.2; simp only [maxLen]; omega) ?_; intro v5 w5 h5 k5; obtain ⟨g6, p6, rfl, q⟩ := (unhide HJ6).alloc.copied4 (by simp) (by first | (simp; done) | (simpa using (unhide HJ6).alloc.nd2) | (simpa using (unhide HJ6).alloc.nd2.symm)) h5 k5; obtain ⟨x0, x1, y0, y1, y2, y3, y4, y5⟩ := q.cs HJ; have HK6 := hide q; clear h5 k5 q)) | (go_at_call 21; refine (he_rwaiting HJ (hide (by first | exact (unhide HK5) | exact (unhide HK5).alloc))).mono ?_; rintro e wh ⟨a6, n6, t6, l6, rfl, ⟨x0, x1, y0, y1, y2, y3, y4, y5⟩, HJ6⟩) | (first | (refine step_append_any rfl _ _ 51 rfl 3 i3 _ 1 8 Try.underlying51 hd0 hd1 hd2 hd3 rfl (.slice (some ⟨_, 0, none⟩) 0 0) 0 (fun _ => undef) rfl ((unhide HJ5).rws (by simp) (by first | (simp; done) | (simpa using (unhide HJ5).nd2) | (simpa using (unhide HJ5).nd2.symm))) a5 n5 t5 rfl (cI l5) (unhide HJ5).srcN.1 (unhide HJ5).srcN.2.1 (unhide HJ5).srcN.2.2.1 (cI_one _) (by have := (unhide HJ5).srcN.2.2.2; omega) (by have := (unhide HJ5).srcN.2.2.2; simp only [maxLen]; omega) ?_; intro v5 w5 h5 k5; obtain ⟨g5, p5, rfl, q⟩ := (unhide HJ5).copied3 (by simp) (by first | (simp; done) | (simpa using (unhide HJ5).nd2) | (simpa using (unhide HJ5).nd2.symm)) h5 k5; obtain ⟨x0, x1, y0, y1, y2, y3, y4, y5⟩ := q.cs HJ; have HK5 := hide q; clear h5 k5 q) | (refine step_append_any rfl _ _ 51 rfl 3 i3 _ 1 8 Try.underlying51 hd0 hd1 hd2 hd3 rfl (.slice (some ⟨_, 0, none⟩) 0 0) 0 (fun _ => undef) rfl ((unhide HJ5).alloc.rws (by simp) (by first | (simp; done) | (simpa using (unhide HJ5).alloc.nd2) | (simpa using (unhide HJ5).alloc.nd2.symm))) a5 n5 t5 rfl (cI l5) (unhide HJ5).alloc.srcN.1 (unhide HJ5).alloc.srcN.2.1 (unhide HJ5).alloc.srcN.2.2.1 (cI_one _) (by have := (unhide HJ5).alloc.srcN.2.2.2; omega) (by have := (unhide HJ5).alloc.srcN.2.2.2; simp only [maxLen]; omega) ?_; intro v5 w5 h5 k5; obtain ⟨g5, p5, rfl, q⟩ := (unhide HJ5).alloc.copied3 (by simp) (by first | (simp; done) | (simpa using (unhide HJ5).alloc.nd2) | (simpa using (unhide HJ5).alloc.nd2.symm)) h5 k5; obtain ⟨x0, x1, y0, y1, y2, y3, y4, y5⟩ := q.cs HJ; have HK5 := hide q; clear h5 k5 q) | (refine step_append_any rfl _ _ 51 rfl 3 i3 _ 1 8 Try.underlying51 hd0 hd1 hd2 hd3 rfl (.slice (some ⟨_, 0, none⟩) 0 0) 0 (fun _ => undef) rfl ((unhide HJ5).alloc.alloc.rws (by simp) (by first | (simp; done) | (simpa using (unhide HJ5).alloc.alloc.nd2) | (simpa using (unhide HJ5).alloc.alloc.nd2.symm))) a5 n5 t5 rfl (cI l5) (unhide HJ5).alloc.alloc.srcN.1 (unhide HJ5).alloc.alloc.srcN.2.1 (unhide HJ5).alloc.alloc.srcN.2.2.1 (cI_one _) (by have := (unhide HJ5).alloc.alloc.srcN.2.2.2; omega) (by have := (unhide HJ5).alloc.alloc.srcN.2.2.2; simp only [maxLen]; omega) ?_; intro v5 w5 h5 k5; obtain ⟨g5, p5, rfl, q⟩ := (unhide HJ5).alloc.alloc.copied3 (by simp) (by first | (simp; done) | (simpa using (unhide HJ5).alloc.alloc.nd2) | (simpa using (unhide HJ5).alloc.alloc.nd2.symm)) h5 k5; obtain ⟨x0, x1, y0, y1, y2, y3, y4, y5⟩ := q.cs HJ; have HK5 := hide q; clear h5 k5 q)) | (go_at_call 20; refine (he_rdue HJ (hide (by first | exact (unhide HI).he.drew | exact (unhide HI).he.alloc.drew | exact (unhide HI).he.alloc.alloc.drew))).mono ?_; rintro e wg ⟨a5, n5, t5, l5, rfl, ⟨x0, x1, y0, y1, y2, y3, y4, y5⟩, HJ5⟩))
                    all_goals go_wp2_with fail
                    all_goals exact ⟨⟨{ C' with H := C'.H ++ [⟨.slice (some ⟨gl, 0, none⟩) nl nl, nl, cl⟩], ha := a1, hn := C'.hn + 1, hc := b1, Wd := C'.Wd ++ [⟨.slice (some ⟨gw, 0, none⟩) nd cw, nd, cP ld⟩], wa := a2, wn := C'.wn + 1, wc := b2, N := C'.N ++ [⟨.slice (some ⟨gd, 0, none⟩) n3 n3, n3, c3⟩, ⟨.slice (some ⟨gn, 0, none⟩) n4 n4, n4, c4⟩], na := a3, nn := C'.nn + 2, nc := b3, Dd := C'.Dd ++ [⟨.slice (some ⟨g5, 0, none⟩) n5 p5, n5, cI l5⟩, ⟨.slice (some ⟨g6, 0, none⟩) n6 p6, n6, cI l6⟩], da := a4, dn := C'.dn + 2, dc := b4 }, k + 1, rfl, rfl, rfl, rfl, congrArg (Value.int .i64) (by omega), by omega, q1, q2, q3, hP'.more, HL⟩, by simp [intOf]; omega⟩
  case rest =>
    as_aux_lemma =>
      obtain ⟨sa, sc, ta, tc, na, nc, da, dc, m, m2, rfl, rfl, rfl, rfl, hm, HC⟩ := hcut
      clear H2
      have HM2 : Hid (m2 = 2 * m) := hide (unhide HC).1
      have hm2 : m2 ≤ 8000 := by have := unhide HM2; omega
      have HC := hide (unhide HC).2
      go_wp2_with fail
      go_loopw [18] (fun v18 wr => ∃ i : Nat, v18 = .int .i64 ((i : Nat) : Int) ∧ i ≤ m ∧ Hid (Hc w0 wr (w2.heap.size + 1) p w2.heap.size sa sc ta tc na nc da dc m)) (fun v18 _ => m - (intOf v18).toNat)
      case atStart => exact ⟨0, rfl, Nat.zero_le _, HC⟩
      case round =>
        obtain ⟨i, rfl, hi, HC1⟩ := hrel
        clear HC
        by_cases hin : i < m
        · as_aux_lemma =>
            have f1 : decide ((i : Int) < (m : Int)) = true := decide_eq_true (by omega)
            have f9 : decide (i < m) = true := decide_eq_true (by omega)
            have g1 : (0 : Int) ≤ (i : Int) := by omega
            have g2 : (i : Int) < (m : Int) := by omega
            obtain ⟨gh, gw, a1, c1, a2, c2, n1, l1, rfl, rfl, k1, k2, P1, P2, e1, e2⟩ := hc_places (unhide HC1) hin
            have P1 := hide P1
            have P2 := hide P2
            have E1 := hide e1
            clear e1
            go_wp2_with fail
            go_region_held3 (fun W => W.cell? ⟨gh, i, none⟩ = some (.slice a1 n1 c1) ∧ W.cell? ⟨gw, i, none⟩ = some (.slice a2 n1 c2)) (go_keep) (first | (go_at_call 14; refine (same_any _ a1 a2 n1 c1 c2 l1 ((unhide P1).below (below_drew1 _)) ((unhide P2).below (below_drew1 _)) (unhide E1) (by omega)).mono ?_; rintro e w9 ⟨rfl, H9⟩; have HC2 := hide ((unhide HC1).below ((below_drew1 _).trans (unhide H9))); have k1 := ((unhide H9).cell (p := ⟨gh, i, none⟩) (cell_lt k1)).trans k1; have k2 := ((unhide H9).cell (p := ⟨gw, i, none⟩) (cell_lt k2)).trans k2))
            all_goals go_wp2_with fail
            all_goals exact ⟨⟨i + 1, congrArg (Value.int .i64) (by omega), by omega, HC2⟩, by simp [intOf]; omega⟩
        · have f1 : decide ((i : Int) < (m : Int)) = false := decide_eq_false (by omega)
          have f9 : decide (i < m) = false := decide_eq_false (by omega)
          clear hin hi
          go_wp2_with fail
          go_loopw [19] (fun v19 wr => ∃ i : Nat, v19 = .int .i64 ((i : Nat) : Int) ∧ i ≤ m2 ∧ Hid (Hc w0 wr (w2.heap.size + 1) p w2.heap.size sa sc ta tc na nc da dc m)) (fun v19 _ => m2 - (intOf v19).toNat)
          case atStart => exact ⟨0, rfl, Nat.zero_le _, HC1⟩
          case round =>
            clear HC1 f1 f9
            obtain ⟨i, rfl, hi, HC1⟩ := hrel
            by_cases hin : i < m2
            · as_aux_lemma =>
                have f1 : decide ((i : Int) < (m2 : Int)) = true := decide_eq_true (by omega)
                have f9 : decide (i < m2) = true := decide_eq_true (by omega)
                have g1 : (0 : Int) ≤ (i : Int) := by omega
                have g2 : (i : Int) < (m2 : Int) := by omega
                obtain ⟨gh, gw, a1, c1, a2, c2, n1, l1, rfl, rfl, k1, k2, P1, P2, e1, e2⟩ := hc_ints (unhide HC1) (i := i) (by have := unhide HM2; omega)
                have P1 := hide P1
                have P2 := hide P2
                have E1 := hide e1
                clear e1
                go_wp2_with fail
                go_region_held3 (fun W => W.cell? ⟨gh, i, none⟩ = some (.slice a1 n1 c1) ∧ W.cell? ⟨gw, i, none⟩ = some (.slice a2 n1 c2)) (go_keep) (first | (go_at_call 19; refine (ints_same _ a1 a2 n1 c1 c2 l1 ((unhide P1).below (below_drew1 _)) ((unhide P2).below (below_drew1 _)) (unhide E1) (by omega)).mono ?_; rintro e w9 ⟨rfl, H9⟩; have HC2 := hide ((unhide HC1).below ((below_drew1 _).trans (unhide H9))); have k1 := ((unhide H9).cell (p := ⟨gh, i, none⟩) (cell_lt k1)).trans k1; have k2 := ((unhide H9).cell (p := ⟨gw, i, none⟩) (cell_lt k2)).trans k2))
                all_goals go_wp2_with fail
                all_goals exact ⟨⟨i + 1, congrArg (Value.int .i64) (by omega), by omega, HC2⟩, by simp [intOf]; omega⟩
            · have f1 : decide ((i : Int) < (m2 : Int)) = false := decide_eq_false (by omega)
              have f9 : decide (i < m2) = false := decide_eq_false (by omega)
              clear hin hi
              go_wp2_with fail
              as_aux_lemma =>
                obtain ⟨H, N, gs, nd, PK, hv, nv⟩ := hc_pk (unhide HC1)
                have ND := hide nd
                have PK := hide PK
                have HVv := hide hv
                have NVv := hide nv
                clear nd hv nv HC1 f1 f9 HC
                generalize wr = V at PK HVv NVv ⊢
                obtain ⟨i8, ha0, ha1, ha2, ha3⟩ := info_parts4 info38
                obtain ⟨i9, hb0, hb1, hb2, hb3⟩ := info_parts4 info51
                obtain ⟨i4, hc0, hc1, hc2, hc3⟩ := info_parts4 info46
                obtain ⟨i3, hd0, hd1, hd2, hd3⟩ := info_parts4 info3
                go_loopw [20] (fun v20 wr => ∃ i : Nat, v20 = .int .i64 ((i : Nat) : Int) ∧ i ≤ m ∧ Hid (∃ A, Pk w0 V wr (w2.heap.size + 1) p w2.heap.size { ld0 with A := A } 2000 (gs.drop i) ∧ Full H mkP i A)) (fun v20 _ => m - (intOf v20).toNat)
                case atStart => exact ⟨0, rfl, Nat.zero_le _, hide ⟨[], unhide PK, Full.nil⟩⟩
                case round =>
                  clear PK
                  obtain ⟨i, rfl, hi, HQ⟩ := hrel
                  by_cases hin : i < m
                  · as_aux_lemma =>
                      have f1 : decide ((i : Int) < (m : Int)) = true := decide_eq_true (by omega)
                      have f9 : decide (i < m) = true := decide_eq_true (by omega)
                      have g1 : (0 : Int) ≤ (i : Int) := by omega
                      have g2 : (i : Int) < (m : Int) := by omega
                      have q1 : IntKind.i64.wrap (1000 + (i : Int)) = 1000 + (i : Int) := by rw [IntKind.wrap_i64]; omega
                      obtain ⟨x, hx⟩ : ∃ x, H[i]? = some x := ⟨_, List.getElem?_eq_getElem (by have := (unhide HVv).len; omega)⟩
                      obtain ⟨gr, g, c, f, ea, ecl, em, ev, en, eg, er⟩ := (unhide HVv).at_ i x hx
                      rw [Nat.zero_add] at eg
                      obtain ⟨A, P, FU⟩ := unhide HQ
                      have k1 := P.cell (mem_drop_le em (by omega)) ecl
                      have X1 := hide (FU.more hx ev (c := [.int .i64 ((1000 : Int) + (i : Int)), .string (bs [109, 97, 114, 107])]) rfl)
                      rw [ev] at k1 er
                      rw [drop_next eg] at P
                      have C25 := hide (pk_fillP P er (drop_ne (unhide ND) eg) (by omega) ((1000 : Int) + (i : Int), [109, 97, 114, 107]))
                      obtain rfl := ea
                      clear P FU er eg ev em ecl hx HQ
                      go_wp2_with (go_at_call 25; refine (unhide C25).mono ?_; rintro e w9 ⟨rfl, H9⟩)
                      exact ⟨⟨i + 1, congrArg (Value.int .i64) (by omega), by omega, hide ⟨_, unhide H9, unhide X1⟩⟩, by simp [intOf]; omega⟩
                  · have him : i = m := by omega
                    have f1 : decide ((i : Int) < (m : Int)) = false := decide_eq_false (by omega)
                    have f9 : decide (i < m) = false := decide_eq_false (by omega)
                    rw [him] at HQ
                    clear hin hi him
                    go_wp2_with fail
                    clear f1 f9
                    go_loopw [21] (fun v21 wr => ∃ i : Nat, v21 = .int .i64 ((i : Nat) : Int) ∧ i ≤ m2 ∧ Hid (∃ A B, Pk w0 V wr (w2.heap.size + 1) p w2.heap.size { ld0 with A := A, B := B } 2000 (gs.drop (m + i)) ∧ Full H mkP m A ∧ Full N mkN i B)) (fun v21 _ => m2 - (intOf v21).toNat)
                    case atStart =>
                      obtain ⟨A, P, FU⟩ := unhide HQ
                      exact ⟨0, rfl, Nat.zero_le _, hide ⟨A, [], P, FU, Full.nil⟩⟩
                    case round =>
                      clear HQ
                      obtain ⟨i, rfl, hi, HQ⟩ := hrel
                      by_cases hin : i < m2
                      · as_aux_lemma =>
                          have f1 : decide ((i : Int) < (m2 : Int)) = true := decide_eq_true (by omega)
                          have f9 : decide (i < m2) = true := decide_eq_true (by omega)
                          have g1 : (0 : Int) ≤ (i : Int) := by omega
                          have g2 : (i : Int) < (m2 : Int) := by omega
                          have q1 : IntKind.i64.wrap (2000 + (i : Int)) = 2000 + (i : Int) := by rw [IntKind.wrap_i64]; omega
                          obtain ⟨x, hx⟩ : ∃ x, N[i]? = some x := ⟨_, List.getElem?_eq_getElem (by have := (unhide NVv).len; have := unhide HM2; omega)⟩
                          obtain ⟨gr, g, c, f, ea, ecl, em, ev, en, eg, er⟩ := (unhide NVv).at_ i x hx
                          obtain ⟨A, B, P, FU, FN⟩ := unhide HQ
                          have k1 := P.cell (mem_drop_le em (by have := unhide HM2; omega)) ecl
                          have X1 := hide (FN.more hx ev (c := [.int .i64 ((2000 : Int) + (i : Int))]) rfl)
                          have X0 := hide FU
                          rw [ev] at k1 er
                          rw [drop_next eg] at P
                          have C25 := hide (pk_fillN P er (drop_ne (unhide ND) eg) (by omega) ((2000 : Int) + (i : Int)))
                          obtain rfl := ea
                          clear P FU FN er eg ev em ecl hx HQ
                          go_wp2_with (go_at_call 26; refine (unhide C25).mono ?_; rintro e w9 ⟨rfl, H9⟩)
                          exact ⟨⟨i + 1, congrArg (Value.int .i64) (by omega), by omega, hide ⟨_, _, unhide H9, unhide X0, unhide X1⟩⟩, by simp [intOf]; omega⟩
                      · have him : m + i = 3 * m := by have := unhide HM2; omega
                        have him2 : i = m2 := by omega
                        have f1 : decide ((i : Int) < (m2 : Int)) = false := decide_eq_false (by omega)
                        have f9 : decide (i < m2) = false := decide_eq_false (by omega)
                        rw [him, him2] at HQ
                        clear hin hi him him2
                        go_wp2_with fail
                        clear f1 f9
                        go_loopw [14, 15, 22] (fun v14 v15 v22 wr => ∃ (i : Nat) (aa ma : Option Addr) (z ac mc : Nat), v14 = .slice aa z ac ∧ v15 = .slice ma i mc ∧ v22 = .int .i64 ((i : Nat) : Int) ∧ i ≤ m ∧ z ≤ 20000 ∧ Hid (z = 5 * i ∧ ∃ R A B CA, Pk w0 V wr (w2.heap.size + 1) p w2.heap.size ⟨R ++ A, B, CA, [], aa, z, ac, ma, i, mc, none, 0, 0, none, 0, 0⟩ 2000 (gs.drop (3 * m)) ∧ Full H mkP m A ∧ Full N mkN m2 B ∧ RI R CA i ∧ ∀ c ∈ CA, ∃ k : Pl, c = [.int .i64 k.1, .string (bs k.2)])) (fun _ _ v22 _ => m - (intOf v22).toNat)
                        case atStart =>
                          obtain ⟨A, B, P, FU, FN⟩ := unhide HQ
                          exact ⟨0, none, none, 0, 0, 0, rfl, rfl, rfl, Nat.zero_le _, Nat.zero_le _, hide ⟨rfl, [], A, B, [], P, FU, FN, RI.nil, fun c hc => (by cases hc)⟩⟩
                        case round =>
                          clear HQ
                          obtain ⟨i, aa, ma, z, ac, mc, rfl, rfl, rfl, hi, hz, HQ⟩ := hrel
                          by_cases hin : i < m
                          · as_aux_lemma =>
                              have f1 : decide ((i : Int) < (m : Int)) = true := decide_eq_true (by omega)
                              have f9 : decide (i < m) = true := decide_eq_true (by omega)
                              have g1 : (0 : Int) ≤ (i : Int) := by omega
                              have g2 : (i : Int) < (m : Int) := by omega
                              have q1 : IntKind.i64.wrap (1000 + (i : Int)) = 1000 + (i : Int) := by rw [IntKind.wrap_i64]; omega
                              obtain ⟨x, hx⟩ : ∃ x, H[i]? = some x := ⟨_, List.getElem?_eq_getElem (by have := (unhide HVv).len; omega)⟩
                              obtain ⟨gr, g, c, f, ea, ecl, em, ev, en, eg, er⟩ := (unhide HVv).at_ i x hx
                              obtain ⟨ez, R, A, B, CA, P, FU, FN, RR, FC⟩ := unhide HQ
                              have k1 := P.cell em ecl
                              have hxA := List.mem_of_getElem? (FU.2 i x hin hx)
                              rw [ev] at k1 hxA
                              have EZ : Hid (z = R.length) := hide (by rw [RR.len]; exact ez)
                              have EC : Hid (i = CA.length) := hide RR.cl.symm
                              have hC2 : Hid (∀ c ∈ CA, c.length = 2) := hide (fun c hc => (by obtain ⟨k, rfl⟩ := FC c hc; rfl))
                              have C27 := hide (pk_beyondP (R := R) (Q := A) (m := ((1000 : Int) + (i : Int), [109, 97, 114, 107])) P rfl (unhide EZ) hxA (by omega))
                              have FU := hide FU
                              have FN := hide FN
                              have RR := hide RR
                              have FC := hide FC
                              have EZ5 := hide ez
                              obtain rfl := ea
                              clear P er eg ev em ecl hx HQ hxA ez
                              go_wp2_with (first
                                | (at_builtin; refine append_rws rfl _ _ 38 rfl 46 i4 _ 2 24 Try.underlying38 hc0 hc1 hc2 hc3 rfl 46 (.slice ma i mc) i _ rfl (pk_oneP (D := ⟨R ++ M ++ A, B, CA, [], a1, z + 5, b1, ma, i, mc, none, 0, 0, none, 0, 0⟩) ((unhide Q1).below ((Below.refl _ _).alloc (Nat.le_refl _) _)) (unhide hC2) (unhide EC) ((1000 : Int) + (i : Int), [109, 97, 114, 107])).1 (.inl rfl) _ 1 rfl [.int .i64 ((1000 : Int) + (i : Int)), .string (bs [109, 97, 114, 107])] (by decide) rfl (made_cells _ [.int .i64 ((1000 : Int) + (i : Int)), .string (bs [109, 97, 114, 107])] 46) (by simp [Value.oneCell']) (by omega) (by omega) ?_; intro v5 xz h5 k5; obtain ⟨a2, b2, rfl, q⟩ := (pk_oneP (D := ⟨R ++ M ++ A, B, CA, [], a1, z + 5, b1, ma, i, mc, none, 0, 0, none, 0, 0⟩) ((unhide Q1).below ((Below.refl _ _).alloc (Nat.le_refl _) _)) (unhide hC2) (unhide EC) ((1000 : Int) + (i : Int), [109, 97, 114, 107])).2 _ _ h5 k5; have Q2 := hide q; clear h5 k5 q; go_frame)
                                | (at_builtin; refine append_rws rfl _ _ 49 rfl 38 i8 _ 1 24 Try.underlying49 ha0 ha1 ha2 ha3 rfl 38 (.slice aa z ac) z _ rfl (pk_rowP (D := ⟨R ++ A, B, CA, [], aa, z, ac, ma, i, mc, none, 0, 0, none, 0, 0⟩) (R := R) (M := M) (Q := A) (unhide K1).2.1 (unhide EZ) (unhide K1).1).1 (.inl rfl) g' 5 rfl (M.map (·.v)) (by decide) (unhide K1).1.len (unhide K1).2.2 (unhide K1).1.one (by omega) (by omega) ?_; intro v5 xz h5 k5; obtain ⟨a1, b1, rfl, q⟩ := (pk_rowP (D := ⟨R ++ A, B, CA, [], aa, z, ac, ma, i, mc, none, 0, 0, none, 0, 0⟩) (R := R) (M := M) (Q := A) (unhide K1).2.1 (unhide EZ) (unhide K1).1).2 _ _ h5 k5; have Q1 := hide q; have F1 := hide (unhide K1).1; clear h5 k5 q K1; go_frame)
                                | (go_at_call 27; refine (unhide C27).mono ?_; rintro e xa ⟨g', M, rfl, K1⟩))
                              exact ⟨⟨i + 1, a1, a2, z + 5, b1, b2, rfl, rfl, congrArg (Value.int .i64) (by omega), by omega, by have := unhide EZ5; omega, hide ⟨by have := unhide EZ5; omega, R ++ M, A, B, _, unhide Q2, unhide FU, unhide FN, (unhide RR).more (unhide F1) (by omega), fun c hc => by
                                rcases List.mem_append.1 hc with q | q
                                · exact unhide FC c q
                                · exact ⟨_, List.mem_singleton.1 q⟩⟩⟩, by simp [intOf]; omega⟩
                          · obtain rfl : m = i := by omega
                            have f1 : decide ((m : Int) < (m : Int)) = false := decide_eq_false (by omega)
                            have f9 : decide (m < m) = false := decide_eq_false (by omega)
                            clear hin hi
                            go_wp2_with fail
                            clear f1 f9
                            as_aux_lemma =>
                              go_loopw [16, 17, 23] (fun v16 v17 v23 wr => ∃ (i : Nat) (ba ca : Option Addr) (y bc nc : Nat), v16 = .slice ba y bc ∧ v17 = .slice ca i nc ∧ v23 = .int .i64 ((i : Nat) : Int) ∧ i ≤ m2 ∧ y ≤ 40000 ∧ Hid (y = 5 * i ∧ ∃ R A Q B CA CB, Pk w0 V wr (w2.heap.size + 1) p w2.heap.size ⟨R ++ A, Q ++ B, CA, CB, aa, z, ac, ma, m, mc, ba, y, bc, ca, i, nc⟩ 2000 (gs.drop (3 * m)) ∧ Full N mkN m2 B ∧ RI R CA m ∧ (∀ c ∈ CA, ∃ k : Pl, c = [.int .i64 k.1, .string (bs k.2)]) ∧ RI Q CB i ∧ ∀ c ∈ CB, ∃ k : Int, c = [.int .i64 k])) (fun _ _ v23 _ => m2 - (intOf v23).toNat)
                              case atStart =>
                                obtain ⟨ez, R, A, B, CA, P, FU, FN, RR, FC⟩ := unhide HQ
                                exact ⟨0, none, none, 0, 0, 0, rfl, rfl, rfl, Nat.zero_le _, Nat.zero_le _, hide ⟨rfl, R, A, [], B, CA, [], P, FN, RR, FC, RI.nil, fun c hc => (by cases hc)⟩⟩
                              case round =>
                                have EZ5 : Hid (z = 5 * m) := hide (unhide HQ).1
                                clear HQ
                                obtain ⟨i, ba, ca, y, bc, nc', rfl, rfl, rfl, hi, hy, HQ⟩ := hrel
                                by_cases hin : i < m2
                                · as_aux_lemma =>
                                    have f1 : decide ((i : Int) < (m2 : Int)) = true := decide_eq_true (by omega)
                                    have f9 : decide (i < m2) = true := decide_eq_true (by omega)
                                    have g1 : (0 : Int) ≤ (i : Int) := by omega
                                    have g2 : (i : Int) < (m2 : Int) := by omega
                                    have q1 : IntKind.i64.wrap (2000 + (i : Int)) = 2000 + (i : Int) := by rw [IntKind.wrap_i64]; omega
                                    obtain ⟨x, hx⟩ : ∃ x, N[i]? = some x := ⟨_, List.getElem?_eq_getElem (by have := (unhide NVv).len; have := unhide HM2; omega)⟩
                                    obtain ⟨gr, g, c, f, ea, ecl, em, ev, en, eg, er⟩ := (unhide NVv).at_ i x hx
                                    obtain ⟨ey, R, A, Q, B, CA, CB, P, FN, RR, FC, RQ, FD⟩ := unhide HQ
                                    have k1 := P.cell em ecl
                                    have hxA := List.mem_of_getElem? (FN.2 i x hin hx)
                                    rw [ev] at k1 hxA
                                    have EZ : Hid (y = Q.length) := hide (by rw [RQ.len]; exact ey)
                                    have EC : Hid (i = CB.length) := hide RQ.cl.symm
                                    have hC2 : Hid (∀ c ∈ CB, c.length = 1) := hide (fun c hc => (by obtain ⟨k, rfl⟩ := FD c hc; rfl))
                                    have C28 := hide (pk_beyondN (R := Q) (Q := B) (m := (2000 : Int) + (i : Int)) P rfl (unhide EZ) hxA (by omega))
                                    have FN := hide FN
                                    have RR := hide RR
                                    have FC := hide FC
                                    have RQ := hide RQ
                                    have FD := hide FD
                                    have EY5 := hide ey
                                    obtain rfl := ea
                                    clear P er eg ev em ecl hx HQ hxA ey
                                    go_wp2_with (first
                                      | (at_builtin; refine append_rws rfl _ _ 51 rfl 3 i3 _ 1 8 Try.underlying51 hd0 hd1 hd2 hd3 rfl 3 (.slice ca i nc') i _ rfl (pk_oneN (D := ⟨R ++ A, Q ++ M ++ B, CA, CB, aa, z, ac, ma, m, mc, a1, y + 5, b1, ca, i, nc'⟩) ((unhide Q1).below ((Below.refl _ _).alloc (Nat.le_refl _) _)) (unhide hC2) (unhide EC) ((2000 : Int) + (i : Int))).1 (.inl rfl) _ 1 rfl [.int .i64 ((2000 : Int) + (i : Int))] (by decide) rfl (made_cells _ [.int .i64 ((2000 : Int) + (i : Int))] 3) (by simp [Value.oneCell']) (by omega) (by omega) ?_; intro v5 xz h5 k5; obtain ⟨a2, b2, rfl, q⟩ := (pk_oneN (D := ⟨R ++ A, Q ++ M ++ B, CA, CB, aa, z, ac, ma, m, mc, a1, y + 5, b1, ca, i, nc'⟩) ((unhide Q1).below ((Below.refl _ _).alloc (Nat.le_refl _) _)) (unhide hC2) (unhide EC) ((2000 : Int) + (i : Int))).2 _ _ h5 k5; have Q2 := hide q; clear h5 k5 q; go_frame)
                                      | (at_builtin; refine append_rws rfl _ _ 50 rfl 51 i9 _ 1 24 Try.underlying50 hb0 hb1 hb2 hb3 rfl 51 (.slice ba y bc) y _ rfl (pk_rowN (D := ⟨R ++ A, Q ++ B, CA, CB, aa, z, ac, ma, m, mc, ba, y, bc, ca, i, nc'⟩) (R := Q) (M := M) (Q := B) (unhide K1).2.1 (unhide EZ) (unhide K1).1).1 (.inl rfl) g' 5 rfl (M.map (·.v)) (by decide) (unhide K1).1.len (unhide K1).2.2 (unhide K1).1.one (by omega) (by omega) ?_; intro v5 xz h5 k5; obtain ⟨a1, b1, rfl, q⟩ := (pk_rowN (D := ⟨R ++ A, Q ++ B, CA, CB, aa, z, ac, ma, m, mc, ba, y, bc, ca, i, nc'⟩) (R := Q) (M := M) (Q := B) (unhide K1).2.1 (unhide EZ) (unhide K1).1).2 _ _ h5 k5; have Q1 := hide q; have F1 := hide (unhide K1).1; clear h5 k5 q K1; go_frame)
                                      | (go_at_call 28; refine (unhide C28).mono ?_; rintro e xa ⟨g', M, rfl, K1⟩))
                                    exact ⟨⟨i + 1, a1, a2, y + 5, b1, b2, rfl, rfl, congrArg (Value.int .i64) (by omega), by omega, by have := unhide EY5; omega, hide ⟨by have := unhide EY5; omega, R, A, Q ++ M, B, CA, _, unhide Q2, unhide FN, unhide RR, unhide FC, (unhide RQ).more (unhide F1) (by omega), fun c hc => by
                                      rcases List.mem_append.1 hc with q | q
                                      · exact unhide FD c q
                                      · exact ⟨_, List.mem_singleton.1 q⟩⟩⟩, by simp [intOf]; omega⟩
                                · obtain rfl : m2 = i := by omega
                                  have f1 : decide ((m2 : Int) < (m2 : Int)) = false := decide_eq_false (by omega)
                                  have f9 : decide (m2 < m2) = false := decide_eq_false (by omega)
                                  clear hin hi
                                  go_wp2_with fail
                                  as_aux_lemma =>
                                    clear f1 f9
                                    obtain ⟨ey, R, A, Q, B, CA, CB, P, FN, RR, FC, RQ, FD⟩ := unhide HQ
                                    obtain ⟨x0, x1⟩ := P.ls.cells
                                    have C24 := hide (pk_kept (RA := R) (QA := A) (RB := Q) (QB := B) (P.below (below_drew1 _)) rfl (by rw [RR.len]; exact unhide EZ5) RR.cl.symm FC RR.ra RR.sa (by show z ≤ _; omega) rfl (by rw [RQ.len]; exact ey) RQ.cl.symm FD RQ.ra RQ.sa (by show y ≤ _; omega))
                                    clear HQ ey P FN RR FC RQ FD
                                    go_region_held3 (fun W => W.cell? ⟨w2.heap.size + 1, 0, none⟩ = some (.pointer (some ⟨p, 0, none⟩)) ∧ W.cell? ⟨w2.heap.size + 1, 1, none⟩ = some (.pointer (some ⟨w2.heap.size, 0, none⟩))) (go_keep) (first | (go_at_call 17; refine (ls_waiting HL).mono ?_; rintro e we ⟨gw, nw, rfl, x0, x1, HE1⟩) | (go_at_call 21; refine (ls_rwaiting HE1).mono ?_; rintro e wf ⟨aw, cw, rfl, x0, x1, HE2⟩) | (go_at_call 19; refine (ls_ints2 HE2).mono ?_; rintro e wg ⟨rfl, x0, x1, HE3⟩) | (go_at_call 24; refine (unhide C24).mono ?_; rintro e wk ⟨rfl, HK⟩; have HL := hide (unhide HK).2.ls; obtain ⟨x0, x1⟩ := (unhide HL).cells))
                                    all_goals go_wp2_with fail
                                    all_goals go_ret
                                    all_goals exact ⟨rfl, hide ((unhide HW).1.trans ((unhide HE3).bel.mono (unhide HW).1.size))⟩
end Go.Proofs.Ytfebiemfmiahhab
