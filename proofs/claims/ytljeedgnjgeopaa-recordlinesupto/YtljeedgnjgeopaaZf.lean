/- record: the law's row. -/
import Derived.Test.YtljeedgnjgeopaaZe
import Derived.Test.YtljeedgnjgeopaaZc
import Derived.Deep.Cut
import Derived.Deep.CutRange
import Derived.Deep.DeepCutAuto
namespace Go.Proofs.Ytljeedgnjgeopaa
open Go.ChangeShapes Go.WideShapes Go.ChangeAt Go.RowKit Go.Shelf
set_option linter.unusedVariables false
set_option linter.unusedSimpArgs false
set_option maxRecDepth 100000
set_option maxHeartbeats 4000000
theorem results_tmp4 {fn : Func} {t u v x : Tmp} (h : fn.results = #[.tmp t, .tmp u, .tmp v, .tmp x]) (tmps : Array Value) (P : Program) (w : World) :
    (results fn tmps).run P w = .ok (.tuple #[tmps.getD t undef, tmps.getD u undef, tmps.getD v undef, tmps.getD x undef]) w := by
  simp [results, h, go_sem]
theorem num_ok (w : World) : Calls Try.prog 17 #[.int .i64 0] w fun e w' => e = .returned (.int .i64 0) ∧ w' = w := num_any w 0 (by decide)
theorem num_bad (w : World) : Calls Try.prog 17 #[.int .i64 162] w fun e w' => e = .returned (.int .i64 162) ∧ w' = w := num_any w 162 (by decide)
/-- what row answers -/
def RowEnd (w : World) (e : Ending) (w' : World) : Prop := ∃ (es : List Larder.EntP) (f s : Nat) (la : Option Addr) (lc : Nat) (ga : Option Addr) (gn gc : Nat) (na : Option Addr) (nc : Nat), e = .returned (.tuple #[.slice la es.length lc, .slice ga gn gc, .slice na es.length nc, .bool true]) ∧ Hid (∃ cs, RowS w cs f s es la lc ga gn gc na nc w')
theorem row_any (w : World) (fi : Int) (st : Nat) (gra : Option Addr) (grn grc : Nat) (sy zs at_ : Int) (x : Nat) (gs : List (List Larder.ActI)) (hst : st < 18446744073709551616) (hgn : grn = gs.length) (hg : GG w gra gs) (hs : ∀ g ∈ gs, Larder.SmallG g ∧ BdI g) (hgl : grn ≤ 140737488355328) :
    Calls Try.prog 7 #[.agg #[.int .i64 fi, .int .u64 (st : Nat), .slice gra grn grc, .int .i64 sy, .int .i64 zs, .int .i64 at_, .int .u64 (x : Nat)]] w (RowEnd w) := by
  obtain ⟨i41, hi41, hz41, hs41, hb41⟩ := info_parts4 info41
  obtain ⟨i5, hi5, hz5, hs5, hb5⟩ := info_parts4 dinfo5
  obtain ⟨i3, hi3, hz3, hs3, hb3⟩ := info_parts4 info3
  unfold RowEnd
  have HG := hide hg
  have HN := hide hgn
  have HS := hide hs
  clear hg hgn hs
  obtain ⟨cs, hcs⟩ : ∃ cs : Array Value, cs = #[.int .i64 fi, .int .u64 (st : Nat), .slice gra grn grc, .int .i64 sy, .int .i64 zs, .int .i64 at_, .int .u64 (x : Nat)] := ⟨_, rfl⟩
  obtain ⟨f, F0, hf1, hf2⟩ : ∃ f : Nat, Hid ((if fi < 1 ∨ 1099511627776 < fi then 1 else fi) = (f : Int)) ∧ 1 ≤ f ∧ f ≤ 1099511627776 := by
    by_cases h : fi < 1 ∨ 1099511627776 < fi
    · exact ⟨1, hide (by rw [if_pos h]; rfl), by omega, by omega⟩
    · exact ⟨fi.toNat, hide (by rw [if_neg h]; omega), by omega, by omega⟩
  obtain ⟨s, hsm⟩ : ∃ s, s = st % 1099511627776 := ⟨_, rfl⟩
  have hs40 : s < 1099511627776 := by rw [hsm]; exact Nat.mod_lt _ (by decide)
  have S0 : Hid (RowS w cs f s [] none 0 none 0 0 none 0 (w.alloc (.cells cs 25))) := hide
    ⟨(Below.refl _ _).alloc (Nat.le_refl _) _, heap_alloc_new _ _, Larder.Numd.nil f s, ⟨fun _ => undef, .inl ⟨rfl, rfl⟩, fun i x h => by cases h⟩, ⟨rfl, .inl ⟨rfl, rfl⟩⟩, .inl ⟨rfl, rfl⟩, fun q hq => (by cases hq), fun q hq => (by cases hq), fun q hq => (by cases hq)⟩
  rw [hcs] at S0
  obtain ⟨bb, hbb⟩ : ∃ bb : Bool, bb = decide (fi < 1 ∨ 1099511627776 < fi) := ⟨_, rfl⟩
  have HBB := hide hbb
  go_enter Try.func7, Try.ntmps7
  go_upto_region 5 with fail
  go_cut [21] from 15 to 73 (fun v21 wx => v21 = .bool bb ∧ wx = w.alloc (.cells #[.int .i64 fi, .int .u64 (st : Nat), .slice gra grn grc, .int .i64 sy, .int .i64 zs, .int .i64 at_, .int .u64 (x : Nat)] 25))
  case first =>
    by_cases h1 : fi < 1
    · have f1 : decide (fi < 1) = true := decide_eq_true h1
      have e1 := unhide HBB
      rw [decide_eq_true (Or.inl h1)] at e1
      clear h1
      go_wp2_with fail
      go_meet
      exact ⟨by rw [e1], rfl⟩
    · have f1 : decide (fi < 1) = false := decide_eq_false h1
      have e1 : bb = decide (1099511627776 < fi) := by rw [unhide HBB]; simp [h1]
      clear h1
      go_wp2_with fail
      go_meet
      exact ⟨by rw [e1], rfl⟩
  case rest =>
    obtain ⟨hv21, rfl⟩ := hcut
    have HBT : Hid (bb = true → (f : Int) = 1) := hide (fun e => by
      have h1 := unhide HBB
      rw [e] at h1
      have h2 := unhide F0
      rw [if_pos (of_decide_eq_true h1.symm)] at h2
      exact h2.symm)
    have HBF : Hid (bb = false → (f : Int) = fi) := hide (fun e => by
      have h1 := unhide HBB
      rw [e] at h1
      have h2 := unhide F0
      rw [if_neg (of_decide_eq_false h1.symm)] at h2
      exact h2.symm)
    subst hv21
    clear F0 HBB
    go_upto_if 21 with fail
    go_cut [9] from 15 to 73 (fun v9 wx => v9 = .int .i64 (f : Nat) ∧ wx = w.alloc (.cells #[.int .i64 fi, .int .u64 (st : Nat), .slice gra grn grc, .int .i64 sy, .int .i64 zs, .int .i64 at_, .int .u64 (x : Nat)] 25))
    case first =>
      cases bb with
      | true =>
        have hf := (unhide HBT) rfl
        clear HBT HBF
        go_wp2_with fail
        go_meet
        exact ⟨by rw [hf], rfl⟩
      | false =>
        have hf := (unhide HBF) rfl
        clear HBT HBF
        go_wp2_with fail
        go_meet
        exact ⟨by rw [hf], rfl⟩
    case rest =>
      obtain ⟨rfl, rfl⟩ := hcut
      clear HBT HBF
      go_wp2_with fail
      go_loopw [6, 7, 8, 10] (fun lv gv nv iv wr => ∃ (i : Nat) (es : List Larder.EntP) (m : Nat) (la : Option Addr) (lc : Nat) (ga : Option Addr) (gn gc : Nat) (na : Option Addr) (nc : Nat), iv = .int .i64 ((i : Nat) : Int) ∧ lv = .slice la m lc ∧ gv = .slice ga gn gc ∧ nv = .slice na m nc ∧ i ≤ grn ∧ i ≤ 40 ∧ m ≤ i ∧ Hid (m = es.length ∧ RowS w #[.int .i64 fi, .int .u64 (st : Nat), .slice gra grn grc, .int .i64 sy, .int .i64 zs, .int .i64 at_, .int .u64 (x : Nat)] f s es la lc ga gn gc na nc wr)) (fun _ _ _ iv _ => grn - (intOf iv).toNat)
      case atStart => exact ⟨0, [], 0, none, 0, none, 0, 0, none, 0, rfl, rfl, rfl, rfl, Nat.zero_le _, Nat.zero_le _, Nat.le_refl _, hide ⟨rfl, unhide S0⟩⟩
      case round =>
        clear S0
        obtain ⟨i, es, m, la, lc, ga, gn, gc, na, nc, rfl, rfl, rfl, rfl, hi, hi40, hmi, HW⟩ := hrel
        obtain ⟨hme, hW⟩ := unhide HW
        have x2 := cell_blk hW.box 2
        by_cases hgo : i < grn ∧ i < 40
        · have f1 : decide ((i : Int) < (grn : Int)) = true := decide_eq_true (by omega)
          have f2 : decide (i < grn) = true := decide_eq_true hgo.1
          have f3 : decide ((i : Int) < 40) = true := decide_eq_true (by omega)
          have f4 : decide (i < 40) = true := decide_eq_true hgo.2
          obtain ⟨hgo1, hgo2⟩ := hgo
          have g1 : (0 : Int) ≤ (i : Int) := by omega
          have g2 : (i : Int) < (grn : Int) := by omega
          have x1 := cell_blk hW.box 1
          obtain ⟨g, hgi⟩ : ∃ g, gs[i]? = some g := ⟨_, List.getElem?_eq_getElem (by have := unhide HN; omega)⟩
          obtain ⟨hsm2, hbd⟩ := (unhide HS) g (List.mem_of_getElem? hgi)
          obtain ⟨gb, ob, rfl, hlb, xa, xc, k1, k2⟩ : ∃ gb ob, gra = some ⟨gb, ob, none⟩ ∧ gb < w.heap.size ∧ ∃ xa xc, wr.cell? ⟨gb, ob + i, none⟩ = some (.slice xa g.length xc) ∧ GrpI w xa g := by
            rcases unhide HG with h | ⟨gb, ob, e, hl, hc⟩
            · rw [h] at hgi; cases hgi
            · obtain ⟨xa, xc, q1, q2⟩ := hc i g hgi
              exact ⟨gb, ob, e, hl, xa, xc, (hW.bel.cell (p := ⟨gb, _, none⟩) hl).trans q1, q2⟩
          obtain ⟨sq, hsq⟩ : ∃ sq, sq = f + m := ⟨_, rfl⟩
          obtain ⟨nw, hnw⟩ : ∃ nw, nw = m * s := ⟨_, rfl⟩
          have hms : m * s ≤ 40 * 1099511627776 := Nat.mul_le_mul (by omega) (by omega)
          have d2 : IntKind.i64.wrap ((f : Int) + (m : Int)) = (sq : Int) := by rw [IntKind.wrap_i64]; omega
          have d3 : IntKind.u64.wrap (m : Int) = (m : Int) := by rw [IntKind.wrap_u64]; omega
          have d4 : (st : Int).tmod 1099511627776 = (s : Int) := by rw [Int.tmod_eq_emod_of_nonneg (by omega), hsm]; omega
          have d5 : (m : Int) * (s : Int) = (nw : Int) := by rw [hnw, Int.natCast_mul]
          have d6 : IntKind.u64.wrap (nw : Int) = (nw : Int) := by rw [IntKind.wrap_u64]; omega
          have D2 := hide d2
          have D7 : Hid (IntKind.u64.wrap (IntKind.u64.wrap (m : Int) * (st : Int).tmod 1099511627776) = (nw : Int)) := hide (by rw [d3, d4, d5, d6])
          have hnb : nw ≤ 4503599627370496 := by omega
          have hsb : sq < 9223372036854775807 := by omega
          have hgl32 : g.length * 32 ≤ 140737488355328 := hbd.1
          have HM := hide hme
          have HX : Hid (wr.heap.size < (wr.alloc (.cells #[.int .i64 (sq : Nat), .int .u64 (nw : Nat), .slice xa g.length xc] 41)).heap.size ∧ (wr.alloc (.cells #[.int .i64 (sq : Nat), .int .u64 (nw : Nat), .slice xa g.length xc] 41)).drew.heap[wr.heap.size]? = some (.cells #[.int .i64 (sq : Nat), .int .u64 (nw : Nat), .slice xa g.length xc] 41 (0, 0)) ∧ RowS w #[.int .i64 fi, .int .u64 (st : Nat), .slice (some ⟨gb, ob, none⟩) grn grc, .int .i64 sy, .int .i64 zs, .int .i64 at_, .int .u64 (x : Nat)] f s es la lc ga gn gc na nc (wr.alloc (.cells #[.int .i64 (sq : Nat), .int .u64 (nw : Nat), .slice xa g.length xc] 41)).drew) := hide ⟨by simp, heap_alloc_new wr _, hW.below (below_drew ((Below.refl _ _).alloc (Nat.le_refl _) _))⟩
          have HNW := hide hnw
          have HSQ := hide hsq
          clear HN HG hW HW hlb hsq hnw hme hms d2 d3 d4 d5 d6
          obtain ⟨gl, hgl2⟩ : ∃ gl, gl = g.length := ⟨_, rfl⟩
          rw [← hgl2] at k1 HX hgl32
          have HGL := hide hgl2
          clear hgl2
          go_wp2_with fail
          go_region_held3 (fun W => W.cell? ⟨w.heap.size, 1, none⟩ = some (.int .u64 (st : Nat)) ∧ W.cell? ⟨w.heap.size, 2, none⟩ = some (.slice (some ⟨gb, ob, none⟩) grn grc) ∧ W.cell? ⟨gb, ob + i, none⟩ = some (.slice xa gl xc)) (go_keep) (fail)
          rw [unhide D2, unhide D7]
          clear D2 D7
          obtain ⟨q1, q2, q3⟩ := unhide HX
          generalize (wr.alloc (.cells #[.int .i64 (sq : Nat), .int .u64 (nw : Nat), .slice xa gl xc] 41)).drew = w1 at *
          have y0 := cell_blk q2 0
          have y1 := cell_blk q2 1
          have y2 := cell_blk q2 2
          have hE := blk_lt q2
          have C29 := hide (twin_any w1 sq nw xa gl xc g (k2.below q3.bel) (unhide HGL) hbd)
          have Q2 := hide q2
          have Q3 := hide q3
          cases hok : Larder.okE ⟨sq, nw, g⟩ with
          | false =>
            have C15 : Hid (∀ w2 a c, Below w1.heap.size w1 w2 ∧ AI w2 (.slice a gl c) g → Calls Try.prog 15 #[.agg #[.int .i64 (sq : Nat), .int .u64 (nw : Nat), .slice a gl c]] w2 fun e w3 => e = .returned (.tuple #[.slice none 0 0, .int .i64 162]) ∧ Hid (Below w1.heap.size w1 w3)) := hide (fun w2 a c h => (line_any w2 sq nw a gl c g h.2.grpI (unhide HGL) hsm2 (by omega)).mono (fun e w3 hl => by
              rcases hl with ⟨h1, -⟩ | ⟨-, h1, h2⟩
              · rw [hok] at h1; cases h1
              · exact ⟨h1, hide (h.1.trans ((unhide h2).mono h.1.size))⟩))
            have HB3 : Hid (∀ w3, Hid (Below w1.heap.size w1 w3) → RowS w #[.int .i64 fi, .int .u64 (st : Nat), .slice (some ⟨gb, ob, none⟩) grn grc, .int .i64 sy, .int .i64 zs, .int .i64 at_, .int .u64 (x : Nat)] f s es la lc ga gn gc na nc w3) := hide (fun w3 h => q3.below (unhide h))
            clear hok hsm2 hbd hgi k2 HX q1 q2 q3 x1 x2 hcs HS k1 hE
            go_wp2_with (first
              | (go_at_call 29; refine (unhide C29).mono ?_; clear C29; rintro e w2 ⟨a2, c2, rfl, z2⟩)
              | (go_at_call 15; refine ((unhide C15) w2 a2 c2 (unhide z2)).mono ?_; clear C15; rintro e w3 ⟨rfl, z3⟩)
              | (go_at_call 17; refine (num_bad _).mono ?_; rintro e w4 ⟨rfl, hw4⟩; obtain rfl := hw4.symm))
            exact ⟨⟨i + 1, es, m, la, lc, ga, gn, gc, na, nc, congrArg (Value.int .i64) (by omega), rfl, rfl, rfl, by omega, by omega, by omega, hide ⟨unhide HM, (unhide HB3) _ z3⟩⟩, by simp [intOf]; omega⟩
          | true =>
            obtain ⟨e, he⟩ : ∃ e, e = Larder.EntI.toP ⟨(sq : Nat), nw, g⟩ := ⟨_, rfl⟩
            have hes : e.seq = sq := by rw [he]; exact Int.toNat_natCast sq
            have hen : e.now = nw := by rw [he]; rfl
            have heg : e.group = g.map Larder.ActI.toP := by rw [he]; rfl
            have hOk : Larder.OkE e := by rw [he]; exact Larder.OkE_toP hok hsm2 (by show ((sq : Nat) : Int) < _; omega)
            have hGr : GrpAt w xa e.group := by rw [heg]; exact k2.toAt (fun x hx => (Larder.okA_iff ((Larder.okE_iff hok).2.2.2.2 x hx)).1)
            have hgle : gl = e.group.length := by rw [heg, List.length_map]; exact unhide HGL
            have hlog := q3.num.log
            have hgnl := q3.log.1
            have hbl := Larder.recE_le hOk
            have HNUM : Hid (Larder.Numd f s (es ++ [e])) := hide (q3.num.push (by rw [← unhide HM]; exact Nat.lt_of_le_of_lt hmi hgo2) (by rw [hes, unhide HSQ, unhide HM]) (by rw [hen, unhide HNW, unhide HM]) hOk)
            obtain ⟨F, r1, r2⟩ := q3.lst
            have C15 : Hid (∀ w2 a c, Below w1.heap.size w1 w2 ∧ AI w2 (.slice a gl c) g → Calls Try.prog 15 #[.agg #[.int .i64 (sq : Nat), .int .u64 (nw : Nat), .slice a gl c]] w2 fun e' w3 => ∃ (b : Option Addr) (bn bc : Nat), e' = .returned (.tuple #[.slice b bn bc, .int .i64 0]) ∧ w3.cell? ⟨wr.heap.size, 0, none⟩ = some (.int .i64 (sq : Nat)) ∧ w3.cell? ⟨wr.heap.size, 1, none⟩ = some (.int .u64 (nw : Nat)) ∧ w3.cell? ⟨wr.heap.size, 2, none⟩ = some (.slice xa gl xc) ∧ Hid (Below w1.heap.size w1 w3 ∧ bn = (Larder.recE e).length ∧ RB w3 (.slice b bn bc) (Larder.recE e))) := hide (fun w2 a c h => (line_any w2 sq nw a gl c g h.2.grpI (unhide HGL) hsm2 (by omega)).mono (fun e' w3 hl => by
              rcases hl with ⟨-, b, bn, bc, h1, h2, h3⟩ | ⟨h1, -⟩
              · have hb := h.1.trans ((unhide h3).1.bel.mono h.1.size)
                exact ⟨b, bn, bc, h1, (hb.cell (p := ⟨wr.heap.size, 0, none⟩) hE).trans y0, (hb.cell (p := ⟨wr.heap.size, 1, none⟩) hE).trans y1, (hb.cell (p := ⟨wr.heap.size, 2, none⟩) hE).trans y2, hide ⟨hb, by rw [he]; exact h2, by rw [he]; exact (unhide h3).2⟩⟩
              · rw [hok] at h1; cases h1))
            have HR1 : Hid (∀ w3, Below w1.heap.size w1 w3 → Rws (w3.alloc (.cells #[.int .i64 (sq : Nat), .int .u64 (nw : Nat), .slice xa gl xc] 41)) 41 3 (.slice la m lc) m F) := hide (fun w3 h => by
              rw [unhide HM]
              exact (r1.below h).below ((Below.refl _ _).alloc (Nat.le_refl _) _))
            have HR2 : Hid (∀ w3, Below w1.heap.size w1 w3 → Rws (w3.alloc (.cells #[.int .i64 (sq : Nat), .int .u64 (nw : Nat), .slice xa gl xc] 41)) 5 1 (.slice ga gn gc) gn (fun k => .int .u8 ((es.flatMap Larder.recE).getD k 0 : Nat))) := hide (fun w3 h => by
              have := (q3.log.2.below h).below ((Below.refl _ _).alloc (Nat.le_refl _) (.cells #[.int .i64 (sq : Nat), .int .u64 (nw : Nat), .slice xa gl xc] 41))
              unfold RB at this
              rw [← hgnl] at this
              exact this)
            have HGN := hide hgnl
            have HR3 : Hid (∀ w3, Below w1.heap.size w1 w3 → Rws (w3.alloc (.cells #[.int .i64 (sq : Nat), .int .u64 (nw : Nat), .slice xa gl xc] 41)) 3 1 (.slice na m nc) m (fun k => .int .i64 ((Larder.offR es (k + 1) : Nat) : Int))) := hide (fun w3 h => by
              rw [unhide HM]
              exact (q3.ends.below h).below ((Below.refl _ _).alloc (Nat.le_refl _) _))
            have HBR : Hid (∀ (w3 : World) (b : Option Addr) (bn bc : Nat), RB w3 (.slice b bn bc) (Larder.recE e) → RB (w3.alloc (.cells #[.int .i64 (sq : Nat), .int .u64 (nw : Nat), .slice xa gl xc] 41)) (.slice b bn bc) (Larder.recE e)) := hide (fun w3 b bn bc h => h.below ((Below.refl _ _).alloc (Nat.le_refl _) _))
            have HPU : Hid (∀ (w3 w5 w6 w7 : World) (v5 v6 v7 : Value) (bn gt : Nat), gt = gn + bn → Below w1.heap.size w1 w3 → Rws w5 41 3 v5 (m + 1) (fun k => if k < m * 3 then F k else [Value.int .i64 (sq : Nat), .int .u64 (nw : Nat), .slice xa gl xc].getD (k - m * 3) undef) → Ga 41 (m * 3) 3 (w3.alloc (.cells #[.int .i64 (sq : Nat), .int .u64 (nw : Nat), .slice xa gl xc] 41)) w5 (.slice la m lc) v5 → bn = (Larder.recE e).length → RB w6 v6 (es.flatMap Larder.recE ++ Larder.recE e) → Ga 5 (gn * 1) (cellsB (Larder.recE e)).length w5 w6 (.slice ga gn gc) v6 →
                Rws w7 3 1 v7 (m + 1) (fun k => if k < m * 1 then .int .i64 ((Larder.offR es (k + 1) : Nat) : Int) else [Value.int .i64 ((gt : Nat) : Int)].getD (k - m * 1) undef) → Ga 3 (m * 1) 1 (w6.alloc (.cells #[.int .i64 ((gt : Nat) : Int)] 3)) w7 (.slice na m nc) v7 →
                ∃ la' lc' ga' gc' na' nc', v5 = .slice la' (m + 1) lc' ∧ v6 = .slice ga' gt gc' ∧ v7 = .slice na' (m + 1) nc' ∧ RowS w #[.int .i64 fi, .int .u64 (st : Nat), .slice (some ⟨gb, ob, none⟩) grn grc, .int .i64 sy, .int .i64 zs, .int .i64 at_, .int .u64 (x : Nat)] f s (es ++ [e]) la' lc' ga' gt gc' na' nc' w7) := hide (fun w3 w5 w6 w7 v5 v6 v7 bn gt hgt hb h5 k5 hbn h6 k6 h7 k7 => by
              have hm := unhide HM
              subst hm
              subst hgt
              rw [← hes, ← hen] at h5
              exact (q3.below hb).push (unhide HNUM) hgle hGr (r1.below hb) r2 ((Below.refl _ _).alloc (Nat.le_refl _) _) h5 k5 hbn h6 k6 ((Below.refl _ _).alloc (Nat.le_refl _) _) h7 k7)
            have hm40 : (m + 1) * 40 ≤ 140737488355328 := by omega
            have hmx : m + 1 ≤ maxLen := by unfold maxLen; omega
            have hm8 : (m + 1) * 8 ≤ 140737488355328 := by omega
            have hgb : gn ≤ 1343502640 := by omega
            have HEL : Hid ((Larder.recE e).length ≤ 33587566) := hide hbl
            clear hok hsm2 hbd hgi k2 HX q1 q2 q3 x1 x2 hcs HS k1 hE he hes hen heg hOk hGr hgle hlog hgnl hbl r1 r2 hsb hnb hgl32
            go_wp2_with (first
              | (go_at_call 29; refine (unhide C29).mono ?_; clear C29; rintro e' w2 ⟨a2, c2, rfl, z2⟩)
              | (go_at_call 15; refine ((unhide C15) w2 a2 c2 (unhide z2)).mono ?_; clear C15; rintro e' w3 ⟨b, bn, bc, rfl, x0, x1, x2, z3⟩)
              | (go_at_call 17; refine (num_ok _).mono ?_; rintro e' w4 ⟨rfl, hw4⟩; obtain rfl := hw4.symm)
              | (at_builtin; refine append_gen rfl _ _ 26 rfl 41 i41 _ 3 40 Try.underlying26 hi41 hz41 hs41 hb41 rfl (.slice la m lc) m F rfl ((unhide HR1) w3 (unhide z3).1) (some ⟨w3.heap.size, 0, none⟩) 1 1 rfl [.int .i64 (sq : Nat), .int .u64 (nw : Nat), .slice xa gl xc] rfl (by simp) (new_cells w3 [.int .i64 (sq : Nat), .int .u64 (nw : Nat), .slice xa gl xc] 41) (by simp [Value.oneCell']) hm40 hmx ?_; intro v5 w5 h5 k5; obtain ⟨a5, c5, rfl⟩ := h5.shape; have K5 := hide (Kt.ga k5 ((unhide HR1) w3 (unhide z3).1)); have RL := hide (Rws.kt ((unhide HR2) w3 (unhide z3).1) (unhide K5) (by decide)); have RBB : Hid (RB w5 (.slice b bn bc) (Larder.recE e)) := hide (Rws.kt ((unhide HBR) w3 b bn bc (unhide z3).2.2) (unhide K5) (by decide)); have RE := hide (Rws.kt ((unhide HR3) w3 (unhide z3).1) (unhide K5) (by decide)); replace h5 := hide h5; replace k5 := hide k5; obtain ⟨gt, hgt⟩ : ∃ gt, gt = gn + bn := ⟨_, rfl⟩; have HGT := hide hgt; have hgtb : gt ≤ 2000000000 := (by have := unhide HEL; have := (unhide z3).2.1; omega); clear hgt; go_frame)
              | (at_builtin; refine append_gen rfl _ _ 27 rfl 5 i5 _ 1 1 Try.underlying27 hi5 hz5 hs5 hb5 rfl (.slice ga gn gc) gn _ rfl (unhide RL) b bn bc rfl (cellsB (Larder.recE e)) (by rw [cellsB_len, (unhide z3).2.1]; omega) (fun h => (by have := RB.nil (unhide RBB) h; rw [(unhide z3).2.1]; exact this)) (bytes_news (RB.bytes (unhide RBB)).1) (cellsB_one _) (by rw [← unhide HGT]; omega) (by rw [← unhide HGT]; unfold maxLen; omega) ?_; intro v6 w6 h6 k6; rw [← unhide HGT] at h6; obtain ⟨a6, c6, rfl⟩ := h6.shape; have R6 : Hid (RB w6 (.slice a6 gt c6) (es.flatMap Larder.recE ++ Larder.recE e)) := hide (RB.app (unhide HGN) (by rw [← (unhide z3).2.1, ← unhide HGT]; exact h6)); have K6 := hide (Kt.ga k6 (unhide RL)); have RE6 := hide ((Rws.kt (unhide RE) (unhide K6) (by decide)).below ((Below.refl _ _).alloc (Nat.le_refl _) (.cells #[.int .i64 ((gt : Nat) : Int)] 3))); clear h6; replace k6 := hide k6; go_frame)
              | (at_builtin; refine append_gen rfl _ _ 28 rfl 3 i3 _ 1 8 Try.underlying28 hi3 hz3 hs3 hb3 rfl (.slice na m nc) m _ rfl (unhide RE6) (some ⟨w6.heap.size, 0, none⟩) 1 1 rfl [.int .i64 ((gt : Nat) : Int)] rfl (by simp) (new_cells w6 [.int .i64 ((gt : Nat) : Int)] 3) (by simp [Value.oneCell']) hm8 hmx ?_; intro v7 w7 h7 k7; obtain ⟨a7, c7, rfl⟩ := h7.shape; have HF := hide ((unhide HPU) w3 w5 w6 w7 _ _ _ bn gt (unhide HGT) (unhide z3).1 (unhide h5) (unhide k5) (unhide z3).2.1 (unhide R6) (unhide k6) h7 k7); clear h7 k7; go_frame))
            obtain ⟨la', lc', ga', gc', na', nc', e1, e2, e3, HR⟩ := unhide HF
            cases e1
            cases e2
            cases e3
            exact ⟨⟨i + 1, es ++ [e], m + 1, _, _, _, _, _, _, _, congrArg (Value.int .i64) (by omega), rfl, rfl, rfl, by omega, by omega, by omega, hide ⟨by rw [List.length_append, ← unhide HM]; rfl, HR⟩⟩, by simp [intOf]; omega⟩
        · have HE : Hid (∃ cs, RowS w cs f s es la lc ga gn gc na nc wr) := hide ⟨_, hW⟩
          by_cases hig : i < grn
          · have f1 : decide ((i : Int) < (grn : Int)) = true := decide_eq_true (by omega)
            have f2 : decide (i < grn) = true := decide_eq_true hig
            have f3 : decide ((i : Int) < 40) = false := decide_eq_false (by omega)
            have f4 : decide (i < 40) = false := decide_eq_false (by omega)
            replace hme := hide hme
            clear hW HW
            go_wp2_with fail
            refine bodyPost_ret (results_tmp4 rfl _ _ _) rfl ?_
            exact ⟨es, f, s, la, lc, ga, gn, gc, na, nc, by rw [← unhide hme]; rfl, HE⟩
          · have f1 : decide ((i : Int) < (grn : Int)) = false := decide_eq_false (by omega)
            have f2 : decide (i < grn) = false := decide_eq_false hig
            replace hme := hide hme
            clear hW HW
            go_wp2_with fail
            refine bodyPost_ret (results_tmp4 rfl _ _ _) rfl ?_
            exact ⟨es, f, s, la, lc, ga, gn, gc, na, nc, by rw [← unhide hme]; rfl, HE⟩
end Go.Proofs.Ytljeedgnjgeopaa
