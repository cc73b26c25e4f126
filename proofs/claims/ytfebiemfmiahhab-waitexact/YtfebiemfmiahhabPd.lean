/- holds: every step of a script on its sides. -/
import Derived.Test.YtfebiemfmiahhabPc
import Derived.Deep.RegionHeld3
namespace Go.Proofs.Ytfebiemfmiahhab
open Go.ChangeShapes Go.WideShapes Go.ChangeAt Go.RowKit Go.Maps
set_option linter.unusedVariables false
set_option linter.unusedSimpArgs false
set_option maxRecDepth 100000
set_option maxHeartbeats 8000000
theorem info79 : (Try.prog.info? 29).map (fun i => (i.zero, i.size, i.bytes)) = some (some (.pointer none), 1, 8) := by kernel_rfl
theorem hs_at {w0 w : World} {v : Value} {Ps : List Nat} {N i ps : Nat} (h : Hs w0 w v Ps N) (hi : Ps[i]? = some ps) : ∃ g cap, v = .slice (some ⟨g, 0, none⟩) Ps.length cap ∧ w.cell? ⟨g, i, none⟩ = some (.pointer (some ⟨ps, 0, none⟩)) ∧ g < w.heap.size := by
  have := flat_get pC 1 (fun _ => rfl) Ps i ps hi 0 (by omega)
  rw [Nat.mul_one, Nat.add_zero] at this
  have e : (Ps.flatMap pC)[i]? = some (.pointer (some ⟨ps, 0, none⟩)) := this
  exact own_cell h.own e
theorem ix_facts (kb i : Nat) (h2 : 2 ≤ i ∧ i ≤ 65) : ∃ ix : Nat, ix < i ∧ Int.tmod (kb : Int) (i : Int) = ((ix : Nat) : Int) ∧ ((i : Int) == 0) = false ∧ wrap64 ((ix : Nat) : Int) = ((ix : Nat) : Int) ∧ (0 : Int) ≤ (ix : Int) ∧ (ix : Int) < (i : Int) ∧ ¬ (i : Int) = 0 ∧ ¬ i = 0 := by
  have h := Nat.mod_lt kb (show 0 < i by omega)
  refine ⟨kb % i, h, (Int.ofNat_tmod kb i).symm, by simp; omega, ?_, by omega, by omega, by omega, by omega⟩
  unfold wrap64
  generalize kb % i = z at h
  omega
theorem holds_law (W : World) (many lo hi : Int) (a : Option Addr) (cap : Nat) (n : Nat) (l : List Ol) (hn : n = l.length) (hn2 : n ≤ 9223372036854775807) (h : OpsAt W a l) :
    Calls Try.prog 5 #[.agg #[.int .i64 many, .slice a n cap], .int .i64 lo, .int .i64 hi] W fun e w' => e = .returned (.bool true) ∧ Hid (Below W.heap.size W w') := by
  have HN := hide hn
  have HL := hide h
  clear hn h
  obtain ⟨w0, hw0⟩ : ∃ w0, W.alloc (Obj.cells #[Value.int IntKind.i64 many, Value.slice a n cap] 24) = w0 := ⟨_, rfl⟩
  have HW : Hid (Below W.heap.size W w0 ∧ OpsAt w0 a l ∧ w0.heap[W.heap.size]? = some (.cells #[.int .i64 many, .slice a n cap] 24 (0, 0))) := by
    rw [← hw0]
    have hb := (Below.refl W.heap.size W).alloc (Nat.le_refl _) (Obj.cells #[Value.int IntKind.i64 many, Value.slice a n cap] 24)
    exact hide ⟨hb, (unhide HL).below hb, heap_alloc_new _ _⟩
  clear HL
  obtain ⟨km, hkm, hbm⟩ := and_le many 63 (by omega)
  have hbm2 : bits BinOp.and IntKind.i64 many 63 = (km : Int) := hbm
  obtain ⟨m, hm⟩ : ∃ m, m = km + 2 := ⟨_, rfl⟩
  have hwm : wrap64 (2 + (km : Int)) = (m : Int) := by unfold wrap64; omega
  have hm65 : 2 ≤ m ∧ m ≤ 65 := by omega
  obtain ⟨i0, hi0, hzz⟩ := Option.map_eq_some_iff.1 info79
  simp only [Prod.mk.injEq] at hzz
  obtain ⟨hz0, hz1, hz2⟩ := hzz
  clear hbm hm hkm
  have C0 := wakes_any w0
  go_enter Try.func5, Try.ntmps5
  go_wp2_with (go_at_call 6; refine C0.mono ?_; clear C0; rintro e w1 ⟨rfl, H1⟩)
  go_loopw [7, 8] (fun v iv wr => ∃ i : Nat, iv = .int .i64 ((i : Nat) : Int) ∧ i ≤ m ∧ Hid (∃ Ps, Hs w0 wr v Ps 0 ∧ Ps.length = i)) (fun _ iv _ => m - (intOf iv).toNat)
  case atStart => exact ⟨0, rfl, Nat.zero_le _, hide ⟨[], Hs.nil (unhide H1), rfl⟩⟩
  case round =>
    obtain ⟨i, rfl, hi, HO⟩ := hrel
    obtain ⟨Ps, hs, hPs⟩ := unhide HO
    have c0 : wr.cell? ⟨W.heap.size, 0, none⟩ = some (.int .i64 many) := by
      obtain ⟨-, -, q⟩ := unhide HW
      exact (hs.bel.cell (p := ⟨W.heap.size, 0, none⟩) (blk_lt q)).trans (cell_blk q 0)
    have HS := hide hs
    have HP := hide hPs
    clear hs hPs HO H1
    by_cases hin : i < m
    · have f1 : decide ((i : Int) < (m : Int)) = true := decide_eq_true (by omega)
      as_aux_lemma =>
        have C1 := wa_new w0 wr (unhide HS).bel
        go_wp2_with (first
          | (go_at_call 9; refine C1.mono ?_; clear C1; rintro e w2 ⟨p, rfl, H2⟩; have hrw : (((w2.alloc (.cells #[.slice none 0 0] 35)).alloc (.cells #[.pointer (some ⟨p, 0, none⟩), .pointer (some ⟨w2.heap.size, 0, none⟩)] 37)).alloc (.cells #[.pointer (some ⟨w2.heap.size + 1, 0, none⟩)] 29)).ownsRow w0.heap.size 29 1 u7 i (Ps.flatMap pC) := by
                obtain ⟨O, k1, k2, k3⟩ := unhide H2
                have hh := (unhide HS).below k3
                have e1 := World.ownsRow.alloc (World.ownsRow.alloc (World.ownsRow.alloc hh.own (.cells #[.slice none 0 0] 35)) (.cells #[.pointer (some ⟨p, 0, none⟩), .pointer (some ⟨w2.heap.size, 0, none⟩)] 37)) (.cells #[.pointer (some ⟨w2.heap.size + 1, 0, none⟩)] 29)
                rw [unhide HP] at e1
                exact e1
             have hcl : ∀ j u, [(Value.pointer (some ⟨w2.heap.size + 1, 0, none⟩))][j]? = some u → (((w2.alloc (.cells #[.slice none 0 0] 35)).alloc (.cells #[.pointer (some ⟨p, 0, none⟩), .pointer (some ⟨w2.heap.size, 0, none⟩)] 37)).alloc (.cells #[.pointer (some ⟨w2.heap.size + 1, 0, none⟩)] 29)).cell? ((⟨w2.heap.size + 1 + 1, 0, none⟩ : Addr).add j) = some u := by
                have e2 := Go.Proofs.Ytfebiemfmiahhab.cell_one_new ((w2.alloc (.cells #[.slice none 0 0] 35)).alloc (.cells #[.pointer (some ⟨p, 0, none⟩), .pointer (some ⟨w2.heap.size, 0, none⟩)] 37)) (.pointer (some ⟨w2.heap.size + 1, 0, none⟩)) 29
                have e3 : ((w2.alloc (.cells #[.slice none 0 0] 35)).alloc (.cells #[.pointer (some ⟨p, 0, none⟩), .pointer (some ⟨w2.heap.size, 0, none⟩)] 37)).heap.size = w2.heap.size + 1 + 1 := by simp
                rw [e3] at e2
                exact e2
             have hsz : w0.heap.size ≤ w2.heap.size := by
                obtain ⟨O, k1, k2, k3⟩ := unhide H2
                exact k1.bel.size)
          | (at_builtin; go_must (refine wpList_append_own_at _ rfl _ _ 28 rfl _ 29 i0 _ 1 8 Try.underlying28 hi0 hz0 hz1 hz2 rfl (by decide) u7 i (Ps.flatMap pC) rfl hrw ⟨w2.heap.size + 1 + 1, 0, none⟩ 1 1 [.pointer (some ⟨w2.heap.size + 1, 0, none⟩)] rfl rfl hcl (by simp [Value.oneCell']) (by unfold maxLen; omega) (by omega) (Nat.le_trans hsz (by simp; omega)) ?_); intro v' w7 hown' hg7 hnil7 hat7; have H7 := hide (And.intro hown' (And.intro hg7 hat7)); clear hown' hg7 hnil7 hat7 hcl hrw; go_frame))
        refine ⟨⟨i + 1, congrArg (Value.int .i64) (by omega), by omega, hide ⟨Ps ++ [w2.heap.size + 1], ?_, by rw [List.length_append, unhide HP]; rfl⟩⟩, by simp [intOf]; omega⟩
        obtain ⟨k1, k2, k3⟩ := unhide H7
        obtain ⟨O, q1, q2, q3⟩ := unhide H2
        have hs := unhide HS
        have hsd := sd_new hs.bel q1 q2 q3
        have hsz2 := q3.size
        refine hs.add (w4 := (w2.alloc (.cells #[.slice none 0 0] 35)).alloc (.cells #[.pointer (some ⟨p, 0, none⟩), .pointer (some ⟨w2.heap.size, 0, none⟩)] 37)) ?_ hsd q2 (fun b e => by omega) (by omega) ((Below.refl _ _).alloc (Nat.le_refl _) _) (by rw [unhide HP]; exact k1) k2 ?_
        · exact (q3.alloc hsz2 _).alloc (by simp; omega) _
        · exact k3
    · obtain rfl : i = m := by omega
      have f1 : decide ((i : Int) < (i : Int)) = false := decide_eq_false (by omega)
      obtain ⟨ps0, hps0⟩ : ∃ ps, Ps[0]? = some ps := ⟨_, List.getElem?_eq_getElem (by rw [unhide HP]; omega)⟩
      obtain ⟨g, cv, e, -, -⟩ := hs_at (unhide HS) hps0
      rw [unhide HP] at e
      subst e
      clear hps0 hin
      go_wp2_with fail
      clear hwm hbm2
      go_loopw [10] (fun iv wr => ∃ c : Nat, iv = .int .i64 ((c : Nat) : Int) ∧ c ≤ n ∧ c ≤ 2000 ∧ Hid (Hs w0 wr (.slice (some ⟨g, 0, none⟩) i cv) Ps c)) (fun iv _ => n - (intOf iv).toNat)
      case atStart => exact ⟨0, rfl, Nat.zero_le _, Nat.zero_le _, HS⟩
      case round =>
        obtain ⟨c, rfl, hc, hc2, HV⟩ := hrel
        clear HS c0
        have c0 : wr.cell? ⟨W.heap.size, 1, none⟩ = some (.slice a n cap) := by
          obtain ⟨-, -, q⟩ := unhide HW
          exact ((unhide HV).bel.cell (p := ⟨W.heap.size, 1, none⟩) (blk_lt q)).trans (cell_blk q 1)
        by_cases hin : c < n ∧ c < 2000
        rotate_left
        · as_aux_lemma =>
            by_cases h1 : c < n
            · have f2 : decide ((c : Int) < (n : Int)) = true := decide_eq_true (by omega)
              have f3 : decide ((c : Int) < 2000) = false := decide_eq_false (by omega)
              go_wp2_with fail
              go_ret
              exact ⟨rfl, hide ((unhide HW).1.trans ((unhide HV).bel.mono (unhide HW).1.size))⟩
            · have f2 : decide ((c : Int) < (n : Int)) = false := decide_eq_false (by omega)
              go_wp2_with fail
              go_ret
              exact ⟨rfl, hide ((unhide HW).1.trans ((unhide HV).bel.mono (unhide HW).1.size))⟩
        · have f2 : decide ((c : Int) < (n : Int)) = true := decide_eq_true (by omega)
          have f3 : decide ((c : Int) < 2000) = true := decide_eq_true (by omega)
          have g1 : (0 : Int) ≤ (c : Int) := by omega
          have g2 : (c : Int) < (n : Int) := by omega
          obtain ⟨o, ho⟩ : ∃ o, l[c]? = some o := ⟨_, List.getElem?_eq_getElem (by have := unhide HN; omega)⟩
          obtain ⟨-, q, -⟩ := unhide HW
          obtain ⟨b, off, rfl, -, d0, d1, d2, d3, d4, d5⟩ := (q.below (unhide HV).bel).at ho
          have HK := hide (q.ok o (List.mem_of_getElem? ho))
          clear q ho
          obtain ⟨j, hj⟩ : ∃ j, j = o.pl.length := ⟨_, rfl⟩
          rw [← hj] at d4
          have HJ := hide hj
          clear hj
          obtain ⟨kb, hkb, hbb⟩ := and_le o.on 1023 (by omega)
          have hbb2 : bits BinOp.and IntKind.i64 o.on 1023 = (kb : Int) := hbb
          clear hbb
          go_wp2_with fail
          obtain ⟨ix, hixl, hr, hr2, hr4, g3, g4, g5, g6⟩ := ix_facts kb i hm65
          obtain ⟨ps, hps⟩ : ∃ ps, Ps[ix]? = some ps := ⟨_, List.getElem?_eq_getElem (by rw [unhide HP]; exact hixl)⟩
          obtain ⟨w3, hw3⟩ : ∃ w3, w3 = wr.alloc (.cells #[.int .i64 o.on, .int .i64 o.act, .int .i64 o.conn, .int .i64 o.kind, .slice o.a j o.cap, .int .u64 (o.time : Nat)] 41) := ⟨_, rfl⟩
          have hb3 : Below wr.heap.size wr w3 := by rw [hw3]; exact (Below.refl _ _).alloc (Nat.le_refl _) _
          have q3 : w3.heap[wr.heap.size]? = some (.cells #[.int .i64 o.on, .int .i64 o.act, .int .i64 o.conn, .int .i64 o.kind, .slice o.a j o.cap, .int .u64 (o.time : Nat)] 41 (0, 0)) := by rw [hw3]; exact heap_alloc_new _ _
          have D3 : Calls Try.prog 10 #[.pointer (some ⟨ps, 0, none⟩), .agg #[.int .i64 o.on, .int .i64 o.act, .int .i64 o.conn, .int .i64 o.kind, .slice o.a j o.cap, .int .u64 (o.time : Nat)]] w3.drew fun e w' => e = .returned (.bool true) ∧ w'.cell? ⟨g, ix, none⟩ = some (.pointer (some ⟨ps, 0, none⟩)) ∧ w'.cell? ⟨wr.heap.size, 0, none⟩ = some (.int .i64 o.on) ∧ w'.cell? ⟨wr.heap.size, 1, none⟩ = some (.int .i64 o.act) ∧ w'.cell? ⟨wr.heap.size, 2, none⟩ = some (.int .i64 o.conn) ∧ w'.cell? ⟨wr.heap.size, 3, none⟩ = some (.int .i64 o.kind) ∧ w'.cell? ⟨wr.heap.size, 4, none⟩ = some (.slice o.a j o.cap) ∧ w'.cell? ⟨wr.heap.size, 5, none⟩ = some (.int .u64 (o.time : Nat)) ∧ Hid (Hs w0 w' (.slice (some ⟨g, 0, none⟩) i cv) Ps (c + 1)) := by
            refine (hs_plays HJ (by omega) (unhide HK) (unhide HV) (w := w3.drew) ⟨hb3.os, hb3.tape, hb3.output, hb3.size, hb3.block⟩ hps).mono ?_
            rintro e w' ⟨rfl, H⟩
            obtain ⟨k1, k2⟩ := unhide H
            have q4 := (k2 wr.heap.size (Nat.le_refl _) (blk_lt q3)).trans q3
            obtain ⟨g', cv', e1, e2, -⟩ := hs_at k1 hps
            cases e1
            exact ⟨rfl, e2, cell_blk q4 0, cell_blk q4 1, cell_blk q4 2, cell_blk q4 3, cell_blk q4 4, cell_blk q4 5, hide k1⟩
          have y0 : w3.cell? ⟨g, ix, none⟩ = some (.pointer (some ⟨ps, 0, none⟩)) := by
            obtain ⟨g', cv', e1, e2, -⟩ := hs_at ((unhide HV).below hb3) hps
            cases e1
            exact e2
          have b0 := cell_blk q3 0
          have b1 := cell_blk q3 1
          have b2 := cell_blk q3 2
          have b3 := cell_blk q3 3
          have b4 := cell_blk q3 4
          have b5 := cell_blk q3 5
          simp only [List.getElem?_toArray, List.getElem?_cons_zero, List.getElem?_cons_succ] at b0 b1 b2 b3 b4 b5
          rw [← hw3]
          clear hw3 q3 hb3 hps d0 d1 d2 d3 d4 d5 HV HK hixl
          go_region_held3 (fun W => W.cell? ⟨g, ix, none⟩ = some (.pointer (some ⟨ps, 0, none⟩)) ∧ W.cell? ⟨wr.heap.size, 0, none⟩ = some (.int .i64 o.on) ∧ W.cell? ⟨wr.heap.size, 1, none⟩ = some (.int .i64 o.act) ∧ W.cell? ⟨wr.heap.size, 2, none⟩ = some (.int .i64 o.conn) ∧ W.cell? ⟨wr.heap.size, 3, none⟩ = some (.int .i64 o.kind) ∧ W.cell? ⟨wr.heap.size, 4, none⟩ = some (.slice o.a j o.cap) ∧ W.cell? ⟨wr.heap.size, 5, none⟩ = some (.int .u64 (o.time : Nat))) (go_keep) (first | (go_at_call 10; refine D3.mono ?_; rintro e w4 ⟨rfl, y0, b0, b1, b2, b3, b4, b5, H4⟩))
          all_goals go_wp2_with fail
          all_goals exact ⟨⟨c + 1, congrArg (Value.int .i64) (by omega), by omega, by omega, H4⟩, by simp [intOf]; omega⟩
end Go.Proofs.Ytfebiemfmiahhab
