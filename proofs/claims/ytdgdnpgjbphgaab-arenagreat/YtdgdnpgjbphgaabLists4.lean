/- lists: Image. -/
import Derived.Test.YtdgdnpgjbphgaabLists3
namespace Go.Proofs.Ytdgdnpgjbphgaab
open Go.ChangeShapes Go.WideShapes Go.ChangeAt Go.RowKit
set_option linter.unusedVariables false
set_option maxRecDepth 100000
set_option maxHeartbeats 4000000

theorem image_line {p bw bh : Nat} {ws : List Nat} {hs : List Bool} {used : Nat} (w : World) (h : Ar w p bw bh ws hs used) :
    Calls Try.prog 39 #[.pointer (some ⟨p, 0, none⟩)] w fun e w' => e = .returned (.slice (some ⟨w.heap.size, 0, none⟩) used used) ∧ Line w' 24 (.slice (some ⟨w.heap.size, 0, none⟩) used used) used (fun j => .int .u64 (ws.getD j 0 : Nat)) ∧ Below w.heap.size w w' := by
  have c0 := h.c0
  have c2 := h.c2
  have hu := h.u2
  have hu1 := h.u1
  have hz := h.sz
  have m1 := fun w' => run_make_row' (P := Try.prog) 62 24 (.int .u64 0) 8 Try.underlying62 Try.info24 rfl .i64 .i64 used (by omega) (by omega) w'
  have HB := hide ((Below.refl w.heap.size w).alloc (Nat.le_refl _) (.cells (madeCells #[.int .u64 0] used) 24))
  have hg := heap_alloc_new w (.cells (madeCells #[.int .u64 0] used) 24)
  have HG := hide hg
  have HW : Hid (∀ j v, ((List.range used).map fun k => Value.int .u64 (ws.getD k 0 : Nat))[j]? = some v → (w.alloc (.cells (madeCells #[.int .u64 0] used) 24)).cell? ((⟨bw, 0, none⟩ : Addr).add j) = some v) := hide (fun j v hj => by
    have hjl : j < used := by
      have := (List.getElem?_eq_some_iff.1 hj).1
      simpa using this
    rw [List.getElem?_map, List.getElem?_range hjl] at hj
    have e : (⟨bw, 0, none⟩ : Addr).add j = ⟨bw, j, none⟩ := by simp [Addr.add]; exact fun h => h.symm
    rw [e, (unhide HB).cell (p := ⟨bw, j, none⟩) h.lw, h.ww j (by omega)]
    exact hj)
  have c0' := ((unhide HB).cell (p := ⟨p, 0, none⟩) h.lp).trans c0
  clear h hg
  obtain ⟨i0, hi, hy0, hy1, hy2⟩ := info_parts Try.info24
  have hcopy : ∃ w2, (Builtin.copy_ #[62, 62] 3 #[.slice (some ⟨w.heap.size, 0, none⟩) used used, .slice (some ⟨bw, 0, none⟩) ws.length ws.length]).run Try.prog (w.alloc (.cells (madeCells #[.int .u64 0] used) 24)) = .ok (goInt used) w2 ∧ Hid (Line w2 24 (.slice (some ⟨w.heap.size, 0, none⟩) used used) used (fun j => .int .u64 (ws.getD j 0 : Nat))) ∧ Below w.heap.size w w2 ∧ w2.heap.size = w.heap.size + 1 := by
    obtain ⟨cs, hcs⟩ : ∃ cs, cs = (List.range used).map fun k => Value.int .u64 (ws.getD k 0 : Nat) := ⟨_, rfl⟩
    have hlen : cs.length = used := by rw [hcs]; simp
    rw [← hcs] at HW
    have hcp := run_copy_row (P := Try.prog) (w.alloc (.cells (madeCells #[.int .u64 0] used) 24)) 62 62 3 24 w.heap.size 0 used used ⟨bw, 0, none⟩ ws.length ws.length (madeCells #[.int .u64 0] used) 24 cs Try.underlying62 (by rw [hi]; simp [hy1]) (unhide HG) (by rw [hlen]; show used = min _ _; omega) (unhide HW) (by rw [hlen]; simp [madeCells]) (fun v hv => by rw [hcs] at hv; obtain ⟨k, _, rfl⟩ := List.mem_map.1 hv; rfl)
    rw [hlen] at hcp
    refine ⟨_, hcp, hide ?_, below_setRow (unhide HB) (Nat.le_refl _) _, by simp [World.setRow]⟩
    have hrow := setRow_heap (w.alloc (.cells (madeCells #[.int .u64 0] used) 24)) w.heap.size _ ((madeCells #[.int .u64 0] used).toList.take 0 ++ cs ++ (madeCells #[.int .u64 0] used).toList.drop (0 + used)).toArray 24 (0, 0) (unhide HG)
    refine .inr ⟨w.heap.size, used, _, rfl, hrow, Nat.le_refl _, by unfold maxLen; omega, ?_, fun j hj => ?_⟩
    · rw [List.take_zero, List.nil_append]
      simp [madeCells, hlen]
    · rw [List.take_zero, List.nil_append]
      simp [List.getElem?_append, hj, hcs]
  obtain ⟨w2, hcp, HR, hbr, hsz⟩ := hcopy
  go_enter Try.func39, Try.ntmps39
  go_wp2
  go_ret
  exact ⟨rfl, unhide HR, hbr⟩

/-- Image of both sides -/
theorem image_both {w : World} {i : Nat} {kt rt : Nat → Nat} {d : Dat} (hb : Blk w i kt rt d) :
    ∃ (n : Nat) (G : Nat → Nat), 1 ≤ n ∧ n ≤ 1048576 ∧ (∀ i, G i < 18446744073709551616) ∧
      (∀ wq, Below w.heap.size w wq → Calls Try.prog 39 #[.pointer (some ⟨d.p, 0, none⟩)] wq fun e w' => ∃ g cap, e = .returned (.slice (some ⟨g, 0, none⟩) n cap) ∧ Line w' 24 (.slice (some ⟨g, 0, none⟩) n cap) n (fun i => .int .u64 (G i : Nat)) ∧ wq.heap.size ≤ g ∧ Below wq.heap.size wq w') ∧
      (∀ wq rq, RefAt wq d.pr i rq d.R → Calls Try.prog 41 #[.pointer (some ⟨d.pr, 0, none⟩)] wq fun e w' => ∃ g cap, e = .returned (.slice (some ⟨g, 0, none⟩) n cap) ∧ Line w' 24 (.slice (some ⟨g, 0, none⟩) n cap) n (fun i => .int .u64 (G i : Nat)) ∧ wq.heap.size ≤ g ∧ Below wq.heap.size wq w') := by
  have o := hb.ref.ok
  have him := (hb.rel.image o d.R.L.length (Nat.le_refl _)).2
  have hu1 := hb.ar.u1
  have hu2 := hb.ar.u2
  have hsz := hb.ar.sz
  have hus := hb.rel.us
  refine ⟨d.R.used, fun k => d.ws.getD k 0, by omega, by omega, fun k => ?_, fun wq k => ?_, fun wq rq hr => ?_⟩
  · by_cases hk : k < d.ws.length
    · exact hb.ar.small k hk
    · show d.ws.getD k 0 < _
      rw [List.getD_eq_getElem?_getD, List.getElem?_eq_none (by omega)]; decide
  · refine (image_line wq (hb.ar.below k)).mono ?_
    rintro e w' ⟨rfl, h1, h2⟩
    rw [hus] at h1
    exact ⟨_, _, by rw [hus], h1, Nat.le_refl _, h2⟩
  · refine (rimage_any hr).mono ?_
    rintro e w' ⟨⟨v, rfl, h1, h2⟩, h3⟩
    obtain ⟨g, cap, hv, hgb, _⟩ := h1.at (by omega)
    subst hv
    exact ⟨g, cap, rfl, h1.congr (fun k hk => by
      show Value.int .u64 _ = Value.int .u64 (d.ws.getD k 0 : Nat)
      rw [him k hk]), h2 g rfl, h3⟩
theorem same_lines {w : World} {g g' n cap cap' : Nat} {G : Nat → Nat} (hn : n ≤ 1048576) (h1 : 1 ≤ n) (h : Line w 24 (.slice (some ⟨g, 0, none⟩) n cap) n (fun i => .int .u64 (G i : Nat))) (h' : Line w 24 (.slice (some ⟨g', 0, none⟩) n cap') n (fun i => .int .u64 (G i : Nat))) :
    Calls Try.prog 40 #[.slice (some ⟨g, 0, none⟩) n cap, .slice (some ⟨g', 0, none⟩) n cap'] w fun e w' => e = .returned (.bool true) ∧ Below w.heap.size w w' := by
  obtain ⟨q, c, hv, hgb, hc⟩ := h.at (by omega)
  obtain ⟨q', c', hv', hgb', hc'⟩ := h'.at (by omega)
  simp only [Value.slice.injEq, Option.some.injEq, Addr.mk.injEq] at hv hv'
  obtain ⟨⟨rfl, _⟩, _⟩ := hv
  obtain ⟨⟨rfl, _⟩, _⟩ := hv'
  exact same_words g g' cap cap' n G w hn (h.lt _ rfl) (h'.lt _ rfl) (fun j hj => (hc j hj).1) (fun j hj => (hc' j hj).1)
theorem lists_image {w0 w : World} {pw : Nat} {tag rt kt : Nat → Nat} {S : BookSt} {D : Nat → Option Dat} {V : Nat → Value} (h : WAt w0 w pw tag rt kt S D V) (X Y A B C : Int) (U : Nat) (sD : Value) (d : Dat) (hd : D (t3 X) = some d) (hturn : S.turn < 1000000) :
    Calls Try.prog 15 #[.pointer (some ⟨pw, 0, none⟩), .agg #[.int .i64 11, .int .i64 X, .int .i64 Y, .int .i64 A, .int .i64 B, .int .i64 C, .int .u64 (U : Nat), sD]] w fun e w' => e = .returned (.bool true) ∧ ∃ tag' rt' kt' S' D' V', WAt w0 w' pw tag' rt' kt' S' D' V' ∧ S'.turn ≤ S.turn + 1 := by
  have hwb := h.bl _ _ (t3_lt X) hd
  obtain ⟨n, G, hn1, hn, hG, HP0, HQ0⟩ := image_both hwb
  have HP := hide HP0
  have HQ := hide (fun w1 (k : Below w.heap.size w w1) => HQ0 w1 rt (hwb.ref.below k))
  have HG := hide hG
  have HTK : Hid (∀ w5 g3 c3, Below w.heap.size w w5 → Line w5 24 (.slice (some ⟨g3, 0, none⟩) n c3) n (fun i => .int .u64 (G i : Nat)) → w.heap.size ≤ g3 → Calls Try.prog 42 #[.pointer (some ⟨pw, 6, none⟩), .slice (some ⟨g3, 0, none⟩) n c3] w5 fun e w' => e = .returned (.tuple #[]) ∧ ((∃ tag' S', S'.turn ≤ S.turn + 1 ∧ WAt w0 w' pw tag' rt kt S' D V) ∧ ∀ g4 c4, Line w5 24 (.slice (some ⟨g4, 0, none⟩) n c4) n (fun i => .int .u64 (G i : Nat)) → w.heap.size ≤ g4 → g4 ≠ g3 → Line w' 24 (.slice (some ⟨g4, 0, none⟩) n c4) n (fun i => .int .u64 (G i : Nat)))) := hide (fun w5 g3 c3 k hl hg => by
    refine (take_words (h.below k).bk hturn _ n _ hl (fun g hgg => ?_) (by omega)).mono ?_
    · have e1 : g3 = g := by simpa [Value.ownBlock] using hgg
      subst e1
      exact ⟨(h.tag0 hg).1, (h.tag0 hg).2.2.2.1⟩
    · rintro e w' ⟨rfl, tag', S', hbk, ht, hno⟩
      refine ⟨rfl, ⟨tag', S', by omega, (h.below k).noted _ _ (fun g hgg => ?_) hbk hno⟩, fun g4 c4 h4 hg4 hne => h4.same (fun g hgg => ?_)⟩
      · have e1 : g3 = g := by simpa [Value.ownBlock] using hgg
        subst e1
        exact (h.tag0 hg).2
      · have e1 : g4 = g := by simpa [Value.ownBlock] using hgg
        subst e1
        refine hno.blk _ (h4.lt _ rfl) ?_ (h.tag0 hg4).2.2.2.1
        unfold tagAt
        rw [if_neg (fun e => hne (by simpa [Value.ownBlock] using e.symm))]
        exact (h.tag0 hg4).1)
  have HQW : Hid (∀ wq tag' S', WAt w0 wq pw tag' rt kt S' D V → Calls Try.prog 41 #[.pointer (some ⟨d.pr, 0, none⟩)] wq fun e w' => ∃ g cap, e = .returned (.slice (some ⟨g, 0, none⟩) n cap) ∧ Line w' 24 (.slice (some ⟨g, 0, none⟩) n cap) n (fun i => .int .u64 (G i : Nat)) ∧ wq.heap.size ≤ g ∧ Below wq.heap.size wq w') := hide (fun wq tag' S' hw => HQ0 wq rt (hw.bl _ _ (t3_lt X) hd).ref)
  have HW := hide (fun w1 (k : Below w.heap.size w w1) => h.below k)
  clear hwb HP0 HQ0 hG
  have hx := t3_lt X
  obtain ⟨cp, _⟩ := h.cp _ hx
  obtain ⟨cq, _⟩ := h.cq _ hx
  have hb := h.bl _ _ hx hd
  have HT := hide (fun w1 => three_nat X w1)
  rw [hd] at cp cq
  have lpw := h.bk.fl.lt
  clear h hb hd
  have y0 : (0 : Int) ≤ (t3 X : Int) := by omega
  have y1 : (t3 X : Int) < 3 := by omega
  generalize t3 X = t at *
  go_enter Try.func15, Try.ntmps15
  go_wp2_with fail
  obtain ⟨w1, hw1⟩ : ∃ w1, w1 = w.alloc (.cells #[.int .i64 11, .int .i64 X, .int .i64 Y, .int .i64 A, .int .i64 B, .int .i64 C, .int .u64 (U : Nat), sD] 26) := ⟨_, rfl⟩
  rw [← hw1]
  have HB1 : Hid (Below w.heap.size w w1) := hide (by rw [hw1]; exact (Below.refl _ _).alloc (Nat.le_refl _) _)
  have e1 : w1.cell? ⟨pw, t, none⟩ = some (.pointer (some ⟨d.p, 0, none⟩)) := ((unhide HB1).cell (p := ⟨pw, t, none⟩) lpw).trans cp
  have e2 : w1.cell? ⟨pw, 3 + t, none⟩ = some (.pointer (some ⟨d.pr, 0, none⟩)) := ((unhide HB1).cell (p := ⟨pw, 3 + t, none⟩) lpw).trans cq
  have hop : w1.heap[w.heap.size]? = some (.cells #[.int .i64 11, .int .i64 X, .int .i64 Y, .int .i64 A, .int .i64 B, .int .i64 C, .int .u64 (U : Nat), sD] 26) := by rw [hw1]; exact heap_alloc_new w _
  have hbo : w.heap.size < w1.heap.size := by rw [hw1]; simp
  have HOP : Hid (∀ wq, Below w1.heap.size w1 wq → wq.cell? ⟨w.heap.size, 0, none⟩ = some (.int .i64 11) ∧ wq.cell? ⟨w.heap.size, 1, none⟩ = some (.int .i64 X) ∧ wq.cell? ⟨w.heap.size, 3, none⟩ = some (.int .i64 A)) := hide (fun wq k => by
    have e := k.block w.heap.size hbo
    rw [hop] at e
    simp only [World.cell?, e]
    exact ⟨rfl, rfl, rfl⟩)
  have HLO := hide hbo
  have lpw1 : pw < w1.heap.size := by omega
  have HPW : Hid (∀ wq, Below w1.heap.size w1 wq → wq.cell? ⟨pw, t, none⟩ = some (.pointer (some ⟨d.p, 0, none⟩)) ∧ wq.cell? ⟨pw, 3 + t, none⟩ = some (.pointer (some ⟨d.pr, 0, none⟩))) := hide (fun wq k => ⟨(k.cell (p := ⟨pw, t, none⟩) lpw1).trans e1, (k.cell (p := ⟨pw, 3 + t, none⟩) lpw1).trans e2⟩)
  obtain ⟨o0, o1, o3⟩ := unhide HOP w1 (Below.refl _ _)
  clear hop hbo hw1 cp cq
  go_quiet (first | (go_at_call 12; exact Calls.quiet_of_same (unhide HT _)))
  obtain ⟨w2, hw2⟩ : ∃ w2, w2 = w1.drewN nq := ⟨_, rfl⟩
  rw [← hw2]
  have HC2 : Hid (Below w1.heap.size w1 w2) := hide (by rw [hw2]; exact below_drewN (Below.refl _ _) nq)
  have HB2 : Hid (Below w.heap.size w w2) := hide ((unhide HB1).trans ((unhide HC2).mono (unhide HB1).size))
  clear hw2 e1 e2 lpw1 o0 o1 o3
  obtain ⟨o0, o1, o3⟩ := unhide HOP w2 (unhide HC2)
  go_wp2_with fail
  refine (unhide HP w2 (unhide HB2)).mono ?_
  rintro e w3 ⟨g3, c3, rfl, s3, f3, b3⟩
  have HC3 : Hid (Below w1.heap.size w1 w3) := hide ((unhide HC2).trans (b3.mono (unhide HC2).size))
  have HB3 : Hid (Below w.heap.size w w3) := hide ((unhide HB2).trans (b3.mono (unhide HB2).size))
  have HS3 := hide (And.intro s3 f3)
  clear b3 s3 f3
  go_wp2_with fail
  refine (unhide HP w3 (unhide HB3)).mono ?_
  rintro e w4 ⟨g4, c4, rfl, s4, f4, b4⟩
  have HC4 : Hid (Below w1.heap.size w1 w4) := hide ((unhide HC3).trans (b4.mono (unhide HC3).size))
  have HB4 : Hid (Below w.heap.size w w4) := hide ((unhide HB3).trans (b4.mono (unhide HB3).size))
  have HS4 := hide (And.intro s4 (And.intro f4 b4))
  clear b4 s4 f4
  go_wp2_with fail
  refine (unhide HQ w4 (unhide HB4)).mono ?_
  rintro e w5 ⟨g5, c5, rfl, s5, f5, b5⟩
  have HC5 : Hid (Below w1.heap.size w1 w5) := hide ((unhide HC4).trans (b5.mono (unhide HC4).size))
  have HB5 : Hid (Below w.heap.size w w5) := hide ((unhide HB4).trans (b5.mono (unhide HB4).size))
  have l3 : Line w5 24 (.slice (some ⟨g3, 0, none⟩) n c3) n (fun i => .int .u64 (G i : Nat)) := ((unhide HS3).1.below (unhide HS4).2.2).below b5
  have l4 : Line w5 24 (.slice (some ⟨g4, 0, none⟩) n c4) n (fun i => .int .u64 (G i : Nat)) := (unhide HS4).1.below b5
  have HGN : Hid (w.heap.size ≤ g3 ∧ w.heap.size ≤ g4 ∧ g4 ≠ g3) := hide (by
    have z2 := (unhide HB2).size
    have z3 := (unhide HB3).size
    have y1 := (unhide HS3).2
    have y2 := (unhide HS3).1.lt g3 rfl
    have y3 := (unhide HS4).2.1
    omega)
  have HC1 := hide (same_lines hn hn1 l3 s5)
  have HL5 := hide (And.intro l3 l4)
  clear b5 s5 f5 l3 l4 HS3 HS4 o0 o1 o3 HOP HPW HQ
  go_wp2_with fail
  refine (unhide HC1).mono ?_
  rintro e w6 ⟨rfl, b6⟩
  have HC6 : Hid (Below w1.heap.size w1 w6) := hide ((unhide HC5).trans (b6.mono (unhide HC5).size))
  have HB6 : Hid (Below w.heap.size w w6) := hide ((unhide HB5).trans (b6.mono (unhide HB5).size))
  have HL6 : Hid (Line w6 24 (.slice (some ⟨g3, 0, none⟩) n c3) n (fun i => .int .u64 (G i : Nat)) ∧ Line w6 24 (.slice (some ⟨g4, 0, none⟩) n c4) n (fun i => .int .u64 (G i : Nat))) := hide ⟨(unhide HL5).1.below b6, (unhide HL5).2.below b6⟩
  have HC1x := hide (same_lines hn hn1 (unhide HL6).2 (unhide HL6).1)
  clear b6 HL5 HC1
  go_wp2_with fail
  refine (unhide HC1x).mono ?_
  rintro e w7 ⟨rfl, b7⟩
  have HC7 : Hid (Below w1.heap.size w1 w7) := hide ((unhide HC6).trans (b7.mono (unhide HC6).size))
  have HB7 : Hid (Below w.heap.size w w7) := hide ((unhide HB6).trans (b7.mono (unhide HB6).size))
  have HL7 : Hid (Line w7 24 (.slice (some ⟨g3, 0, none⟩) n c3) n (fun i => .int .u64 (G i : Nat)) ∧ Line w7 24 (.slice (some ⟨g4, 0, none⟩) n c4) n (fun i => .int .u64 (G i : Nat))) := hide ⟨(unhide HL6).1.below b7, (unhide HL6).2.below b7⟩
  clear b7 HL6 HC1x
  by_cases hk : n ≤ 5000
  · have d1 : decide ((n : Int) ≤ 5000) = true := decide_eq_true (by omega)
    have d1' : decide (n ≤ 5000) = true := decide_eq_true hk
    have HT8 := hide (unhide HTK w7 g3 c3 (unhide HB7) (unhide HL7).1 (unhide HGN).1)
    go_wp2_with fail
    refine (unhide HT8).mono ?_
    rintro e w8 ⟨rfl, ⟨tag8, S8, ht8, hw8⟩, hs8⟩
    have HW8 := hide hw8
    have HL8 := hide (hs8 g4 c4 (unhide HL7).2 (unhide HGN).2.1 (unhide HGN).2.2)
    have HQ8 := hide (unhide HQW w8 tag8 S8 hw8)
    clear hw8 hs8 HT8 HTK HL7
    go_wp2_with fail
    refine (unhide HQ8).mono ?_
    rintro e w9 ⟨g9, c9, rfl, l9, f9, b9⟩
    have HC9 := hide (same_lines hn hn1 ((unhide HL8).below b9) l9)
    have HW9 := hide ((unhide HW8).below b9)
    clear l9 f9 b9 HQ8
    go_wp2_with fail
    refine (unhide HC9).mono ?_
    rintro e w10 ⟨rfl, b10⟩
    have HE := hide ((unhide HW9).below b10)
    clear b10
    go_wp2
    go_ret
    exact ⟨rfl, tag8, rt, kt, S8, D, V, unhide HE, ht8⟩
  · have d1 : decide ((n : Int) ≤ 5000) = false := decide_eq_false (by omega)
    have d1' : decide (n ≤ 5000) = false := decide_eq_false hk
    clear HTK
    go_wp2_with fail
    go_loopw [28] (fun i wq => ∃ (k : Nat) (f : Nat → Value), k ≤ n ∧ i = .int .i64 k ∧ Line wq 24 (.slice (some ⟨g3, 0, none⟩) n c3) n f ∧ (∀ j, k ≤ j → j < n → f j = .int .u64 (G j : Nat)) ∧ Wrote (.slice (some ⟨g3, 0, none⟩) n c3) w7 wq) (fun i _ => n - (intOf i).toNat)
    case atStart => exact ⟨0, _, by omega, rfl, (unhide HL7).1, (fun _ _ _ => rfl), Wrote.refl _ _⟩
    case round =>
      obtain ⟨k, f, hkn, rfl, hlq, hfq, hwq⟩ := hrel
      rename World => wq
      by_cases hlt : k < n
      · have e1 : decide ((k : Int) < (n : Int)) = true := decide_eq_true (by omega)
        have e1' : decide (k < n) = true := decide_eq_true hlt
        have x0 : (0 : Int) ≤ (k : Int) := by omega
        have x1 : (k : Int) < (n : Int) := by omega
        obtain ⟨q1, cp1, hv1, hgb, hc1⟩ := hlq.at (by omega)
        have eg : q1 = g3 := by simpa [Value.ownBlock] using hgb.symm
        subst eg
        obtain ⟨ca, fa⟩ := hc1 k hlt
        rw [hfq k (Nat.le_refl _) hlt] at ca
        have h64 := unhide HG k
        have HLQ := hide hlq
        have HWQ := hide hwq
        have HFQ := hide hfq
        generalize G k = x at *
        clear hlq hwq hfq hc1 hv1 hgb
        go_wp2_with fail
        go_roundw
        case rel =>
          refine ⟨k + 1, _, by omega, by go_num, (unhide HLQ).put rfl k _ hlt, fun j h1 h2 => ?_, (unhide HWQ).set rfl k _⟩
          rw [if_neg (by omega)]
          exact unhide HFQ j (by omega) h2
        case measure => simp [intOf]; omega
      · have e1 : decide ((k : Int) < (n : Int)) = false := decide_eq_false (by omega)
        have e1' : decide (k < n) = false := decide_eq_false hlt
        have l4 : Line wq 24 (.slice (some ⟨g4, 0, none⟩) n c4) n (fun i => .int .u64 (G i : Nat)) := (unhide HL7).2.same (fun g hg => hwq.blk g (fun e => (unhide HGN).2.2 (by
          have h1 : g4 = g := by simpa [Value.ownBlock] using hg
          have h2 : g3 = g := by simpa [Value.ownBlock] using e
          omega)))
        have hbl : Below w.heap.size w wq := ⟨hwq.os.trans (unhide HB7).os, hwq.tape.trans (unhide HB7).tape, hwq.output.trans (unhide HB7).output, by rw [hwq.size]; exact (unhide HB7).size, fun g hg => by
          rw [hwq.blk g (fun e => by have h2 : g3 = g := by simpa [Value.ownBlock] using e
                                     have := (unhide HGN).1; omega)]
          exact (unhide HB7).block g hg⟩
        have HBQ := hide hbl
        have HL4 := hide l4
        have HPQ := hide (unhide HP wq hbl)
        clear hlq hwq hfq l4 hbl HL7
        go_wp2_with fail
        refine (unhide HPQ).mono ?_
        rintro e w8 ⟨g8, c8, rfl, l8, f8, b8⟩
        have HB8 : Hid (Below w.heap.size w w8) := hide ((unhide HBQ).trans (b8.mono (unhide HBQ).size))
        have HL8 := hide ((unhide HL4).below b8)
        have HC8 := hide (same_lines hn hn1 l8 (unhide HL8))
        clear l8 f8 b8 HPQ HL4
        go_wp2_with fail
        refine (unhide HC8).mono ?_
        rintro e w9 ⟨rfl, b9⟩
        have HB9 : Hid (Below w.heap.size w w9) := hide ((unhide HB8).trans (b9.mono (unhide HB8).size))
        have HL9 := hide ((unhide HL8).below b9)
        have HQ9 := hide (unhide HQW w9 _ _ (unhide HW w9 (unhide HB9)))
        clear b9 HC8 HL8
        go_wp2_with fail
        refine (unhide HQ9).mono ?_
        rintro e w10 ⟨g10, c10, rfl, l10, f10, b10⟩
        have HB10 : Hid (Below w.heap.size w w10) := hide ((unhide HB9).trans (b10.mono (unhide HB9).size))
        have HC10 := hide (same_lines hn hn1 ((unhide HL9).below b10) l10)
        clear l10 f10 b10 HQ9
        go_wp2_with fail
        refine (unhide HC10).mono ?_
        rintro e w11 ⟨rfl, b11⟩
        have HE := hide (unhide HW w11 ((unhide HB10).trans (b11.mono (unhide HB10).size)))
        clear b11
        go_wp2
        go_ret
        exact ⟨rfl, tag, rt, kt, S, D, V, unhide HE, by omega⟩
end Go.Proofs.Ytdgdnpgjbphgaab
